/-
  DERIVED. GIVEN WITH THE SEED: THE CARDS: each row of YtcgkgdhbipbnfaaGreatDoorRows.lean that lists a variable, with what it lists TIED to the program's text (the seventh form; the later family's looks); each row that meets fmt, with fmt's text TOLD by the authors' own Lean function (tested against real Go, not proved from fmt's source: count such statements apart). THE CARD IS WHAT COUNTS. Prove the row's statement (the work); the ties are given (YtcgkgdhbipbnfaaGreatDoorTie.lean); close each card by the builder's one call (the guide's Derived/Test/ToyasCard.lean, 'card_holds'). Laid BY PROGRAM, IN A SANDBOX (cutbox-door.mjs). By AI agents, Wed Nov 11 2026. No macro, syntax, notation, axiom, sorry.
-/
import Derived.Test.YtcgkgdhbipbnfaaGreatDoorRows
import GoSem.ClaimSeven
namespace Go.Proofs.YtcgkgdhbipbnfaaGreatDoor
namespace Rows

/-- THE TIED CARD OF 'scantlinglaw14.QuotaPlays'. -/
def quotaPlaysCard : Claim7 := { stood := { row := quotaPlaysRow, standIns := [], harness := (true, "1c0cdb3059c59413954273701764b346c9c2d8b039f22431451a7be7712c2926"), looks := false }, kinds := [], alts := [], laidByText := true, laidKinds := [.data], laidTests := true, laidLooks := .later }
def QuotaPlaysCardSaid : Prop := Claim7.holds Tryz.pinned (.plain (OpenSpec.ofChange quotaPlaysSpec)) quotaPlaysCard

/-- THE TIED CARD OF 'scantlinglaw14.QuotaOf'. -/
def quotaOfCard : Claim7 := { stood := { row := quotaOfRow, standIns := [], harness := (true, "1c0cdb3059c59413954273701764b346c9c2d8b039f22431451a7be7712c2926"), looks := false }, kinds := [], alts := [], laidByText := true, laidKinds := [.data], laidTests := true, laidLooks := .later }
def QuotaOfCardSaid : Prop := Claim7.holds Tryz.pinned (.plain (OpenSpec.ofChange quotaOfSpec)) quotaOfCard

/-- THE TIED CARD OF 'scantlinglaw14.QuotaKnown'. -/
def quotaKnownCard : Claim7 := { stood := { row := quotaKnownRow, standIns := [], harness := (true, "1c0cdb3059c59413954273701764b346c9c2d8b039f22431451a7be7712c2926"), looks := false }, kinds := [], alts := [], laidByText := true, laidKinds := [.data], laidTests := true, laidLooks := .later }
def QuotaKnownCardSaid : Prop := Claim7.holds Tryz.pinned (.plain (OpenSpec.ofChange quotaKnownSpec)) quotaKnownCard

/-- THE TIED CARD OF 'scantlinglaw14.QuotaRolls'. -/
def quotaRollsCard : Claim7 := { stood := { row := quotaRollsRow, standIns := [], harness := (true, "1c0cdb3059c59413954273701764b346c9c2d8b039f22431451a7be7712c2926"), looks := false }, kinds := [], alts := [], laidByText := true, laidKinds := [.data], laidTests := true, laidLooks := .later }
def QuotaRollsCardSaid : Prop := Claim7.holds Tryz.pinned (.plain (OpenSpec.ofChange quotaRollsSpec)) quotaRollsCard

/-- THE TIED CARD OF 'scantlinglaw14.QuotaTold'. -/
def quotaToldCard : Claim7 := { stood := { row := quotaToldRow, standIns := [], harness := (true, "1c0cdb3059c59413954273701764b346c9c2d8b039f22431451a7be7712c2926"), looks := false }, kinds := [], alts := [], laidByText := true, laidKinds := [.data], laidTests := true, laidLooks := .later }
def QuotaToldCardSaid : Prop := Claim7.holds Tryz.pinned (.plain (OpenSpec.ofChange quotaToldSpec)) quotaToldCard

/-- THE TIED CARD OF 'scantlinglaw14.QuotaPolicy'. -/
def quotaPolicyCard : Claim7 := { stood := { row := quotaPolicyRow, standIns := [], harness := (true, "1c0cdb3059c59413954273701764b346c9c2d8b039f22431451a7be7712c2926"), looks := false }, kinds := [], alts := [], laidByText := true, laidKinds := [.data], laidTests := true, laidLooks := .later }
def QuotaPolicyCardSaid : Prop := Claim7.holds Tryz.pinned (.plain (OpenSpec.ofChange quotaPolicySpec)) quotaPolicyCard

/-- THE SECOND FORM's CARD OF 'scantlinglaw14.QuotaPlays'. -/
def quotaPlaysUptoCard : Claim7 := { stood := { row := quotaPlaysUptoRow, standIns := [], harness := (true, "1c0cdb3059c59413954273701764b346c9c2d8b039f22431451a7be7712c2926"), looks := false }, kinds := [], alts := [], laidByText := true, laidKinds := [.data], laidTests := true, laidLooks := .later }
def QuotaPlaysUptoCardSaid : Prop := Claim7.holds Tryz.pinned (.plain (OpenSpec.upto quotaPlaysSpec)) quotaPlaysUptoCard

/-- THE SECOND FORM's CARD OF 'scantlinglaw14.QuotaOf'. -/
def quotaOfUptoCard : Claim7 := { stood := { row := quotaOfUptoRow, standIns := [], harness := (true, "1c0cdb3059c59413954273701764b346c9c2d8b039f22431451a7be7712c2926"), looks := false }, kinds := [], alts := [], laidByText := true, laidKinds := [.data], laidTests := true, laidLooks := .later }
def QuotaOfUptoCardSaid : Prop := Claim7.holds Tryz.pinned (.plain (OpenSpec.upto quotaOfSpec)) quotaOfUptoCard

/-- THE SECOND FORM's CARD OF 'scantlinglaw14.QuotaKnown'. -/
def quotaKnownUptoCard : Claim7 := { stood := { row := quotaKnownUptoRow, standIns := [], harness := (true, "1c0cdb3059c59413954273701764b346c9c2d8b039f22431451a7be7712c2926"), looks := false }, kinds := [], alts := [], laidByText := true, laidKinds := [.data], laidTests := true, laidLooks := .later }
def QuotaKnownUptoCardSaid : Prop := Claim7.holds Tryz.pinned (.plain (OpenSpec.upto quotaKnownSpec)) quotaKnownUptoCard

/-- THE SECOND FORM's CARD OF 'scantlinglaw14.QuotaRolls'. -/
def quotaRollsUptoCard : Claim7 := { stood := { row := quotaRollsUptoRow, standIns := [], harness := (true, "1c0cdb3059c59413954273701764b346c9c2d8b039f22431451a7be7712c2926"), looks := false }, kinds := [], alts := [], laidByText := true, laidKinds := [.data], laidTests := true, laidLooks := .later }
def QuotaRollsUptoCardSaid : Prop := Claim7.holds Tryz.pinned (.plain (OpenSpec.upto quotaRollsSpec)) quotaRollsUptoCard

/-- THE SECOND FORM's CARD OF 'scantlinglaw14.QuotaTold'. -/
def quotaToldUptoCard : Claim7 := { stood := { row := quotaToldUptoRow, standIns := [], harness := (true, "1c0cdb3059c59413954273701764b346c9c2d8b039f22431451a7be7712c2926"), looks := false }, kinds := [], alts := [], laidByText := true, laidKinds := [.data], laidTests := true, laidLooks := .later }
def QuotaToldUptoCardSaid : Prop := Claim7.holds Tryz.pinned (.plain (OpenSpec.upto quotaToldSpec)) quotaToldUptoCard

/-- THE SECOND FORM's CARD OF 'scantlinglaw14.QuotaPolicy'. -/
def quotaPolicyUptoCard : Claim7 := { stood := { row := quotaPolicyUptoRow, standIns := [], harness := (true, "1c0cdb3059c59413954273701764b346c9c2d8b039f22431451a7be7712c2926"), looks := false }, kinds := [], alts := [], laidByText := true, laidKinds := [.data], laidTests := true, laidLooks := .later }
def QuotaPolicyUptoCardSaid : Prop := Claim7.holds Tryz.pinned (.plain (OpenSpec.upto quotaPolicySpec)) quotaPolicyUptoCard
end Rows
end Go.Proofs.YtcgkgdhbipbnfaaGreatDoor
