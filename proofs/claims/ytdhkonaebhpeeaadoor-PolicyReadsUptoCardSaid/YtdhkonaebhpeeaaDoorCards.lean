/-
  DERIVED. GIVEN WITH THE SEED: THE CARDS: each row of YtdhkonaebhpeeaaDoorRows.lean that lists a variable, with what it lists TIED to the program's text (the seventh form; the later family's looks); each row that meets fmt, with fmt's text TOLD by the authors' own Lean function (tested against real Go, not proved from fmt's source: count such statements apart). THE CARD IS WHAT COUNTS. Prove the row's statement (the work); the ties are given (YtdhkonaebhpeeaaDoorTie.lean); close each card by the builder's one call (the guide's Derived/Test/ToyasCard.lean, 'card_holds'). Laid BY PROGRAM, IN A SANDBOX (cutbox-door.mjs). By AI agents, Wed Nov 11 2026. No macro, syntax, notation, axiom, sorry.
-/
import Derived.Test.YtdhkonaebhpeeaaDoorRows
import GoSem.ClaimSeven
namespace Go.Proofs.YtdhkonaebhpeeaaDoor
namespace Rows

/-- THE TIED CARD OF 'scantlinglaw12.PolicyRights'. -/
def policyRightsCard : Claim7 := { stood := { row := policyRightsRow, standIns := [], harness := (true, "54f21fcf5d2cac5db86cd12e9f18de2dbd77a9d08232845166baccfc08087034"), looks := true }, kinds := [], alts := [], laidByText := true, laidKinds := [.data, .data, .data, .data, .pinned], laidTests := true, laidLooks := .later }
def PolicyRightsCardSaid : Prop := Claim7.holds Tryd.pinned (.plain (OpenSpec.ofChange policyRightsSpec)) policyRightsCard

/-- THE TIED CARD OF 'scantlinglaw12.PolicyReads'. -/
def policyReadsCard : Claim7 := { stood := { row := policyReadsRow, standIns := [], harness := (true, "54f21fcf5d2cac5db86cd12e9f18de2dbd77a9d08232845166baccfc08087034"), looks := true }, kinds := [], alts := [], laidByText := true, laidKinds := [.data, .data, .data, .data, .pinned], laidTests := true, laidLooks := .later }
def PolicyReadsCardSaid : Prop := Claim7.holds Tryd.pinned (.plain (OpenSpec.ofChange policyReadsSpec)) policyReadsCard

/-- THE TIED CARD OF 'scantlinglaw12.PolicyBack'. -/
def policyBackCard : Claim7 := { stood := { row := policyBackRow, standIns := [], harness := (true, "54f21fcf5d2cac5db86cd12e9f18de2dbd77a9d08232845166baccfc08087034"), looks := true }, kinds := [], alts := [], laidByText := true, laidKinds := [.data, .data, .data, .data, .pinned], laidTests := true, laidLooks := .later }
def PolicyBackCardSaid : Prop := Claim7.holds Tryd.pinned (.plain (OpenSpec.ofChange policyBackSpec)) policyBackCard

/-- THE TIED CARD OF 'scantlinglaw12.PolicyWords'. -/
def policyWordsCard : Claim7 := { stood := { row := policyWordsRow, standIns := [], harness := (true, "54f21fcf5d2cac5db86cd12e9f18de2dbd77a9d08232845166baccfc08087034"), looks := true }, kinds := [], alts := [], laidByText := true, laidKinds := [.data, .data, .data, .data, .pinned], laidTests := true, laidLooks := .later }
def PolicyWordsCardSaid : Prop := Claim7.holds Tryd.pinned (.plain (OpenSpec.ofChange policyWordsSpec)) policyWordsCard

/-- THE TIED CARD OF 'scantlinglaw12.PolicyTiers'. -/
def policyTiersCard : Claim7 := { stood := { row := policyTiersRow, standIns := [], harness := (true, "54f21fcf5d2cac5db86cd12e9f18de2dbd77a9d08232845166baccfc08087034"), looks := true }, kinds := [], alts := [], laidByText := true, laidKinds := [.data, .data, .data, .data, .pinned], laidTests := true, laidLooks := .later }
def PolicyTiersCardSaid : Prop := Claim7.holds Tryd.pinned (.plain (OpenSpec.ofChange policyTiersSpec)) policyTiersCard

/-- THE TIED CARD OF 'scantlinglaw12.PolicyBounds'. -/
def policyBoundsCard : Claim7 := { stood := { row := policyBoundsRow, standIns := [], harness := (true, "54f21fcf5d2cac5db86cd12e9f18de2dbd77a9d08232845166baccfc08087034"), looks := true }, kinds := [], alts := [], laidByText := true, laidKinds := [.data, .data, .data, .data, .pinned], laidTests := true, laidLooks := .later }
def PolicyBoundsCardSaid : Prop := Claim7.holds Tryd.pinned (.plain (OpenSpec.ofChange policyBoundsSpec)) policyBoundsCard

/-- THE TIED CARD OF 'scantlinglaw12.PolicyWrong'. -/
def policyWrongCard : Claim7 := { stood := { row := policyWrongRow, standIns := [], harness := (true, "54f21fcf5d2cac5db86cd12e9f18de2dbd77a9d08232845166baccfc08087034"), looks := true }, kinds := [], alts := [], laidByText := true, laidKinds := [.data, .data, .data, .data, .pinned], laidTests := true, laidLooks := .later }
def PolicyWrongCardSaid : Prop := Claim7.holds Tryd.pinned (.plain (OpenSpec.ofChange policyWrongSpec)) policyWrongCard

/-- THE SECOND FORM's CARD OF 'scantlinglaw12.PolicyRights'. -/
def policyRightsUptoCard : Claim7 := { stood := { row := policyRightsUptoRow, standIns := [], harness := (true, "54f21fcf5d2cac5db86cd12e9f18de2dbd77a9d08232845166baccfc08087034"), looks := true }, kinds := [], alts := [], laidByText := true, laidKinds := [.data, .data, .data, .data, .pinned], laidTests := true, laidLooks := .later }
def PolicyRightsUptoCardSaid : Prop := Claim7.holds Tryd.pinned (.plain (OpenSpec.upto policyRightsSpec)) policyRightsUptoCard

/-- THE SECOND FORM's CARD OF 'scantlinglaw12.PolicyReads'. -/
def policyReadsUptoCard : Claim7 := { stood := { row := policyReadsUptoRow, standIns := [], harness := (true, "54f21fcf5d2cac5db86cd12e9f18de2dbd77a9d08232845166baccfc08087034"), looks := true }, kinds := [], alts := [], laidByText := true, laidKinds := [.data, .data, .data, .data, .pinned], laidTests := true, laidLooks := .later }
def PolicyReadsUptoCardSaid : Prop := Claim7.holds Tryd.pinned (.plain (OpenSpec.upto policyReadsSpec)) policyReadsUptoCard

/-- THE SECOND FORM's CARD OF 'scantlinglaw12.PolicyBack'. -/
def policyBackUptoCard : Claim7 := { stood := { row := policyBackUptoRow, standIns := [], harness := (true, "54f21fcf5d2cac5db86cd12e9f18de2dbd77a9d08232845166baccfc08087034"), looks := true }, kinds := [], alts := [], laidByText := true, laidKinds := [.data, .data, .data, .data, .pinned], laidTests := true, laidLooks := .later }
def PolicyBackUptoCardSaid : Prop := Claim7.holds Tryd.pinned (.plain (OpenSpec.upto policyBackSpec)) policyBackUptoCard

/-- THE SECOND FORM's CARD OF 'scantlinglaw12.PolicyWords'. -/
def policyWordsUptoCard : Claim7 := { stood := { row := policyWordsUptoRow, standIns := [], harness := (true, "54f21fcf5d2cac5db86cd12e9f18de2dbd77a9d08232845166baccfc08087034"), looks := true }, kinds := [], alts := [], laidByText := true, laidKinds := [.data, .data, .data, .data, .pinned], laidTests := true, laidLooks := .later }
def PolicyWordsUptoCardSaid : Prop := Claim7.holds Tryd.pinned (.plain (OpenSpec.upto policyWordsSpec)) policyWordsUptoCard

/-- THE SECOND FORM's CARD OF 'scantlinglaw12.PolicyTiers'. -/
def policyTiersUptoCard : Claim7 := { stood := { row := policyTiersUptoRow, standIns := [], harness := (true, "54f21fcf5d2cac5db86cd12e9f18de2dbd77a9d08232845166baccfc08087034"), looks := true }, kinds := [], alts := [], laidByText := true, laidKinds := [.data, .data, .data, .data, .pinned], laidTests := true, laidLooks := .later }
def PolicyTiersUptoCardSaid : Prop := Claim7.holds Tryd.pinned (.plain (OpenSpec.upto policyTiersSpec)) policyTiersUptoCard

/-- THE SECOND FORM's CARD OF 'scantlinglaw12.PolicyBounds'. -/
def policyBoundsUptoCard : Claim7 := { stood := { row := policyBoundsUptoRow, standIns := [], harness := (true, "54f21fcf5d2cac5db86cd12e9f18de2dbd77a9d08232845166baccfc08087034"), looks := true }, kinds := [], alts := [], laidByText := true, laidKinds := [.data, .data, .data, .data, .pinned], laidTests := true, laidLooks := .later }
def PolicyBoundsUptoCardSaid : Prop := Claim7.holds Tryd.pinned (.plain (OpenSpec.upto policyBoundsSpec)) policyBoundsUptoCard

/-- THE SECOND FORM's CARD OF 'scantlinglaw12.PolicyWrong'. -/
def policyWrongUptoCard : Claim7 := { stood := { row := policyWrongUptoRow, standIns := [], harness := (true, "54f21fcf5d2cac5db86cd12e9f18de2dbd77a9d08232845166baccfc08087034"), looks := true }, kinds := [], alts := [], laidByText := true, laidKinds := [.data, .data, .data, .data, .pinned], laidTests := true, laidLooks := .later }
def PolicyWrongUptoCardSaid : Prop := Claim7.holds Tryd.pinned (.plain (OpenSpec.upto policyWrongSpec)) policyWrongUptoCard
end Rows
end Go.Proofs.YtdhkonaebhpeeaaDoor
