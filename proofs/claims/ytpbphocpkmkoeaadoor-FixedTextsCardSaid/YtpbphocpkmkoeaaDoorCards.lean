/-
  DERIVED. GIVEN WITH THE SEED: THE CARDS: each row of YtpbphocpkmkoeaaDoorRows.lean that lists a variable, with what it lists TIED to the program's text (the seventh form; the later family's looks); each row that meets fmt, with fmt's text TOLD by the authors' own Lean function (tested against real Go, not proved from fmt's source: count such statements apart). THE CARD IS WHAT COUNTS. Prove the row's statement (the work); the ties are given (YtpbphocpkmkoeaaDoorTie.lean); close each card by the builder's one call (the guide's Derived/Test/ToyasCard.lean, 'card_holds'). Laid BY PROGRAM, IN A SANDBOX (cutbox-door.mjs). By AI agents, Wed Nov 11 2026. No macro, syntax, notation, axiom, sorry.
-/
import Derived.Test.YtpbphocpkmkoeaaDoorRows
import GoSem.ClaimSeven
namespace Go.Proofs.YtpbphocpkmkoeaaDoor
namespace Rows

/-- THE TIED CARD OF 'scantlinglaw07.FixedReads'. -/
def fixedReadsCard : Claim7 := { stood := { row := fixedReadsRow, standIns := [], harness := (true, "efc225d80570cb70100569f3d438b69d317abdee1384a1d71c79564fc60256b8"), looks := true }, kinds := [], alts := [], laidByText := true, laidKinds := [.data, .data, .data, .data, .pinned], laidTests := true, laidLooks := .later }
def FixedReadsCardSaid : Prop := Claim7.holds Tryd.pinned (.plain (OpenSpec.ofChange fixedReadsSpec)) fixedReadsCard

/-- THE TIED CARD OF 'scantlinglaw07.FixedTexts'. -/
def fixedTextsCard : Claim7 := { stood := { row := fixedTextsRow, standIns := [], harness := (true, "efc225d80570cb70100569f3d438b69d317abdee1384a1d71c79564fc60256b8"), looks := true }, kinds := [], alts := [], laidByText := true, laidKinds := [.data, .data, .data, .data, .pinned], laidTests := true, laidLooks := .later }
def FixedTextsCardSaid : Prop := Claim7.holds Tryd.pinned (.plain (OpenSpec.ofChange fixedTextsSpec)) fixedTextsCard

/-- THE TIED CARD OF 'scantlinglaw07.FixedBack'. -/
def fixedBackCard : Claim7 := { stood := { row := fixedBackRow, standIns := [], harness := (true, "efc225d80570cb70100569f3d438b69d317abdee1384a1d71c79564fc60256b8"), looks := true }, kinds := [], alts := [], laidByText := true, laidKinds := [.data, .data, .data, .data, .pinned], laidTests := true, laidLooks := .later }
def FixedBackCardSaid : Prop := Claim7.holds Tryd.pinned (.plain (OpenSpec.ofChange fixedBackSpec)) fixedBackCard

/-- THE TIED CARD OF 'scantlinglaw07.FixedMoves'. -/
def fixedMovesCard : Claim7 := { stood := { row := fixedMovesRow, standIns := [], harness := (true, "efc225d80570cb70100569f3d438b69d317abdee1384a1d71c79564fc60256b8"), looks := true }, kinds := [], alts := [], laidByText := true, laidKinds := [.data, .data, .data, .data, .pinned], laidTests := true, laidLooks := .later }
def FixedMovesCardSaid : Prop := Claim7.holds Tryd.pinned (.plain (OpenSpec.ofChange fixedMovesSpec)) fixedMovesCard

/-- THE TIED CARD OF 'scantlinglaw07.FixedEnds'. -/
def fixedEndsCard : Claim7 := { stood := { row := fixedEndsRow, standIns := [], harness := (true, "efc225d80570cb70100569f3d438b69d317abdee1384a1d71c79564fc60256b8"), looks := true }, kinds := [], alts := [], laidByText := true, laidKinds := [.data, .data, .data, .data, .pinned], laidTests := true, laidLooks := .later }
def FixedEndsCardSaid : Prop := Claim7.holds Tryd.pinned (.plain (OpenSpec.ofChange fixedEndsSpec)) fixedEndsCard

/-- THE TIED CARD OF 'scantlinglaw07.FixedWrong'. -/
def fixedWrongCard : Claim7 := { stood := { row := fixedWrongRow, standIns := [], harness := (true, "efc225d80570cb70100569f3d438b69d317abdee1384a1d71c79564fc60256b8"), looks := true }, kinds := [], alts := [], laidByText := true, laidKinds := [.data, .data, .data, .data, .pinned], laidTests := true, laidLooks := .later }
def FixedWrongCardSaid : Prop := Claim7.holds Tryd.pinned (.plain (OpenSpec.ofChange fixedWrongSpec)) fixedWrongCard

/-- THE TIED CARD OF 'scantlinglaw07.FixedOrder'. -/
def fixedOrderCard : Claim7 := { stood := { row := fixedOrderRow, standIns := [], harness := (true, "efc225d80570cb70100569f3d438b69d317abdee1384a1d71c79564fc60256b8"), looks := true }, kinds := [], alts := [], laidByText := true, laidKinds := [.data, .data, .data, .data, .pinned], laidTests := true, laidLooks := .later }
def FixedOrderCardSaid : Prop := Claim7.holds Tryd.pinned (.plain (OpenSpec.ofChange fixedOrderSpec)) fixedOrderCard

/-- THE TIED CARD OF 'scantlinglaw07.FixedWhole'. -/
def fixedWholeCard : Claim7 := { stood := { row := fixedWholeRow, standIns := [], harness := (true, "efc225d80570cb70100569f3d438b69d317abdee1384a1d71c79564fc60256b8"), looks := true }, kinds := [], alts := [], laidByText := true, laidKinds := [.data, .data, .data, .data, .pinned], laidTests := true, laidLooks := .later }
def FixedWholeCardSaid : Prop := Claim7.holds Tryd.pinned (.plain (OpenSpec.ofChange fixedWholeSpec)) fixedWholeCard

/-- THE SECOND FORM's CARD OF 'scantlinglaw07.FixedReads'. -/
def fixedReadsUptoCard : Claim7 := { stood := { row := fixedReadsUptoRow, standIns := [], harness := (true, "efc225d80570cb70100569f3d438b69d317abdee1384a1d71c79564fc60256b8"), looks := true }, kinds := [], alts := [], laidByText := true, laidKinds := [.data, .data, .data, .data, .pinned], laidTests := true, laidLooks := .later }
def FixedReadsUptoCardSaid : Prop := Claim7.holds Tryd.pinned (.plain (OpenSpec.upto fixedReadsSpec)) fixedReadsUptoCard

/-- THE SECOND FORM's CARD OF 'scantlinglaw07.FixedTexts'. -/
def fixedTextsUptoCard : Claim7 := { stood := { row := fixedTextsUptoRow, standIns := [], harness := (true, "efc225d80570cb70100569f3d438b69d317abdee1384a1d71c79564fc60256b8"), looks := true }, kinds := [], alts := [], laidByText := true, laidKinds := [.data, .data, .data, .data, .pinned], laidTests := true, laidLooks := .later }
def FixedTextsUptoCardSaid : Prop := Claim7.holds Tryd.pinned (.plain (OpenSpec.upto fixedTextsSpec)) fixedTextsUptoCard

/-- THE SECOND FORM's CARD OF 'scantlinglaw07.FixedBack'. -/
def fixedBackUptoCard : Claim7 := { stood := { row := fixedBackUptoRow, standIns := [], harness := (true, "efc225d80570cb70100569f3d438b69d317abdee1384a1d71c79564fc60256b8"), looks := true }, kinds := [], alts := [], laidByText := true, laidKinds := [.data, .data, .data, .data, .pinned], laidTests := true, laidLooks := .later }
def FixedBackUptoCardSaid : Prop := Claim7.holds Tryd.pinned (.plain (OpenSpec.upto fixedBackSpec)) fixedBackUptoCard

/-- THE SECOND FORM's CARD OF 'scantlinglaw07.FixedMoves'. -/
def fixedMovesUptoCard : Claim7 := { stood := { row := fixedMovesUptoRow, standIns := [], harness := (true, "efc225d80570cb70100569f3d438b69d317abdee1384a1d71c79564fc60256b8"), looks := true }, kinds := [], alts := [], laidByText := true, laidKinds := [.data, .data, .data, .data, .pinned], laidTests := true, laidLooks := .later }
def FixedMovesUptoCardSaid : Prop := Claim7.holds Tryd.pinned (.plain (OpenSpec.upto fixedMovesSpec)) fixedMovesUptoCard

/-- THE SECOND FORM's CARD OF 'scantlinglaw07.FixedEnds'. -/
def fixedEndsUptoCard : Claim7 := { stood := { row := fixedEndsUptoRow, standIns := [], harness := (true, "efc225d80570cb70100569f3d438b69d317abdee1384a1d71c79564fc60256b8"), looks := true }, kinds := [], alts := [], laidByText := true, laidKinds := [.data, .data, .data, .data, .pinned], laidTests := true, laidLooks := .later }
def FixedEndsUptoCardSaid : Prop := Claim7.holds Tryd.pinned (.plain (OpenSpec.upto fixedEndsSpec)) fixedEndsUptoCard

/-- THE SECOND FORM's CARD OF 'scantlinglaw07.FixedWrong'. -/
def fixedWrongUptoCard : Claim7 := { stood := { row := fixedWrongUptoRow, standIns := [], harness := (true, "efc225d80570cb70100569f3d438b69d317abdee1384a1d71c79564fc60256b8"), looks := true }, kinds := [], alts := [], laidByText := true, laidKinds := [.data, .data, .data, .data, .pinned], laidTests := true, laidLooks := .later }
def FixedWrongUptoCardSaid : Prop := Claim7.holds Tryd.pinned (.plain (OpenSpec.upto fixedWrongSpec)) fixedWrongUptoCard

/-- THE SECOND FORM's CARD OF 'scantlinglaw07.FixedOrder'. -/
def fixedOrderUptoCard : Claim7 := { stood := { row := fixedOrderUptoRow, standIns := [], harness := (true, "efc225d80570cb70100569f3d438b69d317abdee1384a1d71c79564fc60256b8"), looks := true }, kinds := [], alts := [], laidByText := true, laidKinds := [.data, .data, .data, .data, .pinned], laidTests := true, laidLooks := .later }
def FixedOrderUptoCardSaid : Prop := Claim7.holds Tryd.pinned (.plain (OpenSpec.upto fixedOrderSpec)) fixedOrderUptoCard

/-- THE SECOND FORM's CARD OF 'scantlinglaw07.FixedWhole'. -/
def fixedWholeUptoCard : Claim7 := { stood := { row := fixedWholeUptoRow, standIns := [], harness := (true, "efc225d80570cb70100569f3d438b69d317abdee1384a1d71c79564fc60256b8"), looks := true }, kinds := [], alts := [], laidByText := true, laidKinds := [.data, .data, .data, .data, .pinned], laidTests := true, laidLooks := .later }
def FixedWholeUptoCardSaid : Prop := Claim7.holds Tryd.pinned (.plain (OpenSpec.upto fixedWholeSpec)) fixedWholeUptoCard
end Rows
end Go.Proofs.YtpbphocpkmkoeaaDoor
