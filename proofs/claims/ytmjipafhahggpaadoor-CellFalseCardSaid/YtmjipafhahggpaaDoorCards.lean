/-
  DERIVED. GIVEN WITH THE SEED: THE CARDS: each row of YtmjipafhahggpaaDoorRows.lean that lists a variable, with what it lists TIED to the program's text (the seventh form; the later family's looks); each row that meets fmt, with fmt's text TOLD by the authors' own Lean function (tested against real Go, not proved from fmt's source: count such statements apart). THE CARD IS WHAT COUNTS. Prove the row's statement (the work); the ties are given (YtmjipafhahggpaaDoorTie.lean); close each card by the builder's one call (the guide's Derived/Test/ToyasCard.lean, 'card_holds'). Laid BY PROGRAM, IN A SANDBOX (cutbox-door.mjs). By AI agents, Wed Nov 11 2026. No macro, syntax, notation, axiom, sorry.
-/
import Derived.Test.YtmjipafhahggpaaDoorRows
import GoSem.ClaimSeven
namespace Go.Proofs.YtmjipafhahggpaaDoor
namespace Rows

/-- THE TIED CARD OF 'scantlinglaw15.CellOrder'. -/
def cellOrderCard : Claim7 := { stood := { row := cellOrderRow, standIns := [], harness := (true, "482919cc983b6dc3abb49ab5add46aabd38c09f0cdfd36c4b7d4bafd52f12583"), looks := false }, kinds := [], alts := [], laidByText := true, laidKinds := [.data, .data, .data], laidTests := true, laidLooks := .later }
def CellOrderCardSaid : Prop := Claim7.holds Tryd.pinned (.plain (OpenSpec.ofChange cellOrderSpec)) cellOrderCard

/-- THE TIED CARD OF 'scantlinglaw15.CellBack'. -/
def cellBackCard : Claim7 := { stood := { row := cellBackRow, standIns := [], harness := (true, "482919cc983b6dc3abb49ab5add46aabd38c09f0cdfd36c4b7d4bafd52f12583"), looks := false }, kinds := [], alts := [], laidByText := true, laidKinds := [.data, .data, .data], laidTests := true, laidLooks := .later }
def CellBackCardSaid : Prop := Claim7.holds Tryd.pinned (.plain (OpenSpec.ofChange cellBackSpec)) cellBackCard

/-- THE TIED CARD OF 'scantlinglaw15.CellFalse'. -/
def cellFalseCard : Claim7 := { stood := { row := cellFalseRow, standIns := [], harness := (true, "482919cc983b6dc3abb49ab5add46aabd38c09f0cdfd36c4b7d4bafd52f12583"), looks := false }, kinds := [], alts := [], laidByText := true, laidKinds := [.data, .data, .data], laidTests := true, laidLooks := .later }
def CellFalseCardSaid : Prop := Claim7.holds Tryd.pinned (.plain (OpenSpec.ofChange cellFalseSpec)) cellFalseCard

/-- THE TIED CARD OF 'scantlinglaw15.CellMoves'. -/
def cellMovesCard : Claim7 := { stood := { row := cellMovesRow, standIns := [], harness := (true, "482919cc983b6dc3abb49ab5add46aabd38c09f0cdfd36c4b7d4bafd52f12583"), looks := false }, kinds := [], alts := [], laidByText := true, laidKinds := [.data, .data, .data], laidTests := true, laidLooks := .later }
def CellMovesCardSaid : Prop := Claim7.holds Tryd.pinned (.plain (OpenSpec.ofChange cellMovesSpec)) cellMovesCard

/-- THE SECOND FORM's CARD OF 'scantlinglaw15.CellOrder'. -/
def cellOrderUptoCard : Claim7 := { stood := { row := cellOrderUptoRow, standIns := [], harness := (true, "482919cc983b6dc3abb49ab5add46aabd38c09f0cdfd36c4b7d4bafd52f12583"), looks := false }, kinds := [], alts := [], laidByText := true, laidKinds := [.data, .data, .data], laidTests := true, laidLooks := .later }
def CellOrderUptoCardSaid : Prop := Claim7.holds Tryd.pinned (.plain (OpenSpec.upto cellOrderSpec)) cellOrderUptoCard

/-- THE SECOND FORM's CARD OF 'scantlinglaw15.CellBack'. -/
def cellBackUptoCard : Claim7 := { stood := { row := cellBackUptoRow, standIns := [], harness := (true, "482919cc983b6dc3abb49ab5add46aabd38c09f0cdfd36c4b7d4bafd52f12583"), looks := false }, kinds := [], alts := [], laidByText := true, laidKinds := [.data, .data, .data], laidTests := true, laidLooks := .later }
def CellBackUptoCardSaid : Prop := Claim7.holds Tryd.pinned (.plain (OpenSpec.upto cellBackSpec)) cellBackUptoCard

/-- THE SECOND FORM's CARD OF 'scantlinglaw15.CellFalse'. -/
def cellFalseUptoCard : Claim7 := { stood := { row := cellFalseUptoRow, standIns := [], harness := (true, "482919cc983b6dc3abb49ab5add46aabd38c09f0cdfd36c4b7d4bafd52f12583"), looks := false }, kinds := [], alts := [], laidByText := true, laidKinds := [.data, .data, .data], laidTests := true, laidLooks := .later }
def CellFalseUptoCardSaid : Prop := Claim7.holds Tryd.pinned (.plain (OpenSpec.upto cellFalseSpec)) cellFalseUptoCard

/-- THE SECOND FORM's CARD OF 'scantlinglaw15.CellMoves'. -/
def cellMovesUptoCard : Claim7 := { stood := { row := cellMovesUptoRow, standIns := [], harness := (true, "482919cc983b6dc3abb49ab5add46aabd38c09f0cdfd36c4b7d4bafd52f12583"), looks := false }, kinds := [], alts := [], laidByText := true, laidKinds := [.data, .data, .data], laidTests := true, laidLooks := .later }
def CellMovesUptoCardSaid : Prop := Claim7.holds Tryd.pinned (.plain (OpenSpec.upto cellMovesSpec)) cellMovesUptoCard
end Rows
end Go.Proofs.YtmjipafhahggpaaDoor
