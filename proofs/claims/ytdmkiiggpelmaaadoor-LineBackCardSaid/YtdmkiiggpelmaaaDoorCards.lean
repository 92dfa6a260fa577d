/-
  DERIVED. GIVEN WITH THE SEED: THE CARDS: each row of YtdmkiiggpelmaaaDoorRows.lean that lists a variable, with what it lists TIED to the program's text (the seventh form; the later family's looks); each row that meets fmt, with fmt's text TOLD by the authors' own Lean function (tested against real Go, not proved from fmt's source: count such statements apart). THE CARD IS WHAT COUNTS. Prove the row's statement (the work); the ties are given (YtdmkiiggpelmaaaDoorTie.lean); close each card by the builder's one call (the guide's Derived/Test/ToyasCard.lean, 'card_holds'). Laid BY PROGRAM, IN A SANDBOX (cutbox-door.mjs). By AI agents, Wed Nov 11 2026. No macro, syntax, notation, axiom, sorry.
-/
import Derived.Test.YtdmkiiggpelmaaaDoorRows
import GoSem.ClaimSeven
namespace Go.Proofs.YtdmkiiggpelmaaaDoor
namespace Rows

/-- THE TIED CARD OF 'scantlinglaw09.LinePrints'. -/
def linePrintsCard : Claim7 := { stood := { row := linePrintsRow, standIns := [], harness := (true, "fd63d82787e869cb88e60e14bb2367a17d97d5533697c27e423137553fea0fe5"), looks := true }, kinds := [], alts := [], laidByText := true, laidKinds := [.data, .data, .data, .data, .pinned], laidTests := true, laidLooks := .later }
def LinePrintsCardSaid : Prop := Claim7.holds Tryd.pinned (.plain (OpenSpec.ofChange linePrintsSpec)) linePrintsCard

/-- THE TIED CARD OF 'scantlinglaw09.LineBack'. -/
def lineBackCard : Claim7 := { stood := { row := lineBackRow, standIns := [], harness := (true, "fd63d82787e869cb88e60e14bb2367a17d97d5533697c27e423137553fea0fe5"), looks := true }, kinds := [], alts := [], laidByText := true, laidKinds := [.data, .data, .data, .data, .pinned], laidTests := true, laidLooks := .later }
def LineBackCardSaid : Prop := Claim7.holds Tryd.pinned (.plain (OpenSpec.ofChange lineBackSpec)) lineBackCard

/-- THE TIED CARD OF 'scantlinglaw09.LineLimits'. -/
def lineLimitsCard : Claim7 := { stood := { row := lineLimitsRow, standIns := [], harness := (true, "fd63d82787e869cb88e60e14bb2367a17d97d5533697c27e423137553fea0fe5"), looks := true }, kinds := [], alts := [], laidByText := true, laidKinds := [.data, .data, .data, .data, .pinned], laidTests := true, laidLooks := .later }
def LineLimitsCardSaid : Prop := Claim7.holds Tryd.pinned (.plain (OpenSpec.ofChange lineLimitsSpec)) lineLimitsCard

/-- THE TIED CARD OF 'scantlinglaw09.LineWrong'. -/
def lineWrongCard : Claim7 := { stood := { row := lineWrongRow, standIns := [], harness := (true, "fd63d82787e869cb88e60e14bb2367a17d97d5533697c27e423137553fea0fe5"), looks := true }, kinds := [], alts := [], laidByText := true, laidKinds := [.data, .data, .data, .data, .pinned], laidTests := true, laidLooks := .later }
def LineWrongCardSaid : Prop := Claim7.holds Tryd.pinned (.plain (OpenSpec.ofChange lineWrongSpec)) lineWrongCard

/-- THE TIED CARD OF 'scantlinglaw09.LineTimes'. -/
def lineTimesCard : Claim7 := { stood := { row := lineTimesRow, standIns := [], harness := (true, "fd63d82787e869cb88e60e14bb2367a17d97d5533697c27e423137553fea0fe5"), looks := true }, kinds := [], alts := [], laidByText := true, laidKinds := [.data, .data, .data, .data, .pinned], laidTests := true, laidLooks := .later }
def LineTimesCardSaid : Prop := Claim7.holds Tryd.pinned (.plain (OpenSpec.ofChange lineTimesSpec)) lineTimesCard

/-- THE SECOND FORM's CARD OF 'scantlinglaw09.LinePrints'. -/
def linePrintsUptoCard : Claim7 := { stood := { row := linePrintsUptoRow, standIns := [], harness := (true, "fd63d82787e869cb88e60e14bb2367a17d97d5533697c27e423137553fea0fe5"), looks := true }, kinds := [], alts := [], laidByText := true, laidKinds := [.data, .data, .data, .data, .pinned], laidTests := true, laidLooks := .later }
def LinePrintsUptoCardSaid : Prop := Claim7.holds Tryd.pinned (.plain (OpenSpec.upto linePrintsSpec)) linePrintsUptoCard

/-- THE SECOND FORM's CARD OF 'scantlinglaw09.LineBack'. -/
def lineBackUptoCard : Claim7 := { stood := { row := lineBackUptoRow, standIns := [], harness := (true, "fd63d82787e869cb88e60e14bb2367a17d97d5533697c27e423137553fea0fe5"), looks := true }, kinds := [], alts := [], laidByText := true, laidKinds := [.data, .data, .data, .data, .pinned], laidTests := true, laidLooks := .later }
def LineBackUptoCardSaid : Prop := Claim7.holds Tryd.pinned (.plain (OpenSpec.upto lineBackSpec)) lineBackUptoCard

/-- THE SECOND FORM's CARD OF 'scantlinglaw09.LineLimits'. -/
def lineLimitsUptoCard : Claim7 := { stood := { row := lineLimitsUptoRow, standIns := [], harness := (true, "fd63d82787e869cb88e60e14bb2367a17d97d5533697c27e423137553fea0fe5"), looks := true }, kinds := [], alts := [], laidByText := true, laidKinds := [.data, .data, .data, .data, .pinned], laidTests := true, laidLooks := .later }
def LineLimitsUptoCardSaid : Prop := Claim7.holds Tryd.pinned (.plain (OpenSpec.upto lineLimitsSpec)) lineLimitsUptoCard

/-- THE SECOND FORM's CARD OF 'scantlinglaw09.LineWrong'. -/
def lineWrongUptoCard : Claim7 := { stood := { row := lineWrongUptoRow, standIns := [], harness := (true, "fd63d82787e869cb88e60e14bb2367a17d97d5533697c27e423137553fea0fe5"), looks := true }, kinds := [], alts := [], laidByText := true, laidKinds := [.data, .data, .data, .data, .pinned], laidTests := true, laidLooks := .later }
def LineWrongUptoCardSaid : Prop := Claim7.holds Tryd.pinned (.plain (OpenSpec.upto lineWrongSpec)) lineWrongUptoCard

/-- THE SECOND FORM's CARD OF 'scantlinglaw09.LineTimes'. -/
def lineTimesUptoCard : Claim7 := { stood := { row := lineTimesUptoRow, standIns := [], harness := (true, "fd63d82787e869cb88e60e14bb2367a17d97d5533697c27e423137553fea0fe5"), looks := true }, kinds := [], alts := [], laidByText := true, laidKinds := [.data, .data, .data, .data, .pinned], laidTests := true, laidLooks := .later }
def LineTimesUptoCardSaid : Prop := Claim7.holds Tryd.pinned (.plain (OpenSpec.upto lineTimesSpec)) lineTimesUptoCard
end Rows
end Go.Proofs.YtdmkiiggpelmaaaDoor
