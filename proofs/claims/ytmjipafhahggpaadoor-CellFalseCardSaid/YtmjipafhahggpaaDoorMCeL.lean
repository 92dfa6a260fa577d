/- The listed variables: what the rows' premise gives; a world for the witness. -/
import Derived.Test.YtmjipafhahggpaaDoorMwB
import Derived.Test.YtmjipafhahggpaaDoorMLaw
import Derived.Stop.LaidErr
import Derived.Lib.SmallJoins
import Derived.ChangeArms
import Derived.ChangeSlices
import Derived.ChangeSame
namespace Go.Proofs.YtmjipafhahggpaaDoor
open Go Go.RowKit

theorem gPow : Tryd.prog.globalNamed "internal/strconv.uint64pow10" = some 2 := by kernel_rfl
theorem gPowType : (Tryd.prog.globals[2]?).map (·.type) = some 134 := by kernel_rfl
theorem cellsPow : Tryd.prog.cellsOf 134 = 20 := by kernel_rfl
theorem cellsU64 : Tryd.prog.cellsOf 24 = 1 := by kernel_rfl
theorem laid_of {W : World} {x y : String × DataW Unit} {rest : List (String × DataW Unit)} (h : laidMet Tryd.prog (x :: y :: ("internal/strconv.uint64pow10", Rows.laid_internal_strconv_uint64pow10) :: rest) W) : Wi.Tens W :=
  Lib.tabIs_of_head (rest := rest) gPow gPowType Tryd.underlying134 Tryd.underlying24 cellsU64 cellsPow h.tail.tail

/-- The cells of a table's datum. -/
def cellsOfData : DataW Unit → Array Value
  | .agg l => (l.map fun | .lit (.int k n) => Value.int k n | _ => undef).toArray
  | _ => #[]
def laidOnto (h : Array Obj) (g : Nat) (d : DataW Unit) : Array Obj := h.modify g fun
  | .cells _ t frozen => .cells (cellsOfData d) t frozen
  | o => o
/-- A world for the witness: the settled one, each listed table holding what its initialiser lays. -/
noncomputable def laidWorld (os : Os) : World :=
  { World.holding Tryd.prog os ⟨#[], #[], []⟩ with heap := laidOnto (laidOnto (laidOnto (World.holding Tryd.prog os ⟨#[], #[], []⟩).heap 4 Rows.laid_math_bits_deBruijn32tab) 5 Rows.laid_math_bits_deBruijn64tab) 2 Rows.laid_internal_strconv_uint64pow10 }

end Go.Proofs.YtmjipafhahggpaaDoor

