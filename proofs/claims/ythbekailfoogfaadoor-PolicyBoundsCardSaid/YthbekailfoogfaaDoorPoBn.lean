/- PolicyBounds: each number, each end. -/
import Derived.Test.YthbekailfoogfaaDoorPoBd0
import Derived.Test.YthbekailfoogfaaDoorPoBd1
import Derived.Test.YthbekailfoogfaaDoorPoBd2
import Derived.Test.YthbekailfoogfaaDoorPoBd3
import Derived.Test.YthbekailfoogfaaDoorPoBd4
namespace Go.Proofs.YthbekailfoogfaaDoor.Po
open Go Go.RowKit

theorem PolicyBounds_walk (a : Int) (ha : (Lit.int .u8 a).wf = true) (t : Bool) (w : World) (hX : Tens w) :
    Calls Tryd.prog 8 #[.int .u8 a, .bool t] w fun e w' => e = .returned (.bool true) ∧ Below w.heap.size w w' := by
  have ga : 0 ≤ a ∧ a ≤ 255 := by simpa [Lit.wf, IntKind.min, IntKind.max, IntKind.signed, IntKind.bits] using ha
  obtain ⟨x, rfl⟩ : ∃ x : Nat, a = x := ⟨a.toNat, by omega⟩
  have hk : x % 10 = 0 ∨ x % 10 = 1 ∨ x % 10 = 2 ∨ x % 10 = 3 ∨ x % 10 = 4 ∨ x % 10 = 5 ∨ x % 10 = 6 ∨ x % 10 = 7 ∨ x % 10 = 8 ∨ x % 10 = 9 := by omega
  rcases hk with hk | hk | hk | hk | hk | hk | hk | hk | hk | hk
  · cases t with
    | true => exact bounds_0_true x (by omega) (by omega) w hX
    | false => exact bounds_0_false x (by omega) (by omega) w hX
  · cases t with
    | true => exact bounds_1_true x (by omega) (by omega) w hX
    | false => exact bounds_1_false x (by omega) (by omega) w hX
  · cases t with
    | true => exact bounds_2_true x (by omega) (by omega) w hX
    | false => exact bounds_2_false x (by omega) (by omega) w hX
  · cases t with
    | true => exact bounds_3_true x (by omega) (by omega) w hX
    | false => exact bounds_3_false x (by omega) (by omega) w hX
  · cases t with
    | true => exact bounds_4_true x (by omega) (by omega) w hX
    | false => exact bounds_4_false x (by omega) (by omega) w hX
  · cases t with
    | true => exact bounds_5_true x (by omega) (by omega) w hX
    | false => exact bounds_5_false x (by omega) (by omega) w hX
  · cases t with
    | true => exact bounds_6_true x (by omega) (by omega) w hX
    | false => exact bounds_6_false x (by omega) (by omega) w hX
  · cases t with
    | true => exact bounds_7_true x (by omega) (by omega) w hX
    | false => exact bounds_7_false x (by omega) (by omega) w hX
  · cases t with
    | true => exact bounds_8_true x (by omega) (by omega) w hX
    | false => exact bounds_8_false x (by omega) (by omega) w hX
  · cases t with
    | true => exact bounds_9_true x (by omega) (by omega) w hX
    | false => exact bounds_9_false x (by omega) (by omega) w hX
end Go.Proofs.YthbekailfoogfaaDoor.Po
