/- The chapter's examples; what a parameter may be. -/
import Derived.Test.YtnfbfhnnioadjaaBBd
namespace Go.Proofs.Ytnfbfhnnioadjaa
open Go Go.RowKit

theorem wf_in64 {n : Int} (h : (Lit.int .i64 n).wf = true) : In64 n := by
  simpa [Lit.wf, IntKind.min, IntKind.max, IntKind.signed, IntKind.bits, In64] using h
theorem wf_u8 {a : Int} (h : (Lit.int .u8 a).wf = true) : ∃ n : Nat, a = n ∧ n < 256 := by
  have h2 : 0 ≤ a ∧ a ≤ 255 := by simpa [Lit.wf, IntKind.min, IntKind.max, IntKind.signed, IntKind.bits] using h
  exact ⟨a.toNat, by omega, by omega⟩
theorem below_on {B : Nat} {w w' w'' : World} (h : Below B w w') (h' : Below w'.heap.size w' w'') (hB : B ≤ w.heap.size) : Below B w w'' := h.trans (h'.mono (Nat.le_trans hB h.size))

set_option maxRecDepth 100000 in
set_option maxHeartbeats 4000000 in
theorem examples_any (w : World) :
    Calls Try.prog 9 #[] w fun e w' => e = .returned (.bool true) ∧ Below w.heap.size w w' := by
  have i6 : In64 6 := by constructor <;> decide
  have i7 : In64 7 := by constructor <;> decide
  have i8 : In64 8 := by constructor <;> decide
  have v6 : ofI 1 6 = 5 := by decide
  have v7 : ofI 1 7 = 5 := by decide
  have v8 : ofI 1 8 = 6 := by decide
  have vl : lowI 1 5 = 6 := by decide
  have vh : highI 1 5 = 7 := by decide
  have h1 := of_any 1 (by decide) 6 i6
  have h2 := of_out 5 (.inr (by decide)) 6
  have h3 := bounds_any 1 (by decide) 5 (by constructor <;> decide)
  have h4 := near_any 1 (by decide) 6 7 i6 i7
  have h5 := near_any 1 (by decide) 6 8 i6 i8
  have h6 := most_out (-1) (.inl (by decide))
  rw [v6] at h1
  rw [vl, vh] at h3
  rw [v6, v7] at h4
  rw [v6, v8] at h5
  have c1 : ((1 : Nat) : Int) = 1 := rfl
  rw [c1] at h1 h3 h4 h5
  clear i6 i7 i8 v6 v7 v8 vl vh c1
  go_enter Try.func9, Try.ntmps9
  go_wp2_with fail
  refine (h1 _).mono ?_
  rintro e w1 ⟨rfl, b1⟩
  go_wp2_with fail
  refine (h2 _).mono ?_
  rintro e w2 ⟨rfl, b2⟩
  replace b1 := below_on b1 b2 (Nat.le_refl _)
  go_wp2_with fail
  refine (h3 _).mono ?_
  rintro e w3 ⟨rfl, b3⟩
  replace b1 := below_on b1 b3 (Nat.le_refl _)
  go_wp2_with fail
  refine (h4 _).mono ?_
  rintro e w4 ⟨rfl, b4⟩
  replace b1 := below_on b1 b4 (Nat.le_refl _)
  go_wp2_with fail
  refine (h5 _).mono ?_
  rintro e w5 ⟨rfl, b5⟩
  replace b1 := below_on b1 b5 (Nat.le_refl _)
  go_wp2_with fail
  refine (h6 _).mono ?_
  rintro e w6 ⟨rfl, b6⟩
  replace b1 := below_on b1 b6 (Nat.le_refl _)
  go_wp2
  go_ret
  exact ⟨rfl, b1⟩
end Go.Proofs.Ytnfbfhnnioadjaa
