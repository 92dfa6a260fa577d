/- The chapter's own Most, Near, Bounds. -/
import Derived.Test.YtnfbfhnnioadjaaBRf
import Derived.OwnWalk
namespace Go.Proofs.Ytnfbfhnnioadjaa
open Go Go.RowKit

set_option maxRecDepth 100000 in
set_option maxHeartbeats 4000000 in
theorem ref_most_out (b : Int) (h : b < 0 ∨ 4 < b) (w : World) :
    Calls Try.prog 15 #[.int .i64 b] w fun e w' => e = .returned (.int .i64 (-1)) ∧ Below w.heap.size w w' := by
  have ho := ref_of_out b h
  clear h
  go_enter Try.func15, Try.ntmps15
  go_wp2_with fail
  refine (ho _ _).mono ?_
  rintro e w1 ⟨rfl, hB⟩
  go_wp2
  go_ret
  exact ⟨rfl, hB⟩

set_option maxRecDepth 100000 in
set_option maxHeartbeats 4000000 in
theorem ref_most_any (k : Nat) (hk : k ≤ 4) (w : World) :
    Calls Try.prog 15 #[.int .i64 k] w fun e w' => e = .returned (.int .i64 (mst k)) ∧ Below w.heap.size w w' := by
  have ho := ref_of_any k hk 9223372036854775807 (by constructor <;> decide)
  rw [of_last k hk] at ho
  clear hk
  go_enter Try.func15, Try.ntmps15
  go_wp2_with fail
  refine (ho _).mono ?_
  rintro e w1 ⟨rfl, hB⟩
  go_wp2
  go_ret
  exact ⟨rfl, hB⟩

set_option maxRecDepth 100000 in
set_option maxHeartbeats 4000000 in
theorem ref_near_any (k : Nat) (hk : k ≤ 4) (a b : Int) (ha : In64 a) (hb : In64 b) (w : World) :
    Calls Try.prog 17 #[.int .i64 k, .int .i64 a, .int .i64 b] w fun e w' => e = .returned (.bool (decide (ofI k a = ofI k b))) ∧ Below w.heap.size w w' := by
  have h1 := ref_of_any k hk a ha
  have h2 := ref_of_any k hk b hb
  generalize ofI k a = x at *
  generalize ofI k b = y at *
  clear ha hb hk
  go_enter Try.func17, Try.ntmps17
  go_wp2_with fail
  refine (h1 _).mono ?_
  rintro e w1 ⟨rfl, hB1⟩
  go_wp2_with fail
  refine (h2 _).mono ?_
  rintro e w2 ⟨rfl, hB2⟩
  go_wp2
  go_ret
  exact ⟨rfl, hB1.trans (hB2.mono hB1.size)⟩

set_option maxRecDepth 100000 in
set_option maxHeartbeats 4000000 in
theorem ref_near_out (k : Int) (h : k < 0 ∨ 4 < k) (a b : Int) (w : World) :
    Calls Try.prog 17 #[.int .i64 k, .int .i64 a, .int .i64 b] w fun e w' => e = .returned (.bool false) ∧ Below w.heap.size w w' := by
  have ho := ref_of_out k h
  clear h
  go_enter Try.func17, Try.ntmps17
  go_wp2_with fail
  refine (ho _ _).mono ?_
  rintro e w1 ⟨rfl, hB1⟩
  go_wp2_with fail
  refine (ho _ _).mono ?_
  rintro e w2 ⟨rfl, hB2⟩
  go_wp2
  go_ret
  exact ⟨rfl, hB1.trans (hB2.mono hB1.size)⟩


set_option maxRecDepth 100000 in
set_option maxHeartbeats 4000000 in
theorem ref_bounds_bits (k : Int) (h : k < 0 ∨ 4 < k) (a : Int) (w : World) :
    Calls Try.prog 13 #[.int .i64 k, .int .i64 a] w fun e w' => e = .returned (.tuple #[.int .i64 0, .int .i64 0, .bool false]) ∧ Below w.heap.size w w' := by
  have ho := ref_most_out k h
  clear h
  go_enter Try.func13, Try.ntmps13
  go_wp2_with fail
  refine (ho _).mono ?_
  rintro e w1 ⟨rfl, hB1⟩
  go_wp2
  go_ret3
  exact ⟨rfl, hB1⟩

set_option maxRecDepth 100000 in
set_option maxHeartbeats 4000000 in
theorem ref_bounds_no (k : Nat) (hk : k ≤ 4) (a : Int) (hn : ¬ Fits k a) (w : World) :
    Calls Try.prog 13 #[.int .i64 k, .int .i64 a] w fun e w' => e = .returned (.tuple #[.int .i64 0, .int .i64 0, .bool false]) ∧ Below w.heap.size w w' := by
  have hm := ref_most_any k hk
  obtain ⟨_, _, _, _, h9⟩ := hp_top k hk
  unfold Fits at hn
  generalize mst k = M at *
  have hM9 : M ≤ 1000 := by omega
  have hM0 : ¬ (M : Int) < 0 := by omega
  clear hk
  by_cases h1 : (M : Int) < a
  · clear hn
    go_enter Try.func13, Try.ntmps13
    go_wp2_with fail
    refine (hm _).mono ?_
    rintro e w1 ⟨rfl, hB1⟩
    go_wp2
    go_ret3
    exact ⟨rfl, hB1⟩
  · have h2 : a < -(M : Int) - 1 := by omega
    clear hn
    go_enter Try.func13, Try.ntmps13
    go_wp2_with fail
    refine (hm _).mono ?_
    rintro e w1 ⟨rfl, hB1⟩
    go_wp2
    go_ret3
    exact ⟨rfl, hB1⟩

theorem ge_iff (k p : Nat) : 2 * 2 ^ k ≤ p ↔ 1 ≤ hp k p := by
  unfold hp
  have : 2 * 2 ^ k ≤ p ↔ 2 ≤ p / 2 ^ k := by rw [Nat.le_div_iff_mul_le (Nat.two_pow_pos _)]
  omega

end Go.Proofs.Ytnfbfhnnioadjaa
