/- The chapter's own Most, Near, Bounds. -/
import Derived.Test.YtklklpccpbhfgaaBRf
import Derived.OwnWalk
namespace Go.Proofs.Ytklklpccpbhfgaa
open Go Go.RowKit

set_option maxRecDepth 100000 in
set_option maxHeartbeats 4000000 in
theorem ref_most_out (b : Int) (h : b < 0 ∨ 4 < b) (w : World) :
    Calls Try.prog 60 #[.int .i64 b] w fun e w' => e = .returned (.int .i64 (-1)) ∧ Below w.heap.size w w' := by
  have ho := ref_of_out b h
  clear h
  go_enter Try.func60, Try.ntmps60
  go_wp2_with fail
  refine (ho _ _).mono ?_
  rintro e w1 ⟨rfl, hB⟩
  go_wp2
  go_ret
  exact ⟨rfl, hB⟩

set_option maxRecDepth 100000 in
set_option maxHeartbeats 4000000 in
theorem ref_most_any (k : Nat) (hk : k ≤ 4) (w : World) :
    Calls Try.prog 60 #[.int .i64 k] w fun e w' => e = .returned (.int .i64 (mst k)) ∧ Below w.heap.size w w' := by
  have ho := ref_of_any k hk 9223372036854775807 (by constructor <;> decide)
  rw [of_last k hk] at ho
  clear hk
  go_enter Try.func60, Try.ntmps60
  go_wp2_with fail
  refine (ho _).mono ?_
  rintro e w1 ⟨rfl, hB⟩
  go_wp2
  go_ret
  exact ⟨rfl, hB⟩

set_option maxRecDepth 100000 in
set_option maxHeartbeats 4000000 in
theorem ref_bounds_bits (k : Int) (h : k < 0 ∨ 4 < k) (a : Int) (w : World) :
    Calls Try.prog 45 #[.int .i64 k, .int .i64 a] w fun e w' => e = .returned (.tuple #[.int .i64 0, .int .i64 0, .bool false]) ∧ Below w.heap.size w w' := by
  have ho := ref_most_out k h
  clear h
  go_enter Try.func45, Try.ntmps45
  go_wp2_with fail
  refine (ho _).mono ?_
  rintro e w1 ⟨rfl, hB1⟩
  go_wp2
  go_ret3
  exact ⟨rfl, hB1⟩

set_option maxRecDepth 100000 in
set_option maxHeartbeats 4000000 in
theorem ref_bounds_no (k : Nat) (hk : k ≤ 4) (a : Int) (hn : ¬ Fits k a) (w : World) :
    Calls Try.prog 45 #[.int .i64 k, .int .i64 a] w fun e w' => e = .returned (.tuple #[.int .i64 0, .int .i64 0, .bool false]) ∧ Below w.heap.size w w' := by
  have hm := ref_most_any k hk
  obtain ⟨_, _, _, _, h9⟩ := hp_top k hk
  unfold Fits at hn
  generalize mst k = M at *
  have hM9 : M ≤ 1000 := by omega
  have hM0 : ¬ (M : Int) < 0 := by omega
  clear hk
  by_cases h1 : (M : Int) < a
  · clear hn
    go_enter Try.func45, Try.ntmps45
    go_wp2_with fail
    refine (hm _).mono ?_
    rintro e w1 ⟨rfl, hB1⟩
    go_wp2
    go_ret3
    exact ⟨rfl, hB1⟩
  · have h2 : a < -(M : Int) - 1 := by omega
    clear hn
    go_enter Try.func45, Try.ntmps45
    go_wp2_with fail
    refine (hm _).mono ?_
    rintro e w1 ⟨rfl, hB1⟩
    go_wp2
    go_ret3
    exact ⟨rfl, hB1⟩

theorem ge_iff (k p : Nat) : 2 * 2 ^ k ≤ p ↔ 1 ≤ hp k p := by
  unfold hp
  have : 2 * 2 ^ k ≤ p ↔ 2 ≤ p / 2 ^ k := by rw [Nat.le_div_iff_mul_le (Nat.two_pow_pos _)]
  omega

end Go.Proofs.Ytklklpccpbhfgaa
