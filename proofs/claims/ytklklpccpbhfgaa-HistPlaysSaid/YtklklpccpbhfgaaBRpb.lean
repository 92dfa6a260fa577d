/- The chapter's own Bounds: above 0, halved. -/
import Derived.Test.YtklklpccpbhfgaaBRb
namespace Go.Proofs.Ytklklpccpbhfgaa
open Go Go.RowKit

set_option maxRecDepth 100000 in
set_option maxHeartbeats 4000000 in
theorem ref_bounds_pos_b (k p : Nat) (hk : k ≤ 4) (M : Nat) (hM9 : M ≤ 1000) (g1 : ¬ (p : Int) < -(M : Int) - 1) (g2 : ¬ (M : Int) < (p : Int)) (W : Nat) (hWi : (2 : Int) * 2 ^ k = (W : Int)) (hW9 : W ≤ 32) (hge : (W : Int) ≤ (p : Int)) (q : Nat) (hq : (p : Int) / 2 ^ k = (q : Int)) (hq9 : q ≤ 1000) (h : Nat) (hqh : (q : Int) - 1 = (h : Int)) (hh : h ≤ 63) (A : Nat) (hA : (h : Int) * 2 ^ k = (A : Int)) (hA9 : A ≤ 1000) (m : Nat) (hm : (p : Int) - (A : Int) = (m : Int)) (hm9 : m ≤ 1000) (V : Nat) (hV : (2 : Int) ^ h = (V : Int)) (hV9 : V ≤ 9223372036854775808) (N : Nat) (hN : (m : Int) * (V : Int) = (N : Int)) (hN9 : N ≤ 9223372036854775807) (U : Nat) (hNV : (N : Int) + (V : Int) = (U : Int) + 1) (hU9 : U ≤ 9223372036854775807) (hp9 : p ≤ 1000)
    (hmo : ∀ (w : World), Calls Try.prog 60 #[.int .i64 k] w fun e w' => e = .returned (.int .i64 M) ∧ Below w.heap.size w w') (w : World) :
    Calls Try.prog 45 #[.int .i64 k, .int .i64 (p : Int)] w fun e w' => e = .returned (.tuple #[.int .i64 N, .int .i64 U, .bool true]) ∧ Below w.heap.size w w' := by
  have hV0 : V ≤ 18446744073709551615 := by omega
  have hs : ¬ (p : Int) < 0 := by omega

  go_enter Try.func45, Try.ntmps45
  go_wp2_with fail
  refine (hmo _).mono ?_
  rintro e w1 ⟨rfl, hB1⟩
  go_wp2
  go_ret3
  exact ⟨rfl, hB1⟩
end Go.Proofs.Ytklklpccpbhfgaa
