/- The chapter's own Bounds: ps. -/
import Derived.Test.YtklklpccpbhfgaaBRb
namespace Go.Proofs.Ytklklpccpbhfgaa
open Go Go.RowKit

set_option maxRecDepth 100000 in
set_option maxHeartbeats 4000000 in
theorem ref_bounds_pos_s (k p : Nat) (hk : k ≤ 4) (M : Nat) (hM9 : M ≤ 1000) (g1 : ¬ (p : Int) < -(M : Int) - 1) (g2 : ¬ (M : Int) < (p : Int)) (W : Nat) (hWi : (2 : Int) * 2 ^ k = (W : Int)) (hW9 : W ≤ 32) (hge : (p : Int) < (W : Int)) (N V : Nat) (hNp : N = p) (hV1 : V = 1) (hN9 : N ≤ 9223372036854775807) (U : Nat) (hU : U + 1 = N + V) (hU9 : U ≤ 9223372036854775807) (hp9 : p ≤ 1000)
    (hmo : ∀ (w : World), Calls Try.prog 60 #[.int .i64 k] w fun e w' => e = .returned (.int .i64 M) ∧ Below w.heap.size w w') (w : World) :
    Calls Try.prog 45 #[.int .i64 k, .int .i64 (p : Int)] w fun e w' => e = .returned (.tuple #[.int .i64 N, .int .i64 U, .bool true]) ∧ Below w.heap.size w w' := by
  subst hV1 hNp
  have hUe : U = N := by omega
  subst hUe
  have hs : ¬ (U : Int) < 0 := by omega
  go_enter Try.func45, Try.ntmps45
  go_wp2_with fail
  refine (hmo _).mono ?_
  rintro e w1 ⟨rfl, hB1⟩
  go_wp2
  go_ret3
  exact ⟨rfl, hB1⟩

end Go.Proofs.Ytklklpccpbhfgaa
