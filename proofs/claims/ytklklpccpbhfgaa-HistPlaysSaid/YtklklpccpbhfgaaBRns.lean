/- The chapter's own Bounds: ns. -/
import Derived.Test.YtklklpccpbhfgaaBRb
namespace Go.Proofs.Ytklklpccpbhfgaa
open Go Go.RowKit

set_option maxRecDepth 100000 in
set_option maxHeartbeats 4000000 in
theorem ref_bounds_neg_s (k p : Nat) (hk : k ≤ 4) (a : Int) (hap : -a = (p : Int)) (hs : a < 0) (M : Nat) (hM9 : M ≤ 1000) (g1 : ¬ a < -(M : Int) - 1) (g2 : ¬ (M : Int) < a) (W : Nat) (hWi : (2 : Int) * 2 ^ k = (W : Int)) (hW9 : W ≤ 32) (hge : (p : Int) < (W : Int)) (N V : Nat) (hNp : N = p) (hV1 : V = 1) (hN9 : N ≤ 9223372036854775808) (U : Nat) (hU : U + 1 = N + V) (X : Nat) (hX : min U 9223372036854775808 = X) (hU9 : U ≤ 18446744073709551615) (hp9 : p ≤ 1000)
    (hmo : ∀ (w : World), Calls Try.prog 60 #[.int .i64 k] w fun e w' => e = .returned (.int .i64 M) ∧ Below w.heap.size w w') (w : World) :
    Calls Try.prog 45 #[.int .i64 k, .int .i64 a] w fun e w' => e = .returned (.tuple #[.int .i64 (-(X : Int)), .int .i64 (-(N : Int)), .bool true]) ∧ Below w.heap.size w w' := by
  subst hV1 hNp
  have hUe : U = N := by omega
  subst hUe
  have r4 : IntKind.i64.wrap (-IntKind.i64.wrap (U : Int)) = -(U : Int) := by rw [IntKind.wrap_i64, IntKind.wrap_i64]; omega
  obtain rfl : X = U := by omega
  clear hX hU
  go_enter Try.func45, Try.ntmps45
  go_wp2_with fail
  refine (hmo _).mono ?_
  rintro e w1 ⟨rfl, hB1⟩
  go_wp2
  go_ret3
  exact ⟨rfl, hB1⟩

end Go.Proofs.Ytklklpccpbhfgaa
