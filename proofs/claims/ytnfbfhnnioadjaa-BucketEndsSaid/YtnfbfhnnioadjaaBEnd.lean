/- BucketEnds, walked. -/
import Derived.Test.YtnfbfhnnioadjaaBEx
namespace Go.Proofs.Ytnfbfhnnioadjaa
open Go Go.RowKit

set_option maxRecDepth 100000 in
set_option maxHeartbeats 4000000 in
theorem BucketEnds_walk (a0 : Int) (h0 : (Lit.int .u8 a0).wf = true) (a1 : Int) (h1 : (Lit.int .u8 a1).wf = true) (w : World) :
    Calls Try.prog 7 #[.int .u8 a0, .int .u8 a1] w fun e w' => e = .returned (.bool true) ∧ Below w.heap.size w w' := by
  obtain ⟨a, rfl, ha⟩ := wf_u8 h0
  obtain ⟨n, rfl, hn⟩ := wf_u8 h1
  clear h0 h1
  obtain ⟨k, hk0⟩ : ∃ k, a % 5 = k := ⟨_, rfl⟩
  have hk : k ≤ 4 := by omega
  have hki : (a : Int) % 5 = (k : Int) := by omega
  obtain ⟨_, _, _, _, h9⟩ := hp_top k hk
  have i1 : In64 9223372036854775807 := by constructor <;> decide
  have i2 : In64 (-9223372036854775808) := by constructor <;> decide
  have hm := most_any k hk
  have hx := of_any k hk _ i1
  have hy := of_any k hk _ i2
  have ff : Fits k (-(mst k : Int) - 1) := by unfold Fits; omega
  have hb := bounds_any k hk _ ff
  rw [(ends_first k hk).1, (ends_first k hk).2] at hb
  rw [of_last k hk] at hx
  rw [of_first k hk] at hy
  have hno := bounds_no k hk (-(mst k : Int) - 2) (by unfold Fits; omega)
  obtain ⟨W, hW⟩ : ∃ W, 2 ^ (k + 1) = W := ⟨_, rfl⟩
  have hW1 : 2 ≤ W := by rw [← hW, Nat.pow_succ]; have := Nat.two_pow_pos k; omega
  have hW2 : W ≤ 32 := by rw [← hW]; exact Nat.le_trans (Nat.pow_le_pow_right (by omega) (show k + 1 ≤ 5 by omega)) (by decide)
  obtain ⟨s, hs⟩ : ∃ s, n % W = s := ⟨_, rfl⟩
  have hsW : s < W := by rw [← hs]; exact Nat.mod_lt _ (by omega)
  have hsi : (n : Int) % (W : Int) = (s : Int) := by rw [← hs]; push_cast; rfl
  have hWi : (2 : Int) * 2 ^ k = (W : Int) := by rw [← hW, Nat.pow_succ, Nat.mul_comm]; push_cast; rfl
  have hz := of_any k hk (s : Int) (by unfold In64; omega)
  rw [of_small k s (by omega) (by omega)] at hz
  have ho := of_out ((k : Int) + 5) (.inr (by omega)) (s : Int)
  generalize mst k = M at *
  obtain ⟨F, hF⟩ : ∃ F : Int, -(M : Int) - 1 = F := ⟨_, rfl⟩
  have hF2 : -(M : Int) - 2 = F - 1 := by omega
  rw [hF2] at hno
  rw [hF] at hy hb
  have hFl : -1000 ≤ F := by omega
  have hF0 : F < 0 := by omega
  clear hF2 ff i1 i2 hk0 ha hs hW
  go_enter Try.func7, Try.ntmps7
  go_wp2_with fail
  refine (examples_any _).mono ?_
  rintro e w1 ⟨rfl, b1⟩
  go_wp2_with fail
  refine (hm _).mono ?_
  rintro e w2 ⟨rfl, b2⟩
  replace b1 := below_on b1 b2 (Nat.le_refl _)
  go_wp2_with fail
  refine (hx _).mono ?_
  rintro e w3 ⟨rfl, b2⟩
  replace b1 := below_on b1 b2 (Nat.le_refl _)
  go_wp2_with fail
  refine (hy _).mono ?_
  rintro e w4 ⟨rfl, b2⟩
  replace b1 := below_on b1 b2 (Nat.le_refl _)
  go_wp2_with fail
  refine (hb _).mono ?_
  rintro e w5 ⟨rfl, b2⟩
  replace b1 := below_on b1 b2 (Nat.le_refl _)
  go_wp2_with fail
  refine (hno _).mono ?_
  rintro e w6 ⟨rfl, b2⟩
  replace b1 := below_on b1 b2 (Nat.le_refl _)
  go_wp2_with fail
  refine (hz _).mono ?_
  rintro e w7 ⟨rfl, b2⟩
  replace b1 := below_on b1 b2 (Nat.le_refl _)
  go_wp2_with fail
  refine (ho _).mono ?_
  rintro e w8 ⟨rfl, b2⟩
  replace b1 := below_on b1 b2 (Nat.le_refl _)
  go_wp2
  go_ret
  exact ⟨rfl, b1⟩
end Go.Proofs.Ytnfbfhnnioadjaa
