/- The chapter's own Bounds, at every bucket that may be. -/
import Derived.Test.YtklklpccpbhfgaaBRnb
import Derived.Test.YtklklpccpbhfgaaBRns
import Derived.Test.YtklklpccpbhfgaaBRnt
import Derived.Test.YtklklpccpbhfgaaBRpb
import Derived.Test.YtklklpccpbhfgaaBRps
namespace Go.Proofs.Ytklklpccpbhfgaa
open Go Go.RowKit

theorem first_bucket (k : Nat) (hk : k ≤ 4) (w : World) :
    Calls Try.prog 45 #[.int .i64 k, .int .i64 (-(mst k : Int) - 1)] w fun e w' => e = .returned (.tuple #[.int .i64 (-9223372036854775808), .int .i64 (-9223372036854775808), .bool true]) ∧ Below w.heap.size w w' := by
  match k, hk with
  | 0, _ => exact ref_bounds_first0 w
  | 1, _ => exact ref_bounds_first1 w
  | 2, _ => exact ref_bounds_first2 w
  | 3, _ => exact ref_bounds_first3 w
  | 4, _ => exact ref_bounds_first4 w

theorem ref_bounds_any (k : Nat) (hk : k ≤ 4) (a : Int) (hf : Fits k a) (w : World) :
    Calls Try.prog 45 #[.int .i64 k, .int .i64 a] w fun e w' => e = .returned (.tuple #[.int .i64 (lowI k a), .int .i64 (highI k a), .bool true]) ∧ Below w.heap.size w w' := by
  by_cases hfirst : a = -(mst k : Int) - 1
  · subst hfirst
    rw [(ends_first k hk).1, (ends_first k hk).2]
    exact first_bucket k hk w
  obtain ⟨f1, f2⟩ := hf
  have hmo := ref_most_any k hk
  obtain ⟨_, _, _, _, h9⟩ := hp_top k hk
  obtain ⟨p, hp'⟩ : ∃ p, a.natAbs = p := ⟨_, rfl⟩
  have hpM : p ≤ mst k := by omega
  obtain ⟨hN9, hU9⟩ := nr_top' k p hk hpM
  have hs := nr_succ k p
  have hge := ge_iff k p
  obtain ⟨W, hW⟩ : ∃ W, 2 * 2 ^ k = W := ⟨_, rfl⟩
  have hW9 : W ≤ 32 := by
    rw [← hW, Nat.mul_comm, ← Nat.pow_succ]
    exact Nat.le_trans (Nat.pow_le_pow_right (by omega) (show k + 1 ≤ 5 by omega)) (by decide)
  have hWi : (2 : Int) * 2 ^ k = (W : Int) := by rw [← hW]; push_cast; rfl
  rw [hW] at hge
  obtain ⟨V, hV⟩ : ∃ V, 2 ^ hp k p = V := ⟨_, rfl⟩
  rw [hV] at hs
  have hV0 : 1 ≤ V := by rw [← hV]; exact Nat.two_pow_pos _
  obtain ⟨U, hU⟩ : ∃ U, nr k p + V = U + 1 := ⟨nr k p + V - 1, by omega⟩
  have hlow : a < 0 → lowI k a = -(U : Int) ∧ highI k a = -(nr k p : Int) := by
    intro h
    unfold lowI highI
    rw [if_pos h, if_pos h, hp']
    omega
  have hhigh : ¬ a < 0 → lowI k a = (nr k p : Int) ∧ highI k a = (U : Int) := by
    intro h
    unfold lowI highI
    rw [if_neg h, if_neg h, hp']
    omega
  by_cases hbig : W ≤ p
  · have hh1 := hge.1 hbig
    obtain ⟨q, hq⟩ : ∃ q, p / 2 ^ k = q := ⟨_, rfl⟩
    have hqi : (p : Int) / 2 ^ k = (q : Int) := by rw [← hq]; push_cast; rfl
    have hqh : (q : Int) - 1 = (hp k p : Int) := by unfold hp at hh1 ⊢; rw [hq] at hh1 ⊢; omega
    have hq9 : q ≤ 1000 := by have := Nat.div_le_self p (2 ^ k); omega
    have hh : hp k p ≤ 63 := by
      have h1 : p / 2 ^ k ≤ (mst k + 1) / 2 ^ k := Nat.div_le_div_right (by omega)
      have h0 := (hp_top k hk).1
      unfold hp at h0 ⊢
      omega
    obtain ⟨A, hA⟩ : ∃ A, hp k p * 2 ^ k = A := ⟨_, rfl⟩
    have hAi : (hp k p : Int) * 2 ^ k = (A : Int) := by rw [← hA]; push_cast; rfl
    have hle : A ≤ p := by rw [← hA]; exact Nat.le_trans (Nat.mul_le_mul_right _ (Nat.sub_le _ _)) (Nat.div_mul_le_self p _)
    obtain ⟨m, hm⟩ : ∃ m, p - A = m := ⟨_, rfl⟩
    have hVi : (2 : Int) ^ hp k p = (V : Int) := by rw [← hV]; push_cast; rfl
    have hN : m * V = nr k p := by rw [← hm, ← hA, ← hV]; rfl
    have hNi : (m : Int) * (V : Int) = (nr k p : Int) := by rw [← hN]; push_cast; rfl
    have hV9 : V ≤ 9223372036854775808 := hV ▸ Nat.pow_le_pow_right (by omega) hh
    by_cases h0 : a < 0
    · rw [(hlow h0).1, (hlow h0).2]
      exact ref_bounds_neg_b k p hk a (by omega) h0 (mst k) (by omega) (by omega) (by omega) W hWi hW9 (by omega) q hqi hq9 (hp k p) hqh hh A hAi (by omega) m (by omega) (by omega) V hVi hV9 (nr k p) hNi hN9 U (by omega) (by omega) (by omega) hmo w
    · rw [(hhigh h0).1, (hhigh h0).2]
      obtain rfl : a = (p : Int) := by omega
      exact ref_bounds_pos_b k p hk (mst k) (by omega) (by omega) (by omega) W hWi hW9 (by omega) q hqi hq9 (hp k p) hqh hh A hAi (by omega) m (by omega) (by omega) V hVi hV9 (nr k p) hNi hN9 U (by omega) (by omega) (by omega) hmo w
  · have hh0 : hp k p = 0 := by
      have : ¬ 1 ≤ hp k p := fun h => hbig (hge.2 h)
      omega
    have hV1 : V = 1 := by rw [← hV, hh0]
    have hNp : nr k p = p := by unfold nr; rw [hh0]; simp
    by_cases h0 : a < 0
    · rw [(hlow h0).1, (hlow h0).2]
      exact ref_bounds_neg_s k p hk a (by omega) h0 (mst k) (by omega) (by omega) (by omega) W hWi hW9 (by omega) (nr k p) V hNp hV1 (by omega) U (by omega) U (by omega) (by omega) (by omega) hmo w
    · rw [(hhigh h0).1, (hhigh h0).2]
      obtain rfl : a = (p : Int) := by omega
      exact ref_bounds_pos_s k p hk (mst k) (by omega) (by omega) (by omega) W hWi hW9 (by omega) (nr k p) V hNp hV1 (by omega) U (by omega) (by omega) (by omega) hmo w
end Go.Proofs.Ytklklpccpbhfgaa
