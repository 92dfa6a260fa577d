/- What a policy's bytes are read as, field by field. -/
import Derived.Test.YtdhkonaebhpeeaaDoorPoT
namespace Go.Proofs.YtdhkonaebhpeeaaDoor.Po
open Go Go.RowKit

theorem gets_len : ∀ (k : Nat) (s : List UInt8), (getsZ k s).length = k
  | 0, _ => rfl
  | k + 1, s => by rw [getsZ, List.length_cons, gets_len k]
theorem gets_succ : ∀ (k : Nat) (s : List UInt8), getsZ (k + 1) s = getsZ k s ++ [i64Z (numZ ((s.drop (8 * k)).take 8))]
  | 0, s => rfl
  | k + 1, s => by
    rw [getsZ, gets_succ k (s.drop 8), List.drop_drop, getsZ, List.cons_append, show 8 * (k + 1) = 8 + 8 * k by omega]
theorem i64_in {n : Nat} (h : n < 18446744073709551616) : In64 (i64Z n) := by
  unfold i64Z In64
  split <;> omega
theorem num8_lt (l : List UInt8) : numZ (l.take 8) < 18446744073709551616 := by
  have h1 := numZ_lt (l.take 8)
  have h2 : (l.take 8).length ≤ 8 := by rw [List.length_take]; omega
  have h3 : 256 ^ (l.take 8).length ≤ 256 ^ 8 := Nat.pow_le_pow_right (by omega) h2
  omega
theorem gets_in : ∀ (k : Nat) (s : List UInt8), ∀ x ∈ getsZ k s, In64 x
  | 0, _, _, h => by cases h
  | k + 1, s, x, h => by
    rw [getsZ] at h
    rcases List.mem_cons.1 h with rfl | h
    · exact i64_in (num8_lt s)
    · exact gets_in k _ x h
/-- The numbers, the tiers, how far the bytes are read, behind so many fields. -/
def nAt (s : List UInt8) (k : Nat) : List Int := getsZ (min k 10) s ++ zeroN.drop k
def tAt (s : List UInt8) (k : Nat) : List Int := if k = 11 then getsZ (manyZ s) (s.drop 81) else []
def offG (s : List UInt8) (k : Nat) : Nat := if k = 11 then 81 + 8 * manyZ s else 8 * k
theorem nAt_zero (s : List UInt8) : nAt s 0 = zeroN := rfl
theorem nAt_len {s : List UInt8} {k : Nat} (h : k ≤ 11) : (nAt s k).length = 10 := by
  unfold nAt
  rw [List.length_append, gets_len, List.length_drop]
  show min k 10 + (10 - k) = 10
  omega
theorem nAt_in (s : List UInt8) (k : Nat) : ∀ x ∈ nAt s k, In64 x := fun x h => by
  unfold nAt at h
  rcases List.mem_append.1 h with h | h
  · exact gets_in _ _ x h
  · have h0 : ∀ y ∈ zeroN, y = 0 := by decide
    rw [h0 x (List.mem_of_mem_drop h)]
    unfold In64; omega
theorem nAt_set {s : List UInt8} {k : Nat} (hk : k < 10) : setN (nAt s k) k (getsZ 1 (s.drop (8 * k))) = nAt s (k + 1) := by
  have hz : zeroN.drop k = 0 :: zeroN.drop (k + 1) := by
    have h0 : ∀ j : Fin 10, zeroN.drop j = 0 :: zeroN.drop (j + 1) := by decide
    exact h0 ⟨k, hk⟩
  unfold setN nAt
  rw [if_neg (by omega), show min k 10 = k by omega, show min (k + 1) 10 = k + 1 by omega, gets_succ k s, hz, List.set_append_right _ _ (by rw [gets_len]; exact Nat.le_refl k), gets_len, Nat.sub_self, List.set_cons_zero, List.append_assoc]
  rfl
theorem nAt_ten (s : List UInt8) (ns : List Int) : setN (nAt s 10) 10 ns = nAt s 11 := by
  unfold setN
  rw [if_pos rfl]
  rfl
theorem nAt_end (s : List UInt8) : nAt s 11 = getsZ 10 s := by
  unfold nAt
  rw [show zeroN.drop 11 = [] from rfl, List.append_nil]
  rfl
theorem many_at {s : List UInt8} (h : 80 < s.length) : manyZ s = (s[80]'h).toNat := by
  unfold manyZ
  rw [List.drop_eq_getElem_cons h]
  rfl
theorem getZ_short {s : List UInt8} (h : s.length < 81) : getZ s = none := by unfold getZ; rw [if_pos (.inl h)]
theorem getZ_tail {s : List UInt8} (h : s.length < 81 + 8 * manyZ s) : getZ s = none := by unfold getZ; rw [if_pos (.inr h)]
theorem getZ_full {s : List UInt8} (h : 81 + 8 * manyZ s ≤ s.length) : getZ s = if rightZ (nAt s 11) (tAt s 11) then some (nAt s 11, tAt s 11, s.drop (81 + 8 * manyZ s)) else none := by
  unfold getZ
  rw [if_neg (by omega), nAt_end]
  rfl
end Go.Proofs.YtdhkonaebhpeeaaDoor.Po

