/- Labels of one letter, so many and so long: what a key of them is. No walk in this text. -/
import Derived.Test.YtlocjhnlemlnmaaLbKb
namespace Go.Proofs.Ytlocjhnlemlnmaa.Lx
open Go Go.RowKit

def letS (k i : Nat) : List UInt8 := List.replicate k (UInt8.ofNat (97 + i))
def longS (k n : Nat) : List LabB := (List.range n).map fun i => (letS k i, letS k i)
theorem longS_len (k n : Nat) : (longS k n).length = n := by simp [longS]
theorem longS_succ (k n : Nat) : longS k (n + 1) = longS k n ++ [(letS k n, letS k n)] := by simp [longS, List.range_succ]
theorem let_nat {i : Nat} (h : i < 18) : (UInt8.ofNat (97 + i)).toNat = 97 + i := ofNat_small (by omega)
theorem let_plain {i : Nat} (k : Nat) (h : i < 18) : plainL (letS k i) = true := by
  unfold plainL letS
  rw [List.all_eq_true]
  intro x hx
  obtain ⟨_, rfl⟩ := List.mem_replicate.1 hx
  rw [okB_nat, let_nat h]
  simp
  omega
theorem let_named {i : Nat} {k : Nat} (h : i < 18) (hk : 1 ≤ k) : namedL (letS k i) = decide (k ≤ 64) := by
  have hl : (letS k i).length = k := by simp [letS]
  by_cases h64 : k ≤ 64
  · rw [decide_eq_true h64, named_mid (by intro e; rw [e] at hl; simp at hl; omega) (by omega)]
    exact let_plain k h
  · rw [decide_eq_false h64]
    exact named_long (by omega)
theorem let_lt {i j : Nat} {k : Nat} (hj : j < 18) (h : i < j) (hk : 1 ≤ k) : ltB (letS k i) (letS k j) = true := by
  obtain ⟨m, rfl⟩ : ∃ m, k = m + 1 := ⟨k - 1, by omega⟩
  unfold letS
  rw [List.replicate_succ, List.replicate_succ]
  unfold ltB
  rw [let_nat (by omega), let_nat hj, if_pos (by omega)]
theorem long_sorted {k n : Nat} (hn : n ≤ 18) (hk : 1 ≤ k) : SortedK (longS k n) := by
  unfold SortedK
  rw [List.pairwise_iff_getElem]
  intro i j hi hj hij
  rw [longS_len] at hi hj
  simp only [longS, List.getElem_map, List.getElem_range]
  exact let_lt (by omega) hij hk
theorem long_ok {k n : Nat} (hn : n ≤ 18) (hk : 1 ≤ k) : (longS k n).all okL = (decide (n = 0) || decide (k ≤ 64)) := by
  cases n with
  | zero => rfl
  | succ n =>
    rw [show decide (n + 1 = 0) = false from rfl, Bool.false_or, Bool.eq_iff_iff, List.all_eq_true, decide_eq_true_iff]
    constructor
    · intro h
      have := h (letS k 0, letS k 0) (by simp only [longS, List.mem_map, List.mem_range]; exact ⟨0, by omega, rfl⟩)
      unfold okL at this
      rw [let_named (by omega) hk] at this
      simpa using this
    · intro h x hx
      obtain ⟨i, hi, rfl⟩ := List.mem_map.1 hx
      rw [List.mem_range] at hi
      unfold okL
      rw [let_named (by omega) hk, decide_eq_true h]
      rfl
theorem long_keyE {k n : Nat} (hn : n ≤ 17) (hk : 1 ≤ k) : keyE [109] (longS k n) = (if 16 < n ∨ (0 < n ∧ 64 < k) then .error 1 else if 2048 < 3 + 2 * n * (k + 1) then .error 3 else .ok (keyK [109] (longS k n))) := by
  have hs := sortK_is (long_sorted (n := n) (by omega) hk) (List.Perm.refl _)
  have hl : (keyK [109] (longS k n)).length = 3 + 2 * n * (k + 1) := by
    have := labs_len2 (longS k n) k (fun x hx => by
      obtain ⟨i, _, rfl⟩ := List.mem_map.1 hx
      simp [letS])
    rw [longS_len] at this
    simp only [keyK, txK, List.length_append, List.length_cons, List.length_nil, this]
    omega
  by_cases h16 : 16 < n
  · rw [if_pos (.inl h16)]
    exact keyE_many (by rw [longS_len]; exact h16)
  · by_cases h64 : 0 < n ∧ 64 < k
    · rw [if_pos (.inr h64)]
      refine keyE_all ?_
      rw [long_ok (by omega) hk, decide_eq_false (by omega), decide_eq_false (by omega)]
      rfl
    · rw [if_neg (by omega), keyE_fine (by rw [longS_len]; omega) (by rfl) (by
        rw [long_ok (by omega) hk]
        by_cases h0 : n = 0
        · simp [h0]
        · rw [decide_eq_true (show k ≤ 64 by omega)]; simp), hs]
      simp only [hl]
theorem long_len {k n : Nat} : (keyK [109] (longS k n)).length = 3 + 2 * n * (k + 1) := by
  have := labs_len2 (longS k n) k (fun x hx => by
    obtain ⟨i, _, rfl⟩ := List.mem_map.1 hx
    simp [letS])
  rw [longS_len] at this
  simp only [keyK, txK, List.length_append, List.length_cons, List.length_nil, this]
  omega
end Go.Proofs.Ytlocjhnlemlnmaa.Lx
