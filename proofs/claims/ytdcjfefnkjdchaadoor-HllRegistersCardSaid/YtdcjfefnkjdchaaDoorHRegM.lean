/- Sums of one register. -/
import Derived.Test.YtdcjfefnkjdchaaDoorHOpen
namespace Go.Proofs.YtdcjfefnkjdchaaDoor
open Go Go.RowKit

/-- A sketch of which only register k is other than 0. -/
def rg (b k m : Nat) : List UInt8 := (List.replicate (2 ^ b) 0).set k (UInt8.ofNat m)
theorem rg_zero (b k : Nat) (hk : k < 2 ^ b) : rg b k 0 = List.replicate (2 ^ b) 0 := by
  unfold rg
  refine List.ext_getElem (by simp) fun i h1 h2 => ?_
  rw [List.getElem_set]
  split
  · simp
  · rfl
theorem rg_length (b k m : Nat) : (rg b k m).length = 2 ^ b := by simp [rg]
theorem rg_at (b k m : Nat) (hk : k < 2 ^ b) (hm : m ≤ 26) (i : Nat) : ((rg b k m).getD i 0).toNat = if i = k then m else 0 := by
  unfold rg
  by_cases hi : i = k
  · subst hi
    rw [if_pos rfl, List.getD_eq_getElem?_getD, List.getElem?_set_self (by simpa using hk), Option.getD_some, ofNat_toNat hm]
  · rw [if_neg hi, List.getD_eq_getElem?_getD, List.getElem?_set_ne (Ne.symm hi), ← List.getD_eq_getElem?_getD, zeros_at]
/-- The sum that has its first bit n behind the register's. -/
def sumAt (b k n : Nat) : Nat := k + 2 ^ (b + n)
theorem sumAt_lt (b k n : Nat) (hk : k < 2 ^ b) (hn : b + n < 64) : sumAt b k n < 18446744073709551616 := by
  unfold sumAt
  have h1 : 2 ^ b ≤ 2 ^ (b + n) := Nat.pow_le_pow_right (by decide) (by omega)
  have h2 : 2 ^ (b + n + 1) ≤ 2 ^ 64 := Nat.pow_le_pow_right (by decide) (by omega)
  rw [Nat.pow_succ] at h2
  omega
theorem sumAt_hp (b k n : Nat) (hk : k < 2 ^ b) : hp b (sumAt b k n) = k := by
  unfold hp sumAt
  rw [Nat.pow_add, Nat.add_mul_mod_self_left, Nat.mod_eq_of_lt hk]
theorem sumAt_rk (b k n : Nat) (hk : k < 2 ^ b) (hn : b + n < 64) : rk b (sumAt b k n) = n + 1 := by
  unfold rk sumAt
  have e : (k + 2 ^ (b + n)) / 2 ^ b = 2 ^ n := by
    rw [Nat.pow_add, Nat.add_mul_div_left _ _ (Nat.pow_pos (by decide)), Nat.div_eq_of_lt hk, Nat.zero_add]
  have h64 : 2 ^ n < 18446744073709551616 := by
    have h2 : 2 ^ n ≤ 2 ^ 63 := Nat.pow_le_pow_right (by decide) (by omega)
    omega
  have hc : Lib.ctz 64 (2 ^ n) = n := by
    have h1 := bit_at n 0
    rw [Nat.mul_zero, Nat.zero_add, Nat.mul_one] at h1
    refine ctz_first _ h64 n (fun j hj => ?_) h1
    have := bit_low n 0 j hj
    rwa [Nat.mul_zero, Nat.zero_add, Nat.mul_one] at this
  rw [e, hc]
  omega
theorem sumAt_add (b k n m : Nat) (hk : k < 2 ^ b) (hn : b + n < 64) (hm : m ≤ 26) :
    addB b (sumAt b k n) (rg b k m) = decide (m < min (n + 1) 26) ∧ addL b (sumAt b k n) (rg b k m) = rg b k (max m (min (n + 1) 26)) := by
  have h1 : hr b (sumAt b k n) = min (n + 1) 26 := by unfold hr; rw [sumAt_rk b k n hk hn]
  have h2 := sumAt_hp b k n hk
  have hB : addB b (sumAt b k n) (rg b k m) = decide (m < min (n + 1) 26) := by
    unfold addB
    rw [h1, h2, rg_at b k m hk hm, if_pos rfl]
  refine ⟨hB, ?_⟩
  unfold addL
  rw [hB, h1, h2]
  by_cases h : m < min (n + 1) 26
  · rw [if_pos (by simpa using h), Nat.max_eq_right (by omega)]
    unfold rg
    rw [List.set_set]
  · rw [if_neg (by simpa using h), Nat.max_eq_left (by omega)]
end Go.Proofs.YtdcjfefnkjdchaaDoor
