/- Of few: how many registers are other than 0; what one alone is estimated as. -/
import Derived.Test.YtdcjfefnkjdchaaDoorHFed
namespace Go.Proofs.YtdcjfefnkjdchaaDoor
open Go Go.RowKit

def nz : List UInt8 → Nat
  | [] => 0
  | x :: r => (if x.toNat = 0 then 0 else 1) + nz r
theorem nz_append (a c : List UInt8) : nz (a ++ c) = nz a + nz c := by
  induction a with
  | nil => simp [nz]
  | cons x r ih => rw [List.cons_append, nz, nz, ih]; omega
theorem nz_take {l : List UInt8} (k : Nat) (hk : k < l.length) : nz (l.take (k + 1)) = nz (l.take k) + (if l[k].toNat = 0 then 0 else 1) := by
  rw [List.take_add_one, List.getElem?_eq_getElem hk, nz_append]
  simp [nz]
theorem nz_le (l : List UInt8) : nz l ≤ l.length := by
  induction l with
  | nil => exact Nat.le_refl _
  | cons x r ih => rw [nz, List.length_cons]; split <;> omega
theorem nz_set (x : UInt8) : ∀ (l : List UInt8) (i : Nat), nz (l.set i x) ≤ nz l + 1
  | [], _ => by simp [nz]
  | y :: r, 0 => by rw [List.set_cons_zero, nz, nz]; split <;> omega
  | y :: r, i + 1 => by rw [List.set_cons_succ, nz, nz]; have := nz_set x r i; omega
theorem nz_zeros (n : Nat) : nz (List.replicate n 0) = 0 := by
  induction n with
  | zero => rfl
  | succ n ih => rw [List.replicate_succ, nz, ih]; rfl
theorem nz_regs (b : Nat) (hs : List Nat) : nz (regs b hs) ≤ hs.length := by
  have key : ∀ (hs : List Nat) (l : List UInt8), nz (addAll b hs l) ≤ nz l + hs.length := by
    intro hs
    induction hs with
    | nil => intro l; exact Nat.le_refl _
    | cons h t ih =>
      intro l
      rw [addAll, List.foldl_cons, ← addAll, List.length_cons]
      have h1 := ih (addL b h l)
      have h2 : nz (addL b h l) ≤ nz l + 1 := by
        unfold addL
        split
        · exact nz_set _ _ _
        · omega
      omega
  have := key hs (List.replicate (2 ^ b) 0)
  rw [nz_zeros] at this
  unfold regs
  omega
theorem sumOf_set (x : UInt8) : ∀ (l : List UInt8) (i : Nat) (h : i < l.length), sumOf (l.set i x) + 2 ^ (26 - l[i].toNat) = sumOf l + 2 ^ (26 - x.toNat)
  | [], _, h => absurd h (Nat.not_lt_zero _)
  | y :: r, 0, _ => by rw [List.set_cons_zero, sumOf, sumOf]; simp; omega
  | y :: r, i + 1, h => by
    have := sumOf_set x r i (by simpa using h)
    rw [List.set_cons_succ, sumOf, sumOf, List.getElem_cons_succ]
    omega
theorem zerosOf_set (x : UInt8) (hx : x ≠ 0) : ∀ (l : List UInt8) (i : Nat) (h : i < l.length), l[i] = 0 → zerosOf (l.set i x) + 1 = zerosOf l
  | [], _, h, _ => absurd h (Nat.not_lt_zero _)
  | y :: r, 0, _, h0 => by
    simp at h0
    subst h0
    unfold zerosOf
    rw [List.set_cons_zero, List.count_cons, List.count_cons]
    simp [hx]
  | y :: r, i + 1, h, h0 => by
    have := zerosOf_set x hx r i (by simpa using h) (by simpa using h0)
    unfold zerosOf at this ⊢
    rw [List.set_cons_succ, List.count_cons, List.count_cons]
    omega
theorem sumOf_zeros (n : Nat) : sumOf (List.replicate n 0) = 67108864 * n := by
  induction n with
  | zero => rfl
  | succ n ih =>
    rw [List.replicate_succ, sumOf, ih, show (2 ^ (26 - (0 : UInt8).toNat)) = 67108864 from by decide]
    omega
theorem zerosOf_zeros (n : Nat) : zerosOf (List.replicate n 0) = n := by simp [zerosOf]
theorem raw_few (b : Nat) (lo : 4 ≤ b) (hi : b ≤ 10) (S : Nat) (hS : 67108864 * (2 ^ b - 1) ≤ S) : ¬ 5 * 2 ^ b / 2 < rawOf (factorOf b) (2 ^ b) S := by
  have hM := pow_hi lo hi
  have h1 : rawOf (factorOf b) (2 ^ b) S ≤ rawOf (factorOf b) (2 ^ b) (67108864 * (2 ^ b - 1)) := by
    unfold rawOf
    exact Nat.div_le_div_left (Nat.mul_le_mul_left _ hS) (by omega)
  have h2 : rawOf (factorOf b) (2 ^ b) (67108864 * (2 ^ b - 1)) ≤ 5 * 2 ^ b / 2 := by
    clear h1 hM hS
    have : b = 4 ∨ b = 5 ∨ b = 6 ∨ b = 7 ∨ b = 8 ∨ b = 9 ∨ b = 10 := by omega
    rcases this with rfl | rfl | rfl | rfl | rfl | rfl | rfl <;> decide +kernel
  omega
/-- Nobody is estimated as none. -/
theorem est_none (b : Nat) (lo : 4 ≤ b) (hi : b ≤ 10) : estOf b (regs b []) = 0 := by
  have hM := pow_hi lo hi
  have e : regs b [] = List.replicate (2 ^ b) 0 := rfl
  unfold estOf
  rw [e, zerosOf_zeros, sumOf_zeros, if_neg (fun h => h.elim (by omega) (raw_few b lo hi _ (Nat.mul_le_mul_left _ (Nat.sub_le _ _))))]
  unfold fewOf
  rw [Nat.sub_self, fewSum]
/-- One alone is estimated as one. -/
theorem est_one (b : Nat) (lo : 4 ≤ b) (hi : b ≤ 10) (h : Nat) : estOf b (regs b [h]) = 1 := by
  have hM := pow_hi lo hi
  have hp1 := hp_lt b h
  have hr1 := hr_lo b h
  have hr2 := hr_hi b h
  have hz : (List.replicate (2 ^ b) (0 : UInt8))[hp b h]'(by simpa using hp1) = 0 := by simp
  have e : regs b [h] = (List.replicate (2 ^ b) 0).set (hp b h) (UInt8.ofNat (hr b h)) := by
    show addL b h (List.replicate (2 ^ b) 0) = _
    unfold addL addB
    rw [if_pos]
    rw [zeros_at]
    exact decide_eq_true (show 0 < hr b h by omega)
  have hne : UInt8.ofNat (hr b h) ≠ 0 := fun hh => by
    have := congrArg UInt8.toNat hh
    rw [ofNat_toNat hr2] at this
    simp at this
    omega
  have h1 := sumOf_set (UInt8.ofNat (hr b h)) (List.replicate (2 ^ b) 0) (hp b h) (by simpa using hp1)
  have h2 := zerosOf_set (UInt8.ofNat (hr b h)) hne (List.replicate (2 ^ b) 0) (hp b h) (by simpa using hp1) hz
  rw [sumOf_zeros, hz, show (2 ^ (26 - (0 : UInt8).toNat)) = 67108864 from by decide] at h1
  rw [zerosOf_zeros] at h2
  rw [← e] at h1 h2
  unfold estOf
  have hpos : 0 < 2 ^ (26 - (UInt8.ofNat (hr b h)).toNat) := Nat.pow_pos (by decide)
  rw [if_neg (fun hh => hh.elim (by omega) (raw_few b lo hi _ (by omega)))]
  unfold fewOf
  rw [show 2 ^ b - zerosOf (regs b [h]) = 1 from by omega, fewSum, fewSum]
  rw [show zerosOf (regs b [h]) + 1 + 0 = 2 ^ b from by omega, Nat.zero_add, Nat.mul_div_cancel_left _ (by omega)]
end Go.Proofs.YtdcjfefnkjdchaaDoor
