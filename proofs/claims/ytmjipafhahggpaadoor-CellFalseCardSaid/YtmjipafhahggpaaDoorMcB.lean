/- The numbers of buckets: how often a distance is halved, its place, and how far a place's near end is. Buckets on both sides of 0: the bucket of a number, its least and its greatest number, and what holds of them. placeOf, ends, the closure that tells which bits may be, Of. Most, Bounds, Near; the chapter's examples. -/
import Derived.Lib.ItoaNum
import Derived.Test.YtmjipafhahggpaaDoorChecked
import Derived.Test.YtmjipafhahggpaaDoorShelf
import Derived.WalkKit
import Derived.Below
import Derived.IntWalk
import Derived.Lib.Hide
import Derived.Deep.QuietTactic
import Derived.BigQuiet
import Derived.RegionTactic
import Derived.BigRegion
import Derived.OwnWalk
namespace Go.Proofs.YtmjipafhahggpaaDoor.Hi
open Go

def hv (k d : Nat) : Nat := Lib.bitLen d - (1 + k)
def pl (k d : Nat) : Nat := hv k d * 2 ^ k + d / 2 ^ hv k d
def hp (k p : Nat) : Nat := p / 2 ^ k - 1
def nr (k p : Nat) : Nat := (p - hp k p * 2 ^ k) * 2 ^ hp k p

theorem hv_spec (k d : Nat) (hd : d < 18446744073709551616) : d / 2 ^ hv k d < 2 ^ (k + 1) ∧ (hv k d ≠ 0 → 2 ^ k ≤ d / 2 ^ hv k d) := by
  by_cases h0 : d = 0
  · subst h0
    simp [hv, Lib.bitLen, Lib.bitLenAux_zero, Nat.two_pow_pos]
  · obtain ⟨h1, h2, h3⟩ := Lib.bitLenAux_bounds 64 d (by simpa using hd) h0
    have hb : Lib.bitLen d = Lib.bitLenAux 64 d := rfl
    unfold hv
    rw [hb]
    generalize Lib.bitLenAux 64 d = b at *
    by_cases hk : b ≤ 1 + k
    · have : b - (1 + k) = 0 := by omega
      rw [this]
      refine ⟨?_, fun h => absurd rfl h⟩
      rw [Nat.pow_zero, Nat.div_one]
      exact Nat.lt_of_lt_of_le h3 (Nat.pow_le_pow_right (by omega) (by omega))
    · obtain ⟨e, he⟩ : ∃ e, b = e + (k + 1) := ⟨b - (k + 1), by omega⟩
      have : b - (1 + k) = e := by omega
      rw [this]
      subst he
      constructor
      · rw [Nat.div_lt_iff_lt_mul (Nat.two_pow_pos e), ← Nat.pow_add, Nat.add_comm]
        exact h3
      · intro _
        rw [Nat.le_div_iff_mul_le (Nat.two_pow_pos e), ← Nat.pow_add, Nat.add_comm]
        exact h2

theorem hp_pl (k d : Nat) (hd : d < 18446744073709551616) : hp k (pl k d) = hv k d := by
  obtain ⟨h1, h2⟩ := hv_spec k d hd
  have hk := Nat.two_pow_pos k
  unfold hp pl
  rw [Nat.mul_comm, Nat.mul_add_div hk]
  generalize d / 2 ^ hv k d = m at *
  rw [Nat.pow_succ] at h1
  by_cases h0 : hv k d = 0
  · rw [h0]
    have : m / 2 ^ k < 2 := by rw [Nat.div_lt_iff_lt_mul hk]; omega
    omega
  · have h3 := h2 h0
    have : m / 2 ^ k = 1 := by
      have a : m / 2 ^ k < 2 := by rw [Nat.div_lt_iff_lt_mul hk]; omega
      have b : 1 ≤ m / 2 ^ k := by rw [Nat.le_div_iff_mul_le hk]; omega
      omega
    omega

theorem nr_pl (k d : Nat) (hd : d < 18446744073709551616) : nr k (pl k d) = d / 2 ^ hv k d * 2 ^ hv k d := by
  unfold nr
  rw [hp_pl k d hd]
  unfold pl
  rw [Nat.add_sub_cancel_left]

theorem nr_succ (k p : Nat) : nr k (p + 1) = nr k p + 2 ^ hp k p := by
  have hk := Nat.two_pow_pos k
  unfold nr
  obtain ⟨q, r, hq, hr⟩ : ∃ q r, p = 2 ^ k * q + r ∧ r < 2 ^ k := ⟨p / 2 ^ k, p % 2 ^ k, (Nat.div_add_mod p (2 ^ k)).symm, Nat.mod_lt _ hk⟩
  have e0 : p / 2 ^ k = q := by rw [hq, Nat.mul_add_div hk, Nat.div_eq_of_lt hr]; rfl
  have h0 : hp k p = q - 1 := by unfold hp; rw [e0]
  rw [h0]
  by_cases hl : r + 1 < 2 ^ k
  · have e1 : (p + 1) / 2 ^ k = q := by rw [hq, Nat.add_assoc, Nat.mul_add_div hk, Nat.div_eq_of_lt hl]; rfl
    have h1 : hp k (p + 1) = q - 1 := by unfold hp; rw [e1]
    rw [h1]
    have hle : (q - 1) * 2 ^ k ≤ p := by
      rw [hq, Nat.mul_comm]
      exact Nat.le_trans (Nat.mul_le_mul_left _ (by omega)) (Nat.le_add_right _ _)
    rw [Nat.sub_add_comm hle, Nat.add_mul, Nat.one_mul]
  · have hr1 : r + 1 = 2 ^ k := by omega
    have e2 : p + 1 = 2 ^ k * (q + 1) := by rw [hq, Nat.mul_add, Nat.mul_one]; omega
    have e1 : (p + 1) / 2 ^ k = q + 1 := by rw [e2, Nat.mul_div_cancel_left _ hk]
    have h1 : hp k (p + 1) = q := by unfold hp; rw [e1]; rfl
    rw [h1, e2]
    cases q with
    | zero =>
      simp at *
      omega
    | succ s =>
      have hs : s + 1 - 1 = s := rfl
      rw [hs]
      have a1 : 2 ^ k * (s + 1 + 1) - (s + 1) * 2 ^ k = 2 ^ k := by
        rw [Nat.mul_comm (s + 1), ← Nat.mul_sub]
        have : s + 1 + 1 - (s + 1) = 1 := by omega
        rw [this, Nat.mul_one]
      have a2 : p - s * 2 ^ k + 1 = 2 * 2 ^ k := by
        rw [hq, Nat.mul_comm s]
        rw [Nat.mul_add, Nat.mul_one]
        generalize 2 ^ k * s = z
        omega
      rw [a1]
      have a3 : (p - s * 2 ^ k) * 2 ^ s + 2 ^ s = (p - s * 2 ^ k + 1) * 2 ^ s := by rw [Nat.add_mul, Nat.one_mul]
      rw [a3, a2, Nat.pow_succ, Nat.mul_comm 2 (2 ^ k), Nat.mul_assoc, Nat.mul_comm 2 (2 ^ s)]

theorem nr_zero (k : Nat) : nr k 0 = 0 := by simp [nr]
theorem hp_zero (k : Nat) : hp k 0 = 0 := by simp [hp]
theorem nr_one (k : Nat) : nr k 1 = 1 := by rw [nr_succ, nr_zero, hp_zero]

theorem nr_add_le (k p : Nat) : ∀ n, nr k p + n ≤ nr k (p + n)
  | 0 => Nat.le_refl _
  | n + 1 => by
    have h1 := nr_add_le k p n
    have h2 := nr_succ k (p + n)
    have h3 := Nat.two_pow_pos (hp k (p + n))
    have e : p + (n + 1) = p + n + 1 := by omega
    rw [e]
    omega

theorem nr_lt {k p q : Nat} (h : p < q) : nr k p < nr k q := by
  obtain ⟨n, rfl⟩ : ∃ n, q = p + (n + 1) := ⟨q - p - 1, by omega⟩
  have := nr_add_le k p (n + 1)
  omega

theorem nr_le {k p q : Nat} (h : p ≤ q) : nr k p ≤ nr k q := by
  rcases Nat.lt_or_eq_of_le h with h | rfl
  · exact Nat.le_of_lt (nr_lt h)
  · exact Nat.le_refl _

theorem nr_of_lt {k p q : Nat} (h : nr k p < nr k q) : p < q := by
  rcases Nat.lt_or_ge p q with h1 | h1
  · exact h1
  · have := nr_le (k := k) h1
    omega

theorem in_pl (k d : Nat) (hd : d < 18446744073709551616) : nr k (pl k d) ≤ d ∧ d < nr k (pl k d + 1) := by
  rw [nr_succ, hp_pl k d hd, nr_pl k d hd]
  constructor
  · exact Nat.div_mul_le_self d _
  · have h1 := Nat.div_add_mod d (2 ^ hv k d)
    have h2 := Nat.mod_lt d (Nat.two_pow_pos (hv k d))
    rw [Nat.mul_comm] at h1
    omega

theorem pl_iff (k d p : Nat) (hd : d < 18446744073709551616) : pl k d = p ↔ nr k p ≤ d ∧ d < nr k (p + 1) := by
  obtain ⟨h1, h2⟩ := in_pl k d hd
  constructor
  · rintro rfl
    exact ⟨h1, h2⟩
  · rintro ⟨h3, h4⟩
    have a := nr_of_lt (Nat.lt_of_le_of_lt h1 h4)
    have b := nr_of_lt (Nat.lt_of_le_of_lt h3 h2)
    omega

theorem pl_mono (k : Nat) {d d' : Nat} (h : d ≤ d') (hd : d' < 18446744073709551616) : pl k d ≤ pl k d' := by
  obtain ⟨h1, h2⟩ := in_pl k d (by omega)
  obtain ⟨h3, h4⟩ := in_pl k d' hd
  have := nr_of_lt (k := k) (p := pl k d) (q := pl k d' + 1) (by omega)
  omega

theorem pl_zero (k : Nat) : pl k 0 = 0 := by
  rw [pl_iff k 0 0 (by omega), nr_zero, nr_one]
  omega

theorem pl_pos (k d : Nat) (h : 1 ≤ d) (hd : d < 18446744073709551616) : 1 ≤ pl k d := by
  have h1 : pl k d ≠ 0 := by
    rw [Ne, pl_iff k d 0 hd, nr_zero, nr_one]
    omega
  omega

theorem hv_pos (k d : Nat) : hv k d = hv (k + 1) d + 1 ∨ (hv k d = 0 ∧ hv (k + 1) d = 0) := by
  unfold hv
  omega

theorem pl_fine (k d d' : Nat) (hd : d < 18446744073709551616) (hd' : d' < 18446744073709551616) (h : pl (k + 1) d = pl (k + 1) d') : pl k d = pl k d' := by
  have e1 := hp_pl (k + 1) d hd
  rw [h, hp_pl (k + 1) d' hd'] at e1
  have e2 := h
  unfold pl at e2
  rw [e1] at e2
  have e3 := Nat.add_left_cancel e2
  by_cases h0 : hv (k + 1) d = 0
  · rw [h0] at e3
    simp at e3
    rw [e3]
  · have a : hv k d = hv (k + 1) d + 1 := by rcases hv_pos k d with h | h <;> omega
    have b : hv k d' = hv (k + 1) d' + 1 := by rcases hv_pos k d' with h | h <;> omega
    unfold pl
    rw [a, b, e1, Nat.pow_succ, ← Nat.div_div_eq_div_mul, ← Nat.div_div_eq_div_mul, e3]

/-- a bucket is one number wide, or as wide as the part of its near end -/
theorem wide_le (k p : Nat) (hk : 1 ≤ hp k p) : 2 ^ hp k p * 2 ^ k ≤ nr k p := by
  unfold nr
  rw [Nat.mul_comm]
  apply Nat.mul_le_mul_right
  have h := Nat.div_mul_le_self p (2 ^ k)
  have e : p / 2 ^ k = hp k p + 1 := by unfold hp at *; omega
  rw [e, Nat.add_mul, Nat.one_mul] at h
  omega

/-- the place of the greatest number -/
def mst (k : Nat) : Nat := (64 - k) * 2 ^ k - 1

theorem hp_top (k : Nat) (hk : k ≤ 4) : hp k (mst k + 1) = 63 - k ∧ nr k (mst k + 1) = 9223372036854775808 ∧ nr k (mst k) < 9223372036854775808 ∧ nr k (mst k + 2) ≤ 18446744073709551616 ∧ mst k + 2 ≤ 1000 := by
  match k, hk with
  | 0, _ => decide
  | 1, _ => decide
  | 2, _ => decide
  | 3, _ => decide
  | 4, _ => decide

theorem mst_eq (k : Nat) (hk : k ≤ 4) : pl k 9223372036854775807 = mst k := by
  obtain ⟨_, h1, h2, _⟩ := hp_top k hk
  rw [pl_iff _ _ _ (by omega)]
  omega

theorem top_eq (k : Nat) (hk : k ≤ 4) : pl k 9223372036854775808 = mst k + 1 := by
  obtain ⟨_, h1, h2, h3, _⟩ := hp_top k hk
  rw [pl_iff _ _ _ (by omega)]
  have := nr_lt (k := k) (p := mst k + 1) (q := mst k + 2) (by omega)
  rw [h1] at this
  exact ⟨by omega, this⟩

theorem small_eq (k d : Nat) (hd : d < 2 ^ (k + 1)) (hd' : d < 18446744073709551616) : pl k d = d := by
  obtain ⟨_, h2⟩ := hv_spec k d hd'
  have h0 : hv k d = 0 := by
    by_cases h : hv k d = 0
    · exact h
    · exfalso
      have h3 := h2 h
      rw [Nat.le_div_iff_mul_le (Nat.two_pow_pos _)] at h3
      have h4 : 2 ^ k * 2 ^ 1 ≤ 2 ^ k * 2 ^ hv k d := Nat.mul_le_mul_left _ (Nat.pow_le_pow_right (by omega) (by omega))
      rw [Nat.pow_succ] at hd
      omega
  unfold pl
  rw [h0]
  simp

/-- a text's own loop: from below, the first halving that brings it under 2^(k+1) -/
theorem hv_first (k d e : Nat) (hd : d < 18446744073709551616) (h1 : d / 2 ^ e < 2 ^ (k + 1)) (h2 : ∀ j, j < e → 2 ^ (k + 1) ≤ d / 2 ^ j) : hv k d = e := by
  obtain ⟨a, b⟩ := hv_spec k d hd
  rcases Nat.lt_trichotomy (hv k d) e with h | h | h
  · have := h2 _ h
    omega
  · exact h
  · exfalso
    have h3 := b (by omega)
    rw [Nat.le_div_iff_mul_le (Nat.two_pow_pos _)] at h3
    rw [Nat.div_lt_iff_lt_mul (Nat.two_pow_pos _)] at h1
    have h4 : 2 ^ (k + 1) * 2 ^ e ≤ 2 ^ k * 2 ^ hv k d := by
      rw [← Nat.pow_add, ← Nat.pow_add]
      exact Nat.pow_le_pow_right (by omega) (by omega)
    omega
end Go.Proofs.YtmjipafhahggpaaDoor.Hi

namespace Go.Proofs.YtmjipafhahggpaaDoor.Hi
open Go

def In64 (n : Int) : Prop := -9223372036854775808 ≤ n ∧ n ≤ 9223372036854775807
def ofI (k : Nat) (n : Int) : Int := if n < 0 then -(pl k n.natAbs : Int) else (pl k n.natAbs : Int)
def lowI (k : Nat) (a : Int) : Int := if a < 0 then -((min (nr k (a.natAbs + 1) - 1) 9223372036854775808 : Nat) : Int) else (nr k a.natAbs : Int)
def highI (k : Nat) (a : Int) : Int := if a < 0 then -(nr k a.natAbs : Int) else (nr k (a.natAbs + 1) : Int) - 1
def Fits (k : Nat) (a : Int) : Prop := -(mst k : Int) - 1 ≤ a ∧ a ≤ mst k

theorem pl_top (k d : Nat) (hk : k ≤ 4) (hd : d ≤ 9223372036854775808) : pl k d ≤ mst k + 1 := by
  rw [← top_eq k hk]
  exact pl_mono k hd (by omega)

theorem pl_top' (k d : Nat) (hk : k ≤ 4) (hd : d ≤ 9223372036854775807) : pl k d ≤ mst k := by
  rw [← mst_eq k hk]
  exact pl_mono k hd (by omega)

theorem nr_top (k p : Nat) (hk : k ≤ 4) (hp : p ≤ mst k + 1) : nr k p ≤ 9223372036854775808 ∧ nr k (p + 1) ≤ 18446744073709551616 := by
  obtain ⟨_, h1, h2, h3, _⟩ := hp_top k hk
  have a := nr_le (k := k) hp
  have b := nr_le (k := k) (p := p + 1) (q := mst k + 2) (by omega)
  omega

theorem nr_top' (k p : Nat) (hk : k ≤ 4) (hp : p ≤ mst k) : nr k p ≤ 9223372036854775807 ∧ nr k (p + 1) ≤ 9223372036854775808 := by
  obtain ⟨_, h1, h2, h3, _⟩ := hp_top k hk
  have a := nr_le (k := k) hp
  have b := nr_le (k := k) (p := p + 1) (q := mst k + 1) (by omega)
  omega

theorem nr_pos (k p : Nat) : p ≤ nr k p := by
  have := nr_add_le k 0 p
  rw [Nat.zero_add] at this
  omega

theorem of_fits (k : Nat) (hk : k ≤ 4) (n : Int) (hn : In64 n) : Fits k (ofI k n) := by
  unfold Fits ofI
  obtain ⟨h1, h2⟩ := hn
  split
  · have := pl_top k n.natAbs hk (by omega)
    omega
  · have := pl_top' k n.natAbs hk (by omega)
    omega

theorem fits_small (k : Nat) (hk : k ≤ 4) (a : Int) (ha : Fits k a) : -1000 ≤ a ∧ a ≤ 1000 := by
  obtain ⟨_, _, _, _, h⟩ := hp_top k hk
  obtain ⟨h1, h2⟩ := ha
  omega

theorem low_in (k : Nat) (hk : k ≤ 4) (a : Int) (ha : Fits k a) : In64 (lowI k a) ∧ In64 (highI k a) ∧ lowI k a ≤ highI k a := by
  obtain ⟨h1, h2⟩ := ha
  unfold In64 lowI highI
  have h3 := nr_lt (k := k) (p := a.natAbs) (q := a.natAbs + 1) (by omega)
  split
  · have h4 := nr_top k a.natAbs hk (by omega)
    have h5 := nr_pos k a.natAbs
    omega
  · have h4 := nr_top' k a.natAbs hk (by omega)
    omega

theorem of_iff (k : Nat) (hk : k ≤ 4) (n : Int) (hn : In64 n) (a : Int) (ha : Fits k a) : ofI k n = a ↔ lowI k a ≤ n ∧ n ≤ highI k a := by
  obtain ⟨h1, h2⟩ := ha
  obtain ⟨n1, n2⟩ := hn
  have hi := fun p => pl_iff k n.natAbs p (by omega)
  have hz : n ≠ 0 → 1 ≤ pl k n.natAbs := fun h => pl_pos k _ (by omega) (by omega)
  have z0 : n = 0 → pl k n.natAbs = 0 := by rintro rfl; exact pl_zero k
  unfold ofI lowI highI
  by_cases hs : n < 0
  · rw [if_pos hs]
    by_cases hA : a < 0
    · rw [if_pos hA, if_pos hA]
      have h3 := hi a.natAbs
      have h4 : (-(pl k n.natAbs : Int) = a) ↔ pl k n.natAbs = a.natAbs := by omega
      have h5 := nr_top k a.natAbs hk (by omega)
      rw [h4, h3]
      omega
    · rw [if_neg hA, if_neg hA]
      have := hz (by omega)
      omega
  · rw [if_neg hs]
    by_cases hA : a < 0
    · rw [if_pos hA, if_pos hA]
      have := nr_pos k a.natAbs
      omega
    · rw [if_neg hA, if_neg hA]
      have h3 := hi a.natAbs
      have h4 : ((pl k n.natAbs : Int) = a) ↔ pl k n.natAbs = a.natAbs := by omega
      rw [h4, h3]
      omega

theorem of_mono (k : Nat) (m n : Int) (hm : In64 m) (hn : In64 n) (h : m ≤ n) : ofI k m ≤ ofI k n := by
  obtain ⟨m1, m2⟩ := hm
  obtain ⟨n1, n2⟩ := hn
  unfold ofI
  by_cases h1 : m < 0
  · by_cases h2 : n < 0
    · rw [if_pos h1, if_pos h2]
      have := pl_mono k (d := n.natAbs) (d' := m.natAbs) (by omega) (by omega)
      omega
    · rw [if_pos h1, if_neg h2]
      omega
  · by_cases h2 : n < 0
    · omega
    · rw [if_neg h1, if_neg h2]
      have := pl_mono k (d := m.natAbs) (d' := n.natAbs) (by omega) (by omega)
      omega

theorem of_neg (k : Nat) (n : Int) : ofI k (-n) = -ofI k n := by
  unfold ofI
  rw [Int.natAbs_neg]
  by_cases h0 : n = 0
  · subst h0
    rw [show (0 : Int).natAbs = 0 from rfl, pl_zero]
    simp
  · by_cases h1 : n < 0
    · rw [if_pos h1, if_neg (by omega)]
      omega
    · rw [if_neg h1, if_pos (by omega)]

theorem next_low (k : Nat) (hk : k ≤ 4) (a : Int) (ha : Fits k a) (hb : Fits k (a + 1)) : lowI k (a + 1) = highI k a + 1 := by
  obtain ⟨h1, h2⟩ := ha
  obtain ⟨h3, h4⟩ := hb
  unfold lowI highI
  by_cases hA : a < 0
  · by_cases hB : a + 1 < 0
    · rw [if_pos hA, if_pos hB]
      have e : (a + 1).natAbs + 1 = a.natAbs := by omega
      have h5 := nr_top k a.natAbs hk (by omega)
      have h6 := nr_pos k a.natAbs
      rw [e]
      omega
    · rw [if_pos hA, if_neg hB]
      have e : a = -1 := by omega
      subst e
      have z1 := nr_zero k
      have z2 := nr_one k
      have e1 : (-1 + 1 : Int).natAbs = 0 := rfl
      have e2 : (-1 : Int).natAbs = 1 := rfl
      rw [e1, e2, z1, z2]
      rfl
  · rw [if_neg hA, if_neg (by omega)]
    have e : (a + 1).natAbs = a.natAbs + 1 := by omega
    rw [e]
    omega

theorem high_last (k : Nat) (hk : k ≤ 4) : highI k (mst k) = 9223372036854775807 := by
  obtain ⟨_, h1, _, _, _⟩ := hp_top k hk
  unfold highI
  rw [if_neg (by omega), Int.natAbs_natCast, h1]
  rfl

theorem of_last (k : Nat) (hk : k ≤ 4) : ofI k 9223372036854775807 = mst k := by
  unfold ofI
  rw [if_neg (by omega), show (9223372036854775807 : Int).natAbs = 9223372036854775807 from rfl, mst_eq k hk]

theorem of_first (k : Nat) (hk : k ≤ 4) : ofI k (-9223372036854775808) = -(mst k : Int) - 1 := by
  unfold ofI
  rw [if_pos (by omega), show (-9223372036854775808 : Int).natAbs = 9223372036854775808 from rfl, top_eq k hk]
  omega

theorem ends_first (k : Nat) (hk : k ≤ 4) : lowI k (-(mst k : Int) - 1) = -9223372036854775808 ∧ highI k (-(mst k : Int) - 1) = -9223372036854775808 := by
  obtain ⟨_, h1, _, _, _⟩ := hp_top k hk
  have h3 := nr_lt (k := k) (p := mst k + 1) (q := mst k + 2) (by omega)
  have e : (-(mst k : Int) - 1).natAbs = mst k + 1 := by omega
  unfold lowI highI
  rw [if_pos (by omega), if_pos (by omega), e, h1]
  have e2 : mst k + 1 + 1 = mst k + 2 := by omega
  rw [e2]
  omega

/-- the width, against the part of the near end -/
theorem of_wide (k : Nat) (hk : k ≤ 4) (n : Int) (hn : In64 n) : highI k (ofI k n) = lowI k (ofI k n) ∨ highI k (ofI k n) - lowI k (ofI k n) < (((if n < 0 then -highI k (ofI k n) else lowI k (ofI k n)).toNat / 2 ^ k : Nat) : Int) := by
  have hf := of_fits k hk n hn
  obtain ⟨n1, n2⟩ := hn
  have hd : n.natAbs < 18446744073709551616 := by omega
  obtain ⟨p, hpp⟩ : ∃ p, pl k n.natAbs = p := ⟨_, rfl⟩
  have hs := nr_succ k p
  have key : 1 ≤ hp k p → 2 ^ hp k p ≤ nr k p / 2 ^ k := by
    intro h
    rw [Nat.le_div_iff_mul_le (Nat.two_pow_pos _)]
    exact wide_le k p h
  have h0 : hp k p = 0 → 2 ^ hp k p = 1 := fun h => by rw [h]
  obtain ⟨W, hW⟩ : ∃ W, 2 ^ hp k p = W := ⟨_, rfl⟩
  rw [hW] at hs key h0
  obtain ⟨f1, f2⟩ := hf
  by_cases hs' : n < 0
  · have e : ofI k n = -(p : Int) := by unfold ofI; rw [if_pos hs', hpp]
    have hp1 : 1 ≤ p := by rw [← hpp]; exact pl_pos k _ (by omega) hd
    rw [e] at f1 ⊢
    rw [if_pos hs']
    have e1 : (-(p : Int)).natAbs = p := by omega
    unfold lowI highI
    rw [if_pos (by omega), if_pos (by omega), e1]
    have h5 := nr_top k p hk (by omega)
    have e2 : (-(-(nr k p : Int))).toNat = nr k p := by omega
    rw [e2]
    by_cases hz : hp k p = 0
    · have := h0 hz
      omega
    · have := key (by omega)
      omega
  · have e : ofI k n = (p : Int) := by unfold ofI; rw [if_neg hs', hpp]
    rw [e]
    rw [if_neg hs']
    have e1 : ((p : Int)).natAbs = p := by omega
    unfold lowI highI
    rw [if_neg (by omega), if_neg (by omega), e1]
    have e2 : ((nr k p : Int)).toNat = nr k p := by omega
    rw [e2]
    by_cases hz : hp k p = 0
    · have := h0 hz
      omega
    · have := key (by omega)
      omega

theorem of_fine (k : Nat) (m n : Int) (hm : In64 m) (hn : In64 n) (h : ofI (k + 1) m = ofI (k + 1) n) : ofI k m = ofI k n := by
  obtain ⟨m1, m2⟩ := hm
  obtain ⟨n1, n2⟩ := hn
  have hf := pl_fine k m.natAbs n.natAbs (by omega) (by omega)
  have pm : m ≠ 0 → 1 ≤ pl (k + 1) m.natAbs := fun h => pl_pos _ _ (by omega) (by omega)
  have pn : n ≠ 0 → 1 ≤ pl (k + 1) n.natAbs := fun h => pl_pos _ _ (by omega) (by omega)
  unfold ofI at *
  by_cases h1 : m < 0
  · by_cases h2 : n < 0
    · rw [if_pos h1, if_pos h2] at *
      rw [hf (by omega)]
    · rw [if_pos h1, if_neg h2] at h
      have := pm (by omega)
      omega
  · by_cases h2 : n < 0
    · rw [if_neg h1, if_pos h2] at h
      have := pn (by omega)
      omega
    · rw [if_neg h1, if_neg h2] at *
      rw [hf (by omega)]

theorem of_small (k : Nat) (n : Nat) (hn : n < 2 ^ (k + 1)) (hn' : n < 18446744073709551616) : ofI k (n : Int) = (n : Int) := by
  unfold ofI
  rw [if_neg (by omega), Int.natAbs_natCast, small_eq k n hn hn']
end Go.Proofs.YtmjipafhahggpaaDoor.Hi

namespace Go.Proofs.YtmjipafhahggpaaDoor.Hi
open Go Go.RowKit

theorem below_drewN (B : Nat) (w : World) (n : Nat) : Below B w (w.drewN n) := ⟨rfl, rfl, rfl, Nat.le_refl _, fun _ _ => rfl⟩
theorem hv_le (k d : Nat) (hd : d ≤ 9223372036854775808) : hv k d ≤ 63 := by
  have hl : Lib.bitLen d ≤ 64 := Lib.bitLen_le d 64 (by omega) (by omega)
  unfold hv
  omega

set_option maxRecDepth 100000 in
set_option maxHeartbeats 4000000 in
theorem place_any (k d : Nat) (hk : k ≤ 4) (hd : d ≤ 9223372036854775808) (w : World) :
    Calls Tryd.prog 54 #[.int .i64 k, .int .u64 d] w fun e w' => e = .returned (.int .i64 (pl k d)) ∧ Below w.heap.size w w' := by
  have hlen := Tryd.bits_Len64 (d : Int) w (by omega) (by omega)
  have hl : Lib.bitLen d ≤ 64 := Lib.bitLen_le d 64 (by omega) (by omega)
  have hmax : max (0 : Int) ((Lib.bitLen d : Int) - 1 - (k : Int)) = (hv k d : Int) := by unfold hv; omega
  have hh := hv_le k d hd
  obtain ⟨m, hm⟩ : ∃ m, d / 2 ^ hv k d = m := ⟨_, rfl⟩
  obtain ⟨A, hA⟩ : ∃ A, hv k d * 2 ^ k = A := ⟨_, rfl⟩
  have hpl : A + m = pl k d := by rw [← hA, ← hm]; rfl
  have hpl2 : (A : Int) + (m : Int) = (pl k d : Int) := by omega
  have htop := pl_top k d hk hd
  have hsm := (hp_top k hk).2.2.2.2
  have e1 : (hv k d : Int) * 2 ^ k = (A : Int) := by rw [← hA]; push_cast; rfl
  have e2 : (d : Int) / 2 ^ hv k d = (m : Int) := by rw [← hm]; push_cast; rfl
  have hA9 : A ≤ 1000 := by omega
  have hm9 : m ≤ 1000 := by omega
  have hp9 : pl k d ≤ 1000 := by omega
  have htn : ((d : Int)).toNat = d := rfl
  rw [htn] at hlen
  generalize Lib.bitLen d = L at *
  generalize pl k d = P at *
  generalize hv k d = h at *
  clear hm hA hpl htop hsm
  go_enter Tryd.func54, Tryd.ntmps54
  go_wp2_with fail
  refine hlen.mono ?_
  rintro e w1 ⟨rfl, rfl⟩
  go_wp2
  go_quiet (fail)
  go_wp2
  go_ret
  exact ⟨rfl, below_drewN _ _ _⟩

set_option maxRecDepth 100000 in
set_option maxHeartbeats 4000000 in
theorem ends_any (k p : Nat) (hk : k ≤ 4) (hp' : p ≤ mst k + 1) (w : World) :
    Calls Tryd.prog 93 #[.int .i64 k, .int .i64 p] w fun e w' => e = .returned (.tuple #[.int .u64 (nr k p), .int .u64 (nr k (p + 1) - 1 : Nat)]) ∧ Below w.heap.size w w' := by
  obtain ⟨hn1, hn2⟩ := nr_top k p hk hp'
  have hsm := (hp_top k hk)
  have hs := nr_succ k p
  have hpos := Nat.two_pow_pos (hp k p)
  have hle : hp k p * 2 ^ k ≤ p := Nat.le_trans (Nat.mul_le_mul_right _ (Nat.sub_le _ _)) (Nat.div_mul_le_self p _)
  have hh : hp k p ≤ 63 := by
    have : p / 2 ^ k ≤ (mst k + 1) / 2 ^ k := Nat.div_le_div_right hp'
    have h0 := hsm.1
    unfold hp at *
    omega
  obtain ⟨q, hq⟩ : ∃ q, p / 2 ^ k = q := ⟨_, rfl⟩
  have hmax : max (0 : Int) ((q : Int) - 1) = (hp k p : Int) := by unfold hp; omega
  obtain ⟨A, hA⟩ : ∃ A, hp k p * 2 ^ k = A := ⟨_, rfl⟩
  obtain ⟨m, hm⟩ : ∃ m, p - A = m := ⟨_, rfl⟩
  obtain ⟨W, hW⟩ : ∃ W, 2 ^ hp k p = W := ⟨_, rfl⟩
  have hs2 : nr k (p + 1) = nr k p + W := by rw [hs, hW]
  rw [hs2] at hn2
  rw [hs2]
  rw [hW] at hpos
  have hW9 : W ≤ 9223372036854775808 := hW ▸ Nat.pow_le_pow_right (by omega) hh
  have hnr : m * 2 ^ hp k p = nr k p := by rw [← hm, ← hA]; rfl
  have hsm' := hsm.2.2.2.2
  have hq9 : q ≤ 1000 := by have := Nat.div_le_self p (2 ^ k); omega
  have hp9 : p ≤ 1000 := by omega
  rw [hA] at hle
  have hm2 : (p : Int) - (A : Int) = (m : Int) := by omega
  have hm9 : m ≤ 1000 := by omega
  have e0 : (p : Int) / 2 ^ k = (q : Int) := by rw [← hq]; push_cast; rfl
  have e1 : (hp k p : Int) * 2 ^ k = (A : Int) := by rw [← hA]; push_cast; rfl
  have e2 : (m : Int) * (W : Int) = (nr k p : Int) := by rw [← hnr, ← hW]; push_cast; rfl
  have e3 : (2 : Int) ^ hp k p = (W : Int) := by rw [← hW]; push_cast; rfl
  have r0 : IntKind.u64.wrap (W : Int) = (W : Int) := IntWalk.u64_in _ (by omega)
  have r1 : IntKind.u64.wrap (nr k p : Int) = (nr k p : Int) := IntWalk.u64_in _ (by omega)
  have r2 : IntKind.u64.wrap (IntKind.u64.wrap ((nr k p : Int) + (W : Int)) - 1) = ((nr k p + W - 1 : Nat) : Int) := by rw [IntKind.wrap_u64, IntKind.wrap_u64]; omega
  have hA9 : A ≤ 1000 := by omega
  generalize hp k p = h at *
  generalize nr k p = N0 at *
  clear hq hA hm hW hnr hsm hsm' hp' hs hs2
  go_enter Tryd.func93, Tryd.ntmps93
  go_wp2
  go_quiet (fail)
  go_wp2
  go_ret2
  exact ⟨rfl, below_drewN _ _ _⟩

set_option maxRecDepth 100000 in
set_option maxHeartbeats 4000000 in
theorem of_out (b : Int) (h : b < 0 ∨ 4 < b) (n : Int) (w : World) :
    Calls Tryd.prog 36 #[.int .i64 b, .int .i64 n] w fun e w' => e = .returned (.tuple #[.int .i64 0, .bool false]) ∧ Below w.heap.size w w' := by
  by_cases h0 : b < 0
  · have h1 : ¬ 0 ≤ b := by omega
    clear h
    go_enter Tryd.func36, Tryd.ntmps36
    go_wp2
    go_ret2
    exact ⟨rfl, (Below.refl _ _).alloc (Nat.le_refl _) _⟩
  · have h1 : 0 ≤ b := by omega
    have h2 : ¬ b ≤ 4 := by omega
    clear h
    go_enter Tryd.func36, Tryd.ntmps36
    go_wp2
    go_ret2
    exact ⟨rfl, (Below.refl _ _).alloc (Nat.le_refl _) _⟩

set_option maxRecDepth 100000 in
set_option maxHeartbeats 4000000 in
theorem of_any (k : Nat) (hk : k ≤ 4) (n : Int) (hn : In64 n) (w : World) :
    Calls Tryd.prog 36 #[.int .i64 k, .int .i64 n] w fun e w' => e = .returned (.tuple #[.int .i64 (ofI k n), .bool true]) ∧ Below w.heap.size w w' := by
  obtain ⟨n1, n2⟩ := hn
  have hf := fits_small k hk (ofI k n) (of_fits k hk n ⟨n1, n2⟩)
  have hb0 : (0 : Int) ≤ (k : Int) := by omega
  have hb4 : (k : Int) ≤ 4 := by omega
  by_cases hs : n < 0
  · obtain ⟨d, hd⟩ : ∃ d : Nat, n.natAbs = d := ⟨_, rfl⟩
    have e1 : IntKind.u64.wrap (-IntKind.u64.wrap n) = (d : Int) := by rw [IntKind.wrap_u64, IntKind.wrap_u64]; omega
    have e2 : ofI k n = -(pl k d : Int) := by unfold ofI; rw [if_pos hs, hd]
    have hp9 : pl k d ≤ 1000 := by omega
    have hpl := place_any k d hk (by omega)
    rw [e2]
    generalize pl k d = P at *
    clear hf e2
    go_enter Tryd.func36, Tryd.ntmps36
    go_wp2_with (first | (go_at_call 54; refine (hpl _).mono ?_; rintro e w1 ⟨rfl, hB⟩) | go_in)
    go_wp2
    go_ret2
    exact ⟨rfl, ((Below.refl _ _).alloc (Nat.le_refl _) _).trans (hB.mono (by simp))⟩
  · obtain ⟨d, rfl⟩ : ∃ d : Nat, n = d := ⟨n.toNat, by omega⟩
    have e1 : IntKind.u64.wrap (d : Int) = (d : Int) := IntWalk.u64_in _ (by omega)
    have e2 : ofI k d = (pl k d : Int) := by unfold ofI; rw [if_neg hs, Int.natAbs_natCast]
    have hpl := place_any k d hk (by omega)
    rw [e2]
    have hs' : ¬ (d : Int) < 0 := hs
    clear hf e2
    go_enter Tryd.func36, Tryd.ntmps36
    go_wp2_with (first | (go_at_call 54; refine (hpl _).mono ?_; rintro e w1 ⟨rfl, hB⟩) | go_in)
    go_wp2
    go_ret2
    exact ⟨rfl, ((Below.refl _ _).alloc (Nat.le_refl _) _).trans (hB.mono (by simp))⟩
end Go.Proofs.YtmjipafhahggpaaDoor.Hi

namespace Go.Proofs.YtmjipafhahggpaaDoor.Hi
open Go Go.RowKit

set_option maxRecDepth 100000 in
set_option maxHeartbeats 4000000 in
theorem most_out (b : Int) (h : b < 0 ∨ 4 < b) (w : World) :
    Calls Tryd.prog 52 #[.int .i64 b] w fun e w' => e = .returned (.int .i64 (-1)) ∧ Below w.heap.size w w' := by
  have ho := of_out b h
  clear h
  go_enter Tryd.func52, Tryd.ntmps52
  go_wp2_with fail
  refine (ho _ _).mono ?_
  rintro e w1 ⟨rfl, hB⟩
  go_wp2
  go_ret
  exact ⟨rfl, hB⟩

set_option maxRecDepth 100000 in
set_option maxHeartbeats 4000000 in
theorem most_any (k : Nat) (hk : k ≤ 4) (w : World) :
    Calls Tryd.prog 52 #[.int .i64 k] w fun e w' => e = .returned (.int .i64 (mst k)) ∧ Below w.heap.size w w' := by
  have ho := of_any k hk 9223372036854775807 (by constructor <;> decide)
  rw [of_last k hk] at ho
  clear hk
  go_enter Tryd.func52, Tryd.ntmps52
  go_wp2_with fail
  refine (ho _).mono ?_
  rintro e w1 ⟨rfl, hB⟩
  go_wp2
  go_ret
  exact ⟨rfl, hB⟩

set_option maxRecDepth 100000 in
set_option maxHeartbeats 4000000 in
theorem bounds_bits (k : Int) (h : k < 0 ∨ 4 < k) (a : Int) (w : World) :
    Calls Tryd.prog 81 #[.int .i64 k, .int .i64 a] w fun e w' => e = .returned (.tuple #[.int .i64 0, .int .i64 0, .bool false]) ∧ Below w.heap.size w w' := by
  have ho := of_out k h
  clear h
  go_enter Tryd.func81, Tryd.ntmps81
  go_wp2_with fail
  refine (ho _ _).mono ?_
  rintro e w1 ⟨rfl, hB1⟩
  go_wp2
  go_ret3
  exact ⟨rfl, hB1⟩

set_option maxRecDepth 100000 in
set_option maxHeartbeats 4000000 in
theorem bounds_no (k : Nat) (hk : k ≤ 4) (a : Int) (hn : ¬ Fits k a) (w : World) :
    Calls Tryd.prog 81 #[.int .i64 k, .int .i64 a] w fun e w' => e = .returned (.tuple #[.int .i64 0, .int .i64 0, .bool false]) ∧ Below w.heap.size w w' := by
  have ho := of_any k hk (-9223372036854775808) (by constructor <;> decide)
  rw [of_first k hk] at ho
  have hm := most_any k hk
  obtain ⟨_, _, _, _, h9⟩ := hp_top k hk
  unfold Fits at hn
  generalize mst k = M at *
  obtain ⟨F, hF⟩ : ∃ F : Int, -(M : Int) - 1 = F := ⟨_, rfl⟩
  rw [hF] at hn ho
  clear hk
  by_cases h1 : a < F
  · clear hn hF
    go_enter Tryd.func81, Tryd.ntmps81
    go_wp2_with fail
    refine (ho _).mono ?_
    rintro e w1 ⟨rfl, hB1⟩
    go_wp2
    go_ret3
    exact ⟨rfl, hB1⟩
  · have h2 : (M : Int) < a := by omega
    clear hn hF
    go_enter Tryd.func81, Tryd.ntmps81
    go_wp2_with fail
    refine (ho _).mono ?_
    rintro e w1 ⟨rfl, hB1⟩
    go_wp2_with fail
    refine (hm _).mono ?_
    rintro e w2 ⟨rfl, hB2⟩
    go_wp2
    go_ret3
    exact ⟨rfl, hB1.trans (hB2.mono hB1.size)⟩

set_option maxRecDepth 100000 in
set_option maxHeartbeats 4000000 in
theorem bounds_any (k : Nat) (hk : k ≤ 4) (a : Int) (hf : Fits k a) (w : World) :
    Calls Tryd.prog 81 #[.int .i64 k, .int .i64 a] w fun e w' => e = .returned (.tuple #[.int .i64 (lowI k a), .int .i64 (highI k a), .bool true]) ∧ Below w.heap.size w w' := by
  have ho := of_any k hk (-9223372036854775808) (by constructor <;> decide)
  rw [of_first k hk] at ho
  have hm := most_any k hk
  obtain ⟨_, _, _, _, h9⟩ := hp_top k hk
  have hf' := hf
  obtain ⟨f1, f2⟩ := hf'
  have hen := ends_any k a.natAbs hk (by omega)
  have hnt := nr_top k a.natAbs hk (by omega)
  have hnp := nr_pos k a.natAbs
  have hns := nr_lt (k := k) (p := a.natAbs) (q := a.natAbs + 1) (by omega)
  by_cases hs : a < 0
  · have e1 : lowI k a = -((min (nr k (a.natAbs + 1) - 1) 9223372036854775808 : Nat) : Int) := by unfold lowI; rw [if_pos hs]
    have e2 : highI k a = -(nr k a.natAbs : Int) := by unfold highI; rw [if_pos hs]
    rw [e1, e2]
    obtain ⟨p, hp⟩ : ∃ p, a.natAbs = p := ⟨_, rfl⟩
    have hap : a = -(p : Int) := by omega
    rw [hp] at hen hnt hnp hns ⊢
    obtain ⟨U, hU⟩ : ∃ U, nr k (p + 1) - 1 = U := ⟨_, rfl⟩
    have hU2 : U ≤ 18446744073709551615 := by omega
    rw [hU] at hen ⊢
    obtain ⟨X, hX⟩ : ∃ X, min U 9223372036854775808 = X := ⟨_, rfl⟩
    have hX2 : min (U : Int) 9223372036854775808 = (X : Int) := by omega
    have hX9 : X ≤ 9223372036854775808 := by omega
    rw [hX]
    clear hns hnp hU hX
    generalize nr k p = N at *
    generalize mst k = M at *
    have r1 : IntKind.i64.wrap (IntKind.u64.wrap (-(X : Int))) = -(X : Int) := by rw [IntKind.wrap_u64, IntKind.wrap_i64]; omega
    have r2 : IntKind.i64.wrap (IntKind.u64.wrap (-(N : Int))) = -(N : Int) := by rw [IntKind.wrap_u64, IntKind.wrap_i64]; omega
    have hap2 : -a = (p : Int) := by omega
    have hp9 : p ≤ 1000 := by omega
    have g1 : ¬ a < -(M : Int) - 1 := by omega
    have g2 : ¬ (M : Int) < a := by omega
    clear hf hp hap e1 e2 hk f1 f2
    go_enter Tryd.func81, Tryd.ntmps81
    go_wp2_with fail
    refine (ho _).mono ?_
    rintro e w1 ⟨rfl, hB1⟩
    go_wp2_with fail
    refine (hm _).mono ?_
    rintro e w2 ⟨rfl, hB2⟩
    go_wp2_with fail
    refine (hen _).mono ?_
    rintro e w3 ⟨rfl, hB3⟩
    go_wp2
    go_ret3
    exact ⟨rfl, (hB1.trans (hB2.mono hB1.size)).trans (hB3.mono (Nat.le_trans hB1.size hB2.size))⟩
  · have e1 : lowI k a = (nr k a.natAbs : Int) := by unfold lowI; rw [if_neg hs]
    have e2 : highI k a = (nr k (a.natAbs + 1) : Int) - 1 := by unfold highI; rw [if_neg hs]
    rw [e1, e2]
    have hnt2 := nr_top' k a.natAbs hk (by omega)
    obtain ⟨p, rfl⟩ : ∃ p : Nat, a = p := ⟨a.toNat, by omega⟩
    rw [Int.natAbs_natCast] at *
    obtain ⟨U, hU⟩ : ∃ U, nr k (p + 1) - 1 = U := ⟨_, rfl⟩
    have hU2 : U ≤ 9223372036854775807 := by omega
    have hU3 : (nr k (p + 1) : Int) - 1 = (U : Int) := by omega
    rw [hU] at hen
    rw [hU3]
    have hN : nr k p ≤ 9223372036854775807 := by omega
    clear hns hnp hU hnt hnt2 hU3
    generalize nr k p = N at *
    generalize mst k = M at *
    have r1 : IntKind.i64.wrap (U : Int) = (U : Int) := IntWalk.i64_in _ (by omega)
    have r2 : IntKind.i64.wrap (N : Int) = (N : Int) := IntWalk.i64_in _ (by omega)
    have g1 : ¬ (p : Int) < -(M : Int) - 1 := by omega
    have g2 : ¬ (M : Int) < (p : Int) := by omega
    have hs' : ¬ (p : Int) < 0 := hs
    clear hf e1 e2 hk f1 f2
    go_enter Tryd.func81, Tryd.ntmps81
    go_wp2_with fail
    refine (ho _).mono ?_
    rintro e w1 ⟨rfl, hB1⟩
    go_wp2_with fail
    refine (hm _).mono ?_
    rintro e w2 ⟨rfl, hB2⟩
    go_wp2_with fail
    refine (hen _).mono ?_
    rintro e w3 ⟨rfl, hB3⟩
    go_wp2
    go_ret3
    exact ⟨rfl, (hB1.trans (hB2.mono hB1.size)).trans (hB3.mono (Nat.le_trans hB1.size hB2.size))⟩
theorem below_on {B : Nat} {w w' w'' : World} (h : Below B w w') (h' : Below w'.heap.size w' w'') (hB : B ≤ w.heap.size) : Below B w w'' := h.trans (h'.mono (Nat.le_trans hB h.size))

end Go.Proofs.YtmjipafhahggpaaDoor.Hi

