/- The numbers of buckets: how often a distance is halved, its place, and how far a place's near end is. -/
import Derived.Lib.ItoaNum
namespace Go.Proofs.Ytklklpccpbhfgaa
open Go

def hv (k d : Nat) : Nat := Lib.bitLen d - (1 + k)
def pl (k d : Nat) : Nat := hv k d * 2 ^ k + d / 2 ^ hv k d
def hp (k p : Nat) : Nat := p / 2 ^ k - 1
def nr (k p : Nat) : Nat := (p - hp k p * 2 ^ k) * 2 ^ hp k p

theorem hv_spec (k d : Nat) (hd : d < 18446744073709551616) : d / 2 ^ hv k d < 2 ^ (k + 1) ∧ (hv k d ≠ 0 → 2 ^ k ≤ d / 2 ^ hv k d) := by
  by_cases h0 : d = 0
  · subst h0
    simp [hv, Lib.bitLen, Lib.bitLenAux_zero, Nat.two_pow_pos]
  · obtain ⟨h1, h2, h3⟩ := Lib.bitLenAux_bounds 64 d (by simpa using hd) h0
    have hb : Lib.bitLen d = Lib.bitLenAux 64 d := rfl
    unfold hv
    rw [hb]
    generalize Lib.bitLenAux 64 d = b at *
    by_cases hk : b ≤ 1 + k
    · have : b - (1 + k) = 0 := by omega
      rw [this]
      refine ⟨?_, fun h => absurd rfl h⟩
      rw [Nat.pow_zero, Nat.div_one]
      exact Nat.lt_of_lt_of_le h3 (Nat.pow_le_pow_right (by omega) (by omega))
    · obtain ⟨e, he⟩ : ∃ e, b = e + (k + 1) := ⟨b - (k + 1), by omega⟩
      have : b - (1 + k) = e := by omega
      rw [this]
      subst he
      constructor
      · rw [Nat.div_lt_iff_lt_mul (Nat.two_pow_pos e), ← Nat.pow_add, Nat.add_comm]
        exact h3
      · intro _
        rw [Nat.le_div_iff_mul_le (Nat.two_pow_pos e), ← Nat.pow_add, Nat.add_comm]
        exact h2

theorem hp_pl (k d : Nat) (hd : d < 18446744073709551616) : hp k (pl k d) = hv k d := by
  obtain ⟨h1, h2⟩ := hv_spec k d hd
  have hk := Nat.two_pow_pos k
  unfold hp pl
  rw [Nat.mul_comm, Nat.mul_add_div hk]
  generalize d / 2 ^ hv k d = m at *
  rw [Nat.pow_succ] at h1
  by_cases h0 : hv k d = 0
  · rw [h0]
    have : m / 2 ^ k < 2 := by rw [Nat.div_lt_iff_lt_mul hk]; omega
    omega
  · have h3 := h2 h0
    have : m / 2 ^ k = 1 := by
      have a : m / 2 ^ k < 2 := by rw [Nat.div_lt_iff_lt_mul hk]; omega
      have b : 1 ≤ m / 2 ^ k := by rw [Nat.le_div_iff_mul_le hk]; omega
      omega
    omega

theorem nr_pl (k d : Nat) (hd : d < 18446744073709551616) : nr k (pl k d) = d / 2 ^ hv k d * 2 ^ hv k d := by
  unfold nr
  rw [hp_pl k d hd]
  unfold pl
  rw [Nat.add_sub_cancel_left]

theorem nr_succ (k p : Nat) : nr k (p + 1) = nr k p + 2 ^ hp k p := by
  have hk := Nat.two_pow_pos k
  unfold nr
  obtain ⟨q, r, hq, hr⟩ : ∃ q r, p = 2 ^ k * q + r ∧ r < 2 ^ k := ⟨p / 2 ^ k, p % 2 ^ k, (Nat.div_add_mod p (2 ^ k)).symm, Nat.mod_lt _ hk⟩
  have e0 : p / 2 ^ k = q := by rw [hq, Nat.mul_add_div hk, Nat.div_eq_of_lt hr]; rfl
  have h0 : hp k p = q - 1 := by unfold hp; rw [e0]
  rw [h0]
  by_cases hl : r + 1 < 2 ^ k
  · have e1 : (p + 1) / 2 ^ k = q := by rw [hq, Nat.add_assoc, Nat.mul_add_div hk, Nat.div_eq_of_lt hl]; rfl
    have h1 : hp k (p + 1) = q - 1 := by unfold hp; rw [e1]
    rw [h1]
    have hle : (q - 1) * 2 ^ k ≤ p := by
      rw [hq, Nat.mul_comm]
      exact Nat.le_trans (Nat.mul_le_mul_left _ (by omega)) (Nat.le_add_right _ _)
    rw [Nat.sub_add_comm hle, Nat.add_mul, Nat.one_mul]
  · have hr1 : r + 1 = 2 ^ k := by omega
    have e2 : p + 1 = 2 ^ k * (q + 1) := by rw [hq, Nat.mul_add, Nat.mul_one]; omega
    have e1 : (p + 1) / 2 ^ k = q + 1 := by rw [e2, Nat.mul_div_cancel_left _ hk]
    have h1 : hp k (p + 1) = q := by unfold hp; rw [e1]; rfl
    rw [h1, e2]
    cases q with
    | zero =>
      simp at *
      omega
    | succ s =>
      have hs : s + 1 - 1 = s := rfl
      rw [hs]
      have a1 : 2 ^ k * (s + 1 + 1) - (s + 1) * 2 ^ k = 2 ^ k := by
        rw [Nat.mul_comm (s + 1), ← Nat.mul_sub]
        have : s + 1 + 1 - (s + 1) = 1 := by omega
        rw [this, Nat.mul_one]
      have a2 : p - s * 2 ^ k + 1 = 2 * 2 ^ k := by
        rw [hq, Nat.mul_comm s]
        rw [Nat.mul_add, Nat.mul_one]
        generalize 2 ^ k * s = z
        omega
      rw [a1]
      have a3 : (p - s * 2 ^ k) * 2 ^ s + 2 ^ s = (p - s * 2 ^ k + 1) * 2 ^ s := by rw [Nat.add_mul, Nat.one_mul]
      rw [a3, a2, Nat.pow_succ, Nat.mul_comm 2 (2 ^ k), Nat.mul_assoc, Nat.mul_comm 2 (2 ^ s)]

theorem nr_zero (k : Nat) : nr k 0 = 0 := by simp [nr]
theorem hp_zero (k : Nat) : hp k 0 = 0 := by simp [hp]
theorem nr_one (k : Nat) : nr k 1 = 1 := by rw [nr_succ, nr_zero, hp_zero]

theorem nr_add_le (k p : Nat) : ∀ n, nr k p + n ≤ nr k (p + n)
  | 0 => Nat.le_refl _
  | n + 1 => by
    have h1 := nr_add_le k p n
    have h2 := nr_succ k (p + n)
    have h3 := Nat.two_pow_pos (hp k (p + n))
    have e : p + (n + 1) = p + n + 1 := by omega
    rw [e]
    omega

theorem nr_lt {k p q : Nat} (h : p < q) : nr k p < nr k q := by
  obtain ⟨n, rfl⟩ : ∃ n, q = p + (n + 1) := ⟨q - p - 1, by omega⟩
  have := nr_add_le k p (n + 1)
  omega

theorem nr_le {k p q : Nat} (h : p ≤ q) : nr k p ≤ nr k q := by
  rcases Nat.lt_or_eq_of_le h with h | rfl
  · exact Nat.le_of_lt (nr_lt h)
  · exact Nat.le_refl _

theorem nr_of_lt {k p q : Nat} (h : nr k p < nr k q) : p < q := by
  rcases Nat.lt_or_ge p q with h1 | h1
  · exact h1
  · have := nr_le (k := k) h1
    omega

theorem in_pl (k d : Nat) (hd : d < 18446744073709551616) : nr k (pl k d) ≤ d ∧ d < nr k (pl k d + 1) := by
  rw [nr_succ, hp_pl k d hd, nr_pl k d hd]
  constructor
  · exact Nat.div_mul_le_self d _
  · have h1 := Nat.div_add_mod d (2 ^ hv k d)
    have h2 := Nat.mod_lt d (Nat.two_pow_pos (hv k d))
    rw [Nat.mul_comm] at h1
    omega

theorem pl_iff (k d p : Nat) (hd : d < 18446744073709551616) : pl k d = p ↔ nr k p ≤ d ∧ d < nr k (p + 1) := by
  obtain ⟨h1, h2⟩ := in_pl k d hd
  constructor
  · rintro rfl
    exact ⟨h1, h2⟩
  · rintro ⟨h3, h4⟩
    have a := nr_of_lt (Nat.lt_of_le_of_lt h1 h4)
    have b := nr_of_lt (Nat.lt_of_le_of_lt h3 h2)
    omega

theorem pl_mono (k : Nat) {d d' : Nat} (h : d ≤ d') (hd : d' < 18446744073709551616) : pl k d ≤ pl k d' := by
  obtain ⟨h1, h2⟩ := in_pl k d (by omega)
  obtain ⟨h3, h4⟩ := in_pl k d' hd
  have := nr_of_lt (k := k) (p := pl k d) (q := pl k d' + 1) (by omega)
  omega

theorem pl_zero (k : Nat) : pl k 0 = 0 := by
  rw [pl_iff k 0 0 (by omega), nr_zero, nr_one]
  omega

theorem pl_pos (k d : Nat) (h : 1 ≤ d) (hd : d < 18446744073709551616) : 1 ≤ pl k d := by
  have h1 : pl k d ≠ 0 := by
    rw [Ne, pl_iff k d 0 hd, nr_zero, nr_one]
    omega
  omega

theorem hv_pos (k d : Nat) : hv k d = hv (k + 1) d + 1 ∨ (hv k d = 0 ∧ hv (k + 1) d = 0) := by
  unfold hv
  omega

theorem pl_fine (k d d' : Nat) (hd : d < 18446744073709551616) (hd' : d' < 18446744073709551616) (h : pl (k + 1) d = pl (k + 1) d') : pl k d = pl k d' := by
  have e1 := hp_pl (k + 1) d hd
  rw [h, hp_pl (k + 1) d' hd'] at e1
  have e2 := h
  unfold pl at e2
  rw [e1] at e2
  have e3 := Nat.add_left_cancel e2
  by_cases h0 : hv (k + 1) d = 0
  · rw [h0] at e3
    simp at e3
    rw [e3]
  · have a : hv k d = hv (k + 1) d + 1 := by rcases hv_pos k d with h | h <;> omega
    have b : hv k d' = hv (k + 1) d' + 1 := by rcases hv_pos k d' with h | h <;> omega
    unfold pl
    rw [a, b, e1, Nat.pow_succ, ← Nat.div_div_eq_div_mul, ← Nat.div_div_eq_div_mul, e3]

/-- a bucket is one number wide, or as wide as the part of its near end -/
theorem wide_le (k p : Nat) (hk : 1 ≤ hp k p) : 2 ^ hp k p * 2 ^ k ≤ nr k p := by
  unfold nr
  rw [Nat.mul_comm]
  apply Nat.mul_le_mul_right
  have h := Nat.div_mul_le_self p (2 ^ k)
  have e : p / 2 ^ k = hp k p + 1 := by unfold hp at *; omega
  rw [e, Nat.add_mul, Nat.one_mul] at h
  omega

/-- the place of the greatest number -/
def mst (k : Nat) : Nat := (64 - k) * 2 ^ k - 1

theorem hp_top (k : Nat) (hk : k ≤ 4) : hp k (mst k + 1) = 63 - k ∧ nr k (mst k + 1) = 9223372036854775808 ∧ nr k (mst k) < 9223372036854775808 ∧ nr k (mst k + 2) ≤ 18446744073709551616 ∧ mst k + 2 ≤ 1000 := by
  match k, hk with
  | 0, _ => decide
  | 1, _ => decide
  | 2, _ => decide
  | 3, _ => decide
  | 4, _ => decide

theorem mst_eq (k : Nat) (hk : k ≤ 4) : pl k 9223372036854775807 = mst k := by
  obtain ⟨_, h1, h2, _⟩ := hp_top k hk
  rw [pl_iff _ _ _ (by omega)]
  omega

theorem top_eq (k : Nat) (hk : k ≤ 4) : pl k 9223372036854775808 = mst k + 1 := by
  obtain ⟨_, h1, h2, h3, _⟩ := hp_top k hk
  rw [pl_iff _ _ _ (by omega)]
  have := nr_lt (k := k) (p := mst k + 1) (q := mst k + 2) (by omega)
  rw [h1] at this
  exact ⟨by omega, this⟩

theorem small_eq (k d : Nat) (hd : d < 2 ^ (k + 1)) (hd' : d < 18446744073709551616) : pl k d = d := by
  obtain ⟨_, h2⟩ := hv_spec k d hd'
  have h0 : hv k d = 0 := by
    by_cases h : hv k d = 0
    · exact h
    · exfalso
      have h3 := h2 h
      rw [Nat.le_div_iff_mul_le (Nat.two_pow_pos _)] at h3
      have h4 : 2 ^ k * 2 ^ 1 ≤ 2 ^ k * 2 ^ hv k d := Nat.mul_le_mul_left _ (Nat.pow_le_pow_right (by omega) (by omega))
      rw [Nat.pow_succ] at hd
      omega
  unfold pl
  rw [h0]
  simp

/-- a text's own loop: from below, the first halving that brings it under 2^(k+1) -/
theorem hv_first (k d e : Nat) (hd : d < 18446744073709551616) (h1 : d / 2 ^ e < 2 ^ (k + 1)) (h2 : ∀ j, j < e → 2 ^ (k + 1) ≤ d / 2 ^ j) : hv k d = e := by
  obtain ⟨a, b⟩ := hv_spec k d hd
  rcases Nat.lt_trichotomy (hv k d) e with h | h | h
  · have := h2 _ h
    omega
  · exact h
  · exfalso
    have h3 := b (by omega)
    rw [Nat.le_div_iff_mul_le (Nat.two_pow_pos _)] at h3
    rw [Nat.div_lt_iff_lt_mul (Nat.two_pow_pos _)] at h1
    have h4 : 2 ^ (k + 1) * 2 ^ e ≤ 2 ^ k * 2 ^ hv k d := by
      rw [← Nat.pow_add, ← Nat.pow_add]
      exact Nat.pow_le_pow_right (by omega) (by omega)
    omega
end Go.Proofs.Ytklklpccpbhfgaa
