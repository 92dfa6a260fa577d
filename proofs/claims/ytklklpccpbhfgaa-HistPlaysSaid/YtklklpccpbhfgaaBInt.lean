/- Buckets on both sides of 0: the bucket of a number, its least and its greatest number, and what holds of them. -/
import Derived.Test.YtklklpccpbhfgaaBMath
namespace Go.Proofs.Ytklklpccpbhfgaa
open Go

def In64 (n : Int) : Prop := -9223372036854775808 ≤ n ∧ n ≤ 9223372036854775807
def ofI (k : Nat) (n : Int) : Int := if n < 0 then -(pl k n.natAbs : Int) else (pl k n.natAbs : Int)
def lowI (k : Nat) (a : Int) : Int := if a < 0 then -((min (nr k (a.natAbs + 1) - 1) 9223372036854775808 : Nat) : Int) else (nr k a.natAbs : Int)
def highI (k : Nat) (a : Int) : Int := if a < 0 then -(nr k a.natAbs : Int) else (nr k (a.natAbs + 1) : Int) - 1
def Fits (k : Nat) (a : Int) : Prop := -(mst k : Int) - 1 ≤ a ∧ a ≤ mst k

theorem pl_top (k d : Nat) (hk : k ≤ 4) (hd : d ≤ 9223372036854775808) : pl k d ≤ mst k + 1 := by
  rw [← top_eq k hk]
  exact pl_mono k hd (by omega)

theorem pl_top' (k d : Nat) (hk : k ≤ 4) (hd : d ≤ 9223372036854775807) : pl k d ≤ mst k := by
  rw [← mst_eq k hk]
  exact pl_mono k hd (by omega)

theorem nr_top (k p : Nat) (hk : k ≤ 4) (hp : p ≤ mst k + 1) : nr k p ≤ 9223372036854775808 ∧ nr k (p + 1) ≤ 18446744073709551616 := by
  obtain ⟨_, h1, h2, h3, _⟩ := hp_top k hk
  have a := nr_le (k := k) hp
  have b := nr_le (k := k) (p := p + 1) (q := mst k + 2) (by omega)
  omega

theorem nr_top' (k p : Nat) (hk : k ≤ 4) (hp : p ≤ mst k) : nr k p ≤ 9223372036854775807 ∧ nr k (p + 1) ≤ 9223372036854775808 := by
  obtain ⟨_, h1, h2, h3, _⟩ := hp_top k hk
  have a := nr_le (k := k) hp
  have b := nr_le (k := k) (p := p + 1) (q := mst k + 1) (by omega)
  omega

theorem nr_pos (k p : Nat) : p ≤ nr k p := by
  have := nr_add_le k 0 p
  rw [Nat.zero_add] at this
  omega

theorem of_fits (k : Nat) (hk : k ≤ 4) (n : Int) (hn : In64 n) : Fits k (ofI k n) := by
  unfold Fits ofI
  obtain ⟨h1, h2⟩ := hn
  split
  · have := pl_top k n.natAbs hk (by omega)
    omega
  · have := pl_top' k n.natAbs hk (by omega)
    omega

theorem fits_small (k : Nat) (hk : k ≤ 4) (a : Int) (ha : Fits k a) : -1000 ≤ a ∧ a ≤ 1000 := by
  obtain ⟨_, _, _, _, h⟩ := hp_top k hk
  obtain ⟨h1, h2⟩ := ha
  omega

theorem low_in (k : Nat) (hk : k ≤ 4) (a : Int) (ha : Fits k a) : In64 (lowI k a) ∧ In64 (highI k a) ∧ lowI k a ≤ highI k a := by
  obtain ⟨h1, h2⟩ := ha
  unfold In64 lowI highI
  have h3 := nr_lt (k := k) (p := a.natAbs) (q := a.natAbs + 1) (by omega)
  split
  · have h4 := nr_top k a.natAbs hk (by omega)
    have h5 := nr_pos k a.natAbs
    omega
  · have h4 := nr_top' k a.natAbs hk (by omega)
    omega

theorem of_iff (k : Nat) (hk : k ≤ 4) (n : Int) (hn : In64 n) (a : Int) (ha : Fits k a) : ofI k n = a ↔ lowI k a ≤ n ∧ n ≤ highI k a := by
  obtain ⟨h1, h2⟩ := ha
  obtain ⟨n1, n2⟩ := hn
  have hi := fun p => pl_iff k n.natAbs p (by omega)
  have hz : n ≠ 0 → 1 ≤ pl k n.natAbs := fun h => pl_pos k _ (by omega) (by omega)
  have z0 : n = 0 → pl k n.natAbs = 0 := by rintro rfl; exact pl_zero k
  unfold ofI lowI highI
  by_cases hs : n < 0
  · rw [if_pos hs]
    by_cases hA : a < 0
    · rw [if_pos hA, if_pos hA]
      have h3 := hi a.natAbs
      have h4 : (-(pl k n.natAbs : Int) = a) ↔ pl k n.natAbs = a.natAbs := by omega
      have h5 := nr_top k a.natAbs hk (by omega)
      rw [h4, h3]
      omega
    · rw [if_neg hA, if_neg hA]
      have := hz (by omega)
      omega
  · rw [if_neg hs]
    by_cases hA : a < 0
    · rw [if_pos hA, if_pos hA]
      have := nr_pos k a.natAbs
      omega
    · rw [if_neg hA, if_neg hA]
      have h3 := hi a.natAbs
      have h4 : ((pl k n.natAbs : Int) = a) ↔ pl k n.natAbs = a.natAbs := by omega
      rw [h4, h3]
      omega

theorem of_mono (k : Nat) (m n : Int) (hm : In64 m) (hn : In64 n) (h : m ≤ n) : ofI k m ≤ ofI k n := by
  obtain ⟨m1, m2⟩ := hm
  obtain ⟨n1, n2⟩ := hn
  unfold ofI
  by_cases h1 : m < 0
  · by_cases h2 : n < 0
    · rw [if_pos h1, if_pos h2]
      have := pl_mono k (d := n.natAbs) (d' := m.natAbs) (by omega) (by omega)
      omega
    · rw [if_pos h1, if_neg h2]
      omega
  · by_cases h2 : n < 0
    · omega
    · rw [if_neg h1, if_neg h2]
      have := pl_mono k (d := m.natAbs) (d' := n.natAbs) (by omega) (by omega)
      omega

theorem of_neg (k : Nat) (n : Int) : ofI k (-n) = -ofI k n := by
  unfold ofI
  rw [Int.natAbs_neg]
  by_cases h0 : n = 0
  · subst h0
    rw [show (0 : Int).natAbs = 0 from rfl, pl_zero]
    simp
  · by_cases h1 : n < 0
    · rw [if_pos h1, if_neg (by omega)]
      omega
    · rw [if_neg h1, if_pos (by omega)]

theorem next_low (k : Nat) (hk : k ≤ 4) (a : Int) (ha : Fits k a) (hb : Fits k (a + 1)) : lowI k (a + 1) = highI k a + 1 := by
  obtain ⟨h1, h2⟩ := ha
  obtain ⟨h3, h4⟩ := hb
  unfold lowI highI
  by_cases hA : a < 0
  · by_cases hB : a + 1 < 0
    · rw [if_pos hA, if_pos hB]
      have e : (a + 1).natAbs + 1 = a.natAbs := by omega
      have h5 := nr_top k a.natAbs hk (by omega)
      have h6 := nr_pos k a.natAbs
      rw [e]
      omega
    · rw [if_pos hA, if_neg hB]
      have e : a = -1 := by omega
      subst e
      have z1 := nr_zero k
      have z2 := nr_one k
      have e1 : (-1 + 1 : Int).natAbs = 0 := rfl
      have e2 : (-1 : Int).natAbs = 1 := rfl
      rw [e1, e2, z1, z2]
      rfl
  · rw [if_neg hA, if_neg (by omega)]
    have e : (a + 1).natAbs = a.natAbs + 1 := by omega
    rw [e]
    omega

theorem high_last (k : Nat) (hk : k ≤ 4) : highI k (mst k) = 9223372036854775807 := by
  obtain ⟨_, h1, _, _, _⟩ := hp_top k hk
  unfold highI
  rw [if_neg (by omega), Int.natAbs_natCast, h1]
  rfl

theorem of_last (k : Nat) (hk : k ≤ 4) : ofI k 9223372036854775807 = mst k := by
  unfold ofI
  rw [if_neg (by omega), show (9223372036854775807 : Int).natAbs = 9223372036854775807 from rfl, mst_eq k hk]

theorem of_first (k : Nat) (hk : k ≤ 4) : ofI k (-9223372036854775808) = -(mst k : Int) - 1 := by
  unfold ofI
  rw [if_pos (by omega), show (-9223372036854775808 : Int).natAbs = 9223372036854775808 from rfl, top_eq k hk]
  omega

theorem ends_first (k : Nat) (hk : k ≤ 4) : lowI k (-(mst k : Int) - 1) = -9223372036854775808 ∧ highI k (-(mst k : Int) - 1) = -9223372036854775808 := by
  obtain ⟨_, h1, _, _, _⟩ := hp_top k hk
  have h3 := nr_lt (k := k) (p := mst k + 1) (q := mst k + 2) (by omega)
  have e : (-(mst k : Int) - 1).natAbs = mst k + 1 := by omega
  unfold lowI highI
  rw [if_pos (by omega), if_pos (by omega), e, h1]
  have e2 : mst k + 1 + 1 = mst k + 2 := by omega
  rw [e2]
  omega

/-- the width, against the part of the near end -/
theorem of_wide (k : Nat) (hk : k ≤ 4) (n : Int) (hn : In64 n) : highI k (ofI k n) = lowI k (ofI k n) ∨ highI k (ofI k n) - lowI k (ofI k n) < (((if n < 0 then -highI k (ofI k n) else lowI k (ofI k n)).toNat / 2 ^ k : Nat) : Int) := by
  have hf := of_fits k hk n hn
  obtain ⟨n1, n2⟩ := hn
  have hd : n.natAbs < 18446744073709551616 := by omega
  obtain ⟨p, hpp⟩ : ∃ p, pl k n.natAbs = p := ⟨_, rfl⟩
  have hs := nr_succ k p
  have key : 1 ≤ hp k p → 2 ^ hp k p ≤ nr k p / 2 ^ k := by
    intro h
    rw [Nat.le_div_iff_mul_le (Nat.two_pow_pos _)]
    exact wide_le k p h
  have h0 : hp k p = 0 → 2 ^ hp k p = 1 := fun h => by rw [h]
  obtain ⟨W, hW⟩ : ∃ W, 2 ^ hp k p = W := ⟨_, rfl⟩
  rw [hW] at hs key h0
  obtain ⟨f1, f2⟩ := hf
  by_cases hs' : n < 0
  · have e : ofI k n = -(p : Int) := by unfold ofI; rw [if_pos hs', hpp]
    have hp1 : 1 ≤ p := by rw [← hpp]; exact pl_pos k _ (by omega) hd
    rw [e] at f1 ⊢
    rw [if_pos hs']
    have e1 : (-(p : Int)).natAbs = p := by omega
    unfold lowI highI
    rw [if_pos (by omega), if_pos (by omega), e1]
    have h5 := nr_top k p hk (by omega)
    have e2 : (-(-(nr k p : Int))).toNat = nr k p := by omega
    rw [e2]
    by_cases hz : hp k p = 0
    · have := h0 hz
      omega
    · have := key (by omega)
      omega
  · have e : ofI k n = (p : Int) := by unfold ofI; rw [if_neg hs', hpp]
    rw [e]
    rw [if_neg hs']
    have e1 : ((p : Int)).natAbs = p := by omega
    unfold lowI highI
    rw [if_neg (by omega), if_neg (by omega), e1]
    have e2 : ((nr k p : Int)).toNat = nr k p := by omega
    rw [e2]
    by_cases hz : hp k p = 0
    · have := h0 hz
      omega
    · have := key (by omega)
      omega

theorem of_fine (k : Nat) (m n : Int) (hm : In64 m) (hn : In64 n) (h : ofI (k + 1) m = ofI (k + 1) n) : ofI k m = ofI k n := by
  obtain ⟨m1, m2⟩ := hm
  obtain ⟨n1, n2⟩ := hn
  have hf := pl_fine k m.natAbs n.natAbs (by omega) (by omega)
  have pm : m ≠ 0 → 1 ≤ pl (k + 1) m.natAbs := fun h => pl_pos _ _ (by omega) (by omega)
  have pn : n ≠ 0 → 1 ≤ pl (k + 1) n.natAbs := fun h => pl_pos _ _ (by omega) (by omega)
  unfold ofI at *
  by_cases h1 : m < 0
  · by_cases h2 : n < 0
    · rw [if_pos h1, if_pos h2] at *
      rw [hf (by omega)]
    · rw [if_pos h1, if_neg h2] at h
      have := pm (by omega)
      omega
  · by_cases h2 : n < 0
    · rw [if_neg h1, if_pos h2] at h
      have := pn (by omega)
      omega
    · rw [if_neg h1, if_neg h2] at *
      rw [hf (by omega)]

theorem of_small (k : Nat) (n : Nat) (hn : n < 2 ^ (k + 1)) (hn' : n < 18446744073709551616) : ofI k (n : Int) = (n : Int) := by
  unfold ofI
  rw [if_neg (by omega), Int.natAbs_natCast, small_eq k n hn hn']
end Go.Proofs.Ytklklpccpbhfgaa
