/- Ranks of numbers in order: the least's, the greatest's, any one's; parts rise. -/
import Derived.Test.YtdcdhbkgeipdjaaHiOpen
namespace Go.Proofs.Ytdcdhbkgeipdjaa

/-- The bucket of a number, or of the nearest that is one of 64 bits. -/
def ofC (k : Nat) (x : Int) : Int := ofI k (max (-9223372036854775808) (min x 9223372036854775807))
theorem ofC_eq {k : Nat} {x : Int} (h : In64 x) : ofC k x = ofI k x := by
  unfold ofC
  obtain ⟨h1, h2⟩ := h
  rw [Int.min_eq_left h2, Int.max_eq_right h1]
theorem ofC_mono (k : Nat) (x y : Int) (h : x ≤ y) : ofC k x ≤ ofC k y := by
  unfold ofC
  refine of_mono k _ _ ⟨?_, ?_⟩ ⟨?_, ?_⟩ ?_ <;> omega
theorem rank_in64 (k : Nat) {l s : List Int} (h64 : ∀ x ∈ l, In64 x) (hp : s.Perm l) (hs : s.Pairwise (· ≤ ·)) (i : Nat) : rankH (itemsN k l) (i + 1) = (s[i]?).map (ofI k) := by
  have e1 : l.map (ofI k) = l.map (ofC k) := List.map_congr_left fun x hx => (ofC_eq (h64 x hx)).symm
  unfold itemsN
  rw [e1, rank_items (ofC k) (ofC_mono k) hp hs i]
  cases h : s[i]? with
  | none => rfl
  | some x => simp only [Option.map_some]; rw [ofC_eq (h64 x (hp.mem_iff.1 (List.mem_of_getElem? h)))]
theorem rank_first (k : Nat) {l : List Int} (h64 : ∀ x ∈ l, In64 x) {x : Int} (hx : x ∈ l) (hm : ∀ y ∈ l, x ≤ y) : rankH (itemsN k l) 1 = some (ofI k x) := by
  have hl : 0 < (sortL l).length := by rw [sortL_length]; exact List.length_pos_of_mem hx
  have h0 : (sortL l)[0]? = some (sortL l)[0] := List.getElem?_eq_getElem hl
  obtain ⟨h1, h2⟩ := sorted_first (sortL_perm l) (sortL_sorted l) h0
  have e : (sortL l)[0] = x := Int.le_antisymm (h2 x hx) (hm _ h1)
  rw [show (1 : Nat) = 0 + 1 from rfl, rank_in64 k h64 (sortL_perm l) (sortL_sorted l) 0, h0, e]
  rfl
theorem rank_last (k : Nat) {l : List Int} (h64 : ∀ x ∈ l, In64 x) {x : Int} (hx : x ∈ l) (hm : ∀ y ∈ l, y ≤ x) : rankH (itemsN k l) l.length = some (ofI k x) := by
  have hpos := List.length_pos_of_mem hx
  have hl := sortL_length l
  have h0 : (sortL l)[(sortL l).length - 1]? = some ((sortL l)[(sortL l).length - 1]'(by omega)) := List.getElem?_eq_getElem (by omega)
  obtain ⟨h1, h2⟩ := sorted_last (sortL_perm l) (sortL_sorted l) h0
  have e : (sortL l)[(sortL l).length - 1]'(by omega) = x := Int.le_antisymm (hm _ h1) (h2 x hx)
  have := rank_in64 k h64 (sortL_perm l) (sortL_sorted l) ((sortL l).length - 1)
  rw [show (sortL l).length - 1 + 1 = l.length by omega, h0, e] at this
  exact this
theorem rkN_mono {c p q den : Nat} (h : p ≤ q) : rkN c p den ≤ rkN c q den := by
  unfold rkN
  have h1 : c * p ≤ c * q := Nat.mul_le_mul_left _ h
  have h2 : (c * p + den - 1) / den ≤ (c * q + den - 1) / den := Nat.div_le_div_right (by omega)
  omega
theorem rkN_zero {c den : Nat} (h : 1 ≤ den) : rkN c 0 den = 1 := by
  unfold rkN
  rw [Nat.mul_zero, Nat.zero_add, Nat.div_eq_of_lt (by omega)]
  rfl
theorem rkN_all {c den : Nat} (hc : 1 ≤ c) (h : 1 ≤ den) : rkN c den den = c := by
  unfold rkN
  have : (c * den + den - 1) / den = c := by
    rw [Nat.add_sub_assoc h, Nat.add_comm, Nat.add_mul_div_right _ _ (by omega), Nat.div_eq_of_lt (by omega), Nat.zero_add]
  rw [this]
  omega
/-- Two parts of the same numbers: their buckets, and bounds that rise. -/
theorem parts_rise {k : Nat} {l : List Hit} (hI : Inv k l) (hc : 1 ≤ countH l) {p q den : Nat} (hd : 1 ≤ den) (hpq : p ≤ q) (hq : q ≤ den) :
    ∃ a b, rankH l (rkN (countH l) p den) = some a ∧ rankH l (rkN (countH l) q den) = some b ∧ lowI k a ≤ lowI k b ∧ highI k a ≤ highI k b := by
  have h1 : rkN (countH l) p den ≤ countH l := rkN_le hd (by omega) hc
  have h2 : rkN (countH l) q den ≤ countH l := rkN_le hd hq hc
  obtain ⟨a, ha, x, hx, ea⟩ := rank_some (l := l) (r := rkN (countH l) p den) (Nat.le_max_left _ _) h1
  obtain ⟨b, hb, y, hy, eb⟩ := rank_some (l := l) (r := rkN (countH l) q den) (Nat.le_max_left _ _) h2
  have hab := rank_mono hI.ris (Nat.le_max_left _ _) (rkN_mono hpq) ha hb
  exact ⟨a, b, ha, hb, bounds_le k hI.hk (ea ▸ hI.fit x hx) (eb ▸ hI.fit y hy) hab⟩
theorem in_bounds {k : Nat} (hk : k ≤ 4) {x : Int} (hx : In64 x) : lowI k (ofI k x) ≤ x ∧ x ≤ highI k (ofI k x) := (of_iff k hk x hx _ (of_fits k hk x hx)).1 rfl
end Go.Proofs.Ytdcdhbkgeipdjaa
