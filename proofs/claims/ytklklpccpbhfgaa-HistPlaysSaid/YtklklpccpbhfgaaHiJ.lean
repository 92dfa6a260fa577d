/- What Get does, item by item, and how many there are counted behind it. -/
import Derived.Test.YtklklpccpbhfgaaHiMay
namespace Go.Proofs.Ytklklpccpbhfgaa

instance (k : Nat) (l : List Hit) (x : Hit) : Decidable (May k l x) := by
  unfold May
  have : Decidable (∀ y, l.getLast? = some y → y.at_ < x.at_) := by
    cases h : l.getLast? with
    | none => exact isTrue fun y hy => by cases hy
    | some z => exact decidable_of_iff (z.at_ < x.at_) ⟨fun h y hy => by cases hy; exact h, fun h => h z rfl⟩
  infer_instance
def getJ (k : Nat) : Nat → List UInt8 → List Hit → Option (List Hit × List UInt8)
  | 0, s, l => some (l, s)
  | n + 1, s, l => if May k l (itemB s) then getJ k n (s.drop 10) (l ++ [itemB s]) else none
theorem getJ_count (k : Nat) : ∀ n s l p, getJ k n s l = some p → countH l ≤ countH p.1
  | 0, s, l, p, h => by cases h; exact Nat.le_refl _
  | n + 1, s, l, p, h => by
    unfold getJ at h
    split at h
    · have := getJ_count k n _ _ p h
      rw [countH_append] at this
      omega
    · cases h
def okF (k : Nat) (a : Int) : Bool := decide (Fits k a)
theorem not_may {k : Nat} {l : List Hit} {x : Hit} : (okF k x.at_ = false ∨ x.many = 0 ∨ ∃ y, l.getLast? = some y ∧ x.at_ ≤ y.at_) ↔ ¬ May k l x := by
  unfold May okF
  constructor
  · rintro (h | h | ⟨y, hy, h⟩) ⟨h1, h2, h3⟩
    · exact of_decide_eq_false h h1
    · omega
    · have := h3 y hy; omega
  · intro h
    by_cases h1 : Fits k x.at_
    · by_cases h2 : 0 < x.many
      · right; right
        cases hl : l.getLast? with
        | none => exact absurd ⟨h1, h2, fun y hy => by rw [hl] at hy; cases hy⟩ h
        | some z =>
          refine ⟨z, rfl, Int.not_lt.1 fun h4 => h ⟨h1, h2, fun y hy => ?_⟩⟩
          rw [hl] at hy
          cases hy
          exact h4
      · right; left; omega
    · left; exact decide_eq_false h1
theorem getI_J (k : Nat) : ∀ n s l, countH l ≤ 1099511627776 → getI (okF k) n s l = (getJ k n s l).bind fun p => if countH p.1 ≤ 1099511627776 then some p else none
  | 0, s, l, h => by simp [getI, getJ, h]
  | n + 1, s, l, h => by
    unfold getI getJ
    by_cases hm : May k l (itemB s)
    · have hn : ¬ (okF k ((numB (s.take 4) : Int) - 2147483648) = false ∨ numB ((s.drop 4).take 6) = 0 ∨ ∃ y, l.getLast? = some y ∧ (numB (s.take 4) : Int) - 2147483648 ≤ y.at_) := fun hc => not_may.1 hc hm
      rw [if_pos hm]
      simp only [if_neg hn]
      have ex : (⟨(numB (s.take 4) : Int) - 2147483648, numB ((s.drop 4).take 6)⟩ : Hit) = itemB s := rfl
      rw [ex]
      by_cases hc : 1099511627776 < countH (l ++ [itemB s])
      · rw [if_pos hc]
        cases hj : getJ k n (s.drop 10) (l ++ [itemB s]) with
        | none => rfl
        | some p =>
          have := getJ_count k n _ _ p hj
          show none = if countH p.1 ≤ 1099511627776 then some p else none
          rw [if_neg (by omega)]
      · rw [if_neg hc]
        exact getI_J k n _ _ (by omega)
    · have hn : (okF k ((numB (s.take 4) : Int) - 2147483648) = false ∨ numB ((s.drop 4).take 6) = 0 ∨ ∃ y, l.getLast? = some y ∧ (numB (s.take 4) : Int) - 2147483648 ≤ y.at_) := not_may.2 hm
      rw [if_neg hm]
      simp only [if_pos hn]
      rfl
/-- The histogram that bytes begin with, and what stands behind it. -/
def getF (s : List UInt8) : Option (Nat × List Hit × List UInt8) := getH okF s
theorem getF_short {s : List UInt8} (h : s.length < 3) : getF s = none := by unfold getF getH; rw [if_pos (.inl h)]
theorem getF_bits {s : List UInt8} (h : 4 < numB (s.take 1)) : getF s = none := by unfold getF getH; rw [if_pos (.inr h)]
theorem getF_less {s : List UInt8} (h : s.length - 3 < 10 * numB ((s.drop 1).take 2)) : getF s = none := by unfold getF getH; rw [if_pos h]; split <;> rfl
theorem getF_J {s : List UInt8} (h1 : ¬ s.length < 3) (h2 : ¬ 4 < numB (s.take 1)) (h3 : ¬ s.length - 3 < 10 * numB ((s.drop 1).take 2)) :
    getF s = (getJ (numB (s.take 1)) (numB ((s.drop 1).take 2)) (s.drop 3) []).bind fun p => if countH p.1 ≤ 1099511627776 then some (numB (s.take 1), p.1, p.2) else none := by
  unfold getF getH
  rw [if_neg (by omega), if_neg h3, getI_J _ _ _ _ (by simp [countH])]
  cases getJ (numB (s.take 1)) (numB ((s.drop 1).take 2)) (s.drop 3) [] with
  | none => rfl
  | some p =>
    show Option.map _ (if countH p.1 ≤ 1099511627776 then some p else none) = if countH p.1 ≤ 1099511627776 then _ else none
    split <;> rfl
/-- What holds of the items that are got so far. -/
structure Sofar (k : Nat) (l : List Hit) : Prop where
  ris : Rising l
  fit : ∀ x ∈ l, Fits k x.at_
  small : ∀ x ∈ l, x.many < 281474976710656
theorem Sofar.nil (k : Nat) : Sofar k [] := ⟨Rising.nil, fun _ h => by simp at h, fun _ h => by simp at h⟩
theorem Sofar.snoc {k : Nat} {l : List Hit} (h : Sofar k l) {x : Hit} (hm : May k l x) (hx : x.many < 281474976710656) : Sofar k (l ++ [x]) := by
  obtain ⟨h1, h2, h3⟩ := hm
  refine ⟨⟨?_, fun y hy => ?_⟩, fun y hy => ?_, fun y hy => ?_⟩
  · rw [List.pairwise_append]
    refine ⟨h.ris.1, by simp, fun a ha b hb => ?_⟩
    simp at hb
    subst hb
    have hl : 0 < l.length := List.length_pos_iff.2 (fun e => by subst e; simp at ha)
    have h4 := h3 _ (getLast_at hl)
    obtain ⟨i, hi, rfl⟩ := List.mem_iff_getElem.1 ha
    have h5 := h.ris.le (show i ≤ l.length - 1 by omega) (by omega)
    rw [getElem!_pos l i hi] at h5
    omega
  · rcases List.mem_append.1 hy with hy | hy
    · exact h.ris.2 y hy
    · simp at hy; subst hy; exact h2
  · rcases List.mem_append.1 hy with hy | hy
    · exact h.fit y hy
    · simp at hy; subst hy; exact h1
  · rcases List.mem_append.1 hy with hy | hy
    · exact h.small y hy
    · simp at hy; subst hy; exact hx
end Go.Proofs.Ytklklpccpbhfgaa
