/- The chapter's own answer: what a text is read as. -/
import Derived.Test.YthddnhnhlgnlhaaDoorWBack
import Derived.Test.YthddnhnhlgnlhaaDoorWRefA
namespace Go.Proofs.YthddnhnhlgnlhaaDoor
open Go Go.RowKit


/-- A byte taken into the number. -/
def rstep (z : Int) (c : UInt8) : Int :=
  if 48 ≤ c.toNat ∧ c.toNat ≤ 57 then w128 (w128 (w128 (w128 (w128 (w128 (z + z) + w128 (z + z)) + w128 (z + z)) + w128 (z + z)) + w128 (z + z)) + ((c.toNat : Int) - 48)) else z
def rgo : Int → List UInt8 → Int
  | z, [] => z
  | z, c :: cs => rgo (rstep z c) cs
def rcand (l : List UInt8) : Int := if l.head? = some 45 then w128 (-(rgo 0 (l.take 45))) else rgo 0 (l.take 45)
theorem w128_add_l (x y : Int) : w128 (w128 x + y) = w128 (x + y) := by unfold w128; omega
theorem w128_add_r (x y : Int) : w128 (x + w128 y) = w128 (x + y) := by unfold w128; omega
theorem rstep_dig (z : Int) (c : UInt8) (h : 48 ≤ c.toNat ∧ c.toNat ≤ 57) : rstep z c = w128 (w128 (z * 10) + ((c.toNat : Int) - 48)) := by
  rw [rstep, if_pos h]
  simp only [w128_add_l, w128_add_r]
  congr 1
  omega
theorem rstep_in (z : Int) (c : UInt8) (h : InS z) : InS (rstep z c) := by
  unfold rstep
  split
  · exact w128_in _
  · exact h
theorem rgo_in : ∀ (l : List UInt8) (z : Int), InS z → InS (rgo z l)
  | [], _, h => h
  | c :: cs, z, h => rgo_in cs _ (rstep_in z c h)
theorem rgo_rdv : ∀ (l : List UInt8) (z : Int), (∀ c ∈ l, 48 ≤ c.toNat ∧ c.toNat ≤ 57) → rgo z l = rdv z l
  | [], _, _ => rfl
  | c :: cs, z, h => by
    rw [rgo, rdv, if_pos (h c (by simp)), rstep_dig z c (h c (by simp))]
    exact rgo_rdv cs _ fun d hd => h d (by simp [hd])
theorem rcand_in (l : List UInt8) : InS (rcand l) := by
  unfold rcand
  split
  · exact w128_in _
  · exact rgo_in _ _ (InS.small (by decide) (by decide))
theorem rcand_itoa {a : Int} (ha : InS a) : rcand (Lib.itoa a) = a := by
  have hl := itoa_len ha
  rw [rcand, List.take_of_length_le (by omega)]
  by_cases hn : a < 0
  · rw [itoa_neg' hn, List.head?_cons, if_pos rfl, rgo, show rstep 0 45 = 0 by decide, rgo_rdv _ _ (decDigits_all _), rdv_dec]
    unfold w128 InS at *; omega
  · rw [itoa_pos' hn]
    obtain ⟨c, cs, hd, hc⟩ := decDigits_ne a.toNat
    have h45 : c ≠ 45 := by intro h; rw [h] at hc; exact absurd hc.1 (by decide)
    rw [if_neg (by rw [hd]; simpa using h45), rgo_rdv _ _ (decDigits_all _), rdv_dec]
    unfold w128 InS at *; omega
theorem read_head (s : ByteArray) (m c : Int) (hm : rgo 0 (s.data.toList.take 45) = m) (hc : rcand s.data.toList = c) :
    ((s.toList == []) = true ∧ (s.toList != []) = false ∧ m = c) ∨ (∃ h00 : 0 < s.size, (s.toList == []) = false ∧ (s.toList != []) = true ∧ s[0]'h00 = 45 ∧ w128 (-m) = c) ∨
      (∃ h00 : 0 < s.size, (s.toList == []) = false ∧ (s.toList != []) = true ∧ s[0]'h00 ≠ 45 ∧ m = c) := by
  by_cases h0 : 0 < s.size
  · have hne : s.toList ≠ [] := by
      intro h
      have : s.data.toList.length = 0 := by rw [← Lib.toList_data, h]; rfl
      rw [← Lib.size_eq] at this
      omega
    have h1 : (s.toList == []) = false := by simpa using hne
    have h2 : (s.toList != []) = true := by simpa using hne
    have hh : s.data.toList.head? = some (s[0]'h0) := by rw [List.head?_eq_getElem?, List.getElem?_eq_getElem (by rw [← Lib.size_eq]; exact h0)]; rfl
    rw [rcand, hh, hm] at hc
    by_cases h45 : s[0]'h0 = 45
    · rw [if_pos (by rw [h45])] at hc
      exact Or.inr (Or.inl ⟨h0, h1, h2, h45, hc⟩)
    · rw [if_neg (by simpa using h45)] at hc
      exact Or.inr (Or.inr ⟨h0, h1, h2, h45, hc⟩)
  · have hl : s.data.toList = [] := List.eq_nil_of_length_eq_zero (by rw [← Lib.size_eq]; omega)
    rw [rcand, hl] at hc
    rw [hl] at hm
    have ht : s.toList = [] := by rw [Lib.toList_data, hl]
    exact Or.inl ⟨by rw [ht]; rfl, by rw [ht]; rfl, by rw [← hm, ← hc]; rfl⟩
end Go.Proofs.YthddnhnhlgnlhaaDoor
