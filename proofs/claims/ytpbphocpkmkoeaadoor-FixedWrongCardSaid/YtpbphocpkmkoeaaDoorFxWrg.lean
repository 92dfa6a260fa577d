/- FixedWrong: what is no number. -/
import Derived.Test.YtpbphocpkmkoeaaDoorFxMov
namespace Go.Proofs.YtpbphocpkmkoeaaDoor
open Go Go.RowKit

theorem bad_tail {D : List UInt8} (hD : AllDig D) (hn : D ≠ []) (t : List UInt8) (hnd : NoDig t) (hpt : tkB [46] t = false) (hx : expF t = none ∨ ∃ x c r, expF t = some (x, c :: r)) : readF (D ++ t) = (0, 2) := by
  unfold readF
  by_cases hl : 64 < (D ++ t).length
  · rw [if_pos hl]
  · rw [if_neg hl]
    obtain ⟨h1, h2⟩ := sg_app SgT.none (NoSg.dig (m := t) hD hn)
    obtain ⟨h3, h4⟩ := dig_app hD hnd
    rw [List.nil_append] at h2
    have h5 : decF (D ++ t) = some (D, [], t) := by
      unfold decF
      rw [h3, h4, hpt, if_neg (by decide), if_neg hn]
    rw [h2, h5]
    rcases hx with hx | ⟨x, c, r, hx⟩
    · simp only [hx]
    · simp only [hx]; simp
theorem bad_pt {D : List UInt8} (hD : AllDig D) (hn : D ≠ []) (t : List UInt8) (h : dig t = [] ∨ ∃ p x c r, dig t = p ∧ p ≠ [] ∧ expF (rst t) = some (x, c :: r)) : readF (D ++ 46 :: t) = (0, 2) := by
  unfold readF
  by_cases hl : 64 < (D ++ 46 :: t).length
  · rw [if_pos hl]
  · rw [if_neg hl]
    obtain ⟨h1, h2⟩ := sg_app SgT.none (NoSg.dig (m := 46 :: t) hD hn)
    obtain ⟨h3, h4⟩ := dig_app (b := 46 :: t) hD (NoDig.cons (by decide))
    rw [List.nil_append] at h2
    have h8 : tkR [46] (46 :: t) = t := by simp [tkR]
    have h9 : tkB [46] (46 :: t) = true := by simp [tkB]
    rcases h with h | ⟨p, x, c, r, hp, hpn, hx⟩
    · have h5 : decF (D ++ 46 :: t) = none := by
        unfold decF
        rw [h3, h4, h9, if_pos rfl, h8, if_pos h]
      rw [h2, h5]
    · have h5 : decF (D ++ 46 :: t) = some (D, p, rst t) := by
        unfold decF
        rw [h3, h4, h9, if_pos rfl, h8, hp, if_neg hpn]
      rw [h2, h5]
      simp only [hx]
      simp
theorem lead_dec {c : UInt8} (l : List UInt8) (h1 : isDig c = false) (h2 : c ≠ 46) : decF (c :: l) = none := by
  obtain ⟨h3, h4⟩ := dig_app (a := []) (b := c :: l) (fun x hx => by cases hx) (NoDig.cons h1)
  rw [List.nil_append] at h3 h4
  unfold decF
  rw [h3, h4, show tkB [46] (c :: l) = false from by simp [tkB, h2], if_neg (by decide), if_pos rfl]
theorem bad_head {c : UInt8} (l : List UInt8) (h1 : isDig c = false) (h2 : c ≠ 46) (h3 : c ≠ 43 ∧ c ≠ 45) : readF (c :: l) = (0, 2) := by
  have h4 : tkR [43, 45] (c :: l) = c :: l := by rw [tkR_cons, if_neg (by simp [h3.1, h3.2])]
  unfold readF
  rw [h4, lead_dec l h1 h2]
  split <;> rfl
theorem bad_two (l : List UInt8) : readF (45 :: 45 :: l) = (0, 2) := by
  have h4 : tkR [43, 45] (45 :: 45 :: l) = 45 :: l := by rw [tkR_cons, if_pos (by decide)]
  unfold readF
  rw [h4, lead_dec l (by decide) (by decide)]
  split <;> rfl
theorem whole_head {c : UInt8} (l : List UInt8) (h1 : isDig c = false) (h3 : c ≠ 45) : wholeF (c :: l) = (0, 2) := by
  have h4 : tkR [45] (c :: l) = c :: l := by rw [tkR_cons, if_neg (by simp [h3])]
  obtain ⟨h5, h6⟩ := dig_app (a := []) (b := c :: l) (fun x hx => by cases hx) (NoDig.cons h1)
  rw [List.nil_append] at h5
  unfold wholeF
  rw [h4, h5, if_pos (Or.inl (by decide))]
theorem whole_two (l : List UInt8) : wholeF (45 :: 45 :: l) = (0, 2) := by
  have h4 : tkR [45] (45 :: 45 :: l) = 45 :: l := by rw [tkR_cons, if_pos (by decide)]
  obtain ⟨h5, h6⟩ := dig_app (a := []) (b := 45 :: l) (fun x hx => by cases hx) (NoDig.cons (by decide))
  rw [List.nil_append] at h5
  unfold wholeF
  rw [h4, h5, if_pos (Or.inl (by decide))]
theorem whole_tail {D : List UInt8} (hD : AllDig D) (hn : D ≠ []) {c : UInt8} (t : List UInt8) (hc : isDig c = false) : wholeF (D ++ c :: t) = (0, 2) := by
  have := whole_bad (s := []) (W := D) (t := t) (.inl ⟨rfl, rfl⟩) hD hn hc
  rwa [List.nil_append] at this
theorem half : readF [46, 53] = (500000, 0) := by decide +kernel
section
variable {D : List UInt8} (hD : AllDig D) (hn : D ≠ [])
include hD hn
omit hD hn in
theorem wr0 : readF ([]) = (0, 2) ∧ wholeF ([]) = (0, 2) := ⟨by decide +kernel, by decide +kernel⟩
omit hD hn in
theorem wr1 : readF ([45]) = (0, 2) ∧ wholeF ([45]) = (0, 2) := ⟨by decide +kernel, by decide +kernel⟩
omit hD hn in
theorem wr2 : readF ([43]) = (0, 2) ∧ wholeF ([43]) = (0, 2) := ⟨by decide +kernel, by decide +kernel⟩
theorem wr3 : readF (D ++ [46]) = (0, 2) ∧ wholeF (D ++ [46]) = (0, 2) := ⟨bad_pt hD hn [] (.inl (by decide)), whole_tail hD hn [] (by decide)⟩
omit hD hn in
theorem wr4 : readF ([46]) = (0, 2) ∧ wholeF ([46]) = (0, 2) := ⟨by decide +kernel, by decide +kernel⟩
theorem wr5 : readF (D ++ [46, 49, 46, 50]) = (0, 2) ∧ wholeF (D ++ [46, 49, 46, 50]) = (0, 2) := ⟨bad_pt hD hn [49, 46, 50] (.inr ⟨[49], 0, 46, [50], by decide +kernel, by decide, by decide +kernel⟩), whole_tail hD hn [49, 46, 50] (by decide)⟩
theorem wr6 : readF (D ++ [101]) = (0, 2) ∧ wholeF (D ++ [101]) = (0, 2) := ⟨bad_tail hD hn [101] (NoDig.cons (by decide)) (by decide +kernel) (.inl (by decide +kernel)), whole_tail hD hn [] (by decide)⟩
theorem wr7 : readF (D ++ [101, 43]) = (0, 2) ∧ wholeF (D ++ [101, 43]) = (0, 2) := ⟨bad_tail hD hn [101, 43] (NoDig.cons (by decide)) (by decide +kernel) (.inl (by decide +kernel)), whole_tail hD hn [43] (by decide)⟩
theorem wr8 : readF (D ++ [101, 48, 48, 48, 48, 49]) = (0, 2) ∧ wholeF (D ++ [101, 48, 48, 48, 48, 49]) = (0, 2) := ⟨bad_tail hD hn [101, 48, 48, 48, 48, 49] (NoDig.cons (by decide)) (by decide +kernel) (.inl (by decide +kernel)), whole_tail hD hn [48, 48, 48, 48, 49] (by decide)⟩
omit hD hn in
theorem wr9 : readF ([120] ++ D) = (0, 2) ∧ wholeF ([120] ++ D) = (0, 2) := ⟨bad_head D (by decide) (by decide) (by decide), whole_head D (by decide) (by decide)⟩
theorem wr10 : readF (D ++ [120]) = (0, 2) ∧ wholeF (D ++ [120]) = (0, 2) := ⟨bad_tail hD hn [120] (NoDig.cons (by decide)) (by decide +kernel) (.inr ⟨0, 120, [], by decide +kernel⟩), whole_tail hD hn [] (by decide)⟩
omit hD hn in
theorem wr11 : readF ([32] ++ D) = (0, 2) ∧ wholeF ([32] ++ D) = (0, 2) := ⟨bad_head D (by decide) (by decide) (by decide), whole_head D (by decide) (by decide)⟩
theorem wr12 : readF (D ++ [32]) = (0, 2) ∧ wholeF (D ++ [32]) = (0, 2) := ⟨bad_tail hD hn [32] (NoDig.cons (by decide)) (by decide +kernel) (.inr ⟨0, 32, [], by decide +kernel⟩), whole_tail hD hn [] (by decide)⟩
omit hD hn in
theorem wr13 : readF ([45, 45] ++ D) = (0, 2) ∧ wholeF ([45, 45] ++ D) = (0, 2) := ⟨bad_two D, whole_two D⟩
theorem wr14 : readF (D ++ [101, 49, 46, 53]) = (0, 2) ∧ wholeF (D ++ [101, 49, 46, 53]) = (0, 2) := ⟨bad_tail hD hn [101, 49, 46, 53] (NoDig.cons (by decide)) (by decide +kernel) (.inr ⟨1, 46, [53], by decide +kernel⟩), whole_tail hD hn [49, 46, 53] (by decide)⟩
omit hD hn in
theorem wr15 : readF ([101] ++ D) = (0, 2) ∧ wholeF ([101] ++ D) = (0, 2) := ⟨bad_head D (by decide) (by decide) (by decide), whole_head D (by decide) (by decide)⟩
omit hD hn in
theorem wr16 : readF ([48, 120] ++ D) = (0, 2) ∧ wholeF ([48, 120] ++ D) = (0, 2) := ⟨by have := bad_tail (D := [48]) (fun c hc => by rw [List.mem_singleton.1 hc]; decide) (by decide) (120 :: D) (NoDig.cons (by decide)) (by simp [tkB]) (.inr ⟨0, 120, D, by unfold expF; rw [if_neg (by simp [tkB])]⟩); exact this, by have := whole_tail (D := [48]) (fun c hc => by rw [List.mem_singleton.1 hc]; decide) (by decide) (c := 120) D (by decide); exact this⟩
theorem wr17 : readF (D ++ [95, 49]) = (0, 2) ∧ wholeF (D ++ [95, 49]) = (0, 2) := ⟨bad_tail hD hn [95, 49] (NoDig.cons (by decide)) (by decide +kernel) (.inr ⟨0, 95, [49], by decide +kernel⟩), whole_tail hD hn [49] (by decide)⟩
end
end Go.Proofs.YtpbphocpkmkoeaaDoor
