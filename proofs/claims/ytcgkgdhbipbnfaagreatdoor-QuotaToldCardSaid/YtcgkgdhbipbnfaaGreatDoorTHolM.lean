/- How often each truly came, against what is told: the plain mathematics. -/
import Derived.Test.YtcgkgdhbipbnfaaGreatDoorTFewM
namespace Go.Proofs.YtcgkgdhbipbnfaaGreatDoor.Tq
open Go Go.RowKit

theorem least_le {k : Nat} {l : List Itm} {x : Itm} (hx : x ∈ l) : leastL k l ≤ x.many := by
  unfold leastL
  split
  · omega
  · exact worst_le hx
theorem le_least {k m : Nat} {l : List Itm} (h : ¬ l.length < k) (h0 : 0 < l.length) (hm : ∀ x ∈ l, m ≤ x.many) : m ≤ leastL k l := by
  unfold leastL
  rw [if_neg h]
  exact hm _ (mem_at (worst_lt h0))
/-- What holds of the items, and of how often each came. -/
structure Hol (k : Nat) (c : Nat → Nat) (l : List Itm) : Prop where
  inv : Inv k l
  it : ∀ x ∈ l, ∃ j, j < 26 ∧ x.name = nmC (97 + j) ∧ c j ≤ x.many ∧ x.many ≤ c j + x.over
  un : ∀ j, j < 26 → (∀ x ∈ l, x.name ≠ nmC (97 + j)) → c j ≤ leastL k l
theorem hol_nil {k : Nat} (h1 : 1 ≤ k) (h2 : k ≤ 16) : Hol k (fun _ => 0) [] := ⟨inv_nil h1 h2, fun x hx => (by cases hx), fun j _ _ => Nat.zero_le _⟩
theorem least_nm {l : List Itm} {k : Nat} (h : l.length < k) : leastL k l = 0 := by unfold leastL; rw [if_pos h]
theorem hol_step {k : Nat} {c : Nat → Nat} {l : List Itm} (h : Hol k c l) {j b : Nat} (hj : j < 26) (hb : 1 ≤ b) (hs : seen l + b ≤ 4611686018427387904) : Hol k (upd c j (c j + b)) (addL k (nmC (97 + j)) b l) := by
  have hinv := inv_add (name := nmC (97 + j)) h.inv (by rw [nmC_size]; decide) hb hs
  have other : ∀ y : Itm, (∃ i, i < 26 ∧ y.name = nmC (97 + i) ∧ c i ≤ y.many ∧ y.many ≤ c i + y.over) → y.name ≠ nmC (97 + j) →
      ∃ i, i < 26 ∧ y.name = nmC (97 + i) ∧ upd c j (c j + b) i ≤ y.many ∧ y.many ≤ upd c j (c j + b) i + y.over := by
    rintro y ⟨i, h1, h2, h3, h4⟩ hy
    have e : i ≠ j := by rintro rfl; exact hy h2
    exact ⟨i, h1, h2, by rw [upd_ne c _ e]; exact h3, by rw [upd_ne c _ e]; exact h4⟩
  cases hp : plc (nmC (97 + j)) l with
  | some i =>
    rw [addL_some hp] at hinv ⊢
    obtain ⟨hi, hnm, _⟩ := plc_some hp
    obtain ⟨j', q1, q2, q3, q4⟩ := h.it _ (mem_at hi)
    obtain rfl : j = j' := nmC97_inj (k := 26) (by omega) hj q1 (hnm.symm.trans q2)
    have hmem : (⟨l[i]!.name, l[i]!.many + b, l[i]!.over⟩ : Itm) ∈ l.set i ⟨l[i]!.name, l[i]!.many + b, l[i]!.over⟩ := List.mem_set hi _
    have hge : ∀ p, p < l.length → l[p]!.many ≤ (l.set i ⟨l[i]!.name, l[i]!.many + b, l[i]!.over⟩)[p]!.many ∧ (l.set i ⟨l[i]!.name, l[i]!.many + b, l[i]!.over⟩)[p]!.name = l[p]!.name := by
      intro p hpl
      by_cases e : p = i
      · subst e
        rw [getE (l.set p _) p (by simpa using hpl), List.getElem_set_self]
        exact ⟨Nat.le_add_right _ _, rfl⟩
      · rw [getE (l.set i _) p (by simpa using hpl), List.getElem_set_ne (Ne.symm e), ← getE l p hpl]
        exact ⟨Nat.le_refl _, rfl⟩
    refine ⟨hinv, fun y hy => ?_, fun i' hi' hno => ?_⟩
    · by_cases e : y.name = nmC (97 + j)
      · have : y = ⟨l[i]!.name, l[i]!.many + b, l[i]!.over⟩ := item_of_name hinv.nd hy hmem (e.trans hnm.symm)
        subst this
        exact ⟨j, hj, hnm, by rw [upd_same]; simp only; omega, by rw [upd_same]; simp only; omega⟩
      · rcases List.mem_or_eq_of_mem_set hy with hy | rfl
        · exact other y (h.it y hy) e
        · exact absurd hnm e
    · have e : i' ≠ j := by rintro rfl; exact hno _ hmem hnm
      rw [upd_ne c _ e]
      have h1 : c i' ≤ leastL k l := h.un i' hi' (fun x hx hxn => by
        obtain ⟨p, hp1, rfl⟩ := at_mem hx
        exact hno _ (mem_at (i := p) (by simpa using hp1)) ((hge p hp1).2.trans hxn))
      refine Nat.le_trans h1 ?_
      by_cases hr : l.length < k
      · rw [least_nm hr]; exact Nat.zero_le _
      · refine le_least (by simpa using hr) (by simp; omega) fun x hx => ?_
        obtain ⟨p, hp1, rfl⟩ := at_mem hx
        have hp2 : p < l.length := by simpa using hp1
        exact Nat.le_trans (least_le (mem_at hp2)) (hge p hp2).1
  | none =>
    have hno := plc_none hp
    have hcl := h.un j hj hno
    by_cases hr : l.length < k
    · rw [addL_room hp hr] at hinv ⊢
      rw [least_nm hr] at hcl
      refine ⟨hinv, fun y hy => ?_, fun i' hi' hno' => ?_⟩
      · rcases List.mem_append.1 hy with hy | hy
        · exact other y (h.it y hy) (hno y hy)
        · simp at hy
          subst hy
          exact ⟨j, hj, rfl, by rw [upd_same]; simp only; omega, by rw [upd_same]; simp only; omega⟩
      · have e : i' ≠ j := by rintro rfl; exact hno' ⟨nmC (97 + i'), b, 0⟩ (by simp) rfl
        rw [upd_ne c _ e]
        have h1 := h.un i' hi' (fun x hx => hno' x (by simp [hx]))
        rw [least_nm hr] at h1
        omega
    · rw [addL_full hp hr] at hinv ⊢
      have hl : l.length = k := by have := h.inv.len; omega
      have hpos : 0 < l.length := by have := h.inv.lo; omega
      have hw := worst_lt hpos
      have hle : leastL k l = l[worst l]!.many := by unfold leastL; rw [if_neg hr]
      rw [hle] at hcl
      have hmem : (⟨nmC (97 + j), l[worst l]!.many + b, l[worst l]!.many⟩ : Itm) ∈ l.set (worst l) ⟨nmC (97 + j), l[worst l]!.many + b, l[worst l]!.many⟩ := List.mem_set hw _
      have hnl : l[worst l]!.many ≤ leastL k (l.set (worst l) ⟨nmC (97 + j), l[worst l]!.many + b, l[worst l]!.many⟩) := by
        refine le_least (by simpa using hr) (by simpa using hpos) fun x hx => ?_
        rcases List.mem_or_eq_of_mem_set hx with hx | rfl
        · exact worst_le hx
        · exact Nat.le_add_right _ _
      refine ⟨hinv, fun y hy => ?_, fun i' hi' hno' => ?_⟩
      · rcases List.mem_or_eq_of_mem_set hy with hy | rfl
        · exact other y (h.it y hy) (hno y hy)
        · exact ⟨j, hj, rfl, by rw [upd_same]; simp only; omega, by rw [upd_same]; simp only; omega⟩
      · have e : i' ≠ j := by rintro rfl; exact hno' _ hmem rfl
        rw [upd_ne c _ e]
        refine Nat.le_trans ?_ hnl
        by_cases hex : ∃ x ∈ l, x.name = nmC (97 + i')
        · obtain ⟨x, hx, hxn⟩ := hex
          obtain ⟨p, hp1, rfl⟩ := at_mem hx
          by_cases hpw : p = worst l
          · subst hpw
            obtain ⟨i2, q1, q2, q3, _⟩ := h.it _ hx
            obtain rfl := nmC97_inj (k := 26) (by omega) hi' q1 (hxn.symm.trans q2)
            exact q3
          · refine absurd hxn (hno' _ ?_)
            have h2 : (l.set (worst l) ⟨nmC (97 + j), l[worst l]!.many + b, l[worst l]!.many⟩)[p]! = l[p]! := by
              rw [getE _ _ (by simpa using hp1), getE _ _ hp1, List.getElem_set_ne (Ne.symm hpw)]
            rw [← h2]
            exact mem_at (by simpa using hp1)
        · have h1 := h.un i' hi' (fun x hx hxn => hex ⟨x, hx, hxn⟩)
          rw [hle] at h1
          exact h1
theorem seen_ge {m : Nat} : ∀ l : List Itm, (∀ x ∈ l, m ≤ x.many) → l.length * m ≤ seen l
  | [], _ => by simp [seen]
  | x :: l, h => by
    have h1 := seen_ge l fun y hy => h y (by simp [hy])
    have h2 := h x (by simp)
    rw [seen_cons, List.length_cons, Nat.add_mul]
    omega
theorem least_div {k : Nat} {l : List Itm} (h : Inv k l) : leastL k l ≤ seen l / k := by
  have hlo := h.lo
  rw [Nat.le_div_iff_mul_le hlo]
  unfold leastL
  split
  · omega
  · have hl : l.length = k := by have := h.len; omega
    have := seen_ge (m := l[worst l]!.many) l fun x hx => worst_le hx
    rw [hl, Nat.mul_comm] at this
    exact this
theorem over_div {k : Nat} {l : List Itm} (h : Inv k l) {x : Itm} (hx : x ∈ l) : x.over ≤ seen l / k := by
  have hlo := h.lo
  rcases h.full x hx with h0 | ⟨h1, h2⟩
  · rw [h0]; exact Nat.zero_le _
  · rw [Nat.le_div_iff_mul_le hlo]
    have := seen_ge (m := x.over) l h2
    rw [h1, Nat.mul_comm] at this
    exact this
theorem hol_told {k : Nat} {c : Nat → Nat} {l : List Itm} (h : Hol k c l) {j : Nat} (hj : j < 26) (hc : seen l / k < c j) : ∃ x ∈ l, x.name = nmC (97 + j) := by
  by_cases hex : ∃ x ∈ l, x.name = nmC (97 + j)
  · exact hex
  · have h1 := h.un j hj (fun x hx hxn => hex ⟨x, hx, hxn⟩)
    have h2 := least_div h.inv
    omega
theorem told_many {s : List Itm} (h : Told s) {i : Nat} (hi : i + 1 < s.length) : s[i + 1]!.many ≤ s[i]!.many := by
  unfold Told at h
  rw [List.pairwise_iff_getElem] at h
  have h1 := h i (i + 1) (by omega) hi (by omega)
  rw [← getE s _ hi, ← getE s i (by omega)] at h1
  rcases tells_not.1 h1 with h2 | ⟨h2, _⟩ <;> omega
end Go.Proofs.YtcgkgdhbipbnfaaGreatDoor.Tq