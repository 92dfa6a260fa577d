/- No more names than there is room: the plain mathematics. -/
import Derived.Test.YtcgkgdhbipbnfaaGreatDoorMtE
namespace Go.Proofs.YtcgkgdhbipbnfaaGreatDoor.Tq
open Go Go.RowKit

/-- What holds of the items where there are no more names than room. -/
structure Few (k : Nat) (c : Nat → Nat) (l : List Itm) : Prop where
  inv : Inv k l
  it : ∀ x ∈ l, ∃ j, j < k ∧ x.name = nmC (97 + j) ∧ x.over = 0 ∧ x.many = c j
  has : ∀ j, j < k → 0 < c j → ∃ x ∈ l, x.name = nmC (97 + j)
theorem few_nil {k : Nat} (h1 : 1 ≤ k) (h2 : k ≤ 16) : Few k (fun _ => 0) [] := ⟨inv_nil h1 h2, fun x hx => (by cases hx), fun j _ h => absurd h (Nat.lt_irrefl _)⟩
theorem nmC97_inj {a b k : Nat} (hk : k ≤ 26) (ha : a < k) (hb : b < k) (h : nmC (97 + a) = nmC (97 + b)) : a = b := by
  have := nmC_inj (by omega) (by omega) h
  omega
theorem few_step {k : Nat} {c : Nat → Nat} {l : List Itm} (h : Few k c l) {j : Nat} (hj : j < k) (hs : seen l + 1 ≤ 4611686018427387904) : Few k (upd c j (c j + 1)) (addL k (nmC (97 + j)) 1 l) := by
  have hk := h.inv.hi
  have hinv := inv_add (name := nmC (97 + j)) h.inv (by rw [nmC_size]; decide) (by decide : 1 ≤ 1) hs
  have other : ∀ y : Itm, (∃ i, i < k ∧ y.name = nmC (97 + i) ∧ y.over = 0 ∧ y.many = c i) → y.name ≠ nmC (97 + j) → ∃ i, i < k ∧ y.name = nmC (97 + i) ∧ y.over = 0 ∧ y.many = upd c j (c j + 1) i := by
    rintro y ⟨i, h1, h2, h3, h4⟩ hy
    exact ⟨i, h1, h2, h3, by rw [upd_ne]; exact h4; rintro rfl; exact hy h2⟩
  cases hp : plc (nmC (97 + j)) l with
  | some i =>
    rw [addL_some hp] at hinv ⊢
    obtain ⟨hi, hnm, _⟩ := plc_some hp
    obtain ⟨j', q1, q2, q3, q4⟩ := h.it _ (mem_at hi)
    obtain rfl : j = j' := nmC97_inj (by omega) hj q1 (hnm.symm.trans q2)
    have hmem : (⟨l[i]!.name, l[i]!.many + 1, l[i]!.over⟩ : Itm) ∈ l.set i ⟨l[i]!.name, l[i]!.many + 1, l[i]!.over⟩ := List.mem_set hi _
    refine ⟨hinv, fun y hy => ?_, fun i' hi' hc => ?_⟩
    · by_cases e : y.name = nmC (97 + j)
      · have : y = ⟨l[i]!.name, l[i]!.many + 1, l[i]!.over⟩ := item_of_name hinv.nd hy hmem (e.trans hnm.symm)
        subst this
        exact ⟨j, hj, hnm, q3, by rw [upd_same]; simp only; omega⟩
      · rcases List.mem_or_eq_of_mem_set hy with hy | rfl
        · exact other y (h.it y hy) e
        · exact absurd hnm e
    · by_cases e : i' = j
      · subst e; exact ⟨_, hmem, hnm⟩
      · rw [upd_ne c _ e] at hc
        obtain ⟨x, hx, hxn⟩ := h.has i' hi' hc
        obtain ⟨p, hp1, rfl⟩ := at_mem hx
        by_cases hpi : p = i
        · subst hpi
          exact absurd (nmC97_inj (k := k) (by omega) hi' hj (hxn.symm.trans hnm)) e
        · refine ⟨l[p]!, ?_, hxn⟩
          have h2 : (l.set i ⟨l[i]!.name, l[i]!.many + 1, l[i]!.over⟩)[p]! = l[p]! := by
            rw [getE _ _ (by simpa using hp1), getE _ _ hp1, List.getElem_set_ne (Ne.symm hpi)]
          rw [← h2]
          exact mem_at (by simpa using hp1)
  | none =>
    have hno := plc_none hp
    have hc0 : c j = 0 := by
      rcases Nat.eq_zero_or_pos (c j) with h0 | h0
      · exact h0
      · obtain ⟨x, hx, e⟩ := h.has j hj h0
        exact absurd e (hno x hx)
    have hr : l.length < k := by
      have h1 : (nmC (97 + j) :: l.map (·.name)).Nodup := by
        rw [List.nodup_cons]
        refine ⟨fun hm => ?_, h.inv.nd⟩
        obtain ⟨x, hx, e⟩ := List.mem_map.1 hm
        exact hno x hx e
      have h2 := nodup_sub_len _ ((List.range k).map fun i => nmC (97 + i)) h1 (fun s hs => by
        rcases List.mem_cons.1 hs with rfl | hs
        · exact List.mem_map.2 ⟨j, by simpa using hj, rfl⟩
        · obtain ⟨x, hx, rfl⟩ := List.mem_map.1 hs
          obtain ⟨i, hi, e, _⟩ := h.it x hx
          exact List.mem_map.2 ⟨i, by simpa using hi, e.symm⟩)
      simp at h2
      omega
    rw [addL_room hp hr] at hinv ⊢
    refine ⟨hinv, fun y hy => ?_, fun i' hi' hc => ?_⟩
    · rcases List.mem_append.1 hy with hy | hy
      · exact other y (h.it y hy) (hno y hy)
      · simp at hy
        subst hy
        exact ⟨j, hj, rfl, rfl, by rw [upd_same, hc0]⟩
    · by_cases e : i' = j
      · subst e; exact ⟨⟨nmC (97 + i'), 1, 0⟩, by simp, rfl⟩
      · rw [upd_ne c _ e] at hc
        obtain ⟨x, hx, hxn⟩ := h.has i' hi' hc
        exact ⟨x, by simp [hx], hxn⟩
theorem few_le {k : Nat} {c : Nat → Nat} {l : List Itm} (h : Few k c l) {j : Nat} (hj : j < k) : c j ≤ seen l := by
  have hk := h.inv.hi
  rcases Nat.eq_zero_or_pos (c j) with h0 | h0
  · omega
  · obtain ⟨x, hx, e⟩ := h.has j hj h0
    obtain ⟨i, hi, e2, _, hm⟩ := h.it x hx
    obtain rfl := nmC97_inj (k := k) (by omega) hj hi (e.symm.trans e2)
    have := many_le_seen hx
    omega
/-- How many of the first n came at all. -/
def cnt (c : Nat → Nat) : Nat → Nat
  | 0 => 0
  | n + 1 => cnt c n + if 0 < c n then 1 else 0
theorem cnt_le (c : Nat → Nat) : ∀ n, cnt c n ≤ n
  | 0 => Nat.le_refl _
  | n + 1 => by have := cnt_le c n; unfold cnt; split <;> omega
theorem cnt_filter (c : Nat → Nat) : ∀ n, cnt c n = ((List.range n).filter fun j => decide (0 < c j)).length
  | 0 => rfl
  | n + 1 => by
    unfold cnt
    rw [cnt_filter c n, List.range_succ, List.filter_append, List.length_append]
    by_cases h : 0 < c n <;> simp [h]
theorem few_cnt {k : Nat} {c : Nat → Nat} {l : List Itm} (h : Few k c l) : l.length = cnt c k := by
  have hk := h.inv.hi
  rw [cnt_filter]
  have hpos : ∀ x ∈ l, 0 < x.many := fun x hx => by have := h.inv.over x hx; omega
  apply Nat.le_antisymm
  · have h2 := nodup_sub_len (l.map (·.name)) (((List.range k).filter fun j => decide (0 < c j)).map fun i => nmC (97 + i)) h.inv.nd (fun s hs => by
      obtain ⟨x, hx, rfl⟩ := List.mem_map.1 hs
      obtain ⟨i, hi, e, _, hm⟩ := h.it x hx
      exact List.mem_map.2 ⟨i, by simp [hi]; have := hpos x hx; omega, e.symm⟩)
    simpa using h2
  · have h3 : (((List.range k).filter fun j => decide (0 < c j)).map fun i => nmC (97 + i)).Nodup := by
      rw [List.nodup_iff_pairwise_ne] at *
      rw [List.pairwise_map]
      have hr : ((List.range k).filter fun j => decide (0 < c j)).Nodup := List.nodup_range.filter _
      rw [List.nodup_iff_pairwise_ne] at hr
      refine List.Pairwise.imp_of_mem ?_ hr
      intro a b ha hb hab e
      simp at ha hb
      exact hab (nmC97_inj (k := k) (by omega) ha.1 hb.1 e)
    have h2 := nodup_sub_len _ (l.map (·.name)) h3 (fun s hs => by
      obtain ⟨j, hj, rfl⟩ := List.mem_map.1 hs
      simp at hj
      obtain ⟨x, hx, e⟩ := h.has j hj.1 hj.2
      exact List.mem_map.2 ⟨x, hx, e⟩)
    simpa using h2
theorem few_least {k : Nat} {c : Nat → Nat} {l : List Itm} (h : Few k c l) : decide (leastL k l = 0) = decide (cnt c k < k) := by
  rw [← few_cnt h]
  unfold leastL
  by_cases hr : l.length < k
  · simp [hr]
  · rw [if_neg hr]
    have := h.inv.over _ (mem_at (worst_lt (l := l) (by have := h.inv.lo; omega)))
    have h0 : ¬ l[worst l]!.many = 0 := by omega
    simp only [hr, h0]
end Go.Proofs.YtcgkgdhbipbnfaaGreatDoor.Tq