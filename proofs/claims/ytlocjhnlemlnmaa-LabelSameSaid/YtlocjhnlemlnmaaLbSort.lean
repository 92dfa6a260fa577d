/- Rows that rise, merged two by two: what is merged rises; if two have one name, it comes twice. No model in this text. -/
import Derived.Test.YtlocjhnlemlnmaaLbMath
namespace Go.Proofs.Ytlocjhnlemlnmaa

/-- Two rows merged: none, if a name of the one is a name of the other where they meet. -/
def mergeL : List LabB → List LabB → Option (List LabB)
  | [], b => some b
  | x :: r, [] => some (x :: r)
  | x :: r, y :: t => if x.1 = y.1 then none else if ltB y.1 x.1 then (mergeL t (x :: r)).map (y :: ·) else (mergeL r (y :: t)).map (x :: ·)
termination_by a b => a.length + b.length
decreasing_by all_goals simp only [List.length_cons]; omega
theorem mergeL_nil_right (a : List LabB) : mergeL a [] = some a := by cases a <;> simp [mergeL]
theorem mergeL_cons (x y : LabB) (r t : List LabB) : mergeL (x :: r) (y :: t) = if x.1 = y.1 then none else if ltB y.1 x.1 then (mergeL t (x :: r)).map (y :: ·) else (mergeL r (y :: t)).map (x :: ·) := by rw [mergeL]
theorem mergeL_some : ∀ (n : Nat) {a b s : List LabB}, a.length + b.length ≤ n → SortedK a → SortedK b → mergeL a b = some s → SortedK s ∧ s.Perm (a ++ b)
  | _, [], b, s, _, _, hb, h => by
    simp only [mergeL, Option.some.injEq] at h
    subst h
    exact ⟨hb, List.Perm.refl _⟩
  | _, x :: r, [], s, _, ha, _, h => by
    simp only [mergeL, Option.some.injEq] at h
    subst h
    rw [List.append_nil]
    exact ⟨ha, List.Perm.refl _⟩
  | 0, x :: r, y :: t, s, hn, _, _, _ => by simp at hn
  | n + 1, x :: r, y :: t, s, hn, ha, hb, h => by
    obtain ⟨a1, a2⟩ := List.pairwise_cons.1 ha
    obtain ⟨b1, b2⟩ := List.pairwise_cons.1 hb
    simp only [List.length_cons] at hn
    rw [mergeL_cons] at h
    by_cases e : x.1 = y.1
    · rw [if_pos e] at h; cases h
    rw [if_neg e] at h
    by_cases c : ltB y.1 x.1 = true
    · rw [if_pos c] at h
      cases hm : mergeL t (x :: r) with
      | none => rw [hm] at h; cases h
      | some u =>
        rw [hm] at h
        obtain rfl := Option.some.inj h
        obtain ⟨g1, g2⟩ := mergeL_some n (by simp only [List.length_cons]; omega) b2 ha hm
        refine ⟨List.pairwise_cons.2 ⟨fun z hz => ?_, g1⟩, ?_⟩
        · rcases List.mem_append.1 (g2.mem_iff.1 hz) with hz | hz
          · exact b1 z hz
          · rcases List.mem_cons.1 hz with rfl | hz
            · exact c
            · exact ltB_trans c (a1 z hz)
        · exact (List.Perm.cons y g2).trans ((List.Perm.cons y List.perm_append_comm).trans List.perm_middle.symm)
    · rw [if_neg c] at h
      cases hm : mergeL r (y :: t) with
      | none => rw [hm] at h; cases h
      | some u =>
        rw [hm] at h
        obtain rfl := Option.some.inj h
        obtain ⟨g1, g2⟩ := mergeL_some n (by simp only [List.length_cons]; omega) a2 hb hm
        have hxy : ltB x.1 y.1 = true := by
          by_cases g : ltB x.1 y.1 = true
          · exact g
          · exact absurd (ltB_tri (by simpa using g) (by simpa using c)) e
        refine ⟨List.pairwise_cons.2 ⟨fun z hz => ?_, g1⟩, List.Perm.cons x g2⟩
        rcases List.mem_append.1 (g2.mem_iff.1 hz) with hz | hz
        · exact a1 z hz
        · rcases List.mem_cons.1 hz with rfl | hz
          · exact hxy
          · exact ltB_trans hxy (b1 z hz)
theorem mergeL_none : ∀ (n : Nat) {a b : List LabB}, a.length + b.length ≤ n → mergeL a b = none → ∃ x ∈ a, ∃ y ∈ b, x.1 = y.1
  | _, [], b, _, h => by simp [mergeL] at h
  | _, x :: r, [], _, h => by simp [mergeL] at h
  | 0, x :: r, y :: t, hn, _ => by simp at hn
  | n + 1, x :: r, y :: t, hn, h => by
    simp only [List.length_cons] at hn
    rw [mergeL_cons] at h
    by_cases e : x.1 = y.1
    · exact ⟨x, List.mem_cons_self, y, List.mem_cons_self, e⟩
    rw [if_neg e] at h
    by_cases c : ltB y.1 x.1 = true
    · rw [if_pos c, Option.map_eq_none_iff] at h
      obtain ⟨u, hu, v, hv, huv⟩ := mergeL_none n (by simp only [List.length_cons]; omega) h
      exact ⟨v, hv, u, List.mem_cons_of_mem _ hu, huv.symm⟩
    · rw [if_neg c, Option.map_eq_none_iff] at h
      obtain ⟨u, hu, v, hv, huv⟩ := mergeL_none n (by simp only [List.length_cons]; omega) h
      exact ⟨u, List.mem_cons_of_mem _ hu, v, hv, huv⟩
theorem mergeL_len {a b s : List LabB} (h : mergeL a b = some s) (ha : SortedK a) (hb : SortedK b) : s.length = a.length + b.length := by
  rw [(mergeL_some _ (Nat.le_refl _) ha hb h).2.length_eq, List.length_append]
/-- The length alone, whatever they are. -/
theorem mergeL_count : ∀ (n : Nat) {a b s : List LabB}, a.length + b.length ≤ n → mergeL a b = some s → s.length = a.length + b.length
  | _, [], b, s, _, h => by
    simp only [mergeL, Option.some.injEq] at h
    subst h; simp
  | _, x :: r, [], s, _, h => by
    simp only [mergeL, Option.some.injEq] at h
    subst h; simp
  | 0, x :: r, y :: t, s, hn, _ => by simp at hn
  | n + 1, x :: r, y :: t, s, hn, h => by
    simp only [List.length_cons] at hn
    rw [mergeL_cons] at h
    by_cases e : x.1 = y.1
    · rw [if_pos e] at h; cases h
    rw [if_neg e] at h
    by_cases c : ltB y.1 x.1 = true
    · rw [if_pos c] at h
      obtain ⟨u, hm, rfl⟩ := Option.map_eq_some_iff.1 h
      have := mergeL_count n (by simp only [List.length_cons]; omega) hm
      simp only [List.length_cons] at this ⊢
      omega
    · rw [if_neg c] at h
      obtain ⟨u, hm, rfl⟩ := Option.map_eq_some_iff.1 h
      have := mergeL_count n (by simp only [List.length_cons]; omega) hm
      simp only [List.length_cons] at this ⊢
      omega

/-- Each piece of r rises. -/
def RunsK (r : Nat) (l : List LabB) : Prop := ∀ i, SortedK ((l.drop (i * r)).take r)
theorem RunsK.one (l : List LabB) : RunsK 1 l := fun i => by
  cases h : l.drop (i * 1) with
  | nil => exact List.Pairwise.nil
  | cons x t => simp only [List.take_succ_cons, List.take_zero]; exact List.pairwise_singleton _ _
theorem RunsK.all {r : Nat} {l : List LabB} (h : RunsK r l) (hl : l.length ≤ r) : SortedK l := by
  have := h 0
  rwa [Nat.zero_mul, List.drop_zero, List.take_of_length_le hl] at this
/-- The halves of a piece of two. -/
theorem RunsK.halves {r : Nat} {l : List LabB} (h : RunsK r l) (j : Nat) {c : List LabB} (hc : c = (l.drop (j * (2 * r))).take (2 * r)) : SortedK (c.take r) ∧ SortedK (c.drop r) := by
  subst hc
  have h1 := h (2 * j)
  have h2 := h (2 * j + 1)
  have e1 : 2 * j * r = j * (2 * r) := by rw [Nat.mul_comm 2 j, Nat.mul_assoc]
  have e2 : (2 * j + 1) * r = j * (2 * r) + r := by rw [Nat.add_mul, Nat.one_mul, e1]
  rw [e1] at h1
  rw [e2] at h2
  refine ⟨?_, ?_⟩
  · rw [List.take_take, Nat.min_eq_left (by omega)]
    exact h1
  · rw [List.drop_take, List.drop_drop, show 2 * r - r = r by omega]
    exact h2
/-- A piece more that rises, behind whole pieces. -/
theorem RunsK.snoc {d : Nat} {m s : List LabB} (hm : RunsK d m) (j : Nat) (hj : m.length = j * d) (hs : SortedK s) (hl : s.length ≤ d) : RunsK d (m ++ s) := fun i => by
  by_cases hi : i < j
  · have h1 : i * d + d ≤ m.length := by
      rw [hj, ← Nat.succ_mul]
      exact Nat.mul_le_mul_right _ hi
    rw [List.drop_append_of_le_length (by omega), List.take_append_of_le_length (by rw [List.length_drop]; omega)]
    exact hm i
  · have h1 : m.length ≤ i * d := by
      rw [hj]
      exact Nat.mul_le_mul_right _ (by omega)
    rw [List.drop_append, List.drop_of_length_le h1, List.nil_append]
    by_cases hz : i * d - m.length = 0
    · rw [hz, List.drop_zero, List.take_of_length_le hl]
      exact hs
    · exact hs.sublist ((List.take_sublist _ _).trans (List.drop_sublist _ _))
theorem RunsK.nil (d : Nat) : RunsK d [] := fun i => by simp [SortedK]
/-- What is not once in a part is not once in the whole. -/
theorem once_part {l m c : List LabB} (h : OnceK l) (hp : m.Perm l) (hc : c.Sublist m) : OnceK c := List.Pairwise.sublist hc (h.perm hp.symm)
theorem halves_once {c : List LabB} {r : Nat} (h : mergeL (c.take r) (c.drop r) = none) : ¬ OnceK c := fun ho => by
  obtain ⟨x, hx, y, hy, e⟩ := mergeL_none _ (Nat.le_refl _) h
  rw [← List.take_append_drop r c] at ho
  exact (List.pairwise_append.1 ho).2.2 x hx y hy e
theorem sortK_twice {l : List LabB} (h : ¬ OnceK l) : sortK l = none := by
  cases hs : sortK l with
  | none => rfl
  | some s => exact absurd (sortK_once hs) h
end Go.Proofs.Ytlocjhnlemlnmaa
