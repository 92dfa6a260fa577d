/- More of histograms' numbers: numbers put in order one by one; the least and the greatest; how many items there may be. -/
import Derived.Test.YtklklpccpbhfgaaHiPut
namespace Go.Proofs.Ytklklpccpbhfgaa

/-- Where x goes: ahead of the first that is not less. -/
def cutAt (x : Int) : List Int → Nat
  | [] => 0
  | y :: r => if y < x then cutAt x r + 1 else 0
theorem cutAt_le (x : Int) : ∀ s, cutAt x s ≤ s.length
  | [] => Nat.le_refl _
  | y :: r => by
    unfold cutAt
    split
    · have := cutAt_le x r; simp only [List.length_cons]; omega
    · omega
/-- The loop's test: each ahead of it is less; it is not. -/
theorem cutAt_lt (x : Int) : ∀ (s : List Int) (i : Nat), i < cutAt x s → ∃ h : i < s.length, s[i] < x
  | [], i, h => by simp [cutAt] at h
  | y :: r, i, h => by
    unfold cutAt at h
    split at h
    · rename_i hy
      cases i with
      | zero => exact ⟨by simp, hy⟩
      | succ j =>
        obtain ⟨h1, h2⟩ := cutAt_lt x r j (by omega)
        exact ⟨by simp; omega, by simpa using h2⟩
    · omega
theorem cutAt_ge (x : Int) : ∀ (s : List Int) (h : cutAt x s < s.length), ¬ s[cutAt x s] < x
  | [], h => by simp at h
  | y :: r, h => by
    by_cases hy : y < x
    · have e : cutAt x (y :: r) = cutAt x r + 1 := by rw [cutAt, if_pos hy]
      have h' : cutAt x r < r.length := by rw [e] at h; simp at h; omega
      have := cutAt_ge x r h'
      simp only [e, List.getElem_cons_succ]
      exact this
    · have e : cutAt x (y :: r) = 0 := by rw [cutAt, if_neg hy]
      simp only [e, List.getElem_cons_zero]
      exact hy
/-- x among numbers in order. -/
def putIn (x : Int) (s : List Int) : List Int := s.take (cutAt x s) ++ x :: s.drop (cutAt x s)
theorem putIn_perm (x : Int) (s : List Int) : (putIn x s).Perm (x :: s) := by
  unfold putIn
  have h := List.perm_middle (a := x) (l₁ := s.take (cutAt x s)) (l₂ := s.drop (cutAt x s))
  rw [List.take_append_drop] at h
  exact h
theorem putIn_sorted (x : Int) {s : List Int} (h : s.Pairwise (· ≤ ·)) : (putIn x s).Pairwise (· ≤ ·) := by
  have ht : ∀ a ∈ s.take (cutAt x s), a < x := fun a ha => by
    obtain ⟨i, hi, rfl⟩ := List.mem_iff_getElem.1 ha
    rw [List.length_take] at hi
    obtain ⟨h1, h2⟩ := cutAt_lt x s i (by omega)
    rw [List.getElem_take]
    exact h2
  have hd : ∀ b ∈ s.drop (cutAt x s), x ≤ b := fun b hb => by
    obtain ⟨i, hi, rfl⟩ := List.mem_iff_getElem.1 hb
    rw [List.length_drop] at hi
    have h1 := cutAt_ge x s (by omega)
    rw [List.getElem_drop]
    have h2 : s[cutAt x s] ≤ s[cutAt x s + i] := by
      rcases Nat.eq_zero_or_pos i with rfl | hp
      · exact Int.le_refl _
      · exact List.pairwise_iff_getElem.1 h _ _ _ _ (by omega)
    omega
  have h0 : (s.take (cutAt x s) ++ s.drop (cutAt x s)).Pairwise (· ≤ ·) := by rw [List.take_append_drop]; exact h
  obtain ⟨p1, p2, p3⟩ := List.pairwise_append.1 h0
  unfold putIn
  rw [List.pairwise_append, List.pairwise_cons]
  refine ⟨p1, ⟨hd, p2⟩, fun a ha b hb => ?_⟩
  rcases List.mem_cons.1 hb with rfl | hb
  · exact Int.le_of_lt (ht a ha)
  · exact p3 a ha b hb
/-- Many, one by one. -/
def sortL (l : List Int) : List Int := l.foldl (fun s x => putIn x s) []
theorem sortL_snoc (l : List Int) (x : Int) : sortL (l ++ [x]) = putIn x (sortL l) := by unfold sortL; rw [List.foldl_append]; rfl
theorem foldl_putIn : ∀ (l s : List Int), s.Pairwise (· ≤ ·) → (l.foldl (fun s x => putIn x s) s).Perm (l ++ s) ∧ (l.foldl (fun s x => putIn x s) s).Pairwise (· ≤ ·)
  | [], s, h => ⟨List.Perm.refl _, h⟩
  | x :: r, s, h => by
    obtain ⟨h1, h2⟩ := foldl_putIn r (putIn x s) (putIn_sorted x h)
    refine ⟨?_, h2⟩
    rw [List.foldl_cons]
    refine h1.trans ?_
    refine ((putIn_perm x s).append_left r).trans ?_
    exact List.perm_middle
theorem sortL_perm (l : List Int) : (sortL l).Perm l := by
  have := (foldl_putIn l [] List.Pairwise.nil).1
  rwa [List.append_nil] at this
theorem sortL_sorted (l : List Int) : (sortL l).Pairwise (· ≤ ·) := (foldl_putIn l [] List.Pairwise.nil).2
theorem sortL_length (l : List Int) : (sortL l).length = l.length := (sortL_perm l).length_eq
/-- The least comes first, the greatest last. -/
theorem sorted_first {s l : List Int} (hp : s.Perm l) (hs : s.Pairwise (· ≤ ·)) {x : Int} (h : s[0]? = some x) : x ∈ l ∧ ∀ y ∈ l, x ≤ y := by
  match s, h with
  | a :: r, h =>
    simp at h
    subst h
    refine ⟨hp.mem_iff.1 (by simp), fun y hy => ?_⟩
    rcases List.mem_cons.1 (hp.mem_iff.2 hy) with rfl | h
    · exact Int.le_refl _
    · exact (List.pairwise_cons.1 hs).1 y h
theorem sorted_last {s l : List Int} (hp : s.Perm l) (hs : s.Pairwise (· ≤ ·)) {x : Int} (h : s[s.length - 1]? = some x) : x ∈ l ∧ ∀ y ∈ l, y ≤ x := by
  obtain ⟨h1, rfl⟩ := List.getElem?_eq_some_iff.1 h
  refine ⟨hp.mem_iff.1 (List.getElem_mem h1), fun y hy => ?_⟩
  obtain ⟨i, hi, rfl⟩ := List.mem_iff_getElem.1 (hp.mem_iff.2 hy)
  rcases Nat.lt_or_ge i (s.length - 1) with h2 | h2
  · exact List.pairwise_iff_getElem.1 hs _ _ _ _ h2
  · have : i = s.length - 1 := by omega
    subst this
    exact Int.le_refl _

theorem more_length (x : Hit) : ∀ l, (more x l).length ≤ l.length + 1
  | [] => by simp [more]
  | y :: r => by
    unfold more
    split
    · have := more_length x r; simp only [List.length_cons]; omega
    · split <;> simp only [List.length_cons] <;> omega
theorem foldl_length : ∀ (bs : List Int) (l : List Hit), (bs.foldl (fun l b => more ⟨b, 1⟩ l) l).length ≤ l.length + bs.length
  | [], _ => by simp
  | b :: r, l => by
    have h1 := foldl_length r (more ⟨b, 1⟩ l)
    have h2 := more_length ⟨b, 1⟩ l
    rw [List.foldl_cons, List.length_cons]
    omega
theorem itemsOf_length (bs : List Int) : (itemsOf bs).length ≤ bs.length := by
  have := foldl_length bs []
  simpa [itemsOf] using this
theorem foldl_mem : ∀ (bs : List Int) (l : List Hit) (y : Hit), y ∈ bs.foldl (fun l b => more ⟨b, 1⟩ l) l → y.at_ ∈ bs ∨ ∃ z ∈ l, z.at_ = y.at_
  | [], _, y, h => .inr ⟨y, h, rfl⟩
  | b :: r, l, y, h => by
    rcases foldl_mem r _ y h with h | ⟨z, hz, e⟩
    · exact .inl (List.mem_cons_of_mem _ h)
    · rcases mem_more ⟨b, 1⟩ l z hz with h | h
      · left
        rw [← e, h]
        simp
      · exact .inr ⟨z, h, e⟩
theorem itemsOf_mem {bs : List Int} {y : Hit} (h : y ∈ itemsOf bs) : y.at_ ∈ bs := by
  rcases foldl_mem bs [] y h with h | ⟨z, hz, _⟩
  · exact h
  · simp at hz
/-- Items' numbers, told by their bucket. -/
theorem many_of_mem {a : Int} : ∀ {l : List Hit}, Rising l → ∀ y ∈ l, y.at_ = a → manyH a l = y.many
  | [], _, _, h, _ => by simp at h
  | z :: r, hl, y, h, e => by
    have p := List.pairwise_cons.1 hl.1
    rcases List.mem_cons.1 h with rfl | h
    · have := manyH_low (a := a) (l := r) (fun u hu => by rw [← e]; exact p.1 u hu)
      simp only [manyH, this, if_pos e]
      omega
    · have h1 := p.1 y h
      have h2 := many_of_mem ⟨p.2, fun u hu => hl.2 u (List.mem_cons_of_mem _ hu)⟩ y h e
      simp only [manyH, h2]
      rw [if_neg (by omega)]
      omega
theorem many_none {a : Int} : ∀ {l : List Hit}, (∀ y ∈ l, y.at_ ≠ a) → manyH a l = 0
  | [], _ => rfl
  | z :: r, h => by
    simp only [manyH, many_none (fun u hu => h u (List.mem_cons_of_mem _ hu))]
    rw [if_neg (h z (by simp))]
end Go.Proofs.Ytklklpccpbhfgaa
