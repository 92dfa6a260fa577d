/- More numbers of histograms: where a bucket stands among items; two rows of items taken together; how many items there may be. -/
import Derived.Test.YtklklpccpbhfgaaHiMore
import Derived.Test.YtklklpccpbhfgaaHiBd
namespace Go.Proofs.Ytklklpccpbhfgaa

instance : Inhabited Hit := ⟨⟨0, 0⟩⟩
/-- How many items are ahead of bucket a. -/
def cutH (a : Int) : List Hit → Nat
  | [] => 0
  | y :: r => if y.at_ < a then cutH a r + 1 else 0
theorem cutH_le (a : Int) : ∀ l, cutH a l ≤ l.length
  | [] => Nat.le_refl _
  | y :: r => by
    unfold cutH
    split
    · have := cutH_le a r; simp only [List.length_cons]; omega
    · omega
theorem cutH_lt (a : Int) : ∀ (l : List Hit) (i : Nat), i < cutH a l → l[i]!.at_ < a
  | [], i, h => by simp [cutH] at h
  | y :: r, i, h => by
    unfold cutH at h
    split at h
    · rename_i hy
      cases i with
      | zero => exact hy
      | succ j => simpa using cutH_lt a r j (by omega)
    · omega
theorem cutH_at (a : Int) : ∀ (l : List Hit), cutH a l < l.length → ¬ l[cutH a l]!.at_ < a
  | [], h => by simp at h
  | y :: r, h => by
    by_cases hy : y.at_ < a
    · have e : cutH a (y :: r) = cutH a r + 1 := by rw [cutH, if_pos hy]
      have h' : cutH a r < r.length := by rw [e] at h; simp at h; omega
      have := cutH_at a r h'
      rw [e]
      simpa using this
    · have e : cutH a (y :: r) = 0 := by rw [cutH, if_neg hy]
      rw [e]
      simpa using hy
theorem at_mem {l : List Hit} {i : Nat} (h : i < l.length) : l[i]! ∈ l := by rw [getElem!_pos l i h]; exact List.getElem_mem h
theorem Rising.lt {l : List Hit} (h : Rising l) {i j : Nat} (hij : i < j) (hj : j < l.length) : l[i]!.at_ < l[j]!.at_ := by
  rw [getElem!_pos l i (by omega), getElem!_pos l j hj]
  exact List.pairwise_iff_getElem.1 h.1 i j (by omega) hj hij
theorem Rising.le {l : List Hit} (h : Rising l) {i j : Nat} (hij : i ≤ j) (hj : j < l.length) : l[i]!.at_ ≤ l[j]!.at_ := by
  rcases Nat.lt_or_eq_of_le hij with h1 | rfl
  · exact Int.le_of_lt (h.lt h1 hj)
  · exact Int.le_refl _
theorem cut_iff {l : List Hit} (h : Rising l) (a : Int) {i : Nat} (hi : i < l.length) : l[i]!.at_ < a ↔ i < cutH a l := by
  constructor
  · intro h1
    by_cases h2 : i < cutH a l
    · exact h2
    · exfalso
      have h3 := cutH_at a l (by omega)
      have h4 := h.le (show cutH a l ≤ i by omega) hi
      omega
  · exact cutH_lt a l i
theorem more_found {a : Int} {m : Nat} : ∀ {l : List Hit}, cutH a l < l.length → l[cutH a l]!.at_ = a → more ⟨a, m⟩ l = l.set (cutH a l) ⟨l[cutH a l]!.at_, l[cutH a l]!.many + m⟩
  | [], h, _ => by simp at h
  | y :: r, h, e => by
    by_cases hy : y.at_ < a
    · have ec : cutH a (y :: r) = cutH a r + 1 := by rw [cutH, if_pos hy]
      rw [ec] at h e ⊢
      rw [more, if_pos hy, List.set_cons_succ]
      simp only [List.length_cons, Nat.add_lt_add_iff_right] at h
      rw [show (y :: r)[cutH a r + 1]! = r[cutH a r]! by simp] at e ⊢
      rw [more_found h e]
    · have ec : cutH a (y :: r) = 0 := by rw [cutH, if_neg hy]
      rw [ec] at e ⊢
      have e' : y.at_ = a := by simpa using e
      rw [more, if_neg hy, if_pos e']
      simp [e']
theorem more_new {a : Int} {m : Nat} : ∀ {l : List Hit}, (cutH a l < l.length → l[cutH a l]!.at_ ≠ a) → more ⟨a, m⟩ l = l.take (cutH a l) ++ ⟨a, m⟩ :: l.drop (cutH a l)
  | [], _ => by simp [more, cutH]
  | y :: r, e => by
    by_cases hy : y.at_ < a
    · have ec : cutH a (y :: r) = cutH a r + 1 := by rw [cutH, if_pos hy]
      rw [ec] at e ⊢
      rw [more, if_pos hy, List.take_succ_cons, List.drop_succ_cons]
      simp only [List.length_cons, Nat.add_lt_add_iff_right] at e
      rw [show (y :: r)[cutH a r + 1]! = r[cutH a r]! by simp] at e
      rw [more_new e]
      rfl
    · have ec : cutH a (y :: r) = 0 := by rw [cutH, if_neg hy]
      rw [ec] at e ⊢
      have e' : ¬ y.at_ = a := by simpa using e
      rw [more, if_neg hy, if_neg e']
      rfl
theorem many_le_count : ∀ {l : List Hit} {x : Hit}, x ∈ l → x.many ≤ countH l
  | [], _, h => by simp at h
  | y :: r, x, h => by
    rcases List.mem_cons.1 h with rfl | h
    · simp only [countH]; omega
    · have := many_le_count h
      simp only [countH]; omega
theorem countH_take_le (l : List Hit) (i : Nat) : countH (l.take i) ≤ countH l := by
  have := countH_append (l.take i) (l.drop i)
  rw [List.take_append_drop] at this
  omega
theorem countH_take_succ (l : List Hit) (i : Nat) (h : i < l.length) : countH (l.take (i + 1)) = countH (l.take i) + l[i]!.many := by
  rw [List.take_add_one, List.getElem?_eq_getElem h, countH_append, getElem!_pos l i h]
  simp [countH]
/-- What holds of a histogram's items: rising, none empty, the buckets are some of those bits, and not too many numbers. -/
structure Inv (k : Nat) (l : List Hit) : Prop where
  hk : k ≤ 4
  ris : Rising l
  fit : ∀ x ∈ l, Fits k x.at_
  sum : countH l ≤ 1099511627776
theorem Inv.nil {k : Nat} (hk : k ≤ 4) : Inv k [] := ⟨hk, Rising.nil, fun _ h => by simp at h, by simp [countH]⟩
theorem Inv.more {k : Nat} {l : List Hit} (h : Inv k l) {x : Hit} (hx : Fits k x.at_) (hp : 0 < x.many) (hs : countH l + x.many ≤ 1099511627776) : Inv k (more x l) :=
  ⟨h.hk, h.ris.more hp, fun y hy => by
    rcases mem_more x l y hy with e | hy
    · rw [e]; exact hx
    · exact h.fit y hy, by rw [countH_more]; exact hs⟩
theorem countH_mergeH : ∀ (m l : List Hit), countH (mergeH l m) = countH l + countH m
  | [], l => by simp [mergeH, countH]
  | x :: r, l => by
    have := countH_mergeH r (more x l)
    unfold mergeH at this ⊢
    rw [List.foldl_cons, this, countH_more]
    simp only [countH]
    omega
theorem Inv.merge {k : Nat} : ∀ {m l : List Hit}, Inv k l → Rising m → (∀ x ∈ m, Fits k x.at_) → countH l + countH m ≤ 1099511627776 → Inv k (mergeH l m)
  | [], _, h, _, _, _ => h
  | x :: r, l, h, hm, hf, hs => by
    simp only [countH] at hs
    have h1 : Inv k (Go.Proofs.Ytklklpccpbhfgaa.more x l) := h.more (hf x (by simp)) (hm.2 x (by simp)) (by omega)
    exact Inv.merge (m := r) h1 ⟨(List.pairwise_cons.1 hm.1).2, fun u hu => hm.2 u (List.mem_cons_of_mem _ hu)⟩ (fun u hu => hf u (List.mem_cons_of_mem _ hu)) (by rw [countH_more]; omega)
theorem rising_length : ∀ (l : List Hit) (a : Int), l.Pairwise (fun x y => x.at_ < y.at_) → (∀ x ∈ l, a ≤ x.at_) → (∀ x ∈ l, x.at_ ≤ 1000) → l ≠ [] → a + l.length ≤ 1001
  | [], _, _, _, _, h => absurd rfl h
  | [x], a, _, h1, h2, _ => by
    have := h1 x (by simp); have := h2 x (by simp)
    simp only [List.length_cons, List.length_nil]; omega
  | x :: y :: r, a, hp, h1, h2, _ => by
    have hp1 := List.pairwise_cons.1 hp
    have := rising_length (y :: r) (a + 1) hp1.2 (fun u hu => by have := hp1.1 u hu; have := h1 x (by simp); omega) (fun u hu => h2 u (List.mem_cons_of_mem _ hu)) (by simp)
    simp only [List.length_cons] at this ⊢
    omega
theorem Inv.len {k : Nat} {l : List Hit} (h : Inv k l) : l.length ≤ 2001 := by
  by_cases h0 : l = []
  · subst h0; simp
  · have := rising_length l (-1000) h.ris.1 (fun x hx => (fits_small k h.hk _ (h.fit x hx)).1) (fun x hx => (fits_small k h.hk _ (h.fit x hx)).2) h0
    omega
theorem Inv.many {k : Nat} {l : List Hit} (h : Inv k l) {i : Nat} (hi : i < l.length) : 0 < l[i]!.many ∧ l[i]!.many ≤ 1099511627776 := by
  have h1 := many_le_count (at_mem hi)
  have h2 := h.sum
  exact ⟨h.ris.2 _ (at_mem hi), by omega⟩
theorem Inv.at {k : Nat} {l : List Hit} (h : Inv k l) {i : Nat} (hi : i < l.length) : -1000 ≤ l[i]!.at_ ∧ l[i]!.at_ ≤ 1000 := fits_small k h.hk _ (h.fit _ (at_mem hi))

/-- Two rows of items, both rising, taken together. -/
def join : List Hit → List Hit → List Hit
  | [], m => m
  | l, [] => l
  | x :: l, y :: m => if x.at_ < y.at_ then x :: join l (y :: m) else if y.at_ < x.at_ then y :: join (x :: l) m else ⟨x.at_, x.many + y.many⟩ :: join l m
termination_by l m => l.length + m.length
theorem join_nil_left (m : List Hit) : join [] m = m := by unfold join; rfl
theorem join_nil_right (l : List Hit) : join l [] = l := by
  cases l with
  | nil => exact join_nil_left []
  | cons x l => unfold join; rfl
theorem join_cons (x y : Hit) (l m : List Hit) : join (x :: l) (y :: m) = if x.at_ < y.at_ then x :: join l (y :: m) else if y.at_ < x.at_ then y :: join (x :: l) m else ⟨x.at_, x.many + y.many⟩ :: join l m := by
  rw [join]
theorem join_many (a : Int) : ∀ (n : Nat) (l m : List Hit), l.length + m.length ≤ n → manyH a (join l m) = manyH a l + manyH a m
  | n, [], m, _ => by rw [join_nil_left]; simp [manyH]
  | n, x :: l, [], _ => by rw [join_nil_right]; simp [manyH]
  | 0, x :: l, y :: m, h => by simp at h
  | n + 1, x :: l, y :: m, h => by
    simp only [List.length_cons] at h
    rw [join_cons]
    split
    · simp only [manyH, join_many a n l (y :: m) (by simp only [List.length_cons]; omega)]; omega
    · split
      · simp only [manyH, join_many a n (x :: l) m (by simp only [List.length_cons]; omega)]; omega
      · rename_i h1 h2
        have e : y.at_ = x.at_ := by omega
        simp only [manyH, join_many a n l m (by omega), e]
        split <;> omega
theorem mem_join : ∀ (n : Nat) (l m : List Hit), l.length + m.length ≤ n → ∀ z ∈ join l m, (∃ x ∈ l, x.at_ = z.at_) ∨ ∃ y ∈ m, y.at_ = z.at_
  | n, [], m, _, z, hz => by rw [join_nil_left] at hz; exact .inr ⟨z, hz, rfl⟩
  | n, x :: l, [], _, z, hz => by rw [join_nil_right] at hz; exact .inl ⟨z, hz, rfl⟩
  | 0, x :: l, y :: m, h, _, _ => by simp at h
  | n + 1, x :: l, y :: m, h, z, hz => by
    simp only [List.length_cons] at h
    rw [join_cons] at hz
    split at hz
    · rcases List.mem_cons.1 hz with rfl | hz
      · exact .inl ⟨_, by simp, rfl⟩
      · rcases mem_join n l (y :: m) (by simp only [List.length_cons]; omega) z hz with ⟨u, hu, e⟩ | ⟨u, hu, e⟩
        · exact .inl ⟨u, List.mem_cons_of_mem _ hu, e⟩
        · exact .inr ⟨u, hu, e⟩
    · split at hz
      · rcases List.mem_cons.1 hz with rfl | hz
        · exact .inr ⟨_, by simp, rfl⟩
        · rcases mem_join n (x :: l) m (by simp only [List.length_cons]; omega) z hz with ⟨u, hu, e⟩ | ⟨u, hu, e⟩
          · exact .inl ⟨u, hu, e⟩
          · exact .inr ⟨u, List.mem_cons_of_mem _ hu, e⟩
      · rcases List.mem_cons.1 hz with rfl | hz
        · exact .inl ⟨x, by simp, rfl⟩
        · rcases mem_join n l m (by omega) z hz with ⟨u, hu, e⟩ | ⟨u, hu, e⟩
          · exact .inl ⟨u, List.mem_cons_of_mem _ hu, e⟩
          · exact .inr ⟨u, List.mem_cons_of_mem _ hu, e⟩
theorem join_rising : ∀ (n : Nat) (l m : List Hit), l.length + m.length ≤ n → Rising l → Rising m → Rising (join l m)
  | n, [], m, _, _, hm => by rw [join_nil_left]; exact hm
  | n, x :: l, [], _, hl, _ => by rw [join_nil_right]; exact hl
  | 0, x :: l, y :: m, h, _, _ => by simp at h
  | n + 1, x :: l, y :: m, h, hl, hm => by
    simp only [List.length_cons] at h
    have pl := List.pairwise_cons.1 hl.1
    have pm := List.pairwise_cons.1 hm.1
    have tl : Rising l := ⟨pl.2, fun u hu => hl.2 u (List.mem_cons_of_mem _ hu)⟩
    have tm : Rising m := ⟨pm.2, fun u hu => hm.2 u (List.mem_cons_of_mem _ hu)⟩
    have cons : ∀ (z : Hit) (p : List Hit), 0 < z.many → Rising p → (∀ u ∈ p, z.at_ < u.at_) → Rising (z :: p) := fun z p hz hp hu =>
      ⟨List.pairwise_cons.2 ⟨hu, hp.1⟩, fun u hu => by
        rcases List.mem_cons.1 hu with rfl | hu
        · exact hz
        · exact hp.2 u hu⟩
    rw [join_cons]
    split
    · rename_i h1
      refine cons x _ (hl.2 x (by simp)) (join_rising n l (y :: m) (by simp only [List.length_cons]; omega) tl hm) fun u hu => ?_
      rcases mem_join n l (y :: m) (by simp only [List.length_cons]; omega) u hu with ⟨v, hv, e⟩ | ⟨v, hv, e⟩
      · rw [← e]; exact pl.1 v hv
      · rw [← e]
        rcases List.mem_cons.1 hv with rfl | hv
        · exact h1
        · exact Int.lt_trans h1 (pm.1 v hv)
    · split
      · rename_i h1 h2
        refine cons y _ (hm.2 y (by simp)) (join_rising n (x :: l) m (by simp only [List.length_cons]; omega) hl tm) fun u hu => ?_
        rcases mem_join n (x :: l) m (by simp only [List.length_cons]; omega) u hu with ⟨v, hv, e⟩ | ⟨v, hv, e⟩
        · rw [← e]
          rcases List.mem_cons.1 hv with rfl | hv
          · exact h2
          · exact Int.lt_trans h2 (pl.1 v hv)
        · rw [← e]; exact pm.1 v hv
      · rename_i h1 h2
        refine cons _ _ (by have := hl.2 x (by simp); show 0 < x.many + y.many; omega) (join_rising n l m (by omega) tl tm) fun u hu => ?_
        rcases mem_join n l m (by omega) u hu with ⟨v, hv, e⟩ | ⟨v, hv, e⟩
        · rw [← e]; exact pl.1 v hv
        · rw [← e]; have := pm.1 v hv; show x.at_ < v.at_; omega
theorem join_eq {l m : List Hit} (hl : Rising l) (hm : Rising m) : join l m = mergeH l m :=
  rising_ext (join_rising _ l m (Nat.le_refl _) hl hm) (mergeH_rising m l hl hm.2) fun a => by rw [join_many a _ l m (Nat.le_refl _), mergeH_many]
theorem join_length : ∀ (n : Nat) (l m : List Hit), l.length + m.length ≤ n → (join l m).length ≤ l.length + m.length
  | n, [], m, _ => by rw [join_nil_left]; simp
  | n, x :: l, [], _ => by rw [join_nil_right]; simp
  | 0, x :: l, y :: m, h => by simp at h
  | n + 1, x :: l, y :: m, h => by
    simp only [List.length_cons] at h
    rw [join_cons]
    split
    · have := join_length n l (y :: m) (by simp only [List.length_cons]; omega)
      simp only [List.length_cons] at this ⊢; omega
    · split
      · have := join_length n (x :: l) m (by simp only [List.length_cons]; omega)
        simp only [List.length_cons] at this ⊢; omega
      · have := join_length n l m (by omega)
        simp only [List.length_cons] at this ⊢; omega
/-- The rest of a row. -/
theorem drop_at {l : List Hit} {i : Nat} (h : i < l.length) : l.drop i = l[i]! :: l.drop (i + 1) := by rw [List.drop_eq_getElem_cons h, getElem!_pos l i h]
end Go.Proofs.Ytklklpccpbhfgaa
