/- The numbers of histograms: items (a bucket, how many stand in it), rising; what comes of one more; ranks. -/
namespace Go.Proofs.Ytklklpccpbhfgaa

/-- A bucket, and how many stand in it. -/
structure Hit where
  at_ : Int
  many : Nat
deriving DecidableEq

/-- So many more stand in a bucket. -/
def more (x : Hit) : List Hit → List Hit
  | [] => [x]
  | y :: r => if y.at_ < x.at_ then y :: more x r else if y.at_ = x.at_ then ⟨y.at_, y.many + x.many⟩ :: r else x :: y :: r
/-- How many there are. -/
def countH : List Hit → Nat
  | [] => 0
  | y :: r => y.many + countH r
/-- How many stand in bucket a. -/
def manyH (a : Int) : List Hit → Nat
  | [] => 0
  | y :: r => (if y.at_ = a then y.many else 0) + manyH a r
/-- Rising, none empty. -/
def Rising (l : List Hit) : Prop := l.Pairwise (fun x y => x.at_ < y.at_) ∧ ∀ x ∈ l, 0 < x.many

theorem countH_more (x : Hit) : ∀ l, countH (more x l) = countH l + x.many
  | [] => by simp [more, countH]
  | y :: r => by
    unfold more
    split
    · simp only [countH, countH_more x r]; omega
    · split <;> simp only [countH] <;> omega
theorem manyH_more (x : Hit) (a : Int) : ∀ l, manyH a (more x l) = manyH a l + if x.at_ = a then x.many else 0
  | [] => by simp [more, manyH]
  | y :: r => by
    unfold more
    split
    · simp only [manyH, manyH_more x a r]; omega
    · split
      · rename_i h1 h2
        simp only [manyH, h2]
        split <;> omega
      · simp only [manyH]; omega
theorem mem_more (x : Hit) : ∀ (l : List Hit) (y : Hit), y ∈ more x l → y.at_ = x.at_ ∨ y ∈ l
  | [], y, h => by simp [more] at h; exact .inl (by rw [h])
  | z :: r, y, h => by
    unfold more at h
    split at h
    · rcases List.mem_cons.1 h with rfl | h
      · exact .inr (by simp)
      · exact (mem_more x r y h).imp id (fun h => List.mem_cons_of_mem _ h)
    · split at h
      · rename_i h1 h2
        rcases List.mem_cons.1 h with rfl | h
        · exact .inl h2
        · exact .inr (List.mem_cons_of_mem _ h)
      · rcases List.mem_cons.1 h with rfl | h
        · exact .inl rfl
        · exact .inr h
theorem pairs_more (x : Hit) : ∀ l : List Hit, l.Pairwise (fun x y => x.at_ < y.at_) → (more x l).Pairwise (fun x y => x.at_ < y.at_)
  | [], _ => by simp [more]
  | y :: r, h => by
    rw [List.pairwise_cons] at h
    unfold more
    split
    · rename_i h1
      rw [List.pairwise_cons]
      refine ⟨fun z hz => ?_, pairs_more x r h.2⟩
      rcases mem_more x r z hz with h2 | h2
      · omega
      · exact h.1 z h2
    · split
      · rename_i h1 h2
        rw [List.pairwise_cons]
        exact ⟨fun z hz => h.1 z hz, h.2⟩
      · rename_i h1 h2
        rw [List.pairwise_cons]
        refine ⟨fun z hz => ?_, List.pairwise_cons.2 h⟩
        rcases List.mem_cons.1 hz with rfl | hz
        · omega
        · have := h.1 z hz; omega
theorem pos_more (x : Hit) (hx : 0 < x.many) : ∀ l : List Hit, (∀ y ∈ l, 0 < y.many) → ∀ y ∈ more x l, 0 < y.many
  | [], _, y, h => by simp [more] at h; rw [h]; exact hx
  | z :: r, hl, y, h => by
    unfold more at h
    split at h
    · rcases List.mem_cons.1 h with rfl | h
      · exact hl _ (by simp)
      · exact pos_more x hx r (fun u hu => hl u (List.mem_cons_of_mem _ hu)) y h
    · split at h
      · rcases List.mem_cons.1 h with rfl | h
        · show 0 < z.many + x.many; omega
        · exact hl y (List.mem_cons_of_mem _ h)
      · rcases List.mem_cons.1 h with rfl | h
        · exact hx
        · exact hl y h
theorem Rising.more {x : Hit} (hx : 0 < x.many) {l : List Hit} (h : Rising l) : Rising (more x l) := ⟨pairs_more x l h.1, pos_more x hx l h.2⟩
theorem Rising.nil : Rising [] := ⟨List.Pairwise.nil, fun _ h => by simp at h⟩
theorem manyH_low {a : Int} : ∀ {l : List Hit}, (∀ y ∈ l, a < y.at_) → manyH a l = 0
  | [], _ => rfl
  | y :: r, h => by
    have h1 := h y (by simp)
    have h2 := manyH_low (a := a) (l := r) (fun u hu => h u (List.mem_cons_of_mem _ hu))
    simp only [manyH, h2]
    rw [if_neg (by omega)]
/-- Rising items are told by how many stand in each bucket. -/
theorem rising_ext : ∀ {l m : List Hit}, Rising l → Rising m → (∀ a, manyH a l = manyH a m) → l = m
  | [], [], _, _, _ => rfl
  | [], y :: r, _, hm, h => by
    have h1 := h y.at_
    have h2 := hm.2 y (by simp)
    simp only [manyH, if_pos] at h1
    omega
  | y :: r, [], hl, _, h => by
    have h1 := h y.at_
    have h2 := hl.2 y (by simp)
    simp only [manyH, if_pos] at h1
    omega
  | y :: r, z :: s, hl, hm, h => by
    have p1 := List.pairwise_cons.1 hl.1
    have p2 := List.pairwise_cons.1 hm.1
    have q1 := hl.2 y (by simp)
    have q2 := hm.2 z (by simp)
    have e : y.at_ = z.at_ := by
      rcases Int.lt_trichotomy y.at_ z.at_ with hc | hc | hc
      · exfalso
        have h1 := h y.at_
        have h2 : manyH y.at_ (z :: s) = 0 := manyH_low (fun u hu => by
          rcases List.mem_cons.1 hu with rfl | hu
          · exact hc
          · exact Int.lt_trans hc (p2.1 u hu))
        rw [h2] at h1
        simp only [manyH, if_pos] at h1
        omega
      · exact hc
      · exfalso
        have h1 := h z.at_
        have h2 : manyH z.at_ (y :: r) = 0 := manyH_low (fun u hu => by
          rcases List.mem_cons.1 hu with rfl | hu
          · exact hc
          · exact Int.lt_trans hc (p1.1 u hu))
        rw [h2] at h1
        simp only [manyH, if_pos] at h1
        omega
    have hy : manyH y.at_ r = 0 := manyH_low p1.1
    have hz : manyH z.at_ s = 0 := manyH_low p2.1
    have hmany : y.many = z.many := by
      have h1 := h y.at_
      simp only [manyH, if_pos, if_pos e.symm] at h1
      rw [e] at hy h1
      omega
    have hrest : r = s := rising_ext ⟨p1.2, fun u hu => hl.2 u (List.mem_cons_of_mem _ hu)⟩ ⟨p2.2, fun u hu => hm.2 u (List.mem_cons_of_mem _ hu)⟩ (fun a => by
      have h1 := h a
      simp only [manyH, hmany, e] at h1
      omega)
    rw [hrest]
    congr 1
    cases y; cases z
    simp_all
/-- The items of many buckets, one more each. -/
def itemsOf (bs : List Int) : List Hit := bs.foldl (fun l b => more ⟨b, 1⟩ l) []
theorem foldl_rising : ∀ (bs : List Int) (l : List Hit), Rising l → Rising (bs.foldl (fun l b => more ⟨b, 1⟩ l) l)
  | [], _, h => h
  | b :: r, l, h => foldl_rising r _ (h.more (by show 0 < 1; omega))
theorem itemsOf_rising (bs : List Int) : Rising (itemsOf bs) := foldl_rising bs [] Rising.nil
theorem foldl_many (a : Int) : ∀ (bs : List Int) (l : List Hit), manyH a (bs.foldl (fun l b => more ⟨b, 1⟩ l) l) = manyH a l + bs.count a
  | [], l => by simp
  | b :: r, l => by
    rw [List.foldl_cons, foldl_many a r, manyH_more, List.count_cons]
    simp only [beq_iff_eq]
    omega
theorem itemsOf_many (a : Int) (bs : List Int) : manyH a (itemsOf bs) = bs.count a := by
  unfold itemsOf
  rw [foldl_many]
  simp [manyH]
theorem foldl_count : ∀ (bs : List Int) (l : List Hit), countH (bs.foldl (fun l b => more ⟨b, 1⟩ l) l) = countH l + bs.length
  | [], l => by simp
  | b :: r, l => by
    rw [List.foldl_cons, foldl_count r, countH_more, List.length_cons]
    show countH l + 1 + r.length = _
    omega
theorem itemsOf_count (bs : List Int) : countH (itemsOf bs) = bs.length := by
  unfold itemsOf
  rw [foldl_count]
  simp [countH]
theorem itemsOf_snoc (bs : List Int) (b : Int) : itemsOf (bs ++ [b]) = more ⟨b, 1⟩ (itemsOf bs) := by unfold itemsOf; rw [List.foldl_append]; rfl
/-- In whatever order they came. -/
theorem itemsOf_perm {bs cs : List Int} (h : bs.Perm cs) : itemsOf bs = itemsOf cs := rising_ext (itemsOf_rising _) (itemsOf_rising _) (fun a => by rw [itemsOf_many, itemsOf_many]; exact h.count_eq a)
/-- All items of one come to those of another one. -/
def mergeH (l m : List Hit) : List Hit := m.foldl (fun l x => more x l) l
theorem mergeH_rising : ∀ (m l : List Hit), Rising l → (∀ x ∈ m, 0 < x.many) → Rising (mergeH l m)
  | [], _, h, _ => h
  | x :: r, l, h, hm => mergeH_rising r _ (h.more (hm x (by simp))) (fun u hu => hm u (List.mem_cons_of_mem _ hu))
theorem mergeH_many (a : Int) : ∀ (m l : List Hit), manyH a (mergeH l m) = manyH a l + manyH a m
  | [], l => by simp [mergeH, manyH]
  | x :: r, l => by
    have := mergeH_many a r (more x l)
    unfold mergeH at this ⊢
    rw [List.foldl_cons, this, manyH_more]
    simp only [manyH]
    omega
theorem mergeH_items (bs cs : List Int) : mergeH (itemsOf bs) (itemsOf cs) = itemsOf (bs ++ cs) :=
  rising_ext (mergeH_rising _ _ (itemsOf_rising _) (itemsOf_rising _).2) (itemsOf_rising _) (fun a => by rw [mergeH_many, itemsOf_many, itemsOf_many, itemsOf_many, List.count_append])

/-- The bucket of the r-th, as they rise. -/
def rankH : List Hit → Nat → Option Int
  | [], _ => none
  | y :: r, n => if n ≤ y.many then some y.at_ else rankH r (n - y.many)
/-- Each bucket as often as there stand in it. -/
def spread (l : List Hit) : List Int := l.flatMap fun y => List.replicate y.many y.at_
theorem spread_length : ∀ l, (spread l).length = countH l
  | [] => rfl
  | y :: r => by
    have := spread_length r
    unfold spread at this ⊢
    rw [List.flatMap_cons, List.length_append, List.length_replicate, this]
    rfl
theorem rankH_spread : ∀ (l : List Hit) (n : Nat), 1 ≤ n → rankH l n = (spread l)[n - 1]?
  | [], n, _ => by simp [rankH, spread]
  | y :: r, n, h => by
    unfold rankH
    have e : spread (y :: r) = List.replicate y.many y.at_ ++ spread r := by unfold spread; rw [List.flatMap_cons]
    rw [e]
    split
    · rw [List.getElem?_append_left (by rw [List.length_replicate]; omega), List.getElem?_replicate, if_pos (by omega)]
    · rw [rankH_spread r (n - y.many) (by omega), List.getElem?_append_right (by rw [List.length_replicate]; omega), List.length_replicate]
      congr 1
      omega
theorem spread_count (a : Int) : ∀ l, (spread l).count a = manyH a l
  | [] => rfl
  | y :: r => by
    have e : spread (y :: r) = List.replicate y.many y.at_ ++ spread r := by unfold spread; rw [List.flatMap_cons]
    rw [e, List.count_append, spread_count a r, List.count_replicate]
    simp only [manyH, beq_iff_eq]
theorem mem_spread {a : Int} {l : List Hit} (h : a ∈ spread l) : ∃ y ∈ l, y.at_ = a := by
  obtain ⟨y, hy, h2⟩ := List.mem_flatMap.1 h
  exact ⟨y, hy, (List.eq_of_mem_replicate h2).symm⟩
theorem spread_sorted : ∀ {l : List Hit}, l.Pairwise (fun x y => x.at_ < y.at_) → (spread l).Pairwise (· ≤ ·)
  | [], _ => by simp [spread]
  | y :: r, h => by
    have p := List.pairwise_cons.1 h
    have e : spread (y :: r) = List.replicate y.many y.at_ ++ spread r := by unfold spread; rw [List.flatMap_cons]
    rw [e, List.pairwise_append]
    refine ⟨List.pairwise_replicate.2 (.inr (Int.le_refl _)), spread_sorted p.2, fun a ha b hb => ?_⟩
    obtain ⟨z, hz, rfl⟩ := mem_spread hb
    rw [List.eq_of_mem_replicate ha]
    exact Int.le_of_lt (p.1 z hz)
/-- Two lists in order with the same in them are the same. -/
theorem sorted_ext : ∀ {p q : List Int}, p.Pairwise (· ≤ ·) → q.Pairwise (· ≤ ·) → p.Perm q → p = q
  | [], q, _, _, h => (List.Perm.nil_eq h)
  | a :: p, [], _, _, h => by have := h.length_eq; simp at this
  | a :: p, b :: q, hp, hq, h => by
    have p1 := List.pairwise_cons.1 hp
    have q1 := List.pairwise_cons.1 hq
    have e : a = b := by
      have h1 : a ∈ b :: q := h.mem_iff.1 (by simp)
      have h2 : b ∈ a :: p := h.mem_iff.2 (by simp)
      have h3 : b ≤ a := by
        rcases List.mem_cons.1 h1 with rfl | h1
        · exact Int.le_refl _
        · exact q1.1 a h1
      have h4 : a ≤ b := by
        rcases List.mem_cons.1 h2 with rfl | h2
        · exact Int.le_refl _
        · exact p1.1 b h2
      omega
    subst e
    rw [sorted_ext p1.2 q1.2 (List.Perm.cons_inv h)]
/-- What stands in the buckets of numbers in order, told bucket by bucket, is their buckets in order. -/
theorem spread_items (f : Int → Int) (hf : ∀ x y, x ≤ y → f x ≤ f y) {l s : List Int} (hp : s.Perm l) (hs : s.Pairwise (· ≤ ·)) : spread (itemsOf (l.map f)) = s.map f := by
  refine sorted_ext (spread_sorted (itemsOf_rising _).1) (by rw [List.pairwise_map]; exact hs.imp (fun h => hf _ _ h)) ?_
  rw [List.perm_iff_count]
  intro a
  rw [spread_count, itemsOf_many]
  exact ((hp.map f).count_eq a).symm
/-- The r-th's bucket is that of the r-th number in order. -/
theorem rank_items (f : Int → Int) (hf : ∀ x y, x ≤ y → f x ≤ f y) {l s : List Int} (hp : s.Perm l) (hs : s.Pairwise (· ≤ ·)) (i : Nat) : rankH (itemsOf (l.map f)) (i + 1) = (s[i]?).map f := by
  rw [rankH_spread _ _ (by omega), spread_items f hf hp hs, List.getElem?_map]
  rfl
theorem rank_over {l : List Hit} {n : Nat} (h1 : 1 ≤ n) (h : countH l < n) : rankH l n = none := by
  rw [rankH_spread l n h1, List.getElem?_eq_none]
  rw [spread_length]
  omega
theorem rank_mono {l : List Hit} (hl : Rising l) {m n : Nat} {a b : Int} (h1 : 1 ≤ m) (h : m ≤ n) (ha : rankH l m = some a) (hb : rankH l n = some b) : a ≤ b := by
  rw [rankH_spread l m h1] at ha
  rw [rankH_spread l n (by omega)] at hb
  obtain ⟨i1, rfl⟩ := List.getElem?_eq_some_iff.1 ha
  obtain ⟨i2, rfl⟩ := List.getElem?_eq_some_iff.1 hb
  rcases Nat.lt_or_eq_of_le h with h | rfl
  · exact List.pairwise_iff_getElem.1 (spread_sorted hl.1) _ _ i1 i2 (by omega)
  · exact Int.le_refl _
end Go.Proofs.Ytklklpccpbhfgaa
