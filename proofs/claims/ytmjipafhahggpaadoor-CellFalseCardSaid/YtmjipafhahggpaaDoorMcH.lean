/- The numbers of histograms: items (a bucket, how many stand in it), rising; what comes of one more; ranks. The bytes of histograms: what is put, what is got of it. More of histograms' numbers: numbers put in order one by one; the least and the greatest; how many items there may be. Buckets' bounds rise with the buckets. More numbers of histograms: where a bucket stands among items; two rows of items taken together; how many items there may be. -/
import Derived.Test.YtmjipafhahggpaaDoorMcB
namespace Go.Proofs.YtmjipafhahggpaaDoor.Hi

/-- A bucket, and how many stand in it. -/
structure Hit where
  at_ : Int
  many : Nat
deriving DecidableEq

/-- So many more stand in a bucket. -/
def more (x : Hit) : List Hit → List Hit
  | [] => [x]
  | y :: r => if y.at_ < x.at_ then y :: more x r else if y.at_ = x.at_ then ⟨y.at_, y.many + x.many⟩ :: r else x :: y :: r
/-- How many there are. -/
def countH : List Hit → Nat
  | [] => 0
  | y :: r => y.many + countH r
/-- How many stand in bucket a. -/
def manyH (a : Int) : List Hit → Nat
  | [] => 0
  | y :: r => (if y.at_ = a then y.many else 0) + manyH a r
/-- Rising, none empty. -/
def Rising (l : List Hit) : Prop := l.Pairwise (fun x y => x.at_ < y.at_) ∧ ∀ x ∈ l, 0 < x.many

theorem countH_more (x : Hit) : ∀ l, countH (more x l) = countH l + x.many
  | [] => by simp [more, countH]
  | y :: r => by
    unfold more
    split
    · simp only [countH, countH_more x r]; omega
    · split <;> simp only [countH] <;> omega
theorem manyH_more (x : Hit) (a : Int) : ∀ l, manyH a (more x l) = manyH a l + if x.at_ = a then x.many else 0
  | [] => by simp [more, manyH]
  | y :: r => by
    unfold more
    split
    · simp only [manyH, manyH_more x a r]; omega
    · split
      · rename_i h1 h2
        simp only [manyH, h2]
        split <;> omega
      · simp only [manyH]; omega
theorem mem_more (x : Hit) : ∀ (l : List Hit) (y : Hit), y ∈ more x l → y.at_ = x.at_ ∨ y ∈ l
  | [], y, h => by simp [more] at h; exact .inl (by rw [h])
  | z :: r, y, h => by
    unfold more at h
    split at h
    · rcases List.mem_cons.1 h with rfl | h
      · exact .inr (by simp)
      · exact (mem_more x r y h).imp id (fun h => List.mem_cons_of_mem _ h)
    · split at h
      · rename_i h1 h2
        rcases List.mem_cons.1 h with rfl | h
        · exact .inl h2
        · exact .inr (List.mem_cons_of_mem _ h)
      · rcases List.mem_cons.1 h with rfl | h
        · exact .inl rfl
        · exact .inr h
theorem pairs_more (x : Hit) : ∀ l : List Hit, l.Pairwise (fun x y => x.at_ < y.at_) → (more x l).Pairwise (fun x y => x.at_ < y.at_)
  | [], _ => by simp [more]
  | y :: r, h => by
    rw [List.pairwise_cons] at h
    unfold more
    split
    · rename_i h1
      rw [List.pairwise_cons]
      refine ⟨fun z hz => ?_, pairs_more x r h.2⟩
      rcases mem_more x r z hz with h2 | h2
      · omega
      · exact h.1 z h2
    · split
      · rename_i h1 h2
        rw [List.pairwise_cons]
        exact ⟨fun z hz => h.1 z hz, h.2⟩
      · rename_i h1 h2
        rw [List.pairwise_cons]
        refine ⟨fun z hz => ?_, List.pairwise_cons.2 h⟩
        rcases List.mem_cons.1 hz with rfl | hz
        · omega
        · have := h.1 z hz; omega
theorem pos_more (x : Hit) (hx : 0 < x.many) : ∀ l : List Hit, (∀ y ∈ l, 0 < y.many) → ∀ y ∈ more x l, 0 < y.many
  | [], _, y, h => by simp [more] at h; rw [h]; exact hx
  | z :: r, hl, y, h => by
    unfold more at h
    split at h
    · rcases List.mem_cons.1 h with rfl | h
      · exact hl _ (by simp)
      · exact pos_more x hx r (fun u hu => hl u (List.mem_cons_of_mem _ hu)) y h
    · split at h
      · rcases List.mem_cons.1 h with rfl | h
        · show 0 < z.many + x.many; omega
        · exact hl y (List.mem_cons_of_mem _ h)
      · rcases List.mem_cons.1 h with rfl | h
        · exact hx
        · exact hl y h
theorem Rising.more {x : Hit} (hx : 0 < x.many) {l : List Hit} (h : Rising l) : Rising (more x l) := ⟨pairs_more x l h.1, pos_more x hx l h.2⟩
theorem Rising.nil : Rising [] := ⟨List.Pairwise.nil, fun _ h => by simp at h⟩
theorem manyH_low {a : Int} : ∀ {l : List Hit}, (∀ y ∈ l, a < y.at_) → manyH a l = 0
  | [], _ => rfl
  | y :: r, h => by
    have h1 := h y (by simp)
    have h2 := manyH_low (a := a) (l := r) (fun u hu => h u (List.mem_cons_of_mem _ hu))
    simp only [manyH, h2]
    rw [if_neg (by omega)]
/-- Rising items are told by how many stand in each bucket. -/
theorem rising_ext : ∀ {l m : List Hit}, Rising l → Rising m → (∀ a, manyH a l = manyH a m) → l = m
  | [], [], _, _, _ => rfl
  | [], y :: r, _, hm, h => by
    have h1 := h y.at_
    have h2 := hm.2 y (by simp)
    simp only [manyH, if_pos] at h1
    omega
  | y :: r, [], hl, _, h => by
    have h1 := h y.at_
    have h2 := hl.2 y (by simp)
    simp only [manyH, if_pos] at h1
    omega
  | y :: r, z :: s, hl, hm, h => by
    have p1 := List.pairwise_cons.1 hl.1
    have p2 := List.pairwise_cons.1 hm.1
    have q1 := hl.2 y (by simp)
    have q2 := hm.2 z (by simp)
    have e : y.at_ = z.at_ := by
      rcases Int.lt_trichotomy y.at_ z.at_ with hc | hc | hc
      · exfalso
        have h1 := h y.at_
        have h2 : manyH y.at_ (z :: s) = 0 := manyH_low (fun u hu => by
          rcases List.mem_cons.1 hu with rfl | hu
          · exact hc
          · exact Int.lt_trans hc (p2.1 u hu))
        rw [h2] at h1
        simp only [manyH, if_pos] at h1
        omega
      · exact hc
      · exfalso
        have h1 := h z.at_
        have h2 : manyH z.at_ (y :: r) = 0 := manyH_low (fun u hu => by
          rcases List.mem_cons.1 hu with rfl | hu
          · exact hc
          · exact Int.lt_trans hc (p1.1 u hu))
        rw [h2] at h1
        simp only [manyH, if_pos] at h1
        omega
    have hy : manyH y.at_ r = 0 := manyH_low p1.1
    have hz : manyH z.at_ s = 0 := manyH_low p2.1
    have hmany : y.many = z.many := by
      have h1 := h y.at_
      simp only [manyH, if_pos, if_pos e.symm] at h1
      rw [e] at hy h1
      omega
    have hrest : r = s := rising_ext ⟨p1.2, fun u hu => hl.2 u (List.mem_cons_of_mem _ hu)⟩ ⟨p2.2, fun u hu => hm.2 u (List.mem_cons_of_mem _ hu)⟩ (fun a => by
      have h1 := h a
      simp only [manyH, hmany, e] at h1
      omega)
    rw [hrest]
    congr 1
    cases y; cases z
    simp_all
/-- The items of many buckets, one more each. -/
def itemsOf (bs : List Int) : List Hit := bs.foldl (fun l b => more ⟨b, 1⟩ l) []
theorem foldl_rising : ∀ (bs : List Int) (l : List Hit), Rising l → Rising (bs.foldl (fun l b => more ⟨b, 1⟩ l) l)
  | [], _, h => h
  | b :: r, l, h => foldl_rising r _ (h.more (by show 0 < 1; omega))
theorem itemsOf_rising (bs : List Int) : Rising (itemsOf bs) := foldl_rising bs [] Rising.nil
theorem foldl_many (a : Int) : ∀ (bs : List Int) (l : List Hit), manyH a (bs.foldl (fun l b => more ⟨b, 1⟩ l) l) = manyH a l + bs.count a
  | [], l => by simp
  | b :: r, l => by
    rw [List.foldl_cons, foldl_many a r, manyH_more, List.count_cons]
    simp only [beq_iff_eq]
    omega
theorem itemsOf_many (a : Int) (bs : List Int) : manyH a (itemsOf bs) = bs.count a := by
  unfold itemsOf
  rw [foldl_many]
  simp [manyH]
theorem foldl_count : ∀ (bs : List Int) (l : List Hit), countH (bs.foldl (fun l b => more ⟨b, 1⟩ l) l) = countH l + bs.length
  | [], l => by simp
  | b :: r, l => by
    rw [List.foldl_cons, foldl_count r, countH_more, List.length_cons]
    show countH l + 1 + r.length = _
    omega
theorem itemsOf_count (bs : List Int) : countH (itemsOf bs) = bs.length := by
  unfold itemsOf
  rw [foldl_count]
  simp [countH]
theorem itemsOf_snoc (bs : List Int) (b : Int) : itemsOf (bs ++ [b]) = more ⟨b, 1⟩ (itemsOf bs) := by unfold itemsOf; rw [List.foldl_append]; rfl
/-- In whatever order they came. -/
theorem itemsOf_perm {bs cs : List Int} (h : bs.Perm cs) : itemsOf bs = itemsOf cs := rising_ext (itemsOf_rising _) (itemsOf_rising _) (fun a => by rw [itemsOf_many, itemsOf_many]; exact h.count_eq a)
/-- All items of one come to those of another one. -/
def mergeH (l m : List Hit) : List Hit := m.foldl (fun l x => more x l) l
theorem mergeH_rising : ∀ (m l : List Hit), Rising l → (∀ x ∈ m, 0 < x.many) → Rising (mergeH l m)
  | [], _, h, _ => h
  | x :: r, l, h, hm => mergeH_rising r _ (h.more (hm x (by simp))) (fun u hu => hm u (List.mem_cons_of_mem _ hu))
theorem mergeH_many (a : Int) : ∀ (m l : List Hit), manyH a (mergeH l m) = manyH a l + manyH a m
  | [], l => by simp [mergeH, manyH]
  | x :: r, l => by
    have := mergeH_many a r (more x l)
    unfold mergeH at this ⊢
    rw [List.foldl_cons, this, manyH_more]
    simp only [manyH]
    omega
theorem mergeH_items (bs cs : List Int) : mergeH (itemsOf bs) (itemsOf cs) = itemsOf (bs ++ cs) :=
  rising_ext (mergeH_rising _ _ (itemsOf_rising _) (itemsOf_rising _).2) (itemsOf_rising _) (fun a => by rw [mergeH_many, itemsOf_many, itemsOf_many, itemsOf_many, List.count_append])

/-- The bucket of the r-th, as they rise. -/
def rankH : List Hit → Nat → Option Int
  | [], _ => none
  | y :: r, n => if n ≤ y.many then some y.at_ else rankH r (n - y.many)
/-- Each bucket as often as there stand in it. -/
def spread (l : List Hit) : List Int := l.flatMap fun y => List.replicate y.many y.at_
theorem spread_length : ∀ l, (spread l).length = countH l
  | [] => rfl
  | y :: r => by
    have := spread_length r
    unfold spread at this ⊢
    rw [List.flatMap_cons, List.length_append, List.length_replicate, this]
    rfl
theorem rankH_spread : ∀ (l : List Hit) (n : Nat), 1 ≤ n → rankH l n = (spread l)[n - 1]?
  | [], n, _ => by simp [rankH, spread]
  | y :: r, n, h => by
    unfold rankH
    have e : spread (y :: r) = List.replicate y.many y.at_ ++ spread r := by unfold spread; rw [List.flatMap_cons]
    rw [e]
    split
    · rw [List.getElem?_append_left (by rw [List.length_replicate]; omega), List.getElem?_replicate, if_pos (by omega)]
    · rw [rankH_spread r (n - y.many) (by omega), List.getElem?_append_right (by rw [List.length_replicate]; omega), List.length_replicate]
      congr 1
      omega
theorem spread_count (a : Int) : ∀ l, (spread l).count a = manyH a l
  | [] => rfl
  | y :: r => by
    have e : spread (y :: r) = List.replicate y.many y.at_ ++ spread r := by unfold spread; rw [List.flatMap_cons]
    rw [e, List.count_append, spread_count a r, List.count_replicate]
    simp only [manyH, beq_iff_eq]
theorem mem_spread {a : Int} {l : List Hit} (h : a ∈ spread l) : ∃ y ∈ l, y.at_ = a := by
  obtain ⟨y, hy, h2⟩ := List.mem_flatMap.1 h
  exact ⟨y, hy, (List.eq_of_mem_replicate h2).symm⟩
theorem spread_sorted : ∀ {l : List Hit}, l.Pairwise (fun x y => x.at_ < y.at_) → (spread l).Pairwise (· ≤ ·)
  | [], _ => by simp [spread]
  | y :: r, h => by
    have p := List.pairwise_cons.1 h
    have e : spread (y :: r) = List.replicate y.many y.at_ ++ spread r := by unfold spread; rw [List.flatMap_cons]
    rw [e, List.pairwise_append]
    refine ⟨List.pairwise_replicate.2 (.inr (Int.le_refl _)), spread_sorted p.2, fun a ha b hb => ?_⟩
    obtain ⟨z, hz, rfl⟩ := mem_spread hb
    rw [List.eq_of_mem_replicate ha]
    exact Int.le_of_lt (p.1 z hz)
/-- Two lists in order with the same in them are the same. -/
theorem sorted_ext : ∀ {p q : List Int}, p.Pairwise (· ≤ ·) → q.Pairwise (· ≤ ·) → p.Perm q → p = q
  | [], q, _, _, h => (List.Perm.nil_eq h)
  | a :: p, [], _, _, h => by have := h.length_eq; simp at this
  | a :: p, b :: q, hp, hq, h => by
    have p1 := List.pairwise_cons.1 hp
    have q1 := List.pairwise_cons.1 hq
    have e : a = b := by
      have h1 : a ∈ b :: q := h.mem_iff.1 (by simp)
      have h2 : b ∈ a :: p := h.mem_iff.2 (by simp)
      have h3 : b ≤ a := by
        rcases List.mem_cons.1 h1 with rfl | h1
        · exact Int.le_refl _
        · exact q1.1 a h1
      have h4 : a ≤ b := by
        rcases List.mem_cons.1 h2 with rfl | h2
        · exact Int.le_refl _
        · exact p1.1 b h2
      omega
    subst e
    rw [sorted_ext p1.2 q1.2 (List.Perm.cons_inv h)]
/-- What stands in the buckets of numbers in order, told bucket by bucket, is their buckets in order. -/
theorem spread_items (f : Int → Int) (hf : ∀ x y, x ≤ y → f x ≤ f y) {l s : List Int} (hp : s.Perm l) (hs : s.Pairwise (· ≤ ·)) : spread (itemsOf (l.map f)) = s.map f := by
  refine sorted_ext (spread_sorted (itemsOf_rising _).1) (by rw [List.pairwise_map]; exact hs.imp (fun h => hf _ _ h)) ?_
  rw [List.perm_iff_count]
  intro a
  rw [spread_count, itemsOf_many]
  exact ((hp.map f).count_eq a).symm
/-- The r-th's bucket is that of the r-th number in order. -/
theorem rank_items (f : Int → Int) (hf : ∀ x y, x ≤ y → f x ≤ f y) {l s : List Int} (hp : s.Perm l) (hs : s.Pairwise (· ≤ ·)) (i : Nat) : rankH (itemsOf (l.map f)) (i + 1) = (s[i]?).map f := by
  rw [rankH_spread _ _ (by omega), spread_items f hf hp hs, List.getElem?_map]
  rfl
theorem rank_over {l : List Hit} {n : Nat} (h1 : 1 ≤ n) (h : countH l < n) : rankH l n = none := by
  rw [rankH_spread l n h1, List.getElem?_eq_none]
  rw [spread_length]
  omega
theorem rank_mono {l : List Hit} (hl : Rising l) {m n : Nat} {a b : Int} (h1 : 1 ≤ m) (h : m ≤ n) (ha : rankH l m = some a) (hb : rankH l n = some b) : a ≤ b := by
  rw [rankH_spread l m h1] at ha
  rw [rankH_spread l n (by omega)] at hb
  obtain ⟨i1, rfl⟩ := List.getElem?_eq_some_iff.1 ha
  obtain ⟨i2, rfl⟩ := List.getElem?_eq_some_iff.1 hb
  rcases Nat.lt_or_eq_of_le h with h | rfl
  · exact List.pairwise_iff_getElem.1 (spread_sorted hl.1) _ _ i1 i2 (by omega)
  · exact Int.le_refl _
end Go.Proofs.YtmjipafhahggpaaDoor.Hi

namespace Go.Proofs.YtmjipafhahggpaaDoor.Hi

/-- A number's k bytes, the highest first. -/
def be : Nat → Nat → List UInt8
  | 0, _ => []
  | k + 1, n => UInt8.ofNat (n / 256 ^ k) :: be k n
/-- The number of bytes. -/
def numB (s : List UInt8) : Nat := s.foldl (fun n b => n * 256 + b.toNat) 0
theorem be_length : ∀ k n, (be k n).length = k
  | 0, _ => rfl
  | k + 1, n => by simp [be, be_length k n]
theorem foldl_num : ∀ (s : List UInt8) (m : Nat), s.foldl (fun n b => n * 256 + b.toNat) m = m * 256 ^ s.length + s.foldl (fun n b => n * 256 + b.toNat) 0
  | [], m => by simp
  | b :: r, m => by
    rw [List.foldl_cons, List.foldl_cons, foldl_num r (m * 256 + b.toNat), foldl_num r (0 * 256 + b.toNat), List.length_cons, Nat.pow_succ, Nat.add_mul, Nat.zero_mul, Nat.zero_add, Nat.mul_assoc, Nat.mul_comm 256, Nat.add_assoc]
theorem numB_cons (b : UInt8) (r : List UInt8) : numB (b :: r) = b.toNat * 256 ^ r.length + numB r := by
  unfold numB
  rw [List.foldl_cons, foldl_num]
  simp
theorem numB_snoc (r : List UInt8) (b : UInt8) : numB (r ++ [b]) = numB r * 256 + b.toNat := by
  unfold numB
  rw [List.foldl_append]
  rfl
theorem numB_lt : ∀ s, numB s < 256 ^ s.length
  | [] => by simp [numB]
  | b :: r => by
    have h1 := numB_lt r
    have h2 := b.toNat_lt
    rw [numB_cons, List.length_cons, Nat.pow_succ]
    have h3 : b.toNat * 256 ^ r.length ≤ 255 * 256 ^ r.length := Nat.mul_le_mul_right _ (by omega)
    generalize 256 ^ r.length = z at *
    omega
theorem numB_be : ∀ k n, numB (be k n) = n % 256 ^ k
  | 0, n => by simp [be, numB, Nat.mod_one]
  | k + 1, n => by
    have e : n % 256 ^ (k + 1) = n % 256 ^ k + 256 ^ k * (n / 256 ^ k % 256) := by rw [Nat.pow_succ, Nat.mod_mul]
    rw [e, be, numB_cons, be_length, numB_be k n, UInt8.toNat_ofNat', show 2 ^ 8 = 256 from rfl, Nat.add_comm, Nat.mul_comm (256 ^ k)]
theorem numB_be_lt {k n : Nat} (h : n < 256 ^ k) : numB (be k n) = n := by rw [numB_be, Nat.mod_eq_of_lt h]

/-- An item's ten bytes. -/
def putI (x : Hit) : List UInt8 := be 4 (x.at_ + 2147483648).toNat ++ be 6 x.many
theorem putI_length (x : Hit) : (putI x).length = 10 := by simp [putI, be_length]
/-- All bytes of a histogram. -/
def putH (b : Nat) (l : List Hit) : List UInt8 := be 1 b ++ be 2 l.length ++ l.flatMap putI
theorem flat_length : ∀ l : List Hit, (l.flatMap putI).length = 10 * l.length
  | [] => rfl
  | x :: r => by rw [List.flatMap_cons, List.length_append, putI_length, flat_length r, List.length_cons]; omega
theorem putH_length (b : Nat) (l : List Hit) : (putH b l).length = 3 + 10 * l.length := by
  unfold putH
  rw [List.length_append, List.length_append, be_length, be_length, flat_length]


/-- The items that bytes begin with, behind those that there are (the last of them told, and how many stand in all): or none. -/
def getI (ok : Int → Bool) : Nat → List UInt8 → List Hit → Option (List Hit × List UInt8)
  | 0, s, l => some (l, s)
  | k + 1, s, l =>
    let a : Int := (numB (s.take 4) : Int) - 2147483648
    let n := numB ((s.drop 4).take 6)
    if ok a = false ∨ n = 0 ∨ (∃ y, l.getLast? = some y ∧ a ≤ y.at_) then none
    else if 1099511627776 < countH (l ++ [⟨a, n⟩]) then none
    else getI ok k (s.drop 10) (l ++ [⟨a, n⟩])
/-- The histogram that bytes begin with, or none. -/
def getH (ok : Nat → Int → Bool) (s : List UInt8) : Option (Nat × List Hit × List UInt8) :=
  if s.length < 3 ∨ 4 < numB (s.take 1) then none
  else if s.length - 3 < 10 * numB ((s.drop 1).take 2) then none
  else (getI (ok (numB (s.take 1))) (numB ((s.drop 1).take 2)) (s.drop 3) []).map fun p => (numB (s.take 1), p.1, p.2)

theorem countH_append : ∀ l m : List Hit, countH (l ++ m) = countH l + countH m
  | [], m => by simp [countH]
  | x :: r, m => by simp only [List.cons_append, countH, countH_append r m]; omega
theorem take_putI (x : Hit) (s : List UInt8) : (putI x ++ s).take 4 = be 4 (x.at_ + 2147483648).toNat ∧ ((putI x ++ s).drop 4).take 6 = be 6 x.many ∧ (putI x ++ s).drop 10 = s := by
  have h4 := be_length 4 (x.at_ + 2147483648).toNat
  have h6 := be_length 6 x.many
  unfold putI
  refine ⟨?_, ?_, ?_⟩
  · rw [List.append_assoc, List.take_left' h4]
  · rw [List.append_assoc, List.drop_left' h4, List.take_left' h6]
  · rw [List.drop_left' (by rw [List.length_append, h4, h6])]
/-- An item that may stand in a histogram's bytes. -/
def PutOk (ok : Int → Bool) (x : Hit) : Prop := ok x.at_ = true ∧ -2147483648 ≤ x.at_ ∧ x.at_ < 2147483648 ∧ 0 < x.many
theorem getI_put (ok : Int → Bool) (s : List UInt8) : ∀ (m l : List Hit), (l ++ m).Pairwise (fun x y => x.at_ < y.at_) → (∀ x ∈ m, PutOk ok x) → countH (l ++ m) ≤ 1099511627776 →
    getI ok m.length (m.flatMap putI ++ s) l = some (l ++ m, s)
  | [], l, _, _, _ => by simp [getI]
  | x :: r, l, hp, hm, hc => by
    obtain ⟨h1, h2, h3, h4⟩ := hm x (by simp)
    have hc1 := hc
    rw [countH_append] at hc1
    simp only [countH] at hc1
    rw [List.flatMap_cons, List.append_assoc, List.length_cons]
    obtain ⟨t1, t2, t3⟩ := take_putI x (r.flatMap putI ++ s)
    unfold getI
    simp only [t1, t2, t3]
    rw [numB_be_lt (by omega), numB_be_lt (by omega)]
    have ea : (((x.at_ + 2147483648).toNat : Nat) : Int) - 2147483648 = x.at_ := by omega
    rw [ea, if_neg, if_neg]
    · have hx : (⟨x.at_, x.many⟩ : Hit) = x := rfl
      rw [hx, getI_put ok s r (l ++ [x]) (by simpa using hp) (fun u hu => hm u (List.mem_cons_of_mem _ hu)) (by simpa using hc)]
      simp
    · rw [countH_append]
      simp only [countH]
      omega
    · rintro (h | h | ⟨y, hy, h⟩)
      · rw [h1] at h; cases h
      · omega
      · have hyl := List.mem_of_getLast? hy
        have := (List.pairwise_append.1 hp).2.2 y hyl x (by simp)
        omega
theorem take_putH (b : Nat) (l : List Hit) (s : List UInt8) : (putH b l ++ s).take 1 = be 1 b ∧ ((putH b l ++ s).drop 1).take 2 = be 2 l.length ∧ (putH b l ++ s).drop 3 = l.flatMap putI ++ s := by
  have h1 := be_length 1 b
  have h2 := be_length 2 l.length
  unfold putH
  refine ⟨?_, ?_, ?_⟩
  · rw [List.append_assoc, List.append_assoc, List.take_left' h1]
  · rw [List.append_assoc, List.append_assoc, List.drop_left' h1, List.take_left' h2]
  · rw [List.append_assoc, List.drop_left' (by rw [List.length_append, h1, h2])]
/-- What was put is got, and what stands behind it. -/
theorem getH_put (ok : Nat → Int → Bool) (b : Nat) (hb : b ≤ 4) (l : List Hit) (hl : l.length < 65536) (hp : l.Pairwise (fun x y => x.at_ < y.at_)) (hm : ∀ x ∈ l, PutOk (ok b) x) (hc : countH l ≤ 1099511627776) (s : List UInt8) :
    getH ok (putH b l ++ s) = some (b, l, s) := by
  obtain ⟨t1, t2, t3⟩ := take_putH b l s
  unfold getH
  rw [t1, t2, t3, numB_be_lt (show b < 256 ^ 1 by omega), numB_be_lt (show l.length < 256 ^ 2 by omega), if_neg, if_neg, getI_put (ok b) s l [] (by simpa using hp) hm (by simpa using hc)]
  · simp
  · rw [List.length_append, putH_length]
    omega
  · rw [List.length_append, putH_length]
    omega
/-- Cut anywhere it is none. -/
theorem getH_cut (ok : Nat → Int → Bool) (b : Nat) (hb : b ≤ 4) (l : List Hit) (hl : l.length < 65536) (n : Nat) (hn : n < (putH b l).length) : getH ok ((putH b l).take n) = none := by
  rw [putH_length] at hn
  unfold getH
  have hlen : ((putH b l).take n).length = n := by rw [List.length_take, putH_length]; omega
  rw [hlen]
  by_cases h3 : n < 3
  · rw [if_pos (.inl h3)]
  · obtain ⟨t1, t2, _⟩ := take_putH b l []
    rw [List.append_nil] at t1 t2
    have e1 : ((putH b l).take n).take 1 = be 1 b := by rw [List.take_take, show min 1 n = 1 by omega, t1]
    have e2 : (((putH b l).take n).drop 1).take 2 = be 2 l.length := by rw [List.drop_take, List.take_take, show min 2 (n - 1) = 2 by omega, t2]
    rw [e1, e2, numB_be_lt (show b < 256 ^ 1 by omega), numB_be_lt (show l.length < 256 ^ 2 by omega), if_neg (by omega), if_pos (by omega)]
end Go.Proofs.YtmjipafhahggpaaDoor.Hi

namespace Go.Proofs.YtmjipafhahggpaaDoor.Hi

/-- Where x goes: ahead of the first that is not less. -/
def cutAt (x : Int) : List Int → Nat
  | [] => 0
  | y :: r => if y < x then cutAt x r + 1 else 0
theorem cutAt_le (x : Int) : ∀ s, cutAt x s ≤ s.length
  | [] => Nat.le_refl _
  | y :: r => by
    unfold cutAt
    split
    · have := cutAt_le x r; simp only [List.length_cons]; omega
    · omega
/-- The loop's test: each ahead of it is less; it is not. -/
theorem cutAt_lt (x : Int) : ∀ (s : List Int) (i : Nat), i < cutAt x s → ∃ h : i < s.length, s[i] < x
  | [], i, h => by simp [cutAt] at h
  | y :: r, i, h => by
    unfold cutAt at h
    split at h
    · rename_i hy
      cases i with
      | zero => exact ⟨by simp, hy⟩
      | succ j =>
        obtain ⟨h1, h2⟩ := cutAt_lt x r j (by omega)
        exact ⟨by simp; omega, by simpa using h2⟩
    · omega
theorem cutAt_ge (x : Int) : ∀ (s : List Int) (h : cutAt x s < s.length), ¬ s[cutAt x s] < x
  | [], h => by simp at h
  | y :: r, h => by
    by_cases hy : y < x
    · have e : cutAt x (y :: r) = cutAt x r + 1 := by rw [cutAt, if_pos hy]
      have h' : cutAt x r < r.length := by rw [e] at h; simp at h; omega
      have := cutAt_ge x r h'
      simp only [e, List.getElem_cons_succ]
      exact this
    · have e : cutAt x (y :: r) = 0 := by rw [cutAt, if_neg hy]
      simp only [e, List.getElem_cons_zero]
      exact hy
/-- x among numbers in order. -/
def putIn (x : Int) (s : List Int) : List Int := s.take (cutAt x s) ++ x :: s.drop (cutAt x s)
theorem putIn_perm (x : Int) (s : List Int) : (putIn x s).Perm (x :: s) := by
  unfold putIn
  have h := List.perm_middle (a := x) (l₁ := s.take (cutAt x s)) (l₂ := s.drop (cutAt x s))
  rw [List.take_append_drop] at h
  exact h
theorem putIn_sorted (x : Int) {s : List Int} (h : s.Pairwise (· ≤ ·)) : (putIn x s).Pairwise (· ≤ ·) := by
  have ht : ∀ a ∈ s.take (cutAt x s), a < x := fun a ha => by
    obtain ⟨i, hi, rfl⟩ := List.mem_iff_getElem.1 ha
    rw [List.length_take] at hi
    obtain ⟨h1, h2⟩ := cutAt_lt x s i (by omega)
    rw [List.getElem_take]
    exact h2
  have hd : ∀ b ∈ s.drop (cutAt x s), x ≤ b := fun b hb => by
    obtain ⟨i, hi, rfl⟩ := List.mem_iff_getElem.1 hb
    rw [List.length_drop] at hi
    have h1 := cutAt_ge x s (by omega)
    rw [List.getElem_drop]
    have h2 : s[cutAt x s] ≤ s[cutAt x s + i] := by
      rcases Nat.eq_zero_or_pos i with rfl | hp
      · exact Int.le_refl _
      · exact List.pairwise_iff_getElem.1 h _ _ _ _ (by omega)
    omega
  have h0 : (s.take (cutAt x s) ++ s.drop (cutAt x s)).Pairwise (· ≤ ·) := by rw [List.take_append_drop]; exact h
  obtain ⟨p1, p2, p3⟩ := List.pairwise_append.1 h0
  unfold putIn
  rw [List.pairwise_append, List.pairwise_cons]
  refine ⟨p1, ⟨hd, p2⟩, fun a ha b hb => ?_⟩
  rcases List.mem_cons.1 hb with rfl | hb
  · exact Int.le_of_lt (ht a ha)
  · exact p3 a ha b hb
/-- Many, one by one. -/
def sortL (l : List Int) : List Int := l.foldl (fun s x => putIn x s) []
theorem sortL_snoc (l : List Int) (x : Int) : sortL (l ++ [x]) = putIn x (sortL l) := by unfold sortL; rw [List.foldl_append]; rfl
theorem foldl_putIn : ∀ (l s : List Int), s.Pairwise (· ≤ ·) → (l.foldl (fun s x => putIn x s) s).Perm (l ++ s) ∧ (l.foldl (fun s x => putIn x s) s).Pairwise (· ≤ ·)
  | [], s, h => ⟨List.Perm.refl _, h⟩
  | x :: r, s, h => by
    obtain ⟨h1, h2⟩ := foldl_putIn r (putIn x s) (putIn_sorted x h)
    refine ⟨?_, h2⟩
    rw [List.foldl_cons]
    refine h1.trans ?_
    refine ((putIn_perm x s).append_left r).trans ?_
    exact List.perm_middle
theorem sortL_perm (l : List Int) : (sortL l).Perm l := by
  have := (foldl_putIn l [] List.Pairwise.nil).1
  rwa [List.append_nil] at this
theorem sortL_sorted (l : List Int) : (sortL l).Pairwise (· ≤ ·) := (foldl_putIn l [] List.Pairwise.nil).2
theorem sortL_length (l : List Int) : (sortL l).length = l.length := (sortL_perm l).length_eq
/-- The least comes first, the greatest last. -/
theorem sorted_first {s l : List Int} (hp : s.Perm l) (hs : s.Pairwise (· ≤ ·)) {x : Int} (h : s[0]? = some x) : x ∈ l ∧ ∀ y ∈ l, x ≤ y := by
  match s, h with
  | a :: r, h =>
    simp at h
    subst h
    refine ⟨hp.mem_iff.1 (by simp), fun y hy => ?_⟩
    rcases List.mem_cons.1 (hp.mem_iff.2 hy) with rfl | h
    · exact Int.le_refl _
    · exact (List.pairwise_cons.1 hs).1 y h
theorem sorted_last {s l : List Int} (hp : s.Perm l) (hs : s.Pairwise (· ≤ ·)) {x : Int} (h : s[s.length - 1]? = some x) : x ∈ l ∧ ∀ y ∈ l, y ≤ x := by
  obtain ⟨h1, rfl⟩ := List.getElem?_eq_some_iff.1 h
  refine ⟨hp.mem_iff.1 (List.getElem_mem h1), fun y hy => ?_⟩
  obtain ⟨i, hi, rfl⟩ := List.mem_iff_getElem.1 (hp.mem_iff.2 hy)
  rcases Nat.lt_or_ge i (s.length - 1) with h2 | h2
  · exact List.pairwise_iff_getElem.1 hs _ _ _ _ h2
  · have : i = s.length - 1 := by omega
    subst this
    exact Int.le_refl _

theorem more_length (x : Hit) : ∀ l, (more x l).length ≤ l.length + 1
  | [] => by simp [more]
  | y :: r => by
    unfold more
    split
    · have := more_length x r; simp only [List.length_cons]; omega
    · split <;> simp only [List.length_cons] <;> omega
theorem foldl_length : ∀ (bs : List Int) (l : List Hit), (bs.foldl (fun l b => more ⟨b, 1⟩ l) l).length ≤ l.length + bs.length
  | [], _ => by simp
  | b :: r, l => by
    have h1 := foldl_length r (more ⟨b, 1⟩ l)
    have h2 := more_length ⟨b, 1⟩ l
    rw [List.foldl_cons, List.length_cons]
    omega
theorem itemsOf_length (bs : List Int) : (itemsOf bs).length ≤ bs.length := by
  have := foldl_length bs []
  simpa [itemsOf] using this
theorem foldl_mem : ∀ (bs : List Int) (l : List Hit) (y : Hit), y ∈ bs.foldl (fun l b => more ⟨b, 1⟩ l) l → y.at_ ∈ bs ∨ ∃ z ∈ l, z.at_ = y.at_
  | [], _, y, h => .inr ⟨y, h, rfl⟩
  | b :: r, l, y, h => by
    rcases foldl_mem r _ y h with h | ⟨z, hz, e⟩
    · exact .inl (List.mem_cons_of_mem _ h)
    · rcases mem_more ⟨b, 1⟩ l z hz with h | h
      · left
        rw [← e, h]
        simp
      · exact .inr ⟨z, h, e⟩
theorem itemsOf_mem {bs : List Int} {y : Hit} (h : y ∈ itemsOf bs) : y.at_ ∈ bs := by
  rcases foldl_mem bs [] y h with h | ⟨z, hz, _⟩
  · exact h
  · simp at hz
/-- Items' numbers, told by their bucket. -/
theorem many_of_mem {a : Int} : ∀ {l : List Hit}, Rising l → ∀ y ∈ l, y.at_ = a → manyH a l = y.many
  | [], _, _, h, _ => by simp at h
  | z :: r, hl, y, h, e => by
    have p := List.pairwise_cons.1 hl.1
    rcases List.mem_cons.1 h with rfl | h
    · have := manyH_low (a := a) (l := r) (fun u hu => by rw [← e]; exact p.1 u hu)
      simp only [manyH, this, if_pos e]
      omega
    · have h1 := p.1 y h
      have h2 := many_of_mem ⟨p.2, fun u hu => hl.2 u (List.mem_cons_of_mem _ hu)⟩ y h e
      simp only [manyH, h2]
      rw [if_neg (by omega)]
      omega
theorem many_none {a : Int} : ∀ {l : List Hit}, (∀ y ∈ l, y.at_ ≠ a) → manyH a l = 0
  | [], _ => rfl
  | z :: r, h => by
    simp only [manyH, many_none (fun u hu => h u (List.mem_cons_of_mem _ hu))]
    rw [if_neg (h z (by simp))]
end Go.Proofs.YtmjipafhahggpaaDoor.Hi

namespace Go.Proofs.YtmjipafhahggpaaDoor.Hi

theorem bounds_step (k : Nat) (hk : k ≤ 4) (a : Int) (ha : Fits k a) (hb : Fits k (a + 1)) : lowI k a ≤ lowI k (a + 1) ∧ highI k a ≤ highI k (a + 1) := by
  have h1 := next_low k hk a ha hb
  have h2 := (low_in k hk a ha).2.2
  have h3 := (low_in k hk (a + 1) hb).2.2
  omega
theorem bounds_mono (k : Nat) (hk : k ≤ 4) : ∀ (n : Nat) (a : Int), Fits k a → Fits k (a + n) → lowI k a ≤ lowI k (a + n) ∧ highI k a ≤ highI k (a + n)
  | 0, a, _, _ => by simp
  | n + 1, a, ha, hb => by
    have hm : Fits k (a + n) := by unfold Fits at *; omega
    obtain ⟨h1, h2⟩ := bounds_mono k hk n a ha hm
    have e : a + ((n + 1 : Nat) : Int) = a + n + 1 := by omega
    rw [e] at hb ⊢
    obtain ⟨h3, h4⟩ := bounds_step k hk (a + n) hm hb
    omega
theorem bounds_le (k : Nat) (hk : k ≤ 4) {a b : Int} (ha : Fits k a) (hb : Fits k b) (h : a ≤ b) : lowI k a ≤ lowI k b ∧ highI k a ≤ highI k b := by
  obtain ⟨n, rfl⟩ : ∃ n : Nat, b = a + n := ⟨(b - a).toNat, by omega⟩
  exact bounds_mono k hk n a ha hb
end Go.Proofs.YtmjipafhahggpaaDoor.Hi

namespace Go.Proofs.YtmjipafhahggpaaDoor.Hi

instance : Inhabited Hit := ⟨⟨0, 0⟩⟩
/-- How many items are ahead of bucket a. -/
def cutH (a : Int) : List Hit → Nat
  | [] => 0
  | y :: r => if y.at_ < a then cutH a r + 1 else 0
theorem cutH_le (a : Int) : ∀ l, cutH a l ≤ l.length
  | [] => Nat.le_refl _
  | y :: r => by
    unfold cutH
    split
    · have := cutH_le a r; simp only [List.length_cons]; omega
    · omega
theorem cutH_lt (a : Int) : ∀ (l : List Hit) (i : Nat), i < cutH a l → l[i]!.at_ < a
  | [], i, h => by simp [cutH] at h
  | y :: r, i, h => by
    unfold cutH at h
    split at h
    · rename_i hy
      cases i with
      | zero => exact hy
      | succ j => simpa using cutH_lt a r j (by omega)
    · omega
theorem cutH_at (a : Int) : ∀ (l : List Hit), cutH a l < l.length → ¬ l[cutH a l]!.at_ < a
  | [], h => by simp at h
  | y :: r, h => by
    by_cases hy : y.at_ < a
    · have e : cutH a (y :: r) = cutH a r + 1 := by rw [cutH, if_pos hy]
      have h' : cutH a r < r.length := by rw [e] at h; simp at h; omega
      have := cutH_at a r h'
      rw [e]
      simpa using this
    · have e : cutH a (y :: r) = 0 := by rw [cutH, if_neg hy]
      rw [e]
      simpa using hy
theorem at_mem {l : List Hit} {i : Nat} (h : i < l.length) : l[i]! ∈ l := by rw [getElem!_pos l i h]; exact List.getElem_mem h
theorem Rising.lt {l : List Hit} (h : Rising l) {i j : Nat} (hij : i < j) (hj : j < l.length) : l[i]!.at_ < l[j]!.at_ := by
  rw [getElem!_pos l i (by omega), getElem!_pos l j hj]
  exact List.pairwise_iff_getElem.1 h.1 i j (by omega) hj hij
theorem Rising.le {l : List Hit} (h : Rising l) {i j : Nat} (hij : i ≤ j) (hj : j < l.length) : l[i]!.at_ ≤ l[j]!.at_ := by
  rcases Nat.lt_or_eq_of_le hij with h1 | rfl
  · exact Int.le_of_lt (h.lt h1 hj)
  · exact Int.le_refl _
theorem cut_iff {l : List Hit} (h : Rising l) (a : Int) {i : Nat} (hi : i < l.length) : l[i]!.at_ < a ↔ i < cutH a l := by
  constructor
  · intro h1
    by_cases h2 : i < cutH a l
    · exact h2
    · exfalso
      have h3 := cutH_at a l (by omega)
      have h4 := h.le (show cutH a l ≤ i by omega) hi
      omega
  · exact cutH_lt a l i
theorem more_found {a : Int} {m : Nat} : ∀ {l : List Hit}, cutH a l < l.length → l[cutH a l]!.at_ = a → more ⟨a, m⟩ l = l.set (cutH a l) ⟨l[cutH a l]!.at_, l[cutH a l]!.many + m⟩
  | [], h, _ => by simp at h
  | y :: r, h, e => by
    by_cases hy : y.at_ < a
    · have ec : cutH a (y :: r) = cutH a r + 1 := by rw [cutH, if_pos hy]
      rw [ec] at h e ⊢
      rw [more, if_pos hy, List.set_cons_succ]
      simp only [List.length_cons, Nat.add_lt_add_iff_right] at h
      rw [show (y :: r)[cutH a r + 1]! = r[cutH a r]! by simp] at e ⊢
      rw [more_found h e]
    · have ec : cutH a (y :: r) = 0 := by rw [cutH, if_neg hy]
      rw [ec] at e ⊢
      have e' : y.at_ = a := by simpa using e
      rw [more, if_neg hy, if_pos e']
      simp [e']
theorem more_new {a : Int} {m : Nat} : ∀ {l : List Hit}, (cutH a l < l.length → l[cutH a l]!.at_ ≠ a) → more ⟨a, m⟩ l = l.take (cutH a l) ++ ⟨a, m⟩ :: l.drop (cutH a l)
  | [], _ => by simp [more, cutH]
  | y :: r, e => by
    by_cases hy : y.at_ < a
    · have ec : cutH a (y :: r) = cutH a r + 1 := by rw [cutH, if_pos hy]
      rw [ec] at e ⊢
      rw [more, if_pos hy, List.take_succ_cons, List.drop_succ_cons]
      simp only [List.length_cons, Nat.add_lt_add_iff_right] at e
      rw [show (y :: r)[cutH a r + 1]! = r[cutH a r]! by simp] at e
      rw [more_new e]
      rfl
    · have ec : cutH a (y :: r) = 0 := by rw [cutH, if_neg hy]
      rw [ec] at e ⊢
      have e' : ¬ y.at_ = a := by simpa using e
      rw [more, if_neg hy, if_neg e']
      rfl
theorem many_le_count : ∀ {l : List Hit} {x : Hit}, x ∈ l → x.many ≤ countH l
  | [], _, h => by simp at h
  | y :: r, x, h => by
    rcases List.mem_cons.1 h with rfl | h
    · simp only [countH]; omega
    · have := many_le_count h
      simp only [countH]; omega
theorem countH_take_le (l : List Hit) (i : Nat) : countH (l.take i) ≤ countH l := by
  have := countH_append (l.take i) (l.drop i)
  rw [List.take_append_drop] at this
  omega
theorem countH_take_succ (l : List Hit) (i : Nat) (h : i < l.length) : countH (l.take (i + 1)) = countH (l.take i) + l[i]!.many := by
  rw [List.take_add_one, List.getElem?_eq_getElem h, countH_append, getElem!_pos l i h]
  simp [countH]
/-- What holds of a histogram's items: rising, none empty, the buckets are some of those bits, and not too many numbers. -/
structure Inv (k : Nat) (l : List Hit) : Prop where
  hk : k ≤ 4
  ris : Rising l
  fit : ∀ x ∈ l, Fits k x.at_
  sum : countH l ≤ 1099511627776
theorem Inv.nil {k : Nat} (hk : k ≤ 4) : Inv k [] := ⟨hk, Rising.nil, fun _ h => by simp at h, by simp [countH]⟩
theorem Inv.more {k : Nat} {l : List Hit} (h : Inv k l) {x : Hit} (hx : Fits k x.at_) (hp : 0 < x.many) (hs : countH l + x.many ≤ 1099511627776) : Inv k (more x l) :=
  ⟨h.hk, h.ris.more hp, fun y hy => by
    rcases mem_more x l y hy with e | hy
    · rw [e]; exact hx
    · exact h.fit y hy, by rw [countH_more]; exact hs⟩
theorem countH_mergeH : ∀ (m l : List Hit), countH (mergeH l m) = countH l + countH m
  | [], l => by simp [mergeH, countH]
  | x :: r, l => by
    have := countH_mergeH r (more x l)
    unfold mergeH at this ⊢
    rw [List.foldl_cons, this, countH_more]
    simp only [countH]
    omega
theorem Inv.merge {k : Nat} : ∀ {m l : List Hit}, Inv k l → Rising m → (∀ x ∈ m, Fits k x.at_) → countH l + countH m ≤ 1099511627776 → Inv k (mergeH l m)
  | [], _, h, _, _, _ => h
  | x :: r, l, h, hm, hf, hs => by
    simp only [countH] at hs
    have h1 : Inv k (Go.Proofs.YtmjipafhahggpaaDoor.Hi.more x l) := h.more (hf x (by simp)) (hm.2 x (by simp)) (by omega)
    exact Inv.merge (m := r) h1 ⟨(List.pairwise_cons.1 hm.1).2, fun u hu => hm.2 u (List.mem_cons_of_mem _ hu)⟩ (fun u hu => hf u (List.mem_cons_of_mem _ hu)) (by rw [countH_more]; omega)
theorem rising_length : ∀ (l : List Hit) (a : Int), l.Pairwise (fun x y => x.at_ < y.at_) → (∀ x ∈ l, a ≤ x.at_) → (∀ x ∈ l, x.at_ ≤ 1000) → l ≠ [] → a + l.length ≤ 1001
  | [], _, _, _, _, h => absurd rfl h
  | [x], a, _, h1, h2, _ => by
    have := h1 x (by simp); have := h2 x (by simp)
    simp only [List.length_cons, List.length_nil]; omega
  | x :: y :: r, a, hp, h1, h2, _ => by
    have hp1 := List.pairwise_cons.1 hp
    have := rising_length (y :: r) (a + 1) hp1.2 (fun u hu => by have := hp1.1 u hu; have := h1 x (by simp); omega) (fun u hu => h2 u (List.mem_cons_of_mem _ hu)) (by simp)
    simp only [List.length_cons] at this ⊢
    omega
theorem Inv.len {k : Nat} {l : List Hit} (h : Inv k l) : l.length ≤ 2001 := by
  by_cases h0 : l = []
  · subst h0; simp
  · have := rising_length l (-1000) h.ris.1 (fun x hx => (fits_small k h.hk _ (h.fit x hx)).1) (fun x hx => (fits_small k h.hk _ (h.fit x hx)).2) h0
    omega
theorem Inv.many {k : Nat} {l : List Hit} (h : Inv k l) {i : Nat} (hi : i < l.length) : 0 < l[i]!.many ∧ l[i]!.many ≤ 1099511627776 := by
  have h1 := many_le_count (at_mem hi)
  have h2 := h.sum
  exact ⟨h.ris.2 _ (at_mem hi), by omega⟩
theorem Inv.at {k : Nat} {l : List Hit} (h : Inv k l) {i : Nat} (hi : i < l.length) : -1000 ≤ l[i]!.at_ ∧ l[i]!.at_ ≤ 1000 := fits_small k h.hk _ (h.fit _ (at_mem hi))

/-- Two rows of items, both rising, taken together. -/
def join : List Hit → List Hit → List Hit
  | [], m => m
  | l, [] => l
  | x :: l, y :: m => if x.at_ < y.at_ then x :: join l (y :: m) else if y.at_ < x.at_ then y :: join (x :: l) m else ⟨x.at_, x.many + y.many⟩ :: join l m
termination_by l m => l.length + m.length
theorem join_nil_left (m : List Hit) : join [] m = m := by unfold join; rfl
theorem join_nil_right (l : List Hit) : join l [] = l := by
  cases l with
  | nil => exact join_nil_left []
  | cons x l => unfold join; rfl
theorem join_cons (x y : Hit) (l m : List Hit) : join (x :: l) (y :: m) = if x.at_ < y.at_ then x :: join l (y :: m) else if y.at_ < x.at_ then y :: join (x :: l) m else ⟨x.at_, x.many + y.many⟩ :: join l m := by
  rw [join]
theorem join_many (a : Int) : ∀ (n : Nat) (l m : List Hit), l.length + m.length ≤ n → manyH a (join l m) = manyH a l + manyH a m
  | n, [], m, _ => by rw [join_nil_left]; simp [manyH]
  | n, x :: l, [], _ => by rw [join_nil_right]; simp [manyH]
  | 0, x :: l, y :: m, h => by simp at h
  | n + 1, x :: l, y :: m, h => by
    simp only [List.length_cons] at h
    rw [join_cons]
    split
    · simp only [manyH, join_many a n l (y :: m) (by simp only [List.length_cons]; omega)]; omega
    · split
      · simp only [manyH, join_many a n (x :: l) m (by simp only [List.length_cons]; omega)]; omega
      · rename_i h1 h2
        have e : y.at_ = x.at_ := by omega
        simp only [manyH, join_many a n l m (by omega), e]
        split <;> omega
theorem mem_join : ∀ (n : Nat) (l m : List Hit), l.length + m.length ≤ n → ∀ z ∈ join l m, (∃ x ∈ l, x.at_ = z.at_) ∨ ∃ y ∈ m, y.at_ = z.at_
  | n, [], m, _, z, hz => by rw [join_nil_left] at hz; exact .inr ⟨z, hz, rfl⟩
  | n, x :: l, [], _, z, hz => by rw [join_nil_right] at hz; exact .inl ⟨z, hz, rfl⟩
  | 0, x :: l, y :: m, h, _, _ => by simp at h
  | n + 1, x :: l, y :: m, h, z, hz => by
    simp only [List.length_cons] at h
    rw [join_cons] at hz
    split at hz
    · rcases List.mem_cons.1 hz with rfl | hz
      · exact .inl ⟨_, by simp, rfl⟩
      · rcases mem_join n l (y :: m) (by simp only [List.length_cons]; omega) z hz with ⟨u, hu, e⟩ | ⟨u, hu, e⟩
        · exact .inl ⟨u, List.mem_cons_of_mem _ hu, e⟩
        · exact .inr ⟨u, hu, e⟩
    · split at hz
      · rcases List.mem_cons.1 hz with rfl | hz
        · exact .inr ⟨_, by simp, rfl⟩
        · rcases mem_join n (x :: l) m (by simp only [List.length_cons]; omega) z hz with ⟨u, hu, e⟩ | ⟨u, hu, e⟩
          · exact .inl ⟨u, hu, e⟩
          · exact .inr ⟨u, List.mem_cons_of_mem _ hu, e⟩
      · rcases List.mem_cons.1 hz with rfl | hz
        · exact .inl ⟨x, by simp, rfl⟩
        · rcases mem_join n l m (by omega) z hz with ⟨u, hu, e⟩ | ⟨u, hu, e⟩
          · exact .inl ⟨u, List.mem_cons_of_mem _ hu, e⟩
          · exact .inr ⟨u, List.mem_cons_of_mem _ hu, e⟩
theorem join_rising : ∀ (n : Nat) (l m : List Hit), l.length + m.length ≤ n → Rising l → Rising m → Rising (join l m)
  | n, [], m, _, _, hm => by rw [join_nil_left]; exact hm
  | n, x :: l, [], _, hl, _ => by rw [join_nil_right]; exact hl
  | 0, x :: l, y :: m, h, _, _ => by simp at h
  | n + 1, x :: l, y :: m, h, hl, hm => by
    simp only [List.length_cons] at h
    have pl := List.pairwise_cons.1 hl.1
    have pm := List.pairwise_cons.1 hm.1
    have tl : Rising l := ⟨pl.2, fun u hu => hl.2 u (List.mem_cons_of_mem _ hu)⟩
    have tm : Rising m := ⟨pm.2, fun u hu => hm.2 u (List.mem_cons_of_mem _ hu)⟩
    have cons : ∀ (z : Hit) (p : List Hit), 0 < z.many → Rising p → (∀ u ∈ p, z.at_ < u.at_) → Rising (z :: p) := fun z p hz hp hu =>
      ⟨List.pairwise_cons.2 ⟨hu, hp.1⟩, fun u hu => by
        rcases List.mem_cons.1 hu with rfl | hu
        · exact hz
        · exact hp.2 u hu⟩
    rw [join_cons]
    split
    · rename_i h1
      refine cons x _ (hl.2 x (by simp)) (join_rising n l (y :: m) (by simp only [List.length_cons]; omega) tl hm) fun u hu => ?_
      rcases mem_join n l (y :: m) (by simp only [List.length_cons]; omega) u hu with ⟨v, hv, e⟩ | ⟨v, hv, e⟩
      · rw [← e]; exact pl.1 v hv
      · rw [← e]
        rcases List.mem_cons.1 hv with rfl | hv
        · exact h1
        · exact Int.lt_trans h1 (pm.1 v hv)
    · split
      · rename_i h1 h2
        refine cons y _ (hm.2 y (by simp)) (join_rising n (x :: l) m (by simp only [List.length_cons]; omega) hl tm) fun u hu => ?_
        rcases mem_join n (x :: l) m (by simp only [List.length_cons]; omega) u hu with ⟨v, hv, e⟩ | ⟨v, hv, e⟩
        · rw [← e]
          rcases List.mem_cons.1 hv with rfl | hv
          · exact h2
          · exact Int.lt_trans h2 (pl.1 v hv)
        · rw [← e]; exact pm.1 v hv
      · rename_i h1 h2
        refine cons _ _ (by have := hl.2 x (by simp); show 0 < x.many + y.many; omega) (join_rising n l m (by omega) tl tm) fun u hu => ?_
        rcases mem_join n l m (by omega) u hu with ⟨v, hv, e⟩ | ⟨v, hv, e⟩
        · rw [← e]; exact pl.1 v hv
        · rw [← e]; have := pm.1 v hv; show x.at_ < v.at_; omega
theorem join_eq {l m : List Hit} (hl : Rising l) (hm : Rising m) : join l m = mergeH l m :=
  rising_ext (join_rising _ l m (Nat.le_refl _) hl hm) (mergeH_rising m l hl hm.2) fun a => by rw [join_many a _ l m (Nat.le_refl _), mergeH_many]
theorem join_length : ∀ (n : Nat) (l m : List Hit), l.length + m.length ≤ n → (join l m).length ≤ l.length + m.length
  | n, [], m, _ => by rw [join_nil_left]; simp
  | n, x :: l, [], _ => by rw [join_nil_right]; simp
  | 0, x :: l, y :: m, h => by simp at h
  | n + 1, x :: l, y :: m, h => by
    simp only [List.length_cons] at h
    rw [join_cons]
    split
    · have := join_length n l (y :: m) (by simp only [List.length_cons]; omega)
      simp only [List.length_cons] at this ⊢; omega
    · split
      · have := join_length n (x :: l) m (by simp only [List.length_cons]; omega)
        simp only [List.length_cons] at this ⊢; omega
      · have := join_length n l m (by omega)
        simp only [List.length_cons] at this ⊢; omega
/-- The rest of a row. -/
theorem drop_at {l : List Hit} {i : Nat} (h : i < l.length) : l.drop i = l[i]! :: l.drop (i + 1) := by rw [List.drop_eq_getElem_cons h, getElem!_pos l i h]
end Go.Proofs.YtmjipafhahggpaaDoor.Hi

