/- What a cell holds, and its bytes, on lists. -/
import Derived.Test.YtmjipafhahggpaaDoorMcO
import Derived.Test.YtmjipafhahggpaaDoorMwC
namespace Go.Proofs.YtmjipafhahggpaaDoor.Ce
open Go Go.RowKit Hi

/-- What a cell tells: bits, when it begins, its items, its sum, the least, the most (of no numbers the greatest and the least of all). -/
structure Cel where
  k : Nat
  frm : Int
  its : List Hit
  sum : Int
  low : Int
  top : Int
/-- What holds of each cell. -/
structure Cel.Ok (c : Cel) : Prop where
  inv : Inv c.k c.its
  frm : In64 c.frm
  low : In64 c.low
  top : In64 c.top
  lo : -9223372036854775808 * (countH c.its : Int) ≤ c.sum
  hi : c.sum ≤ 9223372036854775807 * (countH c.its : Int)
theorem Cel.Ok.insum {c : Cel} (h : c.Ok) : Wi.InS c.sum := by
  have h1 := h.lo
  have h2 := h.hi
  have h3 := h.inv.sum
  unfold Wi.InS
  omega
def Cel.new (k : Nat) (frm : Int) : Cel := ⟨k, frm, [], 0, 9223372036854775807, -9223372036854775808⟩
theorem Cel.Ok.new {k : Nat} (hk : k ≤ 4) {frm : Int} (hf : In64 frm) : (Cel.new k frm).Ok :=
  ⟨Inv.nil hk, hf, ⟨by show -9223372036854775808 ≤ (9223372036854775807 : Int); omega, by show (9223372036854775807 : Int) ≤ 9223372036854775807; omega⟩, ⟨by show -9223372036854775808 ≤ (-9223372036854775808 : Int); omega, by show (-9223372036854775808 : Int) ≤ 9223372036854775807; omega⟩, by simp [Cel.new, countH], by simp [Cel.new, countH]⟩
/-- A number more. -/
def Cel.add (c : Cel) (n : Int) : Cel := ⟨c.k, c.frm, more ⟨ofI c.k n, 1⟩ c.its, c.sum + n, min c.low n, max c.top n⟩
theorem in64_min {a b : Int} (h : In64 a) (g : In64 b) : In64 (min a b) := by unfold In64 at *; omega
theorem in64_max {a b : Int} (h : In64 a) (g : In64 b) : In64 (max a b) := by unfold In64 at *; omega
theorem Cel.Ok.add {c : Cel} (h : c.Ok) {n : Int} (hn : In64 n) (hc : countH c.its < 1099511627776) : (c.add n).Ok := by
  have h1 := h.lo
  have h2 := h.hi
  have e : countH (more ⟨ofI c.k n, 1⟩ c.its) = countH c.its + 1 := countH_more _ _
  have hn' := hn
  unfold In64 at hn'
  refine ⟨h.inv.more (of_fits c.k h.inv.hk n hn) (by show 0 < 1; omega) (by show countH c.its + 1 ≤ _; omega), h.frm, in64_min h.low hn, in64_max h.top hn, ?_, ?_⟩
  · show -9223372036854775808 * (countH (more ⟨ofI c.k n, 1⟩ c.its) : Int) ≤ c.sum + n
    rw [e]; omega
  · show c.sum + n ≤ 9223372036854775807 * (countH (more ⟨ofI c.k n, 1⟩ c.its) : Int)
    rw [e]; omega
/-- All that another one has, too. -/
def Cel.merge (c d : Cel) : Cel := ⟨c.k, c.frm, mergeH c.its d.its, c.sum + d.sum, min c.low d.low, max c.top d.top⟩
theorem Cel.Ok.merge {c d : Cel} (h : c.Ok) (g : d.Ok) (hk : d.k = c.k) (hc : countH c.its + countH d.its ≤ 1099511627776) : (c.merge d).Ok := by
  have h1 := h.lo
  have h2 := h.hi
  have g1 := g.lo
  have g2 := g.hi
  have e : countH (mergeH c.its d.its) = countH c.its + countH d.its := countH_mergeH _ _
  refine ⟨h.inv.merge g.inv.ris (fun x hx => hk ▸ g.inv.fit x hx) hc, h.frm, in64_min h.low g.low, in64_max h.top g.top, ?_, ?_⟩
  · show -9223372036854775808 * (countH (mergeH c.its d.its) : Int) ≤ c.sum + d.sum
    rw [e]; omega
  · show c.sum + d.sum ≤ 9223372036854775807 * (countH (mergeH c.its d.its) : Int)
    rw [e]; omega
def Cel.move (c : Cel) (frm : Int) : Cel := { c with frm := frm }
theorem Cel.Ok.move {c : Cel} (h : c.Ok) {f : Int} (hf : In64 f) : (c.move f).Ok := ⟨h.inv, hf, h.low, h.top, h.lo, h.hi⟩
/-- The least, and the most, as they are told: 0 of no numbers. -/
def Cel.lowT (c : Cel) : Int := if countH c.its = 0 then 0 else c.low
def Cel.topT (c : Cel) : Int := if countH c.its = 0 then 0 else c.top
theorem Cel.Ok.lowT {c : Cel} (h : c.Ok) : In64 c.lowT := by
  unfold Cel.lowT; split
  · unfold In64; omega
  · exact h.low
theorem Cel.Ok.topT {c : Cel} (h : c.Ok) : In64 c.topT := by
  unfold Cel.topT; split
  · unfold In64; omega
  · exact h.top
/-- A number of 64 bits as one that is not below 0. -/
def u64N (n : Int) : Nat := (n % 18446744073709551616).toNat
theorem u64N_lt (n : Int) : u64N n < 18446744073709551616 := by unfold u64N; omega
def i64Z (n : Nat) : Int := if n < 9223372036854775808 then (n : Int) else (n : Int) - 18446744073709551616
theorem i64Z_u64 {n : Int} (h : In64 n) : i64Z (u64N n) = n := by
  unfold In64 at h
  unfold i64Z u64N
  split <;> omega
theorem i64Z_in {n : Nat} (h : n < 18446744073709551616) : In64 (i64Z n) := by
  unfold In64 i64Z
  split <;> omega
/-- The bytes of a number. -/
def n8 (n : Int) : List UInt8 := be 8 (u64N n)
theorem n8_length (n : Int) : (n8 n).length = 8 := be_length _ _
def num8 (l : List UInt8) : Int := i64Z (numB (l.take 8))
theorem num8_lt (l : List UInt8) : numB (l.take 8) < 18446744073709551616 := by
  have h := numB_lt (l.take 8)
  have h2 : (l.take 8).length ≤ 8 := by rw [List.length_take]; omega
  have h3 : 256 ^ (l.take 8).length ≤ 256 ^ 8 := Nat.pow_le_pow_right (by omega) h2
  omega
theorem num8_in (l : List UInt8) : In64 (num8 l) := i64Z_in (num8_lt l)
theorem num8_n8 {n : Int} (h : In64 n) (t : List UInt8) : num8 (n8 n ++ t) = n := by
  unfold num8
  rw [List.take_left' (n8_length n), n8, numB_be_lt (u64N_lt n)]
  exact i64Z_u64 h
/-- A cell as bytes. -/
def Cel.put (c : Cel) : List UInt8 := n8 c.frm ++ Wi.sput c.sum ++ n8 c.lowT ++ n8 c.topT ++ putH c.k c.its
theorem Cel.put_length (c : Cel) : c.put.length = 40 + (putH c.k c.its).length := by
  unfold Cel.put
  simp only [List.length_append, n8_length, Wi.sput_length]
theorem Cel.put_len (c : Cel) : c.put.length = 43 + 10 * c.its.length := by
  rw [c.put_length, putH_length]
  omega
theorem Cel.Ok.len {c : Cel} (h : c.Ok) : c.put.length ≤ 20100 := by
  have := h.inv.len
  rw [c.put_len]
  omega
/-- May such a cell be? -/
def okC (k : Nat) (l : List Hit) (sum low top : Int) : Prop :=
  if countH l = 0 then sum = 0 ∧ low = 0 ∧ top = 0
  else rankH l 1 = some (ofI k low) ∧ rankH l (countH l) = some (ofI k top) ∧ (countH l : Int) * low ≤ sum ∧ sum ≤ (countH l : Int) * top
instance (k : Nat) (l : List Hit) (sum low top : Int) : Decidable (okC k l sum low top) := by unfold okC; infer_instance
def sumB (s : List UInt8) : Int := Wi.getS ((s.drop 8).take 16)
def lowB (s : List UInt8) : Int := num8 (s.drop 24)
def topB (s : List UInt8) : Int := num8 (s.drop 32)
def celB (s : List UInt8) (k : Nat) (l : List Hit) : Cel :=
  ⟨k, num8 s, l, sumB s, if countH l = 0 then 9223372036854775807 else lowB s, if countH l = 0 then -9223372036854775808 else topB s⟩
/-- The cell whose bytes a text begins with, and what stands behind it. -/
def getC (s : List UInt8) : Option (Cel × List UInt8) :=
  if s.length < 40 then none else
  match getF (s.drop 40) with
  | none => none
  | some (k, l, t) => if okC k l (sumB s) (lowB s) (topB s) then some (celB s k l, t) else none
/-- A cell that numbers may give. -/
structure Cel.Fit (c : Cel) : Prop where
  ok : c.Ok
  none : countH c.its = 0 → c.low = 9223372036854775807 ∧ c.top = -9223372036854775808
  fit : okC c.k c.its c.sum c.lowT c.topT
theorem getC_put {c : Cel} (h : c.Fit) (t : List UInt8) : getC (c.put ++ t) = some (c, t) := by
  have hl : (c.put ++ t).length = 40 + (putH c.k c.its).length + t.length := by rw [List.length_append, c.put_length]
  have e0 : num8 (c.put ++ t) = c.frm := by
    unfold Cel.put
    simp only [List.append_assoc]
    exact num8_n8 h.ok.frm _
  have l8 := n8_length
  have l16 := Wi.sput_length
  have d8 : (c.put ++ t).drop 8 = Wi.sput c.sum ++ (n8 c.lowT ++ (n8 c.topT ++ (putH c.k c.its ++ t))) := by
    unfold Cel.put
    simp only [List.append_assoc]
    exact List.drop_left' (l8 _)
  have d24 : (c.put ++ t).drop 24 = n8 c.lowT ++ (n8 c.topT ++ (putH c.k c.its ++ t)) := by
    rw [show (24 : Nat) = 8 + 16 from rfl, ← List.drop_drop, d8]
    exact List.drop_left' (l16 _)
  have d32 : (c.put ++ t).drop 32 = n8 c.topT ++ (putH c.k c.its ++ t) := by
    rw [show (32 : Nat) = 24 + 8 from rfl, ← List.drop_drop, d24]
    exact List.drop_left' (l8 _)
  have d40 : (c.put ++ t).drop 40 = putH c.k c.its ++ t := by
    rw [show (40 : Nat) = 32 + 8 from rfl, ← List.drop_drop, d32]
    exact List.drop_left' (l8 _)
  have e1 : sumB (c.put ++ t) = c.sum := by
    unfold sumB
    rw [d8, List.take_left' (l16 _)]
    exact Wi.getS_put h.ok.insum
  have e2 : lowB (c.put ++ t) = c.lowT := by
    unfold lowB
    rw [d24]
    exact num8_n8 h.ok.lowT _
  have e3 : topB (c.put ++ t) = c.topT := by
    unfold topB
    rw [d32]
    exact num8_n8 h.ok.topT _
  unfold getC
  rw [if_neg (by omega), d40, getF_put h.ok.inv t]
  simp only []
  rw [e1, e2, e3, if_pos h.fit]
  unfold celB
  rw [e0, e1, e2, e3]
  have hn := h.none
  cases c with
  | mk k f l s lo hi =>
    simp only [Cel.lowT, Cel.topT] at *
    by_cases h0 : countH l = 0
    · obtain ⟨rfl, rfl⟩ := hn h0
      simp only [if_pos h0]
    · simp only [if_neg h0]
theorem getC_cut {c : Cel} (h : c.Ok) (n : Nat) (hn : n < c.put.length) : getC (c.put.take n) = none := by
  unfold getC
  by_cases h40 : n < 40
  · rw [if_pos (by rw [List.length_take]; omega)]
  · have hl := c.put_length
    rw [if_neg (by rw [List.length_take]; omega)]
    have d40 : c.put.drop 40 = putH c.k c.its := by
      unfold Cel.put
      exact List.drop_left' (by simp only [List.length_append, n8_length, Wi.sput_length])
    have : (c.put.take n).drop 40 = (putH c.k c.its).take (n - 40) := by rw [List.drop_take, d40]
    rw [this, getF_cut h.inv (n - 40) (by omega)]
/-- The cell of numbers. -/
def celN (k : Nat) (frm : Int) (xs : List Int) : Cel := xs.foldl Cel.add (Cel.new k frm)
theorem celN_nil (k : Nat) (frm : Int) : celN k frm [] = Cel.new k frm := rfl
theorem celN_snoc (k : Nat) (frm : Int) (xs : List Int) (n : Int) : celN k frm (xs ++ [n]) = (celN k frm xs).add n := by
  unfold celN
  rw [List.foldl_append]
  rfl
def lowN (xs : List Int) : Int := xs.foldl min 9223372036854775807
def topN (xs : List Int) : Int := xs.foldl max (-9223372036854775808)
theorem foldl_add (k : Nat) (frm : Int) : ∀ (xs : List Int) (c : Cel), xs.foldl Cel.add c = ⟨c.k, c.frm, (xs.map (ofI c.k)).foldl (fun l b => more ⟨b, 1⟩ l) c.its, c.sum + xs.sum, xs.foldl min c.low, xs.foldl max c.top⟩
  | [], c => by simp
  | x :: xs, c => by
    rw [List.foldl_cons, foldl_add k frm xs (c.add x)]
    simp only [Cel.add, List.map_cons, List.foldl_cons, List.sum_cons]
    congr 1
    omega
theorem celN_eq (k : Nat) (frm : Int) (xs : List Int) : celN k frm xs = ⟨k, frm, itemsN k xs, xs.sum, lowN xs, topN xs⟩ := by
  unfold celN
  rw [foldl_add k frm]
  simp only [Cel.new, Int.zero_add]
  rfl
theorem foldl_min_perm {xs ys : List Int} (h : xs.Perm ys) : ∀ a, xs.foldl min a = ys.foldl min a := by
  induction h with
  | nil => intro a; rfl
  | cons x _ ih => intro a; simp only [List.foldl_cons]; exact ih _
  | swap x y l => intro a; simp only [List.foldl_cons]; congr 1; omega
  | trans _ _ ih1 ih2 => intro a; rw [ih1, ih2]
theorem foldl_max_perm {xs ys : List Int} (h : xs.Perm ys) : ∀ a, xs.foldl max a = ys.foldl max a := by
  induction h with
  | nil => intro a; rfl
  | cons x _ ih => intro a; simp only [List.foldl_cons]; exact ih _
  | swap x y l => intro a; simp only [List.foldl_cons]; congr 1; omega
  | trans _ _ ih1 ih2 => intro a; rw [ih1, ih2]
theorem sum_perm {xs ys : List Int} (h : xs.Perm ys) : xs.sum = ys.sum := by
  induction h with
  | nil => rfl
  | cons x _ ih => simp only [List.sum_cons, ih]
  | swap x y l => simp only [List.sum_cons]; omega
  | trans _ _ ih1 ih2 => rw [ih1, ih2]
theorem celN_perm {k : Nat} {frm : Int} {xs ys : List Int} (h : xs.Perm ys) : celN k frm xs = celN k frm ys := by
  rw [celN_eq, celN_eq, itemsN_perm h, sum_perm h]
  unfold lowN topN
  rw [foldl_min_perm h, foldl_max_perm h]
theorem celN_many (k : Nat) (frm : Int) (xs : List Int) : countH (celN k frm xs).its = xs.length := by
  rw [celN_eq]
  exact itemsN_count k xs
theorem foldl_min_le : ∀ (xs : List Int) (a : Int), xs.foldl min a ≤ a ∧ ∀ x ∈ xs, xs.foldl min a ≤ x
  | [], a => ⟨by simp, fun _ h => by simp at h⟩
  | y :: ys, a => by
    obtain ⟨h1, h2⟩ := foldl_min_le ys (min a y)
    rw [List.foldl_cons]
    refine ⟨by omega, fun x hx => ?_⟩
    rcases List.mem_cons.1 hx with rfl | hx
    · omega
    · exact h2 x hx
theorem foldl_min_mem : ∀ (xs : List Int) (a : Int), xs.foldl min a = a ∨ xs.foldl min a ∈ xs
  | [], a => .inl rfl
  | y :: ys, a => by
    rw [List.foldl_cons]
    rcases foldl_min_mem ys (min a y) with h | h
    · rw [h]
      by_cases hy : a ≤ y
      · exact .inl (by omega)
      · exact .inr (List.mem_cons.2 (.inl (by omega)))
    · exact .inr (List.mem_cons_of_mem _ h)
theorem foldl_max_le : ∀ (xs : List Int) (a : Int), a ≤ xs.foldl max a ∧ ∀ x ∈ xs, x ≤ xs.foldl max a
  | [], a => ⟨by simp, fun _ h => by simp at h⟩
  | y :: ys, a => by
    obtain ⟨h1, h2⟩ := foldl_max_le ys (max a y)
    rw [List.foldl_cons]
    refine ⟨by omega, fun x hx => ?_⟩
    rcases List.mem_cons.1 hx with rfl | hx
    · omega
    · exact h2 x hx
theorem foldl_max_mem : ∀ (xs : List Int) (a : Int), xs.foldl max a = a ∨ xs.foldl max a ∈ xs
  | [], a => .inl rfl
  | y :: ys, a => by
    rw [List.foldl_cons]
    rcases foldl_max_mem ys (max a y) with h | h
    · rw [h]
      by_cases hy : y ≤ a
      · exact .inl (by omega)
      · exact .inr (List.mem_cons.2 (.inl (by omega)))
    · exact .inr (List.mem_cons_of_mem _ h)
theorem lowN_mem {xs : List Int} (h : ∀ x ∈ xs, In64 x) (hp : 0 < xs.length) : lowN xs ∈ xs := by
  rcases foldl_min_mem xs 9223372036854775807 with e | e
  · obtain ⟨x, hx⟩ := List.exists_mem_of_length_pos hp
    have h1 := (foldl_min_le xs 9223372036854775807).2 x hx
    have h2 := (h x hx).2
    have e2 : x = lowN xs := by unfold lowN; omega
    exact e2 ▸ hx
  · exact e
theorem topN_mem {xs : List Int} (h : ∀ x ∈ xs, In64 x) (hp : 0 < xs.length) : topN xs ∈ xs := by
  rcases foldl_max_mem xs (-9223372036854775808) with e | e
  · obtain ⟨x, hx⟩ := List.exists_mem_of_length_pos hp
    have h1 := (foldl_max_le xs (-9223372036854775808)).2 x hx
    have h2 := (h x hx).1
    have e2 : x = topN xs := by unfold topN; omega
    exact e2 ▸ hx
  · exact e
theorem sum_ge {xs : List Int} {a : Int} (h : ∀ x ∈ xs, a ≤ x) : (xs.length : Int) * a ≤ xs.sum := by
  induction xs with
  | nil => simp
  | cons x xs ih =>
    have h1 := h x (by simp)
    have h2 := ih fun y hy => h y (List.mem_cons_of_mem _ hy)
    rw [List.sum_cons, List.length_cons, Int.natCast_add, Int.add_mul]
    simp only [Int.natCast_one, Int.one_mul]
    omega
theorem sum_le {xs : List Int} {a : Int} (h : ∀ x ∈ xs, x ≤ a) : xs.sum ≤ (xs.length : Int) * a := by
  induction xs with
  | nil => simp
  | cons x xs ih =>
    have h1 := h x (by simp)
    have h2 := ih fun y hy => h y (List.mem_cons_of_mem _ hy)
    rw [List.sum_cons, List.length_cons, Int.natCast_add, Int.add_mul]
    simp only [Int.natCast_one, Int.one_mul]
    omega
theorem celN_ok {k : Nat} (hk : k ≤ 4) {frm : Int} (hf : In64 frm) : ∀ (g : Nat) (xs : List Int), xs.length = g → g ≤ 1000000 → (∀ x ∈ xs, In64 x) → (celN k frm xs).Ok
  | 0, xs, hl, _, _ => by
    obtain rfl := List.eq_nil_of_length_eq_zero hl
    exact Cel.Ok.new hk hf
  | g + 1, xs, hl, hg, h => by
    have hne : xs ≠ [] := fun e => by rw [e] at hl; cases hl
    have e := List.dropLast_concat_getLast hne
    have hd : xs.dropLast.length = g := by rw [List.length_dropLast]; omega
    rw [← e, celN_snoc]
    refine (celN_ok hk hf g xs.dropLast hd (by omega) fun x hx => h x (List.dropLast_subset _ hx)).add (h _ (List.getLast_mem hne)) ?_
    rw [celN_many]
    omega
theorem celN_fit {k : Nat} (hk : k ≤ 4) {frm : Int} (hf : In64 frm) {xs : List Int} (hl : xs.length ≤ 1000000) (h : ∀ x ∈ xs, In64 x) : (celN k frm xs).Fit := by
  refine ⟨celN_ok hk hf _ xs rfl hl h, fun h0 => ?_, ?_⟩
  · rw [celN_many] at h0
    obtain rfl := List.eq_nil_of_length_eq_zero h0
    exact ⟨rfl, rfl⟩
  · have hm := celN_many k frm xs
    unfold Cel.lowT Cel.topT okC
    by_cases h0 : countH (celN k frm xs).its = 0
    · rw [if_pos h0]
      simp only [if_pos h0]
      rw [hm] at h0
      obtain rfl := List.eq_nil_of_length_eq_zero h0
      exact ⟨rfl, trivial, trivial⟩
    · rw [if_neg h0]
      simp only [if_neg h0]
      have hp : 0 < xs.length := by omega
      rw [hm]
      rw [celN_eq]
      simp only []
      exact ⟨rank_first k h (lowN_mem h hp) (foldl_min_le xs _).2, rank_last k h (topN_mem h hp) (foldl_max_le xs _).2, sum_ge (foldl_min_le xs _).2, sum_le (foldl_max_le xs _).2⟩
theorem celN_merge (k : Nat) (f f' : Int) (xs ys : List Int) (_ : ∀ x ∈ xs, In64 x) (_ : ∀ x ∈ ys, In64 x) : (celN k f xs).merge (celN k f' ys) = celN k f (xs ++ ys) := by
  rw [celN_eq, celN_eq, celN_eq]
  unfold Cel.merge
  simp only []
  rw [itemsN_merge, List.sum_append]
  have h1 : min (lowN xs) (lowN ys) = lowN (xs ++ ys) := by
    have a := foldl_min_le (xs ++ ys) 9223372036854775807
    have b := foldl_min_le xs 9223372036854775807
    have c := foldl_min_le ys 9223372036854775807
    have m1 := foldl_min_mem xs 9223372036854775807
    have m2 := foldl_min_mem ys 9223372036854775807
    have m3 := foldl_min_mem (xs ++ ys) 9223372036854775807
    unfold lowN
    refine Int.le_antisymm ?_ ?_
    · rcases m3 with e | e
      · rw [e]; omega
      · rcases List.mem_append.1 e with e | e
        · have := b.2 _ e; omega
        · have := c.2 _ e; omega
    · refine Int.le_min.2 ⟨?_, ?_⟩
      · rcases m1 with e | e
        · rw [e]; exact a.1
        · exact a.2 _ (List.mem_append.2 (.inl e))
      · rcases m2 with e | e
        · rw [e]; exact a.1
        · exact a.2 _ (List.mem_append.2 (.inr e))
  have h2 : max (topN xs) (topN ys) = topN (xs ++ ys) := by
    have a := foldl_max_le (xs ++ ys) (-9223372036854775808)
    have b := foldl_max_le xs (-9223372036854775808)
    have c := foldl_max_le ys (-9223372036854775808)
    have m1 := foldl_max_mem xs (-9223372036854775808)
    have m2 := foldl_max_mem ys (-9223372036854775808)
    have m3 := foldl_max_mem (xs ++ ys) (-9223372036854775808)
    unfold topN
    refine Int.le_antisymm ?_ ?_
    · refine Int.max_le.2 ⟨?_, ?_⟩
      · rcases m1 with e | e
        · rw [e]; exact a.1
        · exact a.2 _ (List.mem_append.2 (.inl e))
      · rcases m2 with e | e
        · rw [e]; exact a.1
        · exact a.2 _ (List.mem_append.2 (.inr e))
    · rcases m3 with e | e
      · rw [e]; omega
      · rcases List.mem_append.1 e with e | e
        · have := b.2 _ e; omega
        · have := c.2 _ e; omega
  rw [h1, h2]
theorem celN_move (k : Nat) (f f' : Int) (xs : List Int) : (celN k f xs).move f' = celN k f' xs := by
  rw [celN_eq, celN_eq]
  rfl
end Go.Proofs.YtmjipafhahggpaaDoor.Ce

