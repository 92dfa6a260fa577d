/- The bytes of histograms: what is put, what is got of it. -/
import Derived.Test.YtklklpccpbhfgaaHiMath
namespace Go.Proofs.Ytklklpccpbhfgaa

/-- A number's k bytes, the highest first. -/
def be : Nat → Nat → List UInt8
  | 0, _ => []
  | k + 1, n => UInt8.ofNat (n / 256 ^ k) :: be k n
/-- The number of bytes. -/
def numB (s : List UInt8) : Nat := s.foldl (fun n b => n * 256 + b.toNat) 0
theorem be_length : ∀ k n, (be k n).length = k
  | 0, _ => rfl
  | k + 1, n => by simp [be, be_length k n]
theorem foldl_num : ∀ (s : List UInt8) (m : Nat), s.foldl (fun n b => n * 256 + b.toNat) m = m * 256 ^ s.length + s.foldl (fun n b => n * 256 + b.toNat) 0
  | [], m => by simp
  | b :: r, m => by
    rw [List.foldl_cons, List.foldl_cons, foldl_num r (m * 256 + b.toNat), foldl_num r (0 * 256 + b.toNat), List.length_cons, Nat.pow_succ, Nat.add_mul, Nat.zero_mul, Nat.zero_add, Nat.mul_assoc, Nat.mul_comm 256, Nat.add_assoc]
theorem numB_cons (b : UInt8) (r : List UInt8) : numB (b :: r) = b.toNat * 256 ^ r.length + numB r := by
  unfold numB
  rw [List.foldl_cons, foldl_num]
  simp
theorem numB_snoc (r : List UInt8) (b : UInt8) : numB (r ++ [b]) = numB r * 256 + b.toNat := by
  unfold numB
  rw [List.foldl_append]
  rfl
theorem numB_lt : ∀ s, numB s < 256 ^ s.length
  | [] => by simp [numB]
  | b :: r => by
    have h1 := numB_lt r
    have h2 := b.toNat_lt
    rw [numB_cons, List.length_cons, Nat.pow_succ]
    have h3 : b.toNat * 256 ^ r.length ≤ 255 * 256 ^ r.length := Nat.mul_le_mul_right _ (by omega)
    generalize 256 ^ r.length = z at *
    omega
theorem numB_be : ∀ k n, numB (be k n) = n % 256 ^ k
  | 0, n => by simp [be, numB, Nat.mod_one]
  | k + 1, n => by
    have e : n % 256 ^ (k + 1) = n % 256 ^ k + 256 ^ k * (n / 256 ^ k % 256) := by rw [Nat.pow_succ, Nat.mod_mul]
    rw [e, be, numB_cons, be_length, numB_be k n, UInt8.toNat_ofNat', show 2 ^ 8 = 256 from rfl, Nat.add_comm, Nat.mul_comm (256 ^ k)]
theorem numB_be_lt {k n : Nat} (h : n < 256 ^ k) : numB (be k n) = n := by rw [numB_be, Nat.mod_eq_of_lt h]

/-- An item's ten bytes. -/
def putI (x : Hit) : List UInt8 := be 4 (x.at_ + 2147483648).toNat ++ be 6 x.many
theorem putI_length (x : Hit) : (putI x).length = 10 := by simp [putI, be_length]
/-- All bytes of a histogram. -/
def putH (b : Nat) (l : List Hit) : List UInt8 := be 1 b ++ be 2 l.length ++ l.flatMap putI
theorem flat_length : ∀ l : List Hit, (l.flatMap putI).length = 10 * l.length
  | [] => rfl
  | x :: r => by rw [List.flatMap_cons, List.length_append, putI_length, flat_length r, List.length_cons]; omega
theorem putH_length (b : Nat) (l : List Hit) : (putH b l).length = 3 + 10 * l.length := by
  unfold putH
  rw [List.length_append, List.length_append, be_length, be_length, flat_length]


/-- The items that bytes begin with, behind those that there are (the last of them told, and how many stand in all): or none. -/
def getI (ok : Int → Bool) : Nat → List UInt8 → List Hit → Option (List Hit × List UInt8)
  | 0, s, l => some (l, s)
  | k + 1, s, l =>
    let a : Int := (numB (s.take 4) : Int) - 2147483648
    let n := numB ((s.drop 4).take 6)
    if ok a = false ∨ n = 0 ∨ (∃ y, l.getLast? = some y ∧ a ≤ y.at_) then none
    else if 1099511627776 < countH (l ++ [⟨a, n⟩]) then none
    else getI ok k (s.drop 10) (l ++ [⟨a, n⟩])
/-- The histogram that bytes begin with, or none. -/
def getH (ok : Nat → Int → Bool) (s : List UInt8) : Option (Nat × List Hit × List UInt8) :=
  if s.length < 3 ∨ 4 < numB (s.take 1) then none
  else if s.length - 3 < 10 * numB ((s.drop 1).take 2) then none
  else (getI (ok (numB (s.take 1))) (numB ((s.drop 1).take 2)) (s.drop 3) []).map fun p => (numB (s.take 1), p.1, p.2)

theorem countH_append : ∀ l m : List Hit, countH (l ++ m) = countH l + countH m
  | [], m => by simp [countH]
  | x :: r, m => by simp only [List.cons_append, countH, countH_append r m]; omega
theorem take_putI (x : Hit) (s : List UInt8) : (putI x ++ s).take 4 = be 4 (x.at_ + 2147483648).toNat ∧ ((putI x ++ s).drop 4).take 6 = be 6 x.many ∧ (putI x ++ s).drop 10 = s := by
  have h4 := be_length 4 (x.at_ + 2147483648).toNat
  have h6 := be_length 6 x.many
  unfold putI
  refine ⟨?_, ?_, ?_⟩
  · rw [List.append_assoc, List.take_left' h4]
  · rw [List.append_assoc, List.drop_left' h4, List.take_left' h6]
  · rw [List.drop_left' (by rw [List.length_append, h4, h6])]
/-- An item that may stand in a histogram's bytes. -/
def PutOk (ok : Int → Bool) (x : Hit) : Prop := ok x.at_ = true ∧ -2147483648 ≤ x.at_ ∧ x.at_ < 2147483648 ∧ 0 < x.many
theorem getI_put (ok : Int → Bool) (s : List UInt8) : ∀ (m l : List Hit), (l ++ m).Pairwise (fun x y => x.at_ < y.at_) → (∀ x ∈ m, PutOk ok x) → countH (l ++ m) ≤ 1099511627776 →
    getI ok m.length (m.flatMap putI ++ s) l = some (l ++ m, s)
  | [], l, _, _, _ => by simp [getI]
  | x :: r, l, hp, hm, hc => by
    obtain ⟨h1, h2, h3, h4⟩ := hm x (by simp)
    have hc1 := hc
    rw [countH_append] at hc1
    simp only [countH] at hc1
    rw [List.flatMap_cons, List.append_assoc, List.length_cons]
    obtain ⟨t1, t2, t3⟩ := take_putI x (r.flatMap putI ++ s)
    unfold getI
    simp only [t1, t2, t3]
    rw [numB_be_lt (by omega), numB_be_lt (by omega)]
    have ea : (((x.at_ + 2147483648).toNat : Nat) : Int) - 2147483648 = x.at_ := by omega
    rw [ea, if_neg, if_neg]
    · have hx : (⟨x.at_, x.many⟩ : Hit) = x := rfl
      rw [hx, getI_put ok s r (l ++ [x]) (by simpa using hp) (fun u hu => hm u (List.mem_cons_of_mem _ hu)) (by simpa using hc)]
      simp
    · rw [countH_append]
      simp only [countH]
      omega
    · rintro (h | h | ⟨y, hy, h⟩)
      · rw [h1] at h; cases h
      · omega
      · have hyl := List.mem_of_getLast? hy
        have := (List.pairwise_append.1 hp).2.2 y hyl x (by simp)
        omega
theorem take_putH (b : Nat) (l : List Hit) (s : List UInt8) : (putH b l ++ s).take 1 = be 1 b ∧ ((putH b l ++ s).drop 1).take 2 = be 2 l.length ∧ (putH b l ++ s).drop 3 = l.flatMap putI ++ s := by
  have h1 := be_length 1 b
  have h2 := be_length 2 l.length
  unfold putH
  refine ⟨?_, ?_, ?_⟩
  · rw [List.append_assoc, List.append_assoc, List.take_left' h1]
  · rw [List.append_assoc, List.append_assoc, List.drop_left' h1, List.take_left' h2]
  · rw [List.append_assoc, List.drop_left' (by rw [List.length_append, h1, h2])]
/-- What was put is got, and what stands behind it. -/
theorem getH_put (ok : Nat → Int → Bool) (b : Nat) (hb : b ≤ 4) (l : List Hit) (hl : l.length < 65536) (hp : l.Pairwise (fun x y => x.at_ < y.at_)) (hm : ∀ x ∈ l, PutOk (ok b) x) (hc : countH l ≤ 1099511627776) (s : List UInt8) :
    getH ok (putH b l ++ s) = some (b, l, s) := by
  obtain ⟨t1, t2, t3⟩ := take_putH b l s
  unfold getH
  rw [t1, t2, t3, numB_be_lt (show b < 256 ^ 1 by omega), numB_be_lt (show l.length < 256 ^ 2 by omega), if_neg, if_neg, getI_put (ok b) s l [] (by simpa using hp) hm (by simpa using hc)]
  · simp
  · rw [List.length_append, putH_length]
    omega
  · rw [List.length_append, putH_length]
    omega
/-- Cut anywhere it is none. -/
theorem getH_cut (ok : Nat → Int → Bool) (b : Nat) (hb : b ≤ 4) (l : List Hit) (hl : l.length < 65536) (n : Nat) (hn : n < (putH b l).length) : getH ok ((putH b l).take n) = none := by
  rw [putH_length] at hn
  unfold getH
  have hlen : ((putH b l).take n).length = n := by rw [List.length_take, putH_length]; omega
  rw [hlen]
  by_cases h3 : n < 3
  · rw [if_pos (.inl h3)]
  · obtain ⟨t1, t2, _⟩ := take_putH b l []
    rw [List.append_nil] at t1 t2
    have e1 : ((putH b l).take n).take 1 = be 1 b := by rw [List.take_take, show min 1 n = 1 by omega, t1]
    have e2 : (((putH b l).take n).drop 1).take 2 = be 2 l.length := by rw [List.drop_take, List.take_take, show min 2 (n - 1) = 2 by omega, t2]
    rw [e1, e2, numB_be_lt (show b < 256 ^ 1 by omega), numB_be_lt (show l.length < 256 ^ 2 by omega), if_neg (by omega), if_pos (by omega)]
end Go.Proofs.Ytklklpccpbhfgaa
