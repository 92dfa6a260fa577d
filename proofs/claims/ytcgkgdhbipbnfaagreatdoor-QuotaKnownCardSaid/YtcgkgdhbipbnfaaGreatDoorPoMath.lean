/- A policy's numbers: what is right, how it is told and read, put and got. No model in this text. -/
import Derived.Test.YtcgkgdhbipbnfaaGreatDoorMfA
namespace Go.Proofs.YtcgkgdhbipbnfaaGreatDoor.Po
open Go

/-! Texts cut at a byte, and put together with one. -/
def cutB (b : UInt8) : List UInt8 → List (List UInt8)
  | [] => [[]]
  | c :: r => if c = b then [] :: cutB b r else match cutB b r with
    | [] => [[c]]
    | x :: xs => (c :: x) :: xs
theorem cutB_ne (b : UInt8) (l : List UInt8) : cutB b l ≠ [] := by
  cases l with
  | nil => simp [cutB]
  | cons c r =>
    unfold cutB
    split
    · simp
    · split <;> simp
theorem cutB_plain {b : UInt8} : ∀ {l : List UInt8}, b ∉ l → cutB b l = [l]
  | [], _ => rfl
  | c :: r, h => by
    unfold cutB
    rw [if_neg (fun e => h (by rw [e]; exact List.mem_cons_self)), cutB_plain (fun e => h (List.mem_cons_of_mem _ e))]
theorem cutB_app {b : UInt8} : ∀ {l : List UInt8} (r : List UInt8), b ∉ l → cutB b (l ++ b :: r) = l :: cutB b r
  | [], r, _ => by
    rw [List.nil_append, cutB, if_pos rfl]
  | c :: l, r, h => by
    rw [List.cons_append, cutB, if_neg (fun e => h (by rw [e]; exact List.mem_cons_self)), cutB_app r (fun e => h (List.mem_cons_of_mem _ e))]
def joinB (b : UInt8) : List (List UInt8) → List UInt8
  | [] => []
  | [x] => x
  | x :: y :: r => x ++ b :: joinB b (y :: r)
theorem cut_join {b : UInt8} : ∀ {ws : List (List UInt8)}, (∀ x ∈ ws, b ∉ x) → ws ≠ [] → cutB b (joinB b ws) = ws
  | [], _, h => absurd rfl h
  | [x], h, _ => cutB_plain (h x (by simp))
  | x :: y :: r, h, _ => by
    unfold joinB
    rw [cutB_app _ (h x (by simp)), cut_join (fun z hz => h z (List.mem_cons_of_mem _ hz)) (by simp)]
theorem join_mem {b c : UInt8} : ∀ {ws : List (List UInt8)}, c ∈ joinB b ws → c = b ∨ ∃ x ∈ ws, c ∈ x
  | [], h => by cases h
  | [x], h => .inr ⟨x, by simp, h⟩
  | x :: y :: r, h => by
    unfold joinB at h
    rcases List.mem_append.1 h with h | h
    · exact .inr ⟨x, by simp, h⟩
    · rcases List.mem_cons.1 h with h | h
      · exact .inl h
      · rcases join_mem h with h | ⟨z, h1, h2⟩
        · exact .inl h
        · exact .inr ⟨z, List.mem_cons_of_mem _ h1, h2⟩

/-! A number's digits. -/
def digF (n : Int) : List UInt8 := sgL n ++ Lib.decDigits (farF n)
theorem whole_dig {n : Int} (h : In64 n) : wholeF (digF n) = (n, 0) := by
  unfold digF
  rw [whole_of (sgL_1 n) (dec_all _) (dec_len _) (dec_19 (far_le h)), dec_val, fit_of (far_fit h), sgn_far]
theorem dig_mem {n : Int} {c : UInt8} (h : c ∈ digF n) : c = 45 ∨ isDig c = true := by
  unfold digF at h
  rcases List.mem_append.1 h with h | h
  · unfold sgL at h
    split at h
    · exact .inl (by simpa using h)
    · cases h
  · exact .inr (dec_all _ c h)
theorem dig_not {n : Int} {c : UInt8} (h1 : c ≠ 45) (h2 : isDig c = false) : c ∉ digF n := fun h => by
  rcases dig_mem h with e | e
  · exact h1 e
  · rw [h2] at e; cases e
theorem dig_ne (n : Int) : digF n ≠ [] := fun h => dec_ne _ (List.append_eq_nil_iff.1 h).2

/-! What is right. -/
def inZ (n low high : Int) : Bool := decide (low ≤ n) && decide (n ≤ high)
/-- Each is in its bounds, and a greater multiple of the one ahead. -/
def tiersZ : Option Int → List Int → Bool
  | _, [] => true
  | p, x :: r => inZ x 1 1000000000 && (match p with | none => true | some y => decide (y < x) && decide (x % y = 0)) && tiersZ (some x) r
def boundZ : List Int → Bool
  | [slots, low, high, top, sketch, fine, idle, window, late, future] =>
    inZ slots 1 256 && inZ high 0 1000000 && inZ low 0 high && inZ top 1 16 && inZ sketch 4 10 && inZ fine 0 4 && inZ idle 1 100 && inZ window 1 1000000000 && inZ late 0 1000000000 && inZ future 0 1000000000
  | _ => false
def rightZ (n t : List Int) : Bool := tiersZ none t && (decide (1 ≤ t.length) && decide (t.length ≤ 3)) && boundZ n
theorem tiers_in : ∀ {t : List Int} {p : Option Int}, tiersZ p t = true → ∀ x ∈ t, 1 ≤ x ∧ x ≤ 1000000000
  | [], _, _, _, h => by cases h
  | y :: r, p, h, x, hx => by
    unfold tiersZ at h
    simp only [Bool.and_eq_true] at h
    rcases List.mem_cons.1 hx with rfl | hx
    · have := h.1.1
      unfold inZ at this
      simp only [Bool.and_eq_true, decide_eq_true_eq] at this
      exact this
    · exact tiers_in h.2 x hx
theorem bound_ten {n : List Int} (h : boundZ n = true) : ∃ a b c d e f g i j k, n = [a, b, c, d, e, f, g, i, j, k] := by
  unfold boundZ at h
  split at h
  · exact ⟨_, _, _, _, _, _, _, _, _, _, rfl⟩
  · cases h
theorem bound_in {n : List Int} (h : boundZ n = true) : ∀ x ∈ n, 0 ≤ x ∧ x ≤ 1000000000 := by
  obtain ⟨a, b, c, d, e, f, g, i, j, k, rfl⟩ := bound_ten h
  unfold boundZ inZ at h
  simp only [Bool.and_eq_true, decide_eq_true_eq] at h
  intro x hx
  simp only [List.mem_cons, List.not_mem_nil, or_false] at hx
  omega

/-! Words. -/
def namesZ : List (List UInt8) :=
  [[115, 108, 111, 116, 115], [108, 111, 119], [104, 105, 103, 104], [116, 111, 112], [115, 107, 101, 116, 99, 104], [102, 105, 110, 101], [105, 100, 108, 101], [119, 105, 110, 100, 111, 119], [108, 97, 116, 101], [102, 117, 116, 117, 114, 101], [116, 105, 101, 114, 115]]
def posZ (w : List UInt8) : Option Nat := namesZ.findIdx? (· == w)
/-- What has been read: the ten numbers, the tiers, which were met. -/
structure StZ where
  n : List Int
  t : List Int
  met : List Nat
deriving DecidableEq
def baseZ : StZ := ⟨[64, 32, 64, 8, 6, 2, 2, 60, 30, 5], [10, 60], []⟩
def wholesZ : List (List UInt8) → Option (List Int)
  | [] => some []
  | x :: r => if (wholeF x).2 = 0 then (wholesZ r).map ((wholeF x).1 :: ·) else none
def wordZ (s : StZ) (w : List UInt8) : Option StZ :=
  match cutB 61 w with
  | [a, v] => match posZ a with
    | none => none
    | some k => if k ∈ s.met then none else
      if k = 10 then (wholesZ (cutB 47 v)).map fun t => ⟨s.n, t, k :: s.met⟩
      else if (wholeF v).2 = 0 then some ⟨s.n.set k (wholeF v).1, s.t, k :: s.met⟩ else none
  | _ => none
def wordsZ : StZ → List (List UInt8) → Option StZ
  | s, [] => some s
  | s, w :: r => match wordZ s w with
    | none => none
    | some s' => wordsZ s' r
def zeroN : List Int := [0, 0, 0, 0, 0, 0, 0, 0, 0, 0]
/-- What a text is read as: the numbers, the tiers, the error. -/
def readZ (s : List UInt8) : List Int × List Int × Nat :=
  if s = [] then (baseZ.n, baseZ.t, 0) else match wordsZ baseZ (cutB 32 s) with
    | none => (zeroN, [], 2)
    | some st => if rightZ st.n st.t then (st.n, st.t, 0) else (zeroN, [], 1)
/-- A word. -/
def tellZ (name v : List UInt8) : List UInt8 := name ++ 61 :: v
def tellsZ (n t : List Int) : List (List UInt8) := (namesZ.zip n).map (fun x => tellZ x.1 (digF x.2)) ++ [tellZ [116, 105, 101, 114, 115] (joinB 47 (t.map digF))]
def textZ (n t : List Int) : List UInt8 := joinB 32 (tellsZ n t)
theorem wholes_dig : ∀ {t : List Int}, (∀ x ∈ t, In64 x) → wholesZ (t.map digF) = some t
  | [], _ => rfl
  | x :: r, h => by
    rw [List.map_cons, wholesZ, whole_dig (h x (by simp)), if_pos rfl, wholes_dig (fun y hy => h y (List.mem_cons_of_mem _ hy))]
    rfl
theorem cut_tell {name v : List UInt8} (h1 : (61 : UInt8) ∉ name) (h2 : (61 : UInt8) ∉ v) : cutB 61 (tellZ name v) = [name, v] := by
  unfold tellZ
  rw [cutB_app _ h1, cutB_plain h2]
theorem isDig_no {c : UInt8} (h : c.toNat < 48 ∨ 57 < c.toNat) : isDig c = false := by
  unfold isDig
  rw [Bool.and_eq_false_iff, decide_eq_false_iff_not, decide_eq_false_iff_not]
  omega
theorem word_num (s : StZ) (k : Nat) (name : List UInt8) (x : Int) (hp : posZ name = some k) (hn : (61 : UInt8) ∉ name) (hk : k ≠ 10) (hm : k ∉ s.met) (hx : In64 x) : wordZ s (tellZ name (digF x)) = some ⟨s.n.set k x, s.t, k :: s.met⟩ := by
  unfold wordZ
  rw [cut_tell hn (dig_not (by decide) (isDig_no (by decide)))]
  simp only [hp, if_neg hm, if_neg hk, whole_dig hx, if_true]
theorem word_tiers (s : StZ) (t : List Int) (hm : 10 ∉ s.met) (hn : t ≠ []) (ht : ∀ x ∈ t, In64 x) : wordZ s (tellZ [116, 105, 101, 114, 115] (joinB 47 (t.map digF))) = some ⟨s.n, t, 10 :: s.met⟩ := by
  have h61 : (61 : UInt8) ∉ joinB 47 (t.map digF) := fun h => by
    rcases join_mem h with h | ⟨x, h1, h2⟩
    · cases h
    · obtain ⟨y, _, rfl⟩ := List.mem_map.1 h1
      exact dig_not (by decide) (isDig_no (by decide)) h2
  unfold wordZ
  rw [cut_tell (by decide) h61]
  have hp : posZ [116, 105, 101, 114, 115] = some 10 := by decide
  simp only [hp, if_neg hm, if_true]
  rw [cut_join (fun x hx => by
    obtain ⟨y, _, rfl⟩ := List.mem_map.1 hx
    exact dig_not (by decide) (isDig_no (by decide))) (by simpa using hn), wholes_dig ht]
  rfl
theorem in64_of {x : Int} (h : 0 ≤ x ∧ x ≤ 1000000000) : In64 x := by unfold In64; omega
theorem right_in {n t : List Int} (h : rightZ n t = true) : (∀ x ∈ n, 0 ≤ x ∧ x ≤ 1000000000) ∧ (∀ x ∈ t, 1 ≤ x ∧ x ≤ 1000000000) ∧ 1 ≤ t.length ∧ t.length ≤ 3 ∧ boundZ n = true := by
  unfold rightZ at h
  simp only [Bool.and_eq_true, decide_eq_true_eq] at h
  exact ⟨bound_in h.2, tiers_in h.1.1, h.1.2.1, h.1.2.2, h.2⟩
theorem tell_mem {name : List UInt8} {x : Int} (h : (32 : UInt8) ∉ name) : (32 : UInt8) ∉ tellZ name (digF x) := fun e => by
  unfold tellZ at e
  rcases List.mem_append.1 e with e | e
  · exact h e
  · rcases List.mem_cons.1 e with e | e
    · cases e
    · exact dig_not (by decide) (isDig_no (by decide)) e
/-- What is told is read as it was. -/
theorem read_textZ {n t : List Int} (h : rightZ n t = true) : readZ (textZ n t) = (n, t, 0) := by
  obtain ⟨h1, h2, h3, h4, h5⟩ := right_in h
  obtain ⟨a, b, c, d, e, f, g, i, j, k, rfl⟩ := bound_ten h5
  have hi : ∀ x ∈ [a, b, c, d, e, f, g, i, j, k], In64 x := fun x hx => in64_of (h1 x hx)
  have hti : ∀ x ∈ t, In64 x := fun x hx => in64_of ⟨by have := h2 x hx; omega, (h2 x hx).2⟩
  have htn : t ≠ [] := fun e => by rw [e] at h3; simp at h3
  simp only [List.mem_cons, List.not_mem_nil, or_false, forall_eq_or_imp, forall_eq] at hi
  obtain ⟨ia, ib, ic, id, ie, if', ig, ii, ij, ik⟩ := hi
  have hsp : ∀ x ∈ tellsZ [a, b, c, d, e, f, g, i, j, k] t, (32 : UInt8) ∉ x := fun x hx => by
    unfold tellsZ at hx
    rcases List.mem_append.1 hx with hx | hx
    · simp only [namesZ, List.zip_cons_cons, List.zip_nil_right, List.map_cons, List.map_nil, List.mem_cons, List.not_mem_nil, or_false] at hx
      rcases hx with rfl | rfl | rfl | rfl | rfl | rfl | rfl | rfl | rfl | rfl <;> exact tell_mem (by decide)
    · rw [List.mem_singleton.1 hx]
      intro e
      unfold tellZ at e
      rcases List.mem_append.1 e with e | e
      · revert e; decide
      · rcases List.mem_cons.1 e with e | e
        · cases e
        · rcases join_mem e with e | ⟨y, h1, h2⟩
          · cases e
          · obtain ⟨z, _, rfl⟩ := List.mem_map.1 h1
            exact dig_not (by decide) (isDig_no (by decide)) h2
  have hne : tellsZ [a, b, c, d, e, f, g, i, j, k] t ≠ [] := by simp [tellsZ]
  have hte : textZ [a, b, c, d, e, f, g, i, j, k] t ≠ [] := by
    unfold textZ tellsZ namesZ tellZ
    simp [joinB]
  unfold readZ
  rw [if_neg hte]
  unfold textZ
  rw [cut_join hsp hne]
  have hw : wordsZ baseZ (tellsZ [a, b, c, d, e, f, g, i, j, k] t) = some ⟨[a, b, c, d, e, f, g, i, j, k], t, [10, 9, 8, 7, 6, 5, 4, 3, 2, 1, 0]⟩ := by
    unfold tellsZ namesZ baseZ
    simp only [List.zip_cons_cons, List.zip_nil_right, List.map_cons, List.map_nil, List.cons_append, List.nil_append, wordsZ]
    rw [word_num _ 0 _ a (by decide) (by decide) (by decide) (by simp) ia]
    simp only [List.set]
    rw [word_num _ 1 _ b (by decide) (by decide) (by decide) (by simp) ib]
    simp only [List.set]
    rw [word_num _ 2 _ c (by decide) (by decide) (by decide) (by simp) ic]
    simp only [List.set]
    rw [word_num _ 3 _ d (by decide) (by decide) (by decide) (by simp) id]
    simp only [List.set]
    rw [word_num _ 4 _ e (by decide) (by decide) (by decide) (by simp) ie]
    simp only [List.set]
    rw [word_num _ 5 _ f (by decide) (by decide) (by decide) (by simp) if']
    simp only [List.set]
    rw [word_num _ 6 _ g (by decide) (by decide) (by decide) (by simp) ig]
    simp only [List.set]
    rw [word_num _ 7 _ i (by decide) (by decide) (by decide) (by simp) ii]
    simp only [List.set]
    rw [word_num _ 8 _ j (by decide) (by decide) (by decide) (by simp) ij]
    simp only [List.set]
    rw [word_num _ 9 _ k (by decide) (by decide) (by decide) (by simp) ik]
    simp only [List.set]
    rw [word_tiers _ t (by simp) htn hti]
  rw [hw]
  simp only [h, if_true]

/-! Bytes. -/
def beZ : Nat → Nat → List UInt8
  | 0, _ => []
  | k + 1, n => UInt8.ofNat (n / 256 ^ k) :: beZ k n
def numZ (s : List UInt8) : Nat := s.foldl (fun n b => n * 256 + b.toNat) 0
theorem beZ_len : ∀ k n, (beZ k n).length = k
  | 0, _ => rfl
  | k + 1, n => by rw [beZ, List.length_cons, beZ_len k n]
theorem foldl_numZ : ∀ (s : List UInt8) (m : Nat), s.foldl (fun n b => n * 256 + b.toNat) m = m * 256 ^ s.length + s.foldl (fun n b => n * 256 + b.toNat) 0
  | [], m => by simp
  | b :: r, m => by
    rw [List.foldl_cons, List.foldl_cons, foldl_numZ r, foldl_numZ r (0 * 256 + b.toNat), List.length_cons, Nat.pow_succ, Nat.mul_comm (256 ^ r.length) 256, ← Nat.mul_assoc, Nat.add_mul, Nat.zero_mul, Nat.zero_add, Nat.add_assoc]
theorem numZ_cons (b : UInt8) (r : List UInt8) : numZ (b :: r) = b.toNat * 256 ^ r.length + numZ r := by
  unfold numZ
  rw [List.foldl_cons, foldl_numZ, Nat.zero_mul, Nat.zero_add]
theorem numZ_be : ∀ k n, numZ (beZ k n) = n % 256 ^ k
  | 0, n => by rw [Nat.pow_zero, Nat.mod_one]; rfl
  | k + 1, n => by
    rw [beZ, numZ_cons, beZ_len, numZ_be k n, UInt8.toNat_ofNat']
    show n / 256 ^ k % 256 * 256 ^ k + n % 256 ^ k = n % (256 ^ k * 256)
    rw [show n % (256 ^ k * 256) = n % 256 ^ k + 256 ^ k * (n / 256 ^ k % 256) from Nat.mod_mul]
    rw [Nat.mul_comm, Nat.add_comm]
/-- A number of 64 bits with a sign. -/
def i64Z (n : Nat) : Int := if n < 9223372036854775808 then (n : Int) else (n : Int) - 18446744073709551616
def putZ (n t : List Int) : List UInt8 := n.flatMap (fun x => beZ 8 x.toNat) ++ (beZ 1 t.length ++ t.flatMap fun x => beZ 8 x.toNat)
/-- So many numbers of eight bytes. -/
def getsZ : Nat → List UInt8 → List Int
  | 0, _ => []
  | k + 1, s => i64Z (numZ (s.take 8)) :: getsZ k (s.drop 8)
def manyZ (s : List UInt8) : Nat := ((s.drop 80).headD 0).toNat
/-- What bytes begin with: the numbers, the tiers, what stands behind. -/
def getZ (s : List UInt8) : Option (List Int × List Int × List UInt8) :=
  if s.length < 81 ∨ s.length < 81 + 8 * manyZ s then none
  else if rightZ (getsZ 10 s) (getsZ (manyZ s) (s.drop 81)) then some (getsZ 10 s, getsZ (manyZ s) (s.drop 81), s.drop (81 + 8 * manyZ s)) else none
theorem flat_len (l : List Int) : (l.flatMap fun x => beZ 8 x.toNat).length = 8 * l.length := by
  induction l with
  | nil => rfl
  | cons x r ih => rw [List.flatMap_cons, List.length_append, beZ_len, ih, List.length_cons]; omega
theorem gets_put : ∀ (l : List Int) (s : List UInt8), (∀ x ∈ l, 0 ≤ x ∧ x ≤ 1000000000) → getsZ l.length (l.flatMap (fun x => beZ 8 x.toNat) ++ s) = l
  | [], _, _ => rfl
  | x :: r, s, h => by
    have h1 := h x (by simp)
    rw [List.length_cons, List.flatMap_cons, List.append_assoc, getsZ, List.take_left' (beZ_len _ _), List.drop_left' (beZ_len _ _), gets_put r s (fun y hy => h y (List.mem_cons_of_mem _ hy)), numZ_be, Nat.mod_eq_of_lt (by omega)]
    unfold i64Z
    rw [if_pos (by omega)]
    congr 1
    omega
theorem get_put {n t : List Int} (h : rightZ n t = true) (s : List UInt8) : getZ (putZ n t ++ s) = some (n, t, s) := by
  obtain ⟨h1, h2, h3, h4, h5⟩ := right_in h
  have hn : n.length = 10 := by obtain ⟨a, b, c, d, e, f, g, i, j, k, rfl⟩ := bound_ten h5; rfl
  have hA : (n.flatMap fun x => beZ 8 x.toNat).length = 80 := by rw [flat_len, hn]
  have hb : beZ 1 t.length = [UInt8.ofNat t.length] := by simp [beZ]
  have hbn : (UInt8.ofNat t.length).toNat = t.length := by rw [UInt8.toNat_ofNat']; omega
  have hT : (t.flatMap fun x => beZ 8 x.toNat).length = 8 * t.length := flat_len t
  have e : putZ n t ++ s = n.flatMap (fun x => beZ 8 x.toNat) ++ (UInt8.ofNat t.length :: (t.flatMap (fun x => beZ 8 x.toNat) ++ s)) := by
    unfold putZ
    rw [hb]
    simp
  have hd : (putZ n t ++ s).drop 80 = UInt8.ofNat t.length :: (t.flatMap (fun x => beZ 8 x.toNat) ++ s) := by rw [e, List.drop_left' hA]
  have hm : manyZ (putZ n t ++ s) = t.length := by unfold manyZ; rw [hd]; exact hbn
  have hd1 : (putZ n t ++ s).drop 81 = t.flatMap (fun x => beZ 8 x.toNat) ++ s := by
    rw [show 81 = 80 + 1 from rfl, ← List.drop_drop, hd]; rfl
  have hd2 : (putZ n t ++ s).drop (81 + 8 * t.length) = s := by
    rw [← List.drop_drop, hd1, List.drop_left' hT]
  have hl : (putZ n t ++ s).length = 81 + 8 * t.length + s.length := by
    rw [e, List.length_append, List.length_cons, List.length_append, hA, hT]; omega
  have g1 : getsZ 10 (putZ n t ++ s) = n := by
    rw [e, ← hn]
    exact gets_put n _ h1
  have g2 : getsZ t.length ((putZ n t ++ s).drop 81) = t := by
    rw [hd1]
    exact gets_put t s fun x hx => ⟨by have := h2 x hx; omega, (h2 x hx).2⟩
  unfold getZ
  rw [hm, if_neg (by omega), g1, g2, if_pos h, hd2]
theorem put_len {n t : List Int} (h : rightZ n t = true) : (putZ n t).length = 81 + 8 * t.length := by
  obtain ⟨_, _, _, _, h5⟩ := right_in h
  have hn : n.length = 10 := by obtain ⟨a, b, c, d, e, f, g, i, j, k, rfl⟩ := bound_ten h5; rfl
  unfold putZ
  rw [List.length_append, List.length_append, flat_len, flat_len, beZ_len, hn]
  omega
/-- Cut anywhere it is none. -/
theorem get_cut {n t : List Int} (h : rightZ n t = true) {k : Nat} (hk : k < (putZ n t).length) : getZ ((putZ n t).take k) = none := by
  have hl := put_len h
  unfold getZ
  by_cases h81 : k < 81
  · rw [if_pos (.inl (by rw [List.length_take]; omega))]
  · have hm : manyZ ((putZ n t).take k) = t.length := by
      have h2 : manyZ (putZ n t ++ []) = t.length := by
        obtain ⟨h1, h2, h3, h4, h5⟩ := right_in h
        have hn : n.length = 10 := by obtain ⟨a, b, c, d, e, f, g, i, j, k, rfl⟩ := bound_ten h5; rfl
        have hA : (n.flatMap fun x => beZ 8 x.toNat).length = 80 := by rw [flat_len, hn]
        have hb : beZ 1 t.length = [UInt8.ofNat t.length] := by simp [beZ]
        unfold manyZ putZ
        rw [List.append_nil, List.drop_left' hA, hb]
        show (UInt8.ofNat t.length).toNat = t.length
        rw [UInt8.toNat_ofNat']
        omega
      rw [List.append_nil] at h2
      unfold manyZ at h2 ⊢
      rw [List.drop_take, show k - 80 = (k - 81) + 1 by omega]
      rw [← h2]
      cases (putZ n t).drop 80 with
      | nil => rfl
      | cons a r => rfl
    rw [hm, if_pos (.inr (by rw [List.length_take]; omega))]
end Go.Proofs.YtcgkgdhbipbnfaaGreatDoor.Po

