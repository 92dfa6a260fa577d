/- Numbers in millionths: the number of digits, what a text means, what it is told as. No model in this text. What a text means: its sign, its digits, its exponent; texts put together of such parts. No model in this text. What is told is read as it was; a point that stands elsewhere; numbers too far. No model in this text. -/
import Derived.Lib.ItoaNum
import Derived.Lib.TrimByte
namespace Go.Proofs.YtcgkgdhbipbnfaaGreatDoor
open Go

def isDig (c : UInt8) : Bool := decide (48 ≤ c.toNat) && decide (c.toNat ≤ 57)
def AllDig (l : List UInt8) : Prop := ∀ c ∈ l, isDig c = true
def dig (l : List UInt8) : List UInt8 := l.takeWhile isDig
def rst (l : List UInt8) : List UInt8 := l.dropWhile isDig
def valFrom (n : Nat) (l : List UInt8) : Nat := l.foldl (fun n c => n * 10 + (c.toNat - 48)) n
def val (l : List UInt8) : Nat := valFrom 0 l

theorem dig_rst (l : List UInt8) : dig l ++ rst l = l := List.takeWhile_append_dropWhile
theorem dig_all (l : List UInt8) : AllDig (dig l) := fun c hc => by
  unfold dig at hc
  induction l with
  | nil => simp at hc
  | cons a l ih =>
    rw [List.takeWhile_cons] at hc
    by_cases h : isDig a = true
    · rw [if_pos h] at hc
      rcases List.mem_cons.1 hc with rfl | h2
      · exact h
      · exact ih h2
    · rw [if_neg h] at hc; simp at hc
theorem dig_len (l : List UInt8) : (dig l).length + (rst l).length = l.length := by
  rw [← List.length_append, dig_rst]
theorem rst_head {l : List UInt8} {c : UInt8} {t : List UInt8} (h : rst l = c :: t) : isDig c = false := by
  unfold rst at h
  induction l with
  | nil => simp at h
  | cons a l ih =>
    rw [List.dropWhile_cons] at h
    by_cases hc : isDig a = true
    · rw [if_pos hc] at h; exact ih h
    · rw [if_neg hc] at h
      cases h
      simpa using hc
theorem dig_app {a b : List UInt8} (ha : AllDig a) (hb : ∀ c t, b = c :: t → isDig c = false) : dig (a ++ b) = a ∧ rst (a ++ b) = b := by
  induction a with
  | nil =>
    cases b with
    | nil => exact ⟨rfl, rfl⟩
    | cons c t =>
      have := hb c t rfl
      simp [dig, rst, this]
  | cons x a ih =>
    have hx := ha x (by simp)
    obtain ⟨h1, h2⟩ := ih (fun c hc => ha c (by simp [hc]))
    unfold dig rst at *
    simp [hx, h1, h2]
theorem dig_full {a : List UInt8} (ha : AllDig a) : dig a = a ∧ rst a = [] := by
  have := dig_app (b := []) ha (fun c t h => by cases h)
  simpa using this
theorem AllDig.app {a b : List UInt8} (ha : AllDig a) (hb : AllDig b) : AllDig (a ++ b) := fun c hc => by
  rcases List.mem_append.1 hc with h | h
  · exact ha c h
  · exact hb c h
theorem AllDig.zeros (n : Nat) : AllDig (List.replicate n 48) := fun c hc => by
  rw [List.eq_of_mem_replicate hc]; decide

theorem valFrom_app (n : Nat) (a b : List UInt8) : valFrom n (a ++ b) = valFrom (valFrom n a) b := by simp [valFrom]
theorem valFrom_cons (n : Nat) (c : UInt8) (l : List UInt8) : valFrom n (c :: l) = valFrom (n * 10 + (c.toNat - 48)) l := by unfold valFrom; rw [List.foldl_cons]
theorem valFrom_eq (l : List UInt8) : ∀ n, valFrom n l = n * 10 ^ l.length + val l := by
  induction l with
  | nil => intro n; simp [valFrom, val]
  | cons c l ih =>
    intro n
    unfold val
    rw [valFrom_cons, valFrom_cons, ih, ih (0 * 10 + _), List.length_cons, Nat.pow_succ]
    rw [Nat.add_mul, Nat.mul_assoc, Nat.mul_comm 10, Nat.zero_mul, Nat.zero_add, Nat.add_assoc]
theorem val_app (a b : List UInt8) : val (a ++ b) = val a * 10 ^ b.length + val b := by
  unfold val
  rw [valFrom_app, valFrom_eq b]
  rfl
theorem val_cons (c : UInt8) (l : List UInt8) : val (c :: l) = (c.toNat - 48) * 10 ^ l.length + val l := by
  have := val_app [c] l
  simpa [val, valFrom] using this
theorem val_snoc (a : List UInt8) (c : UInt8) : val (a ++ [c]) = val a * 10 + (c.toNat - 48) := by
  rw [val_app]; simp [val, valFrom]
theorem val_zeros (n : Nat) : val (List.replicate n 48) = 0 := by
  induction n with
  | zero => rfl
  | succ n ih => rw [List.replicate_succ, val_cons, ih]; simp
theorem val_lt {l : List UInt8} (h : AllDig l) : val l < 10 ^ l.length := by
  induction l with
  | nil => exact Nat.one_pos
  | cons c l ih =>
    have h1 := ih (fun x hx => h x (by simp [hx]))
    have h2 := h c (by simp)
    simp only [isDig, Bool.and_eq_true, decide_eq_true_eq] at h2
    rw [val_cons, List.length_cons, Nat.pow_succ]
    have h3 : (c.toNat - 48) * 10 ^ l.length ≤ 9 * 10 ^ l.length := Nat.mul_le_mul_right _ (by omega)
    omega
theorem val_ge {c : UInt8} {l : List UInt8} (hc : isDig c = true) (h0 : c ≠ 48) : 10 ^ l.length ≤ val (c :: l) := by
  simp only [isDig, Bool.and_eq_true, decide_eq_true_eq] at hc
  have h1 : c.toNat ≠ 48 := fun h => h0 (UInt8.toNat_inj.1 (by rw [h]; rfl))
  rw [val_cons]
  have : 1 * 10 ^ l.length ≤ (c.toNat - 48) * 10 ^ l.length := Nat.mul_le_mul_right _ (by omega)
  omega

/-- Zeros ahead are taken off. -/
theorem trimL_spec (l : List UInt8) : ∃ k, l = List.replicate k 48 ++ Lib.trimLeftB l 48 ∧ (∀ c t, Lib.trimLeftB l 48 = c :: t → c ≠ 48) := by
  unfold Lib.trimLeftB
  induction l with
  | nil => exact ⟨0, rfl, fun c t h => by simp at h⟩
  | cons a l ih =>
    by_cases h : a = 48
    · subst h
      obtain ⟨k, h1, h2⟩ := ih
      refine ⟨k + 1, ?_, ?_⟩
      · rw [List.dropWhile_cons, if_pos (by simp), List.replicate_succ, List.cons_append, ← h1]
      · intro c t hc
        rw [List.dropWhile_cons, if_pos (by simp)] at hc
        exact h2 c t hc
    · refine ⟨0, ?_, ?_⟩
      · rw [List.dropWhile_cons, if_neg (by simpa using h)]; rfl
      · intro c t hc
        rw [List.dropWhile_cons, if_neg (by simpa using h)] at hc
        cases hc
        exact h
theorem trimR_spec (l : List UInt8) : ∃ k, l = Lib.trimRightB l 48 ++ List.replicate k 48 ∧ (∀ c t, Lib.trimRightB l 48 = t ++ [c] → c ≠ 48) := by
  obtain ⟨k, h1, h2⟩ := trimL_spec l.reverse
  refine ⟨k, ?_, ?_⟩
  · unfold Lib.trimRightB
    unfold Lib.trimLeftB at h1
    have := congrArg List.reverse h1
    rw [List.reverse_reverse, List.reverse_append, List.reverse_replicate] at this
    exact this
  · intro c t h
    unfold Lib.trimRightB at h
    have h3 := congrArg List.reverse h
    rw [List.reverse_reverse, List.reverse_append] at h3
    exact h2 c t.reverse h3
theorem trimL_all {l : List UInt8} (h : AllDig l) : AllDig (Lib.trimLeftB l 48) := fun c hc => by
  obtain ⟨k, h1, _⟩ := trimL_spec l
  exact h c (by rw [h1]; simp [hc])
theorem trimR_all {l : List UInt8} (h : AllDig l) : AllDig (Lib.trimRightB l 48) := fun c hc => by
  obtain ⟨k, h1, _⟩ := trimR_spec l
  exact h c (by rw [h1]; simp [hc])
theorem trimL_len (l : List UInt8) : (Lib.trimLeftB l 48).length ≤ l.length := by
  obtain ⟨k, h1, _⟩ := trimL_spec l
  have := congrArg List.length h1
  simp at this; omega
theorem trimR_len (l : List UInt8) : (Lib.trimRightB l 48).length ≤ l.length := by
  obtain ⟨k, h1, _⟩ := trimR_spec l
  have := congrArg List.length h1
  simp at this; omega
theorem trimL_val (l : List UInt8) : val (Lib.trimLeftB l 48) = val l := by
  obtain ⟨k, h1, _⟩ := trimL_spec l
  have := congrArg val h1
  rw [val_app, val_zeros, Nat.zero_mul, Nat.zero_add] at this
  exact this.symm
theorem trimR_val (l : List UInt8) : val (Lib.trimRightB l 48) * 10 ^ (l.length - (Lib.trimRightB l 48).length) = val l := by
  obtain ⟨k, h1, _⟩ := trimR_spec l
  have h2 := congrArg val h1
  have h3 := congrArg List.length h1
  rw [val_app, val_zeros, Nat.add_zero] at h2
  simp at h3
  rw [h2]
  simp
  congr 2
  omega
theorem trimL_nil {l : List UInt8} (h : AllDig l) : Lib.trimLeftB l 48 = [] ↔ val l = 0 := by
  constructor
  · intro h1
    rw [← trimL_val, h1]; rfl
  · intro h1
    obtain ⟨k, h2, h3⟩ := trimL_spec l
    cases hc : Lib.trimLeftB l 48 with
    | nil => rfl
    | cons c t =>
      have h4 := val_ge (l := t) (trimL_all h c (by simp [hc])) (h3 c t hc)
      rw [← hc, trimL_val, h1] at h4
      have : 0 < 10 ^ t.length := Nat.pow_pos (by decide)
      omega
theorem trimL_ge {l : List UInt8} (h : AllDig l) (h0 : Lib.trimLeftB l 48 ≠ []) : 10 ^ ((Lib.trimLeftB l 48).length - 1) ≤ val l := by
  obtain ⟨k, h2, h3⟩ := trimL_spec l
  cases hc : Lib.trimLeftB l 48 with
  | nil => exact absurd hc h0
  | cons c t =>
    have h4 := val_ge (l := t) (trimL_all h c (by simp [hc])) (h3 c t hc)
    rw [← hc, trimL_val] at h4
    simpa using h4
/-- A last digit that is no zero. -/
theorem val_mod {l : List UInt8} (h : AllDig l) (h0 : l ≠ []) (h1 : ∀ c t, l = t ++ [c] → c ≠ 48) : val l % 10 ≠ 0 := by
  obtain ⟨t, c, rfl⟩ : ∃ t c, l = t ++ [c] := ⟨l.dropLast, l.getLast h0, (List.dropLast_concat_getLast h0).symm⟩
  have h2 := h c (by simp)
  have h3 := h1 c t rfl
  simp only [isDig, Bool.and_eq_true, decide_eq_true_eq] at h2
  have h4 : c.toNat ≠ 48 := fun h => h3 (UInt8.toNat_inj.1 (by rw [h]; rfl))
  rw [val_snoc]
  omega

/-- The greatest distance from 0. -/
def most (b : Bool) : Nat := if b then 9223372036854775808 else 9223372036854775807
theorem most_lt (b : Bool) : most b < 10 ^ 19 := by cases b <;> decide
def sgn (b : Bool) (n : Nat) : Int := if b then -(n : Int) else n
/-- The number of that distance, or the error that it is too far. -/
def fitF (b : Bool) (n : Nat) : Int × Int := if n ≤ most b then (sgn b n, 0) else (0, 7)
/-- v with its point k places on: exactly, or not at all. -/
def shV (b : Bool) (v : Nat) (k : Int) : Int × Int :=
  if v = 0 then (0, 0)
  else if 0 ≤ k then fitF b (v * 10 ^ k.toNat)
  else if v % 10 ^ (-k).toNat = 0 then fitF b (v / 10 ^ (-k).toNat) else (0, 7)

/-- v is u with t zeros behind it, and u has none: by the program's own way. -/
theorem shV_kept {b : Bool} {u t : Nat} {k : Int} (hu : u % 10 ≠ 0) : shV b (u * 10 ^ t) k = if k + t < 0 then (0, 7) else fitF b (u * 10 ^ (k + t).toNat) := by
  have hp : 0 < 10 ^ t := Nat.pow_pos (by decide)
  have hu0 : 0 < u := by omega
  unfold shV
  rw [if_neg (by have := Nat.mul_pos hu0 hp; omega)]
  by_cases hk : 0 ≤ k
  · rw [if_pos hk, if_neg (by omega)]
    congr 1
    rw [Nat.mul_assoc, ← Nat.pow_add]
    congr 2
    omega
  · rw [if_neg hk]
    by_cases hs : k + t < 0
    · rw [if_pos hs, if_neg]
      intro h
      obtain ⟨j, hj⟩ : ∃ j, (-k).toNat = t + (j + 1) := ⟨(-k).toNat - t - 1, by omega⟩
      rw [hj, Nat.pow_add] at h
      obtain ⟨q, hq⟩ := Nat.dvd_of_mod_eq_zero h
      rw [Nat.mul_comm u, Nat.mul_assoc] at hq
      have h2 := Nat.eq_of_mul_eq_mul_left hp hq
      rw [Nat.pow_succ] at h2
      apply hu
      rw [h2, Nat.mul_comm _ 10, Nat.mul_assoc]
      exact Nat.mul_mod_right _ _
    · rw [if_neg hs]
      obtain ⟨j, hj⟩ : ∃ j, t = j + (-k).toNat := ⟨t - (-k).toNat, by omega⟩
      have e : u * 10 ^ t = (u * 10 ^ j) * 10 ^ (-k).toNat := by rw [hj, Nat.pow_add, Nat.mul_assoc]
      rw [e, if_pos (Nat.mul_mod_left _ _), Nat.mul_div_cancel _ (Nat.pow_pos (by decide))]
      congr 3
      omega
theorem fit_far {b : Bool} {n : Nat} (h : 10 ^ 19 ≤ n) : fitF b n = (0, 7) := by
  unfold fitF
  rw [if_neg (by have := most_lt b; omega)]
/-- The program's way from digits to a number. -/
def shP (b : Bool) (D : List UInt8) (k : Int) : Int × Int :=
  let L := Lib.trimLeftB D 48
  if L = [] then (0, 0)
  else
    let K := Lib.trimRightB L 48
    let s : Int := k + ((L.length : Int) - K.length)
    if s < 0 ∨ 19 < (K.length : Int) + s then (0, 7) else fitF b (val (K ++ List.replicate s.toNat 48))
theorem shP_eq {b : Bool} {D : List UInt8} {k : Int} (hD : AllDig D) : shP b D k = shV b (val D) k := by
  unfold shP
  simp only
  by_cases h0 : Lib.trimLeftB D 48 = []
  · rw [if_pos h0, (trimL_nil hD).1 h0]
    rfl
  · rw [if_neg h0]
    have hL := trimL_all hD
    have hK := trimR_all hL
    obtain ⟨j, h1, h2⟩ := trimR_spec (Lib.trimLeftB D 48)
    obtain ⟨i, h5, h6⟩ := trimL_spec D
    have hv := trimL_val D
    generalize hLe : Lib.trimLeftB D 48 = L at *
    generalize hKe : Lib.trimRightB L 48 = K at *
    have hne : K ≠ [] := by
      intro hn
      subst hn
      cases hj : L with
      | nil => exact h0 hj
      | cons c t =>
        have h7 := h6 c t hj
        rw [h1] at hj
        have : c ∈ ([] ++ List.replicate j (48 : UInt8)) := by rw [hj]; simp
        simp at this
        exact h7 this.2
    have hlen : L.length = K.length + j := by rw [h1]; simp
    have hvm := val_mod hK hne h2
    have hvv : val D = val K * 10 ^ j := by rw [← hv, h1, val_app, val_zeros]; simp
    rw [hvv, shV_kept hvm]
    have e : k + ((L.length : Int) - K.length) = k + (j : Int) := by omega
    rw [e]
    by_cases hs : k + (j : Int) < 0
    · rw [if_pos (Or.inl hs), if_pos hs]
    · rw [if_neg hs]
      by_cases hb : 19 < (K.length : Int) + (k + j)
      · rw [if_pos (Or.inr hb), fit_far]
        cases hKc : K with
        | nil => exact absurd hKc hne
        | cons c t =>
          have hc : c ≠ 48 := by
            refine h6 c (t ++ List.replicate j 48) ?_
            rw [h1, hKc]; rfl
          have hg := val_ge (l := t) (hK c (by simp [hKc])) hc
          have hb' : 19 < ((c :: t).length : Int) + (k + j) := by rw [← hKc]; exact hb
          simp only [List.length_cons] at hb'
          have h19 : 10 ^ 19 ≤ 10 ^ (t.length + (k + (j : Int)).toNat) := Nat.pow_le_pow_right (by decide) (by omega)
          rw [Nat.pow_add] at h19
          exact Nat.le_trans h19 (Nat.mul_le_mul_right _ hg)
      · rw [if_neg (by omega), val_app, val_zeros, List.length_replicate, Nat.add_zero]
end Go.Proofs.YtcgkgdhbipbnfaaGreatDoor

namespace Go.Proofs.YtcgkgdhbipbnfaaGreatDoor
open Go

/-- One byte of these, if it is next. -/
def tkB (bs : List UInt8) : List UInt8 → Bool
  | [] => false
  | c :: _ => bs.contains c
def tkR (bs : List UInt8) : List UInt8 → List UInt8
  | [] => []
  | c :: t => if bs.contains c then t else c :: t
def sgB (bs : List UInt8) : List UInt8 → Bool
  | [] => false
  | c :: _ => bs.contains c && c == 45
/-- The digits ahead of the point, those behind it, and what is left. -/
def decF (l : List UInt8) : Option (List UInt8 × List UInt8 × List UInt8) :=
  if tkB [46] (rst l) = true then
    if dig (tkR [46] (rst l)) = [] then none else some (dig l, dig (tkR [46] (rst l)), rst (tkR [46] (rst l)))
  else if dig l = [] then none else some (dig l, [], rst l)
/-- The exponent and what is left. -/
def expF (l : List UInt8) : Option (Int × List UInt8) :=
  if tkB [101, 69] l = true then
    let b := sgB [43, 45] (tkR [101, 69] l)
    let m := tkR [43, 45] (tkR [101, 69] l)
    if (dig m).length < 1 ∨ 4 < (dig m).length then none else some (sgn b (val (dig m)), rst m)
  else some (0, l)
def readF (l : List UInt8) : Int × Int :=
  if 64 < l.length then (0, 2)
  else match decF (tkR [43, 45] l) with
    | none => (0, 2)
    | some (w, p, m) => match expF m with
      | none => (0, 2)
      | some (x, m') => if m' = [] then shV (sgB [43, 45] l) (val (w ++ p)) (x + 6 - p.length) else (0, 2)
def wholeF (l : List UInt8) : Int × Int :=
  if (dig (tkR [45] l)).length < 1 ∨ 19 < (dig (tkR [45] l)).length then (0, 2)
  else if rst (tkR [45] l) = [] then fitF (sgB [45] l) (val (dig (tkR [45] l))) else (0, 2)

theorem tkR_len (bs l : List UInt8) : (tkR bs l).length ≤ l.length := by
  cases l with
  | nil => exact Nat.le_refl _
  | cons c t =>
    unfold tkR
    by_cases h : bs.contains c = true
    · simp only [h]; simp
    · simp only [h]; simp
theorem rst_len (l : List UInt8) : (rst l).length ≤ l.length := by have := dig_len l; omega

/-- A text begins with no digit. -/
def NoDig (l : List UInt8) : Prop := ∀ c t, l = c :: t → isDig c = false
theorem NoDig.nil : NoDig [] := fun _ _ h => by cases h
theorem NoDig.cons {c : UInt8} {t : List UInt8} (h : isDig c = false) : NoDig (c :: t) := fun _ _ e => by cases e; exact h
/-- A sign's text: none, a plus, a minus. -/
def SgT (s : List UInt8) (b : Bool) : Prop := (s = [] ∧ b = false) ∨ (s = [43] ∧ b = false) ∨ (s = [45] ∧ b = true)
theorem SgT.none : SgT [] false := .inl ⟨rfl, rfl⟩
theorem SgT.plus : SgT [43] false := .inr (.inl ⟨rfl, rfl⟩)
theorem SgT.minus : SgT [45] true := .inr (.inr ⟨rfl, rfl⟩)
/-- A text begins with no sign. -/
def NoSg (l : List UInt8) : Prop := ∀ c t, l = c :: t → c ≠ 43 ∧ c ≠ 45
theorem NoSg.dig {l m : List UInt8} (h : AllDig l) (hn : l ≠ []) : NoSg (l ++ m) := fun c t e => by
  cases l with
  | nil => exact absurd rfl hn
  | cons a l =>
    cases e
    have h1 := h c (by simp)
    constructor <;> intro h2 <;> subst h2 <;> exact absurd h1 (by decide)
theorem NoSg.cons {c : UInt8} {t : List UInt8} (h : c ≠ 43 ∧ c ≠ 45) : NoSg (c :: t) := fun _ _ e => by cases e; exact h
theorem sg_app {s : List UInt8} {b : Bool} (hs : SgT s b) {l : List UInt8} (hl : NoSg l) : sgB [43, 45] (s ++ l) = b ∧ tkR [43, 45] (s ++ l) = l := by
  rcases hs with ⟨rfl, rfl⟩ | ⟨rfl, rfl⟩ | ⟨rfl, rfl⟩
  · cases l with
    | nil => exact ⟨rfl, rfl⟩
    | cons c t =>
      obtain ⟨h1, h2⟩ := hl c t rfl
      have e : ([43, 45] : List UInt8).contains c = false := by simp [h1, h2]
      simp only [List.nil_append, sgB, tkR, e]
      simp
  · exact ⟨rfl, rfl⟩
  · exact ⟨rfl, rfl⟩
theorem sg1_app {s : List UInt8} {b : Bool} (hs : s = [] ∧ b = false ∨ s = [45] ∧ b = true) {l : List UInt8} (hl : NoSg l) : sgB [45] (s ++ l) = b ∧ tkR [45] (s ++ l) = l := by
  rcases hs with ⟨rfl, rfl⟩ | ⟨rfl, rfl⟩
  · cases l with
    | nil => exact ⟨rfl, rfl⟩
    | cons c t =>
      obtain ⟨h1, h2⟩ := hl c t rfl
      have e : ([45] : List UInt8).contains c = false := by simp [h2]
      simp only [List.nil_append, sgB, tkR, e]
      simp
  · exact ⟨rfl, rfl⟩
/-- An exponent's text. -/
def ExT (x : List UInt8) (e : Int) : Prop := (x = [] ∧ e = 0) ∨ ∃ c s b d, x = c :: (s ++ d) ∧ (c = 101 ∨ c = 69) ∧ SgT s b ∧ AllDig d ∧ 1 ≤ d.length ∧ d.length ≤ 4 ∧ e = sgn b (val d)
theorem ExT.none : ExT [] 0 := .inl ⟨rfl, rfl⟩
theorem ExT.some {c : UInt8} {s : List UInt8} {b : Bool} {d : List UInt8} (hc : c = 101 ∨ c = 69) (hs : SgT s b) (hd : AllDig d) (h1 : 1 ≤ d.length) (h4 : d.length ≤ 4) : ExT (c :: (s ++ d)) (sgn b (val d)) :=
  .inr ⟨c, s, b, d, rfl, hc, hs, hd, h1, h4, rfl⟩
theorem ExT.noDig {x : List UInt8} {e : Int} (h : ExT x e) : NoDig x := by
  rcases h with ⟨rfl, _⟩ | ⟨c, s, b, d, rfl, hc, _⟩
  · exact NoDig.nil
  · refine NoDig.cons ?_
    rcases hc with rfl | rfl <;> decide
theorem ExT.noPt {x : List UInt8} {e : Int} (h : ExT x e) : tkB [46] x = false := by
  rcases h with ⟨rfl, _⟩ | ⟨c, s, b, d, rfl, hc, _⟩
  · rfl
  · rcases hc with rfl | rfl <;> simp [tkB]
theorem exp_of {x : List UInt8} {e : Int} (h : ExT x e) : expF x = some (e, []) := by
  rcases h with ⟨rfl, rfl⟩ | ⟨c, s, b, d, rfl, hc, hs, hd, h1, h4, rfl⟩
  · rfl
  · have e1 : tkB [101, 69] (c :: (s ++ d)) = true := by rcases hc with rfl | rfl <;> simp [tkB]
    have e2 : tkR [101, 69] (c :: (s ++ d)) = s ++ d := by rcases hc with rfl | rfl <;> simp [tkR]
    have hne : d ≠ [] := by intro h; subst h; simp at h1
    have h5 := sg_app hs (l := d) (by have := NoSg.dig (m := []) hd hne; simpa using this)
    obtain ⟨h6, h7⟩ := dig_full hd
    unfold expF
    rw [if_pos e1, e2]
    simp only [h5.1, h5.2, h6, h7]
    rw [if_neg (by omega)]
/-- THE MEANING OF A TEXT PUT TOGETHER: a sign, digits, perhaps a point and digits, perhaps an exponent. -/
theorem read_int {s W x : List UInt8} {b : Bool} {e : Int} (hs : SgT s b) (hW : AllDig W) (hn : W ≠ []) (hx : ExT x e) (hl : (s ++ (W ++ x)).length ≤ 64) :
    readF (s ++ (W ++ x)) = shV b (val W) (e + 6) := by
  unfold readF
  rw [if_neg (by omega)]
  obtain ⟨h1, h2⟩ := sg_app hs (l := W ++ x) (NoSg.dig hW hn)
  obtain ⟨h3, h4⟩ := dig_app hW hx.noDig
  have h5 : decF (W ++ x) = some (W, [], x) := by
    unfold decF
    rw [h3, h4, hx.noPt, if_neg (by decide), if_neg hn]
  rw [h1, h2, h5]
  simp only [exp_of hx]
  simp
theorem read_pt {s W P x : List UInt8} {b : Bool} {e : Int} (hs : SgT s b) (hW : AllDig W) (hP : AllDig P) (hn : P ≠ []) (hx : ExT x e) (hl : (s ++ (W ++ 46 :: (P ++ x))).length ≤ 64) :
    readF (s ++ (W ++ 46 :: (P ++ x))) = shV b (val (W ++ P)) (e + 6 - P.length) := by
  unfold readF
  rw [if_neg (by omega)]
  have hg : NoSg (W ++ 46 :: (P ++ x)) := by
    cases W with
    | nil => exact NoSg.cons (by decide)
    | cons a W => exact NoSg.dig hW (by simp)
  obtain ⟨h1, h2⟩ := sg_app hs hg
  obtain ⟨h3, h4⟩ := dig_app (b := 46 :: (P ++ x)) hW (NoDig.cons (by decide))
  obtain ⟨h6, h7⟩ := dig_app hP hx.noDig
  have h8 : tkR [46] (46 :: (P ++ x)) = P ++ x := by simp [tkR]
  have h9 : tkB [46] (46 :: (P ++ x)) = true := by simp [tkB]
  have h5 : decF (W ++ 46 :: (P ++ x)) = some (W, P, x) := by
    unfold decF
    rw [h3, h4, h9, if_pos rfl, h8, h6, h7, if_neg hn]
  rw [h1, h2, h5]
  simp only [exp_of hx]
  simp
theorem whole_of {s W : List UInt8} {b : Bool} (hs : s = [] ∧ b = false ∨ s = [45] ∧ b = true) (hW : AllDig W) (h1 : 1 ≤ W.length) (h2 : W.length ≤ 19) : wholeF (s ++ W) = fitF b (val W) := by
  have hne : W ≠ [] := by intro h; subst h; simp at h1
  obtain ⟨h3, h4⟩ := sg1_app hs (l := W) (by have := NoSg.dig (m := []) hW hne; simpa using this)
  obtain ⟨h6, h7⟩ := dig_full hW
  unfold wholeF
  rw [h3, h4, h6, h7, if_neg (by omega), if_pos rfl]

/-! The digits of a number. -/
theorem dig48 (n : Nat) (h : n < 10) : (UInt8.ofNat (48 + n)).toNat = 48 + n := by
  rw [UInt8.toNat_ofNat']; omega
theorem isDig48 (n : Nat) (h : n < 10) : isDig (UInt8.ofNat (48 + n)) = true := by
  unfold isDig; rw [dig48 n h]; simp; omega
theorem dec_all (m : Nat) : AllDig (Lib.decDigits m) := by
  induction m using Nat.strongRecOn with
  | _ m ih =>
    rw [Lib.decDigits]
    by_cases h : m < 10
    · rw [dif_pos h]
      intro c hc
      rw [List.mem_singleton.1 hc]
      exact isDig48 m h
    · rw [dif_neg h]
      refine (ih (m / 10) (by omega)).app fun c hc => ?_
      rw [List.mem_singleton.1 hc]
      exact isDig48 _ (by omega)
theorem dec_val (m : Nat) : val (Lib.decDigits m) = m := by
  induction m using Nat.strongRecOn with
  | _ m ih =>
    rw [Lib.decDigits]
    by_cases h : m < 10
    · rw [dif_pos h, val_cons, dig48 m h]
      simp [val, valFrom]
    · rw [dif_neg h, val_snoc, ih (m / 10) (by omega), dig48 _ (by omega)]
      omega
theorem dec_len (m : Nat) : 1 ≤ (Lib.decDigits m).length := by rw [Lib.decDigits_length]; exact Lib.nDigits_pos m
theorem nDigits_le : ∀ (k m : Nat), m < 10 ^ (k + 1) → Lib.nDigits m ≤ k + 1
  | 0, m, h => by rw [Lib.nDigits_small (by simpa using h)]; omega
  | k + 1, m, h => by
    by_cases h1 : m < 10
    · rw [Lib.nDigits_small h1]; omega
    · rw [Lib.nDigits_big h1]
      rw [Nat.pow_succ] at h
      have := nDigits_le k (m / 10) (by omega)
      omega
theorem dec_le {k m : Nat} (h : m < 10 ^ (k + 1)) : (Lib.decDigits m).length ≤ k + 1 := by rw [Lib.decDigits_length]; exact nDigits_le k m h
theorem dec_ne (m : Nat) : Lib.decDigits m ≠ [] := by intro h; have := dec_len m; rw [h] at this; simp at this
theorem dec_20 {m : Nat} (h : m < 18446744073709551616) : (Lib.decDigits m).length ≤ 20 := dec_le (k := 19) (by omega)
theorem dec_19 {m : Nat} (h : m ≤ 9223372036854775808) : (Lib.decDigits m).length ≤ 19 := dec_le (k := 18) (by omega)
/-- The last k digits of a number, zeros ahead among them. -/
def pad : Nat → Nat → List UInt8
  | 0, _ => []
  | k + 1, r => pad k (r / 10) ++ [UInt8.ofNat (48 + r % 10)]
theorem pad_len : ∀ k r, (pad k r).length = k
  | 0, _ => rfl
  | k + 1, r => by rw [pad, List.length_append, pad_len k]; rfl
theorem pad_all : ∀ k r, AllDig (pad k r)
  | 0, _ => fun c hc => by cases hc
  | k + 1, r => by
    rw [pad]
    refine (pad_all k _).app fun c hc => ?_
    rw [List.mem_singleton.1 hc]
    exact isDig48 _ (by omega)
theorem pad_val : ∀ k r, r < 10 ^ k → val (pad k r) = r
  | 0, r, h => by simp at h; subst h; rfl
  | k + 1, r, h => by
    rw [Nat.pow_succ] at h
    rw [pad, val_snoc, pad_val k (r / 10) (by omega), dig48 _ (by omega)]
    omega
theorem dec_pad : ∀ k r, r < 10 ^ k → Lib.decDigits (10 ^ k + r) = 49 :: pad k r
  | 0, r, h => by
    simp at h; subst h
    rw [Lib.decDigits_one (by decide)]
    rfl
  | k + 1, r, h => by
    rw [Nat.pow_succ] at h ⊢
    have h1 : ¬ (10 ^ k * 10 + r < 10) := by have : 1 ≤ 10 ^ k := Nat.one_le_pow _ _ (by decide); omega
    rw [Lib.decDigits, dif_neg h1, show (10 ^ k * 10 + r) / 10 = 10 ^ k + r / 10 by omega, dec_pad k (r / 10) (by omega), pad, show (10 ^ k * 10 + r) % 10 = r % 10 by omega]
    rfl
/-- What a number of millionths is told as. -/
def tailF (r : Nat) : List UInt8 := if Lib.trimRightB (pad 6 r) 48 = [] then [] else 46 :: Lib.trimRightB (pad 6 r) 48
def farF (n : Int) : Nat := n.natAbs
def textF (n : Int) : List UInt8 := (if n < 0 then [45] else []) ++ (Lib.decDigits (farF n / 1000000) ++ tailF (farF n % 1000000))
end Go.Proofs.YtcgkgdhbipbnfaaGreatDoor

namespace Go.Proofs.YtcgkgdhbipbnfaaGreatDoor
open Go

theorem shV_ten {b : Bool} {u : Nat} {k : Int} (h0 : u ≠ 0) : shV b (u * 10) k = shV b u (k + 1) := by
  unfold shV
  rw [if_neg (by omega), if_neg h0]
  by_cases hk : 0 ≤ k
  · rw [if_pos hk, if_pos (by omega), show (k + 1).toNat = k.toNat + 1 by omega, Nat.pow_succ, Nat.mul_comm (10 ^ k.toNat), Nat.mul_assoc]
  · rw [if_neg hk]
    obtain ⟨j, hj⟩ : ∃ j, (-k).toNat = j + 1 := ⟨(-k).toNat - 1, by omega⟩
    have hm : u * 10 % 10 ^ (j + 1) = (u % 10 ^ j) * 10 := by rw [Nat.pow_succ, Nat.mul_mod_mul_right]
    have hd : u * 10 / 10 ^ (j + 1) = u / 10 ^ j := by rw [Nat.pow_succ, Nat.mul_div_mul_right _ _ (by decide)]
    rw [hj, hm, hd]
    by_cases h1 : k = -1
    · obtain rfl : j = 0 := by omega
      have h3 : (k + 1).toNat = 0 := by omega
      rw [if_pos (show 0 ≤ k + 1 by omega), h3, Nat.pow_zero, Nat.mod_one, if_pos rfl, Nat.div_one, Nat.mul_one]
    · have h3 : (-(k + 1)).toNat = j := by omega
      rw [if_neg (show ¬ 0 ≤ k + 1 by omega), h3]
      by_cases h2 : u % 10 ^ j = 0
      · rw [if_pos (by omega), if_pos h2]
      · rw [if_neg (by omega), if_neg h2]
theorem shV_odd {b : Bool} {u : Nat} {k : Int} (h : u % 10 ≠ 0) (hk : k < 0) : shV b u k = (0, 7) := by
  have := shV_kept (b := b) (t := 0) (k := k) h
  rw [Nat.pow_zero, Nat.mul_one, if_pos (by omega)] at this
  exact this
theorem shV_zero (b : Bool) (u : Nat) : shV b u 0 = fitF b u := by
  unfold shV
  by_cases h : u = 0
  · subst h
    unfold fitF
    rw [if_pos (Nat.zero_le _), if_pos rfl]
    cases b <;> rfl
  · rw [if_neg h, if_pos (Int.le_refl 0)]; simp
theorem shV_pow {b : Bool} {u : Nat} (j : Nat) {k : Int} (h0 : u ≠ 0) : shV b (u * 10 ^ j) k = shV b u (k + j) := by
  induction j generalizing k with
  | zero => simp
  | succ j ih =>
    have : u * 10 ^ j ≠ 0 := by have := Nat.mul_pos (Nat.pos_of_ne_zero h0) (Nat.pow_pos (n := j) (show 0 < 10 by decide)); omega
    rw [Nat.pow_succ, ← Nat.mul_assoc, shV_ten this, ih]
    congr 1
    omega
theorem shV_far {b : Bool} {u : Nat} {k : Int} (h : 10 ^ 19 ≤ u) (hk : 0 ≤ k) : shV b u k = (0, 7) := by
  unfold shV
  rw [if_neg (by omega), if_pos hk, fit_far]
  exact Nat.le_trans h (Nat.le_mul_of_pos_right _ (Nat.pow_pos (by decide)))

/-- A number told: its digits behind zeros, what stands behind the point. -/
theorem tail_all (r : Nat) : AllDig (Lib.trimRightB (pad 6 r) 48) := trimR_all (pad_all 6 r)
theorem tail_zero : tailF 0 = [] := by decide
theorem tail_ne {r : Nat} (h0 : r ≠ 0) (h : r < 1000000) : Lib.trimRightB (pad 6 r) 48 ≠ [] := by
  intro hn
  have h1 := trimR_val (pad 6 r)
  rw [hn, pad_val 6 r (by omega)] at h1
  simp [val, valFrom] at h1
  exact h0 h1.symm
theorem tail_len (r : Nat) : (tailF r).length ≤ 7 := by
  unfold tailF
  have := trimR_len (pad 6 r)
  rw [pad_len] at this
  split <;> simp <;> omega
theorem read_told {s x : List UInt8} {b : Bool} (hs : SgT s b) (hx : ExT x 0) (z a r : Nat) (hr : r < 1000000) (hl : (s ++ (List.replicate z 48 ++ Lib.decDigits a ++ tailF r ++ x)).length ≤ 64) :
    readF (s ++ (List.replicate z 48 ++ Lib.decDigits a ++ tailF r ++ x)) = fitF b (a * 1000000 + r) := by
  have hW : AllDig (List.replicate z 48 ++ Lib.decDigits a) := (AllDig.zeros z).app (dec_all a)
  have hWn : List.replicate z 48 ++ Lib.decDigits a ≠ [] := by
    intro h
    exact dec_ne a (List.append_eq_nil_iff.1 h).2
  have hWv : val (List.replicate z 48 ++ Lib.decDigits a) = a := by rw [val_app, val_zeros, dec_val]; simp
  by_cases h0 : r = 0
  · subst h0
    rw [tail_zero, List.append_nil] at hl ⊢
    rw [read_int hs hW hWn hx hl, hWv]
    by_cases ha : a = 0
    · subst ha
      simp [shV, fitF, sgn]
    · rw [show ((0 : Int) + 6) = 0 + ((6 : Nat) : Int) by omega, ← shV_pow 6 ha, shV_zero, Nat.add_zero]
  · have hne := tail_ne h0 hr
    have ht : tailF r = 46 :: Lib.trimRightB (pad 6 r) 48 := by unfold tailF; rw [if_neg hne]
    have hpl : (Lib.trimRightB (pad 6 r) 48).length ≤ 6 := by have := trimR_len (pad 6 r); rw [pad_len] at this; exact this
    have hv := trimR_val (pad 6 r)
    rw [pad_val 6 r (by omega), pad_len] at hv
    have hP := tail_all r
    rw [ht] at hl ⊢
    generalize Lib.trimRightB (pad 6 r) 48 = P at *
    have e : List.replicate z 48 ++ Lib.decDigits a ++ 46 :: P ++ x = (List.replicate z 48 ++ Lib.decDigits a) ++ 46 :: (P ++ x) := by simp
    rw [e] at hl ⊢
    rw [read_pt hs hW hP hne hx hl, val_app, hWv]
    obtain ⟨j, hj⟩ : ∃ j, 6 = P.length + j := ⟨6 - P.length, by omega⟩
    have hj' : 6 - P.length = j := by omega
    rw [hj'] at hv
    have hu : a * 10 ^ P.length + val P ≠ 0 := by
      intro h
      have : val P = 0 := by omega
      rw [this, Nat.zero_mul] at hv
      exact h0 hv.symm
    rw [show ((0 : Int) + 6 - P.length) = 0 + ((j : Nat) : Int) by omega, ← shV_pow j hu, shV_zero, Nat.add_mul, hv, Nat.mul_assoc, ← Nat.pow_add, ← hj]
theorem fit_of {b : Bool} {n : Nat} (h : n ≤ most b) : fitF b n = (sgn b n, 0) := by unfold fitF; rw [if_pos h]

def In64 (n : Int) : Prop := -9223372036854775808 ≤ n ∧ n ≤ 9223372036854775807
def negB (n : Int) : Bool := decide (n < 0)
def sgL (n : Int) : List UInt8 := if n < 0 then [45] else []
theorem sgn_far (n : Int) : sgn (negB n) (farF n) = n := by
  unfold sgn negB farF
  by_cases h : n < 0
  · rw [if_pos (by simpa using h)]; omega
  · rw [if_neg (by simpa using h)]; omega
theorem far_fit {n : Int} (h : In64 n) : farF n ≤ most (negB n) := by
  obtain ⟨h1, h2⟩ := h
  unfold farF negB most
  by_cases hn : n < 0
  · rw [if_pos (by simpa using hn)]; omega
  · rw [if_neg (by simpa using hn)]; omega
theorem far_le {n : Int} (h : In64 n) : farF n ≤ 9223372036854775808 := by obtain ⟨h1, h2⟩ := h; unfold farF; omega
theorem sgL_t (n : Int) : SgT (sgL n) (negB n) := by
  unfold sgL negB
  by_cases hn : n < 0
  · rw [if_pos hn, decide_eq_true hn]; exact .minus
  · rw [if_neg hn, decide_eq_false hn]; exact .none
theorem sgL_1 (n : Int) : sgL n = [] ∧ negB n = false ∨ sgL n = [45] ∧ negB n = true := by
  unfold sgL negB
  by_cases hn : n < 0
  · rw [if_pos hn, decide_eq_true hn]; exact .inr ⟨rfl, rfl⟩
  · rw [if_neg hn, decide_eq_false hn]; exact .inl ⟨rfl, rfl⟩
/-- What stands behind the sign. -/
def bodyF (n : Int) : List UInt8 := Lib.decDigits (farF n / 1000000) ++ tailF (farF n % 1000000)
theorem text_body (n : Int) : textF n = sgL n ++ bodyF n := rfl
theorem body_len {n : Int} (h : In64 n) : (bodyF n).length ≤ 20 ∧ 1 ≤ (bodyF n).length := by
  have h1 := far_le h
  have h2 : (Lib.decDigits (farF n / 1000000)).length ≤ 13 := dec_le (k := 12) (by omega)
  have h3 := tail_len (farF n % 1000000)
  have h4 := dec_len (farF n / 1000000)
  unfold bodyF
  rw [List.length_append]
  omega
theorem sgL_len (n : Int) : (sgL n).length ≤ 1 := by unfold sgL; split <;> simp
theorem text_len {n : Int} (h : In64 n) : (textF n).length ≤ 21 ∧ 1 ≤ (textF n).length := by
  have := body_len h
  have := sgL_len n
  rw [text_body, List.length_append]
  omega
theorem div_far (n : Int) : farF n / 1000000 * 1000000 + farF n % 1000000 = farF n := by omega
theorem read_body {n : Int} (_h : In64 n) {s x : List UInt8} {b : Bool} (hs : SgT s b) (hx : ExT x 0) (z : Nat) (hl : (s ++ (List.replicate z 48 ++ bodyF n ++ x)).length ≤ 64) : readF (s ++ (List.replicate z 48 ++ bodyF n ++ x)) = fitF b (farF n) := by
  have := read_told hs hx z (farF n / 1000000) (farF n % 1000000) (by omega) (by unfold bodyF at hl; simpa [List.append_assoc] using hl)
  rw [div_far] at this
  rw [← this]
  unfold bodyF
  simp [List.append_assoc]
theorem read_text {n : Int} (h : In64 n) : readF (textF n) = (n, 0) := by
  have h1 := text_len h
  have := read_body h (sgL_t n) ExT.none 0 (by rw [text_body] at h1; simpa using Nat.le_trans h1.1 (by decide))
  simp only [List.replicate_zero, List.nil_append, List.append_nil] at this
  rw [text_body, this, fit_of (far_fit h), sgn_far]
theorem text_inj {a b : Int} (ha : In64 a) (hb : In64 b) (h : textF a = textF b) : a = b := by
  have h1 := read_text ha
  rw [h, read_text hb] at h1
  exact (Prod.mk.inj h1).1.symm
/-- The same digits with no exponent, and no point, are a whole number; else none. -/
theorem whole_body {n : Int} {s : List UInt8} {b : Bool} (hs : s = [] ∧ b = false ∨ s = [45] ∧ b = true) (z : Nat) :
    wholeF (s ++ (List.replicate z 48 ++ bodyF n)) = if farF n % 1000000 = 0 ∧ (List.replicate z 48 ++ bodyF n).length ≤ 19 then fitF b (farF n / 1000000) else (0, 2) := by
  have hW : AllDig (List.replicate z 48 ++ Lib.decDigits (farF n / 1000000)) := (AllDig.zeros z).app (dec_all _)
  have hWn : 1 ≤ (List.replicate z 48 ++ Lib.decDigits (farF n / 1000000)).length := by
    have := dec_len (farF n / 1000000)
    rw [List.length_append]; omega
  have hWv : val (List.replicate z 48 ++ Lib.decDigits (farF n / 1000000)) = farF n / 1000000 := by rw [val_app, val_zeros, dec_val]; simp
  have hne : List.replicate z 48 ++ Lib.decDigits (farF n / 1000000) ≠ [] := by intro h; rw [h] at hWn; simp at hWn
  by_cases h0 : farF n % 1000000 = 0
  · have e : List.replicate z 48 ++ bodyF n = List.replicate z 48 ++ Lib.decDigits (farF n / 1000000) := by unfold bodyF; rw [h0, tail_zero, List.append_nil]
    rw [e]
    by_cases hl : (List.replicate z 48 ++ Lib.decDigits (farF n / 1000000)).length ≤ 19
    · rw [if_pos ⟨h0, hl⟩, whole_of hs hW hWn hl, hWv]
    · rw [if_neg (fun h => hl h.2)]
      obtain ⟨h3, h4⟩ := sg1_app hs (l := List.replicate z 48 ++ Lib.decDigits (farF n / 1000000)) (by have := NoSg.dig (m := []) hW hne; simpa using this)
      obtain ⟨h6, h7⟩ := dig_full hW
      unfold wholeF
      rw [h4, h6, if_pos (by omega)]
  · rw [if_neg (fun h => h0 h.1)]
    have ht : tailF (farF n % 1000000) = 46 :: Lib.trimRightB (pad 6 (farF n % 1000000)) 48 := by unfold tailF; rw [if_neg (tail_ne h0 (by omega))]
    have e : List.replicate z 48 ++ bodyF n = (List.replicate z 48 ++ Lib.decDigits (farF n / 1000000)) ++ 46 :: Lib.trimRightB (pad 6 (farF n % 1000000)) 48 := by unfold bodyF; rw [ht]; simp
    rw [e]
    obtain ⟨h3, h4⟩ := sg1_app hs (NoSg.dig (m := 46 :: Lib.trimRightB (pad 6 (farF n % 1000000)) 48) hW hne)
    obtain ⟨h6, h7⟩ := dig_app (b := 46 :: Lib.trimRightB (pad 6 (farF n % 1000000)) 48) hW (NoDig.cons (by decide))
    unfold wholeF
    rw [h4, h6, h7]
    simp
end Go.Proofs.YtcgkgdhbipbnfaaGreatDoor

