/- Numbers in millionths: the number of digits, what a text means, what it is told as. No model in this text. -/
import Derived.Lib.ItoaNum
import Derived.Lib.TrimByte
namespace Go.Proofs.YtmlgcjfcbokibaaDoor
open Go

def isDig (c : UInt8) : Bool := decide (48 ≤ c.toNat) && decide (c.toNat ≤ 57)
def AllDig (l : List UInt8) : Prop := ∀ c ∈ l, isDig c = true
def dig (l : List UInt8) : List UInt8 := l.takeWhile isDig
def rst (l : List UInt8) : List UInt8 := l.dropWhile isDig
def valFrom (n : Nat) (l : List UInt8) : Nat := l.foldl (fun n c => n * 10 + (c.toNat - 48)) n
def val (l : List UInt8) : Nat := valFrom 0 l

theorem dig_rst (l : List UInt8) : dig l ++ rst l = l := List.takeWhile_append_dropWhile
theorem dig_all (l : List UInt8) : AllDig (dig l) := fun c hc => by
  unfold dig at hc
  induction l with
  | nil => simp at hc
  | cons a l ih =>
    rw [List.takeWhile_cons] at hc
    by_cases h : isDig a = true
    · rw [if_pos h] at hc
      rcases List.mem_cons.1 hc with rfl | h2
      · exact h
      · exact ih h2
    · rw [if_neg h] at hc; simp at hc
theorem dig_len (l : List UInt8) : (dig l).length + (rst l).length = l.length := by
  rw [← List.length_append, dig_rst]
theorem rst_head {l : List UInt8} {c : UInt8} {t : List UInt8} (h : rst l = c :: t) : isDig c = false := by
  unfold rst at h
  induction l with
  | nil => simp at h
  | cons a l ih =>
    rw [List.dropWhile_cons] at h
    by_cases hc : isDig a = true
    · rw [if_pos hc] at h; exact ih h
    · rw [if_neg hc] at h
      cases h
      simpa using hc
theorem dig_app {a b : List UInt8} (ha : AllDig a) (hb : ∀ c t, b = c :: t → isDig c = false) : dig (a ++ b) = a ∧ rst (a ++ b) = b := by
  induction a with
  | nil =>
    cases b with
    | nil => exact ⟨rfl, rfl⟩
    | cons c t =>
      have := hb c t rfl
      simp [dig, rst, this]
  | cons x a ih =>
    have hx := ha x (by simp)
    obtain ⟨h1, h2⟩ := ih (fun c hc => ha c (by simp [hc]))
    unfold dig rst at *
    simp [hx, h1, h2]
theorem dig_full {a : List UInt8} (ha : AllDig a) : dig a = a ∧ rst a = [] := by
  have := dig_app (b := []) ha (fun c t h => by cases h)
  simpa using this
theorem AllDig.app {a b : List UInt8} (ha : AllDig a) (hb : AllDig b) : AllDig (a ++ b) := fun c hc => by
  rcases List.mem_append.1 hc with h | h
  · exact ha c h
  · exact hb c h
theorem AllDig.zeros (n : Nat) : AllDig (List.replicate n 48) := fun c hc => by
  rw [List.eq_of_mem_replicate hc]; decide

theorem valFrom_app (n : Nat) (a b : List UInt8) : valFrom n (a ++ b) = valFrom (valFrom n a) b := by simp [valFrom]
theorem valFrom_cons (n : Nat) (c : UInt8) (l : List UInt8) : valFrom n (c :: l) = valFrom (n * 10 + (c.toNat - 48)) l := by unfold valFrom; rw [List.foldl_cons]
theorem valFrom_eq (l : List UInt8) : ∀ n, valFrom n l = n * 10 ^ l.length + val l := by
  induction l with
  | nil => intro n; simp [valFrom, val]
  | cons c l ih =>
    intro n
    unfold val
    rw [valFrom_cons, valFrom_cons, ih, ih (0 * 10 + _), List.length_cons, Nat.pow_succ]
    rw [Nat.add_mul, Nat.mul_assoc, Nat.mul_comm 10, Nat.zero_mul, Nat.zero_add, Nat.add_assoc]
theorem val_app (a b : List UInt8) : val (a ++ b) = val a * 10 ^ b.length + val b := by
  unfold val
  rw [valFrom_app, valFrom_eq b]
  rfl
theorem val_cons (c : UInt8) (l : List UInt8) : val (c :: l) = (c.toNat - 48) * 10 ^ l.length + val l := by
  have := val_app [c] l
  simpa [val, valFrom] using this
theorem val_snoc (a : List UInt8) (c : UInt8) : val (a ++ [c]) = val a * 10 + (c.toNat - 48) := by
  rw [val_app]; simp [val, valFrom]
theorem val_zeros (n : Nat) : val (List.replicate n 48) = 0 := by
  induction n with
  | zero => rfl
  | succ n ih => rw [List.replicate_succ, val_cons, ih]; simp
theorem val_lt {l : List UInt8} (h : AllDig l) : val l < 10 ^ l.length := by
  induction l with
  | nil => exact Nat.one_pos
  | cons c l ih =>
    have h1 := ih (fun x hx => h x (by simp [hx]))
    have h2 := h c (by simp)
    simp only [isDig, Bool.and_eq_true, decide_eq_true_eq] at h2
    rw [val_cons, List.length_cons, Nat.pow_succ]
    have h3 : (c.toNat - 48) * 10 ^ l.length ≤ 9 * 10 ^ l.length := Nat.mul_le_mul_right _ (by omega)
    omega
theorem val_ge {c : UInt8} {l : List UInt8} (hc : isDig c = true) (h0 : c ≠ 48) : 10 ^ l.length ≤ val (c :: l) := by
  simp only [isDig, Bool.and_eq_true, decide_eq_true_eq] at hc
  have h1 : c.toNat ≠ 48 := fun h => h0 (UInt8.toNat_inj.1 (by rw [h]; rfl))
  rw [val_cons]
  have : 1 * 10 ^ l.length ≤ (c.toNat - 48) * 10 ^ l.length := Nat.mul_le_mul_right _ (by omega)
  omega

/-- Zeros ahead are taken off. -/
theorem trimL_spec (l : List UInt8) : ∃ k, l = List.replicate k 48 ++ Lib.trimLeftB l 48 ∧ (∀ c t, Lib.trimLeftB l 48 = c :: t → c ≠ 48) := by
  unfold Lib.trimLeftB
  induction l with
  | nil => exact ⟨0, rfl, fun c t h => by simp at h⟩
  | cons a l ih =>
    by_cases h : a = 48
    · subst h
      obtain ⟨k, h1, h2⟩ := ih
      refine ⟨k + 1, ?_, ?_⟩
      · rw [List.dropWhile_cons, if_pos (by simp), List.replicate_succ, List.cons_append, ← h1]
      · intro c t hc
        rw [List.dropWhile_cons, if_pos (by simp)] at hc
        exact h2 c t hc
    · refine ⟨0, ?_, ?_⟩
      · rw [List.dropWhile_cons, if_neg (by simpa using h)]; rfl
      · intro c t hc
        rw [List.dropWhile_cons, if_neg (by simpa using h)] at hc
        cases hc
        exact h
theorem trimR_spec (l : List UInt8) : ∃ k, l = Lib.trimRightB l 48 ++ List.replicate k 48 ∧ (∀ c t, Lib.trimRightB l 48 = t ++ [c] → c ≠ 48) := by
  obtain ⟨k, h1, h2⟩ := trimL_spec l.reverse
  refine ⟨k, ?_, ?_⟩
  · unfold Lib.trimRightB
    unfold Lib.trimLeftB at h1
    have := congrArg List.reverse h1
    rw [List.reverse_reverse, List.reverse_append, List.reverse_replicate] at this
    exact this
  · intro c t h
    unfold Lib.trimRightB at h
    have h3 := congrArg List.reverse h
    rw [List.reverse_reverse, List.reverse_append] at h3
    exact h2 c t.reverse h3
theorem trimL_all {l : List UInt8} (h : AllDig l) : AllDig (Lib.trimLeftB l 48) := fun c hc => by
  obtain ⟨k, h1, _⟩ := trimL_spec l
  exact h c (by rw [h1]; simp [hc])
theorem trimR_all {l : List UInt8} (h : AllDig l) : AllDig (Lib.trimRightB l 48) := fun c hc => by
  obtain ⟨k, h1, _⟩ := trimR_spec l
  exact h c (by rw [h1]; simp [hc])
theorem trimL_len (l : List UInt8) : (Lib.trimLeftB l 48).length ≤ l.length := by
  obtain ⟨k, h1, _⟩ := trimL_spec l
  have := congrArg List.length h1
  simp at this; omega
theorem trimR_len (l : List UInt8) : (Lib.trimRightB l 48).length ≤ l.length := by
  obtain ⟨k, h1, _⟩ := trimR_spec l
  have := congrArg List.length h1
  simp at this; omega
theorem trimL_val (l : List UInt8) : val (Lib.trimLeftB l 48) = val l := by
  obtain ⟨k, h1, _⟩ := trimL_spec l
  have := congrArg val h1
  rw [val_app, val_zeros, Nat.zero_mul, Nat.zero_add] at this
  exact this.symm
theorem trimR_val (l : List UInt8) : val (Lib.trimRightB l 48) * 10 ^ (l.length - (Lib.trimRightB l 48).length) = val l := by
  obtain ⟨k, h1, _⟩ := trimR_spec l
  have h2 := congrArg val h1
  have h3 := congrArg List.length h1
  rw [val_app, val_zeros, Nat.add_zero] at h2
  simp at h3
  rw [h2]
  simp
  congr 2
  omega
theorem trimL_nil {l : List UInt8} (h : AllDig l) : Lib.trimLeftB l 48 = [] ↔ val l = 0 := by
  constructor
  · intro h1
    rw [← trimL_val, h1]; rfl
  · intro h1
    obtain ⟨k, h2, h3⟩ := trimL_spec l
    cases hc : Lib.trimLeftB l 48 with
    | nil => rfl
    | cons c t =>
      have h4 := val_ge (l := t) (trimL_all h c (by simp [hc])) (h3 c t hc)
      rw [← hc, trimL_val, h1] at h4
      have : 0 < 10 ^ t.length := Nat.pow_pos (by decide)
      omega
theorem trimL_ge {l : List UInt8} (h : AllDig l) (h0 : Lib.trimLeftB l 48 ≠ []) : 10 ^ ((Lib.trimLeftB l 48).length - 1) ≤ val l := by
  obtain ⟨k, h2, h3⟩ := trimL_spec l
  cases hc : Lib.trimLeftB l 48 with
  | nil => exact absurd hc h0
  | cons c t =>
    have h4 := val_ge (l := t) (trimL_all h c (by simp [hc])) (h3 c t hc)
    rw [← hc, trimL_val] at h4
    simpa using h4
/-- A last digit that is no zero. -/
theorem val_mod {l : List UInt8} (h : AllDig l) (h0 : l ≠ []) (h1 : ∀ c t, l = t ++ [c] → c ≠ 48) : val l % 10 ≠ 0 := by
  obtain ⟨t, c, rfl⟩ : ∃ t c, l = t ++ [c] := ⟨l.dropLast, l.getLast h0, (List.dropLast_concat_getLast h0).symm⟩
  have h2 := h c (by simp)
  have h3 := h1 c t rfl
  simp only [isDig, Bool.and_eq_true, decide_eq_true_eq] at h2
  have h4 : c.toNat ≠ 48 := fun h => h3 (UInt8.toNat_inj.1 (by rw [h]; rfl))
  rw [val_snoc]
  omega

/-- The greatest distance from 0. -/
def most (b : Bool) : Nat := if b then 9223372036854775808 else 9223372036854775807
theorem most_lt (b : Bool) : most b < 10 ^ 19 := by cases b <;> decide
def sgn (b : Bool) (n : Nat) : Int := if b then -(n : Int) else n
/-- The number of that distance, or the error that it is too far. -/
def fitF (b : Bool) (n : Nat) : Int × Int := if n ≤ most b then (sgn b n, 0) else (0, 7)
/-- v with its point k places on: exactly, or not at all. -/
def shV (b : Bool) (v : Nat) (k : Int) : Int × Int :=
  if v = 0 then (0, 0)
  else if 0 ≤ k then fitF b (v * 10 ^ k.toNat)
  else if v % 10 ^ (-k).toNat = 0 then fitF b (v / 10 ^ (-k).toNat) else (0, 7)

/-- v is u with t zeros behind it, and u has none: by the program's own way. -/
theorem shV_kept {b : Bool} {u t : Nat} {k : Int} (hu : u % 10 ≠ 0) : shV b (u * 10 ^ t) k = if k + t < 0 then (0, 7) else fitF b (u * 10 ^ (k + t).toNat) := by
  have hp : 0 < 10 ^ t := Nat.pow_pos (by decide)
  have hu0 : 0 < u := by omega
  unfold shV
  rw [if_neg (by have := Nat.mul_pos hu0 hp; omega)]
  by_cases hk : 0 ≤ k
  · rw [if_pos hk, if_neg (by omega)]
    congr 1
    rw [Nat.mul_assoc, ← Nat.pow_add]
    congr 2
    omega
  · rw [if_neg hk]
    by_cases hs : k + t < 0
    · rw [if_pos hs, if_neg]
      intro h
      obtain ⟨j, hj⟩ : ∃ j, (-k).toNat = t + (j + 1) := ⟨(-k).toNat - t - 1, by omega⟩
      rw [hj, Nat.pow_add] at h
      obtain ⟨q, hq⟩ := Nat.dvd_of_mod_eq_zero h
      rw [Nat.mul_comm u, Nat.mul_assoc] at hq
      have h2 := Nat.eq_of_mul_eq_mul_left hp hq
      rw [Nat.pow_succ] at h2
      apply hu
      rw [h2, Nat.mul_comm _ 10, Nat.mul_assoc]
      exact Nat.mul_mod_right _ _
    · rw [if_neg hs]
      obtain ⟨j, hj⟩ : ∃ j, t = j + (-k).toNat := ⟨t - (-k).toNat, by omega⟩
      have e : u * 10 ^ t = (u * 10 ^ j) * 10 ^ (-k).toNat := by rw [hj, Nat.pow_add, Nat.mul_assoc]
      rw [e, if_pos (Nat.mul_mod_left _ _), Nat.mul_div_cancel _ (Nat.pow_pos (by decide))]
      congr 3
      omega
theorem fit_far {b : Bool} {n : Nat} (h : 10 ^ 19 ≤ n) : fitF b n = (0, 7) := by
  unfold fitF
  rw [if_neg (by have := most_lt b; omega)]
/-- The program's way from digits to a number. -/
def shP (b : Bool) (D : List UInt8) (k : Int) : Int × Int :=
  let L := Lib.trimLeftB D 48
  if L = [] then (0, 0)
  else
    let K := Lib.trimRightB L 48
    let s : Int := k + ((L.length : Int) - K.length)
    if s < 0 ∨ 19 < (K.length : Int) + s then (0, 7) else fitF b (val (K ++ List.replicate s.toNat 48))
theorem shP_eq {b : Bool} {D : List UInt8} {k : Int} (hD : AllDig D) : shP b D k = shV b (val D) k := by
  unfold shP
  simp only
  by_cases h0 : Lib.trimLeftB D 48 = []
  · rw [if_pos h0, (trimL_nil hD).1 h0]
    rfl
  · rw [if_neg h0]
    have hL := trimL_all hD
    have hK := trimR_all hL
    obtain ⟨j, h1, h2⟩ := trimR_spec (Lib.trimLeftB D 48)
    obtain ⟨i, h5, h6⟩ := trimL_spec D
    have hv := trimL_val D
    generalize hLe : Lib.trimLeftB D 48 = L at *
    generalize hKe : Lib.trimRightB L 48 = K at *
    have hne : K ≠ [] := by
      intro hn
      subst hn
      cases hj : L with
      | nil => exact h0 hj
      | cons c t =>
        have h7 := h6 c t hj
        rw [h1] at hj
        have : c ∈ ([] ++ List.replicate j (48 : UInt8)) := by rw [hj]; simp
        simp at this
        exact h7 this.2
    have hlen : L.length = K.length + j := by rw [h1]; simp
    have hvm := val_mod hK hne h2
    have hvv : val D = val K * 10 ^ j := by rw [← hv, h1, val_app, val_zeros]; simp
    rw [hvv, shV_kept hvm]
    have e : k + ((L.length : Int) - K.length) = k + (j : Int) := by omega
    rw [e]
    by_cases hs : k + (j : Int) < 0
    · rw [if_pos (Or.inl hs), if_pos hs]
    · rw [if_neg hs]
      by_cases hb : 19 < (K.length : Int) + (k + j)
      · rw [if_pos (Or.inr hb), fit_far]
        cases hKc : K with
        | nil => exact absurd hKc hne
        | cons c t =>
          have hc : c ≠ 48 := by
            refine h6 c (t ++ List.replicate j 48) ?_
            rw [h1, hKc]; rfl
          have hg := val_ge (l := t) (hK c (by simp [hKc])) hc
          have hb' : 19 < ((c :: t).length : Int) + (k + j) := by rw [← hKc]; exact hb
          simp only [List.length_cons] at hb'
          have h19 : 10 ^ 19 ≤ 10 ^ (t.length + (k + (j : Int)).toNat) := Nat.pow_le_pow_right (by decide) (by omega)
          rw [Nat.pow_add] at h19
          exact Nat.le_trans h19 (Nat.mul_le_mul_right _ hg)
      · rw [if_neg (by omega), val_app, val_zeros, List.length_replicate, Nat.add_zero]
end Go.Proofs.YtmlgcjfcbokibaaDoor
