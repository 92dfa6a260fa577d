/- What is told is read as it was; a point that stands elsewhere; numbers too far. No model in this text. -/
import Derived.Test.YtmlgcjfcbokibaaDoorFxRead
namespace Go.Proofs.YtmlgcjfcbokibaaDoor
open Go

theorem shV_ten {b : Bool} {u : Nat} {k : Int} (h0 : u ≠ 0) : shV b (u * 10) k = shV b u (k + 1) := by
  unfold shV
  rw [if_neg (by omega), if_neg h0]
  by_cases hk : 0 ≤ k
  · rw [if_pos hk, if_pos (by omega), show (k + 1).toNat = k.toNat + 1 by omega, Nat.pow_succ, Nat.mul_comm (10 ^ k.toNat), Nat.mul_assoc]
  · rw [if_neg hk]
    obtain ⟨j, hj⟩ : ∃ j, (-k).toNat = j + 1 := ⟨(-k).toNat - 1, by omega⟩
    have hm : u * 10 % 10 ^ (j + 1) = (u % 10 ^ j) * 10 := by rw [Nat.pow_succ, Nat.mul_mod_mul_right]
    have hd : u * 10 / 10 ^ (j + 1) = u / 10 ^ j := by rw [Nat.pow_succ, Nat.mul_div_mul_right _ _ (by decide)]
    rw [hj, hm, hd]
    by_cases h1 : k = -1
    · obtain rfl : j = 0 := by omega
      have h3 : (k + 1).toNat = 0 := by omega
      rw [if_pos (show 0 ≤ k + 1 by omega), h3, Nat.pow_zero, Nat.mod_one, if_pos rfl, Nat.div_one, Nat.mul_one]
    · have h3 : (-(k + 1)).toNat = j := by omega
      rw [if_neg (show ¬ 0 ≤ k + 1 by omega), h3]
      by_cases h2 : u % 10 ^ j = 0
      · rw [if_pos (by omega), if_pos h2]
      · rw [if_neg (by omega), if_neg h2]
theorem shV_odd {b : Bool} {u : Nat} {k : Int} (h : u % 10 ≠ 0) (hk : k < 0) : shV b u k = (0, 7) := by
  have := shV_kept (b := b) (t := 0) (k := k) h
  rw [Nat.pow_zero, Nat.mul_one, if_pos (by omega)] at this
  exact this
theorem shV_zero (b : Bool) (u : Nat) : shV b u 0 = fitF b u := by
  unfold shV
  by_cases h : u = 0
  · subst h
    unfold fitF
    rw [if_pos (Nat.zero_le _), if_pos rfl]
    cases b <;> rfl
  · rw [if_neg h, if_pos (Int.le_refl 0)]; simp
theorem shV_pow {b : Bool} {u : Nat} (j : Nat) {k : Int} (h0 : u ≠ 0) : shV b (u * 10 ^ j) k = shV b u (k + j) := by
  induction j generalizing k with
  | zero => simp
  | succ j ih =>
    have : u * 10 ^ j ≠ 0 := by have := Nat.mul_pos (Nat.pos_of_ne_zero h0) (Nat.pow_pos (n := j) (show 0 < 10 by decide)); omega
    rw [Nat.pow_succ, ← Nat.mul_assoc, shV_ten this, ih]
    congr 1
    omega
theorem shV_far {b : Bool} {u : Nat} {k : Int} (h : 10 ^ 19 ≤ u) (hk : 0 ≤ k) : shV b u k = (0, 7) := by
  unfold shV
  rw [if_neg (by omega), if_pos hk, fit_far]
  exact Nat.le_trans h (Nat.le_mul_of_pos_right _ (Nat.pow_pos (by decide)))

/-- A number told: its digits behind zeros, what stands behind the point. -/
theorem tail_all (r : Nat) : AllDig (Lib.trimRightB (pad 6 r) 48) := trimR_all (pad_all 6 r)
theorem tail_zero : tailF 0 = [] := by decide
theorem tail_ne {r : Nat} (h0 : r ≠ 0) (h : r < 1000000) : Lib.trimRightB (pad 6 r) 48 ≠ [] := by
  intro hn
  have h1 := trimR_val (pad 6 r)
  rw [hn, pad_val 6 r (by omega)] at h1
  simp [val, valFrom] at h1
  exact h0 h1.symm
theorem tail_len (r : Nat) : (tailF r).length ≤ 7 := by
  unfold tailF
  have := trimR_len (pad 6 r)
  rw [pad_len] at this
  split <;> simp <;> omega
theorem read_told {s x : List UInt8} {b : Bool} (hs : SgT s b) (hx : ExT x 0) (z a r : Nat) (hr : r < 1000000) (hl : (s ++ (List.replicate z 48 ++ Lib.decDigits a ++ tailF r ++ x)).length ≤ 64) :
    readF (s ++ (List.replicate z 48 ++ Lib.decDigits a ++ tailF r ++ x)) = fitF b (a * 1000000 + r) := by
  have hW : AllDig (List.replicate z 48 ++ Lib.decDigits a) := (AllDig.zeros z).app (dec_all a)
  have hWn : List.replicate z 48 ++ Lib.decDigits a ≠ [] := by
    intro h
    exact dec_ne a (List.append_eq_nil_iff.1 h).2
  have hWv : val (List.replicate z 48 ++ Lib.decDigits a) = a := by rw [val_app, val_zeros, dec_val]; simp
  by_cases h0 : r = 0
  · subst h0
    rw [tail_zero, List.append_nil] at hl ⊢
    rw [read_int hs hW hWn hx hl, hWv]
    by_cases ha : a = 0
    · subst ha
      simp [shV, fitF, sgn]
    · rw [show ((0 : Int) + 6) = 0 + ((6 : Nat) : Int) by omega, ← shV_pow 6 ha, shV_zero, Nat.add_zero]
  · have hne := tail_ne h0 hr
    have ht : tailF r = 46 :: Lib.trimRightB (pad 6 r) 48 := by unfold tailF; rw [if_neg hne]
    have hpl : (Lib.trimRightB (pad 6 r) 48).length ≤ 6 := by have := trimR_len (pad 6 r); rw [pad_len] at this; exact this
    have hv := trimR_val (pad 6 r)
    rw [pad_val 6 r (by omega), pad_len] at hv
    have hP := tail_all r
    rw [ht] at hl ⊢
    generalize Lib.trimRightB (pad 6 r) 48 = P at *
    have e : List.replicate z 48 ++ Lib.decDigits a ++ 46 :: P ++ x = (List.replicate z 48 ++ Lib.decDigits a) ++ 46 :: (P ++ x) := by simp
    rw [e] at hl ⊢
    rw [read_pt hs hW hP hne hx hl, val_app, hWv]
    obtain ⟨j, hj⟩ : ∃ j, 6 = P.length + j := ⟨6 - P.length, by omega⟩
    have hj' : 6 - P.length = j := by omega
    rw [hj'] at hv
    have hu : a * 10 ^ P.length + val P ≠ 0 := by
      intro h
      have : val P = 0 := by omega
      rw [this, Nat.zero_mul] at hv
      exact h0 hv.symm
    rw [show ((0 : Int) + 6 - P.length) = 0 + ((j : Nat) : Int) by omega, ← shV_pow j hu, shV_zero, Nat.add_mul, hv, Nat.mul_assoc, ← Nat.pow_add, ← hj]
theorem fit_of {b : Bool} {n : Nat} (h : n ≤ most b) : fitF b n = (sgn b n, 0) := by unfold fitF; rw [if_pos h]

def In64 (n : Int) : Prop := -9223372036854775808 ≤ n ∧ n ≤ 9223372036854775807
def negB (n : Int) : Bool := decide (n < 0)
def sgL (n : Int) : List UInt8 := if n < 0 then [45] else []
theorem sgn_far (n : Int) : sgn (negB n) (farF n) = n := by
  unfold sgn negB farF
  by_cases h : n < 0
  · rw [if_pos (by simpa using h)]; omega
  · rw [if_neg (by simpa using h)]; omega
theorem far_fit {n : Int} (h : In64 n) : farF n ≤ most (negB n) := by
  obtain ⟨h1, h2⟩ := h
  unfold farF negB most
  by_cases hn : n < 0
  · rw [if_pos (by simpa using hn)]; omega
  · rw [if_neg (by simpa using hn)]; omega
theorem far_le {n : Int} (h : In64 n) : farF n ≤ 9223372036854775808 := by obtain ⟨h1, h2⟩ := h; unfold farF; omega
theorem sgL_t (n : Int) : SgT (sgL n) (negB n) := by
  unfold sgL negB
  by_cases hn : n < 0
  · rw [if_pos hn, decide_eq_true hn]; exact .minus
  · rw [if_neg hn, decide_eq_false hn]; exact .none
theorem sgL_1 (n : Int) : sgL n = [] ∧ negB n = false ∨ sgL n = [45] ∧ negB n = true := by
  unfold sgL negB
  by_cases hn : n < 0
  · rw [if_pos hn, decide_eq_true hn]; exact .inr ⟨rfl, rfl⟩
  · rw [if_neg hn, decide_eq_false hn]; exact .inl ⟨rfl, rfl⟩
/-- What stands behind the sign. -/
def bodyF (n : Int) : List UInt8 := Lib.decDigits (farF n / 1000000) ++ tailF (farF n % 1000000)
theorem text_body (n : Int) : textF n = sgL n ++ bodyF n := rfl
theorem body_len {n : Int} (h : In64 n) : (bodyF n).length ≤ 20 ∧ 1 ≤ (bodyF n).length := by
  have h1 := far_le h
  have h2 : (Lib.decDigits (farF n / 1000000)).length ≤ 13 := dec_le (k := 12) (by omega)
  have h3 := tail_len (farF n % 1000000)
  have h4 := dec_len (farF n / 1000000)
  unfold bodyF
  rw [List.length_append]
  omega
theorem sgL_len (n : Int) : (sgL n).length ≤ 1 := by unfold sgL; split <;> simp
theorem text_len {n : Int} (h : In64 n) : (textF n).length ≤ 21 ∧ 1 ≤ (textF n).length := by
  have := body_len h
  have := sgL_len n
  rw [text_body, List.length_append]
  omega
theorem div_far (n : Int) : farF n / 1000000 * 1000000 + farF n % 1000000 = farF n := by omega
theorem read_body {n : Int} (_h : In64 n) {s x : List UInt8} {b : Bool} (hs : SgT s b) (hx : ExT x 0) (z : Nat) (hl : (s ++ (List.replicate z 48 ++ bodyF n ++ x)).length ≤ 64) : readF (s ++ (List.replicate z 48 ++ bodyF n ++ x)) = fitF b (farF n) := by
  have := read_told hs hx z (farF n / 1000000) (farF n % 1000000) (by omega) (by unfold bodyF at hl; simpa [List.append_assoc] using hl)
  rw [div_far] at this
  rw [← this]
  unfold bodyF
  simp [List.append_assoc]
theorem read_text {n : Int} (h : In64 n) : readF (textF n) = (n, 0) := by
  have h1 := text_len h
  have := read_body h (sgL_t n) ExT.none 0 (by rw [text_body] at h1; simpa using Nat.le_trans h1.1 (by decide))
  simp only [List.replicate_zero, List.nil_append, List.append_nil] at this
  rw [text_body, this, fit_of (far_fit h), sgn_far]
theorem text_inj {a b : Int} (ha : In64 a) (hb : In64 b) (h : textF a = textF b) : a = b := by
  have h1 := read_text ha
  rw [h, read_text hb] at h1
  exact (Prod.mk.inj h1).1.symm
/-- The same digits with no exponent, and no point, are a whole number; else none. -/
theorem whole_body {n : Int} {s : List UInt8} {b : Bool} (hs : s = [] ∧ b = false ∨ s = [45] ∧ b = true) (z : Nat) :
    wholeF (s ++ (List.replicate z 48 ++ bodyF n)) = if farF n % 1000000 = 0 ∧ (List.replicate z 48 ++ bodyF n).length ≤ 19 then fitF b (farF n / 1000000) else (0, 2) := by
  have hW : AllDig (List.replicate z 48 ++ Lib.decDigits (farF n / 1000000)) := (AllDig.zeros z).app (dec_all _)
  have hWn : 1 ≤ (List.replicate z 48 ++ Lib.decDigits (farF n / 1000000)).length := by
    have := dec_len (farF n / 1000000)
    rw [List.length_append]; omega
  have hWv : val (List.replicate z 48 ++ Lib.decDigits (farF n / 1000000)) = farF n / 1000000 := by rw [val_app, val_zeros, dec_val]; simp
  have hne : List.replicate z 48 ++ Lib.decDigits (farF n / 1000000) ≠ [] := by intro h; rw [h] at hWn; simp at hWn
  by_cases h0 : farF n % 1000000 = 0
  · have e : List.replicate z 48 ++ bodyF n = List.replicate z 48 ++ Lib.decDigits (farF n / 1000000) := by unfold bodyF; rw [h0, tail_zero, List.append_nil]
    rw [e]
    by_cases hl : (List.replicate z 48 ++ Lib.decDigits (farF n / 1000000)).length ≤ 19
    · rw [if_pos ⟨h0, hl⟩, whole_of hs hW hWn hl, hWv]
    · rw [if_neg (fun h => hl h.2)]
      obtain ⟨h3, h4⟩ := sg1_app hs (l := List.replicate z 48 ++ Lib.decDigits (farF n / 1000000)) (by have := NoSg.dig (m := []) hW hne; simpa using this)
      obtain ⟨h6, h7⟩ := dig_full hW
      unfold wholeF
      rw [h4, h6, if_pos (by omega)]
  · rw [if_neg (fun h => h0 h.1)]
    have ht : tailF (farF n % 1000000) = 46 :: Lib.trimRightB (pad 6 (farF n % 1000000)) 48 := by unfold tailF; rw [if_neg (tail_ne h0 (by omega))]
    have e : List.replicate z 48 ++ bodyF n = (List.replicate z 48 ++ Lib.decDigits (farF n / 1000000)) ++ 46 :: Lib.trimRightB (pad 6 (farF n % 1000000)) 48 := by unfold bodyF; rw [ht]; simp
    rw [e]
    obtain ⟨h3, h4⟩ := sg1_app hs (NoSg.dig (m := 46 :: Lib.trimRightB (pad 6 (farF n % 1000000)) 48) hW hne)
    obtain ⟨h6, h7⟩ := dig_app (b := 46 :: Lib.trimRightB (pad 6 (farF n % 1000000)) 48) hW (NoDig.cons (by decide))
    unfold wholeF
    rw [h4, h6, h7]
    simp
end Go.Proofs.YtmlgcjfcbokibaaDoor
