/- What a text means: its sign, its digits, its exponent; texts put together of such parts. No model in this text. -/
import Derived.Test.YtmlgcjfcbokibaaDoorFxMath
namespace Go.Proofs.YtmlgcjfcbokibaaDoor
open Go

/-- One byte of these, if it is next. -/
def tkB (bs : List UInt8) : List UInt8 → Bool
  | [] => false
  | c :: _ => bs.contains c
def tkR (bs : List UInt8) : List UInt8 → List UInt8
  | [] => []
  | c :: t => if bs.contains c then t else c :: t
def sgB (bs : List UInt8) : List UInt8 → Bool
  | [] => false
  | c :: _ => bs.contains c && c == 45
/-- The digits ahead of the point, those behind it, and what is left. -/
def decF (l : List UInt8) : Option (List UInt8 × List UInt8 × List UInt8) :=
  if tkB [46] (rst l) = true then
    if dig (tkR [46] (rst l)) = [] then none else some (dig l, dig (tkR [46] (rst l)), rst (tkR [46] (rst l)))
  else if dig l = [] then none else some (dig l, [], rst l)
/-- The exponent and what is left. -/
def expF (l : List UInt8) : Option (Int × List UInt8) :=
  if tkB [101, 69] l = true then
    let b := sgB [43, 45] (tkR [101, 69] l)
    let m := tkR [43, 45] (tkR [101, 69] l)
    if (dig m).length < 1 ∨ 4 < (dig m).length then none else some (sgn b (val (dig m)), rst m)
  else some (0, l)
def readF (l : List UInt8) : Int × Int :=
  if 64 < l.length then (0, 2)
  else match decF (tkR [43, 45] l) with
    | none => (0, 2)
    | some (w, p, m) => match expF m with
      | none => (0, 2)
      | some (x, m') => if m' = [] then shV (sgB [43, 45] l) (val (w ++ p)) (x + 6 - p.length) else (0, 2)
def wholeF (l : List UInt8) : Int × Int :=
  if (dig (tkR [45] l)).length < 1 ∨ 19 < (dig (tkR [45] l)).length then (0, 2)
  else if rst (tkR [45] l) = [] then fitF (sgB [45] l) (val (dig (tkR [45] l))) else (0, 2)

theorem tkR_len (bs l : List UInt8) : (tkR bs l).length ≤ l.length := by
  cases l with
  | nil => exact Nat.le_refl _
  | cons c t =>
    unfold tkR
    by_cases h : bs.contains c = true
    · simp only [h]; simp
    · simp only [h]; simp
theorem rst_len (l : List UInt8) : (rst l).length ≤ l.length := by have := dig_len l; omega

/-- A text begins with no digit. -/
def NoDig (l : List UInt8) : Prop := ∀ c t, l = c :: t → isDig c = false
theorem NoDig.nil : NoDig [] := fun _ _ h => by cases h
theorem NoDig.cons {c : UInt8} {t : List UInt8} (h : isDig c = false) : NoDig (c :: t) := fun _ _ e => by cases e; exact h
/-- A sign's text: none, a plus, a minus. -/
def SgT (s : List UInt8) (b : Bool) : Prop := (s = [] ∧ b = false) ∨ (s = [43] ∧ b = false) ∨ (s = [45] ∧ b = true)
theorem SgT.none : SgT [] false := .inl ⟨rfl, rfl⟩
theorem SgT.plus : SgT [43] false := .inr (.inl ⟨rfl, rfl⟩)
theorem SgT.minus : SgT [45] true := .inr (.inr ⟨rfl, rfl⟩)
/-- A text begins with no sign. -/
def NoSg (l : List UInt8) : Prop := ∀ c t, l = c :: t → c ≠ 43 ∧ c ≠ 45
theorem NoSg.dig {l m : List UInt8} (h : AllDig l) (hn : l ≠ []) : NoSg (l ++ m) := fun c t e => by
  cases l with
  | nil => exact absurd rfl hn
  | cons a l =>
    cases e
    have h1 := h c (by simp)
    constructor <;> intro h2 <;> subst h2 <;> exact absurd h1 (by decide)
theorem NoSg.cons {c : UInt8} {t : List UInt8} (h : c ≠ 43 ∧ c ≠ 45) : NoSg (c :: t) := fun _ _ e => by cases e; exact h
theorem sg_app {s : List UInt8} {b : Bool} (hs : SgT s b) {l : List UInt8} (hl : NoSg l) : sgB [43, 45] (s ++ l) = b ∧ tkR [43, 45] (s ++ l) = l := by
  rcases hs with ⟨rfl, rfl⟩ | ⟨rfl, rfl⟩ | ⟨rfl, rfl⟩
  · cases l with
    | nil => exact ⟨rfl, rfl⟩
    | cons c t =>
      obtain ⟨h1, h2⟩ := hl c t rfl
      have e : ([43, 45] : List UInt8).contains c = false := by simp [h1, h2]
      simp only [List.nil_append, sgB, tkR, e]
      simp
  · exact ⟨rfl, rfl⟩
  · exact ⟨rfl, rfl⟩
theorem sg1_app {s : List UInt8} {b : Bool} (hs : s = [] ∧ b = false ∨ s = [45] ∧ b = true) {l : List UInt8} (hl : NoSg l) : sgB [45] (s ++ l) = b ∧ tkR [45] (s ++ l) = l := by
  rcases hs with ⟨rfl, rfl⟩ | ⟨rfl, rfl⟩
  · cases l with
    | nil => exact ⟨rfl, rfl⟩
    | cons c t =>
      obtain ⟨h1, h2⟩ := hl c t rfl
      have e : ([45] : List UInt8).contains c = false := by simp [h2]
      simp only [List.nil_append, sgB, tkR, e]
      simp
  · exact ⟨rfl, rfl⟩
/-- An exponent's text. -/
def ExT (x : List UInt8) (e : Int) : Prop := (x = [] ∧ e = 0) ∨ ∃ c s b d, x = c :: (s ++ d) ∧ (c = 101 ∨ c = 69) ∧ SgT s b ∧ AllDig d ∧ 1 ≤ d.length ∧ d.length ≤ 4 ∧ e = sgn b (val d)
theorem ExT.none : ExT [] 0 := .inl ⟨rfl, rfl⟩
theorem ExT.some {c : UInt8} {s : List UInt8} {b : Bool} {d : List UInt8} (hc : c = 101 ∨ c = 69) (hs : SgT s b) (hd : AllDig d) (h1 : 1 ≤ d.length) (h4 : d.length ≤ 4) : ExT (c :: (s ++ d)) (sgn b (val d)) :=
  .inr ⟨c, s, b, d, rfl, hc, hs, hd, h1, h4, rfl⟩
theorem ExT.noDig {x : List UInt8} {e : Int} (h : ExT x e) : NoDig x := by
  rcases h with ⟨rfl, _⟩ | ⟨c, s, b, d, rfl, hc, _⟩
  · exact NoDig.nil
  · refine NoDig.cons ?_
    rcases hc with rfl | rfl <;> decide
theorem ExT.noPt {x : List UInt8} {e : Int} (h : ExT x e) : tkB [46] x = false := by
  rcases h with ⟨rfl, _⟩ | ⟨c, s, b, d, rfl, hc, _⟩
  · rfl
  · rcases hc with rfl | rfl <;> simp [tkB]
theorem exp_of {x : List UInt8} {e : Int} (h : ExT x e) : expF x = some (e, []) := by
  rcases h with ⟨rfl, rfl⟩ | ⟨c, s, b, d, rfl, hc, hs, hd, h1, h4, rfl⟩
  · rfl
  · have e1 : tkB [101, 69] (c :: (s ++ d)) = true := by rcases hc with rfl | rfl <;> simp [tkB]
    have e2 : tkR [101, 69] (c :: (s ++ d)) = s ++ d := by rcases hc with rfl | rfl <;> simp [tkR]
    have hne : d ≠ [] := by intro h; subst h; simp at h1
    have h5 := sg_app hs (l := d) (by have := NoSg.dig (m := []) hd hne; simpa using this)
    obtain ⟨h6, h7⟩ := dig_full hd
    unfold expF
    rw [if_pos e1, e2]
    simp only [h5.1, h5.2, h6, h7]
    rw [if_neg (by omega)]
/-- THE MEANING OF A TEXT PUT TOGETHER: a sign, digits, perhaps a point and digits, perhaps an exponent. -/
theorem read_int {s W x : List UInt8} {b : Bool} {e : Int} (hs : SgT s b) (hW : AllDig W) (hn : W ≠ []) (hx : ExT x e) (hl : (s ++ (W ++ x)).length ≤ 64) :
    readF (s ++ (W ++ x)) = shV b (val W) (e + 6) := by
  unfold readF
  rw [if_neg (by omega)]
  obtain ⟨h1, h2⟩ := sg_app hs (l := W ++ x) (NoSg.dig hW hn)
  obtain ⟨h3, h4⟩ := dig_app hW hx.noDig
  have h5 : decF (W ++ x) = some (W, [], x) := by
    unfold decF
    rw [h3, h4, hx.noPt, if_neg (by decide), if_neg hn]
  rw [h1, h2, h5]
  simp only [exp_of hx]
  simp
theorem read_pt {s W P x : List UInt8} {b : Bool} {e : Int} (hs : SgT s b) (hW : AllDig W) (hP : AllDig P) (hn : P ≠ []) (hx : ExT x e) (hl : (s ++ (W ++ 46 :: (P ++ x))).length ≤ 64) :
    readF (s ++ (W ++ 46 :: (P ++ x))) = shV b (val (W ++ P)) (e + 6 - P.length) := by
  unfold readF
  rw [if_neg (by omega)]
  have hg : NoSg (W ++ 46 :: (P ++ x)) := by
    cases W with
    | nil => exact NoSg.cons (by decide)
    | cons a W => exact NoSg.dig hW (by simp)
  obtain ⟨h1, h2⟩ := sg_app hs hg
  obtain ⟨h3, h4⟩ := dig_app (b := 46 :: (P ++ x)) hW (NoDig.cons (by decide))
  obtain ⟨h6, h7⟩ := dig_app hP hx.noDig
  have h8 : tkR [46] (46 :: (P ++ x)) = P ++ x := by simp [tkR]
  have h9 : tkB [46] (46 :: (P ++ x)) = true := by simp [tkB]
  have h5 : decF (W ++ 46 :: (P ++ x)) = some (W, P, x) := by
    unfold decF
    rw [h3, h4, h9, if_pos rfl, h8, h6, h7, if_neg hn]
  rw [h1, h2, h5]
  simp only [exp_of hx]
  simp
theorem whole_of {s W : List UInt8} {b : Bool} (hs : s = [] ∧ b = false ∨ s = [45] ∧ b = true) (hW : AllDig W) (h1 : 1 ≤ W.length) (h2 : W.length ≤ 19) : wholeF (s ++ W) = fitF b (val W) := by
  have hne : W ≠ [] := by intro h; subst h; simp at h1
  obtain ⟨h3, h4⟩ := sg1_app hs (l := W) (by have := NoSg.dig (m := []) hW hne; simpa using this)
  obtain ⟨h6, h7⟩ := dig_full hW
  unfold wholeF
  rw [h3, h4, h6, h7, if_neg (by omega), if_pos rfl]

/-! The digits of a number. -/
theorem dig48 (n : Nat) (h : n < 10) : (UInt8.ofNat (48 + n)).toNat = 48 + n := by
  rw [UInt8.toNat_ofNat']; omega
theorem isDig48 (n : Nat) (h : n < 10) : isDig (UInt8.ofNat (48 + n)) = true := by
  unfold isDig; rw [dig48 n h]; simp; omega
theorem dec_all (m : Nat) : AllDig (Lib.decDigits m) := by
  induction m using Nat.strongRecOn with
  | _ m ih =>
    rw [Lib.decDigits]
    by_cases h : m < 10
    · rw [dif_pos h]
      intro c hc
      rw [List.mem_singleton.1 hc]
      exact isDig48 m h
    · rw [dif_neg h]
      refine (ih (m / 10) (by omega)).app fun c hc => ?_
      rw [List.mem_singleton.1 hc]
      exact isDig48 _ (by omega)
theorem dec_val (m : Nat) : val (Lib.decDigits m) = m := by
  induction m using Nat.strongRecOn with
  | _ m ih =>
    rw [Lib.decDigits]
    by_cases h : m < 10
    · rw [dif_pos h, val_cons, dig48 m h]
      simp [val, valFrom]
    · rw [dif_neg h, val_snoc, ih (m / 10) (by omega), dig48 _ (by omega)]
      omega
theorem dec_len (m : Nat) : 1 ≤ (Lib.decDigits m).length := by rw [Lib.decDigits_length]; exact Lib.nDigits_pos m
theorem nDigits_le : ∀ (k m : Nat), m < 10 ^ (k + 1) → Lib.nDigits m ≤ k + 1
  | 0, m, h => by rw [Lib.nDigits_small (by simpa using h)]; omega
  | k + 1, m, h => by
    by_cases h1 : m < 10
    · rw [Lib.nDigits_small h1]; omega
    · rw [Lib.nDigits_big h1]
      rw [Nat.pow_succ] at h
      have := nDigits_le k (m / 10) (by omega)
      omega
theorem dec_le {k m : Nat} (h : m < 10 ^ (k + 1)) : (Lib.decDigits m).length ≤ k + 1 := by rw [Lib.decDigits_length]; exact nDigits_le k m h
theorem dec_ne (m : Nat) : Lib.decDigits m ≠ [] := by intro h; have := dec_len m; rw [h] at this; simp at this
theorem dec_20 {m : Nat} (h : m < 18446744073709551616) : (Lib.decDigits m).length ≤ 20 := dec_le (k := 19) (by omega)
theorem dec_19 {m : Nat} (h : m ≤ 9223372036854775808) : (Lib.decDigits m).length ≤ 19 := dec_le (k := 18) (by omega)
/-- The last k digits of a number, zeros ahead among them. -/
def pad : Nat → Nat → List UInt8
  | 0, _ => []
  | k + 1, r => pad k (r / 10) ++ [UInt8.ofNat (48 + r % 10)]
theorem pad_len : ∀ k r, (pad k r).length = k
  | 0, _ => rfl
  | k + 1, r => by rw [pad, List.length_append, pad_len k]; rfl
theorem pad_all : ∀ k r, AllDig (pad k r)
  | 0, _ => fun c hc => by cases hc
  | k + 1, r => by
    rw [pad]
    refine (pad_all k _).app fun c hc => ?_
    rw [List.mem_singleton.1 hc]
    exact isDig48 _ (by omega)
theorem pad_val : ∀ k r, r < 10 ^ k → val (pad k r) = r
  | 0, r, h => by simp at h; subst h; rfl
  | k + 1, r, h => by
    rw [Nat.pow_succ] at h
    rw [pad, val_snoc, pad_val k (r / 10) (by omega), dig48 _ (by omega)]
    omega
theorem dec_pad : ∀ k r, r < 10 ^ k → Lib.decDigits (10 ^ k + r) = 49 :: pad k r
  | 0, r, h => by
    simp at h; subst h
    rw [Lib.decDigits_one (by decide)]
    rfl
  | k + 1, r, h => by
    rw [Nat.pow_succ] at h ⊢
    have h1 : ¬ (10 ^ k * 10 + r < 10) := by have : 1 ≤ 10 ^ k := Nat.one_le_pow _ _ (by decide); omega
    rw [Lib.decDigits, dif_neg h1, show (10 ^ k * 10 + r) / 10 = 10 ^ k + r / 10 by omega, dec_pad k (r / 10) (by omega), pad, show (10 ^ k * 10 + r) % 10 = r % 10 by omega]
    rfl
/-- What a number of millionths is told as. -/
def tailF (r : Nat) : List UInt8 := if Lib.trimRightB (pad 6 r) 48 = [] then [] else 46 :: Lib.trimRightB (pad 6 r) 48
def farF (n : Int) : Nat := n.natAbs
def textF (n : Int) : List UInt8 := (if n < 0 then [45] else []) ++ (Lib.decDigits (farF n / 1000000) ++ tailF (farF n % 1000000))
end Go.Proofs.YtmlgcjfcbokibaaDoor
