/- A line of samples, as lists of bytes: what is printed, what is parsed, and that the one undoes the other. No model in this text. -/
import Derived.Test.YtdmkiiggpelmaaaGreatDoorLxMath
import Derived.Test.YtdmkiiggpelmaaaGreatDoorFxText
namespace Go.Proofs.YtdmkiiggpelmaaaGreatDoor

/-- A line by its parts. -/
structure LineV where
  name : List UInt8
  labels : List (List UInt8 × List UInt8)
  value : Int
  time : Int
/-- May a text be a name, as long as it is? -/
def shortL (n : List UInt8) : Bool := !n.isEmpty && decide (n.length ≤ 64)
def namedL (n : List UInt8) : Bool := plainL n && shortL n
def valueL : List UInt8 := [118, 97, 108, 117, 101]
/-- What ended a word, as a number. -/
def stopI : Option UInt8 → Int
  | none => 0
  | some b => (b.toNat : Int)
/-- The next word, what stands behind it, what ended it; none: the form is wrong. -/
def wordP (st l : List UInt8) : Option (List UInt8 × List UInt8 × Int) :=
  match cutL st l with
  | none => none
  | some (w, r, y) => if stopI y = 0 ∧ st ≠ [] then none else some (w, r, stopI y)
def nameP (st l : List UInt8) : Option (List UInt8 × List UInt8 × Int) :=
  match wordP st l with
  | none => none
  | some (w, r, y) => if w = [] ∨ 64 < w.length then none else some (w, r, y)
abbrev Lab := List UInt8 × List UInt8
/-- Labels, one behind the other: how many more there may be. -/
def labelsP : Nat → List UInt8 → Int → Option (List Lab × List UInt8)
  | 0, l, y => if y = 44 then none else some ([], l)
  | k + 1, l, y =>
    if y = 44 then
      match nameP [61] l with
      | none => none
      | some (n, m, _) =>
        match nameP [44, 32] m with
        | none => none
        | some (v, t, z) => (labelsP k t z).map (fun x => ((n, v) :: x.1, x.2))
    else some ([], l)
/-- The number's text, the time's, behind the labels. -/
def fieldsP (l : List UInt8) : Option (List UInt8 × List UInt8) :=
  match wordP [61] l with
  | none => none
  | some (f, m, _) =>
    if f = valueL then
      match wordP [32] m with
      | none => none
      | some (n, t, _) =>
        match wordP [] t with
        | none => none
        | some (x, _, _) => some (n, x)
    else none
def numsP (n t : List UInt8) : Except Int (Int × Int) :=
  if (readF n).2 ≠ 0 then .error (readF n).2
  else if (wholeF t).2 ≠ 0 then .error (wholeF t).2
  else if (wholeF t).1 < 0 then .error 7
  else .ok ((readF n).1, (wholeF t).1)
def lineP (l : List UInt8) : Except Int LineV :=
  match nameP [44, 32] l with
  | none => .error 2
  | some (n, m, y) =>
    match labelsP 16 m y with
    | none => .error 2
    | some (ls, t) =>
      match fieldsP t with
      | none => .error 2
      | some (a, b) =>
        match numsP a b with
        | .error k => .error k
        | .ok x => .ok ⟨n, ls, x.1, x.2⟩
def parseP (l : List UInt8) : Except Int LineV := if 1024 < l.length then .error 3 else lineP l
def labelP (x : Lab) : List UInt8 := 44 :: (escL x.1 ++ 61 :: escL x.2)
/-- What is printed of a line that is right. -/
def printF (l : LineV) : List UInt8 := escL l.name ++ (l.labels.flatMap labelP ++ (32 :: (valueL ++ 61 :: (textF l.value ++ 32 :: Lib.decDigits l.time.toNat))))
def rightF (l : LineV) : Bool := namedL l.name && l.labels.all (fun x => namedL x.1 && namedL x.2) && decide (l.labels.length ≤ 16) && decide (0 ≤ l.time)

theorem esc_same : ∀ {l : List UInt8}, (∀ b ∈ l, esc4 b = false) → escL l = l
  | [], _ => rfl
  | b :: r, h => by
    have h1 := h b (by simp)
    have ih := esc_same (l := r) (fun c hc => h c (by simp [hc]))
    unfold escL
    rw [if_neg (by rw [h1]; decide), ih]
theorem digit_byte {b : UInt8} (h : isDig b = true) : esc4 b = false ∧ okB b = true := by
  simp only [isDig, Bool.and_eq_true, decide_eq_true_eq] at h
  constructor
  · simp only [esc4, Bool.or_eq_false_iff, beq_eq_false_iff_ne]
    refine ⟨⟨⟨?_, ?_⟩, ?_⟩, ?_⟩ <;> (rintro rfl; revert h; decide)
  · unfold okB
    rw [Bool.and_eq_true]
    exact ⟨by simp; omega, by rw [bne_iff_ne]; rintro rfl; revert h; decide⟩
theorem text_byte {n : Int} : ∀ b ∈ textF n, esc4 b = false ∧ okB b = true := by
  intro b hb
  rw [text_body] at hb
  unfold sgL bodyF tailF at hb
  rcases List.mem_append.1 hb with hb | hb
  · split at hb
    · obtain rfl : b = 45 := by simpa using hb
      decide
    · simp at hb
  · rcases List.mem_append.1 hb with hb | hb
    · exact digit_byte (dec_all _ b hb)
    · split at hb
      · simp at hb
      · rcases List.mem_cons.1 hb with rfl | hb
        · decide
        · exact digit_byte (tail_all _ b hb)
theorem text_esc (n : Int) : escL (textF n) = textF n := esc_same fun b hb => (text_byte b hb).1
theorem text_plain (n : Int) : plainL (textF n) = true := by
  simp only [plainL, List.all_eq_true]
  exact fun b hb => (text_byte b hb).2
theorem dec_esc (n : Nat) : escL (Lib.decDigits n) = Lib.decDigits n := esc_same fun b hb => (digit_byte (dec_all n b hb)).1
theorem dec_plain (n : Nat) : plainL (Lib.decDigits n) = true := by
  simp only [plainL, List.all_eq_true]
  exact fun b hb => (digit_byte (dec_all n b hb)).2
theorem stops_two : ∀ b, b ∈ ([44, 32] : List UInt8) → esc4 b = true := by
  intro b hb
  simp only [List.mem_cons, List.not_mem_nil, or_false] at hb
  rcases hb with rfl | rfl <;> decide
theorem stops_eq : ∀ b, b ∈ ([61] : List UInt8) → esc4 b = true := by
  intro b hb
  obtain rfl : b = 61 := by simpa using hb
  decide
theorem stops_sp : ∀ b, b ∈ ([32] : List UInt8) → esc4 b = true := by
  intro b hb
  obtain rfl : b = 32 := by simpa using hb
  decide
theorem cut_name {n : List UInt8} (h : plainL n = true) (x : UInt8) (hx : x ∈ ([44, 32] : List UInt8)) (t : List UInt8) : cutL [44, 32] (escL n ++ x :: t) = some (n, t, some x) := cut_esc_stop _ stops_two (by decide) x hx n t h
theorem cut_label {n : List UInt8} (h : plainL n = true) (t : List UInt8) : cutL [61] (escL n ++ 61 :: t) = some (n, t, some 61) := cut_esc_stop _ stops_eq (by decide) 61 (by simp) n t h
theorem cut_number (n : Int) (t : List UInt8) : cutL [32] (textF n ++ 32 :: t) = some (textF n, t, some 32) := by
  have := cut_esc_stop _ stops_sp (by decide) 32 (by simp) (textF n) t (text_plain n)
  rwa [text_esc] at this
theorem cut_time (n : Nat) : cutL [] (Lib.decDigits n) = some (Lib.decDigits n, [], none) := by
  have := cut_esc_end [] (by simp) (by simp) (Lib.decDigits n) (dec_plain n)
  rwa [dec_esc] at this
theorem cut_value (t : List UInt8) : cutL [61] (valueL ++ 61 :: t) = some (valueL, t, some 61) := by
  have := cut_esc_stop _ stops_eq (by decide) 61 (by simp) valueL t (by decide)
  exact this
theorem cut_len : ∀ (st l w r : List UInt8) (y : Option UInt8), cutL st l = some (w, r, y) → w.length + r.length ≤ l.length
  | st, [], w, r, y, h => by
    simp only [cutL, Option.some.injEq, Prod.mk.injEq] at h
    obtain ⟨rfl, rfl, rfl⟩ := h
    simp
  | st, [b], w, r, y, h => by
    rw [cutL_cons] at h
    split at h
    · split at h
      · simp only [Option.some.injEq, Prod.mk.injEq] at h; obtain ⟨rfl, rfl, rfl⟩ := h; simp
      · cases h
    · split at h
      · cases h
      · split at h
        · simp only [cutL, Option.map_some, Option.some.injEq, Prod.mk.injEq] at h; obtain ⟨rfl, rfl, rfl⟩ := h; simp
        · cases h
  | st, b :: c :: t, w, r, y, h => by
    rw [cutL_cons] at h
    split at h
    · split at h
      · simp only [Option.some.injEq, Prod.mk.injEq] at h; obtain ⟨rfl, rfl, rfl⟩ := h; simp
      · cases h
    · split at h
      · simp only at h
        split at h
        · cases hc : cutL st t with
          | none => rw [hc] at h; cases h
          | some x =>
            obtain ⟨w', r', y'⟩ := x
            rw [hc] at h
            simp only [Option.map_some, Option.some.injEq, Prod.mk.injEq] at h
            obtain ⟨rfl, rfl, rfl⟩ := h
            have := cut_len st t w' r' y' hc
            simp only [List.length_cons]; omega
        · cases h
      · split at h
        · cases hc : cutL st (c :: t) with
          | none => rw [hc] at h; cases h
          | some x =>
            obtain ⟨w', r', y'⟩ := x
            rw [hc] at h
            simp only [Option.map_some, Option.some.injEq, Prod.mk.injEq] at h
            obtain ⟨rfl, rfl, rfl⟩ := h
            have := cut_len st (c :: t) w' r' y' hc
            simp only [List.length_cons] at this ⊢; omega
        · cases h
theorem word_spec {st l w r : List UInt8} {y : Int} (h : wordP st l = some (w, r, y)) : ∃ z, cutL st l = some (w, r, z) ∧ stopI z = y ∧ (y ≠ 0 ∨ st = []) := by
  unfold wordP at h
  cases hc : cutL st l with
  | none => rw [hc] at h; cases h
  | some x =>
    obtain ⟨w', r', z⟩ := x
    rw [hc] at h
    simp only at h
    by_cases hw : stopI z = 0 ∧ st ≠ []
    · rw [if_pos hw] at h; cases h
    · rw [if_neg hw] at h
      simp only [Option.some.injEq, Prod.mk.injEq] at h
      obtain ⟨rfl, rfl, rfl⟩ := h
      refine ⟨z, rfl, rfl, ?_⟩
      by_cases h0 : stopI z = 0
      · exact .inr (Classical.byContradiction fun hs => hw ⟨h0, hs⟩)
      · exact .inl h0
theorem word_len {st l w r : List UInt8} {y : Int} (h : wordP st l = some (w, r, y)) : w.length + r.length ≤ l.length := by
  obtain ⟨z, hc, _, _⟩ := word_spec h
  exact cut_len _ _ _ _ _ hc
theorem name_spec {st l w r : List UInt8} {y : Int} (h : nameP st l = some (w, r, y)) : wordP st l = some (w, r, y) ∧ w ≠ [] ∧ w.length ≤ 64 := by
  unfold nameP at h
  cases hc : wordP st l with
  | none => rw [hc] at h; cases h
  | some x =>
    obtain ⟨w', r', z⟩ := x
    rw [hc] at h
    simp only at h
    by_cases hw : w' = [] ∨ 64 < w'.length
    · rw [if_pos hw] at h; cases h
    · rw [if_neg hw] at h
      simp only [Option.some.injEq, Prod.mk.injEq] at h
      obtain ⟨rfl, rfl, rfl⟩ := h
      exact ⟨rfl, fun e => hw (.inl e), Nat.le_of_not_lt fun e => hw (.inr e)⟩
theorem name_len {st l w r : List UInt8} {y : Int} (h : nameP st l = some (w, r, y)) : w.length + r.length ≤ l.length := word_len (name_spec h).1
theorem name_none {st l : List UInt8} (h : nameP st l = none) : wordP st l = none ∨ ∃ w r y, wordP st l = some (w, r, y) ∧ (w = [] ∨ (w ≠ [] ∧ 64 < w.length)) := by
  unfold nameP at h
  cases hc : wordP st l with
  | none => exact .inl rfl
  | some x =>
    obtain ⟨w', r', z⟩ := x
    rw [hc] at h
    simp only at h
    by_cases h0 : w' = []
    · exact .inr ⟨_, _, _, rfl, .inl h0⟩
    · by_cases hw : 64 < w'.length
      · exact .inr ⟨_, _, _, rfl, .inr ⟨h0, hw⟩⟩
      · rw [if_neg (by rintro (e | e); exact h0 e; exact hw e)] at h; cases h
theorem word_none {st l : List UInt8} (h : wordP st l = none) : cutL st l = none ∨ ∃ w r z, cutL st l = some (w, r, z) ∧ stopI z = 0 ∧ st ≠ [] := by
  unfold wordP at h
  cases hc : cutL st l with
  | none => exact .inl rfl
  | some x =>
    obtain ⟨w', r', z⟩ := x
    rw [hc] at h
    simp only at h
    by_cases hw : stopI z = 0 ∧ st ≠ []
    · exact .inr ⟨_, _, _, rfl, hw⟩
    · rw [if_neg hw] at h; cases h
theorem word_of {st l w r : List UInt8} {z : Option UInt8} (h : cutL st l = some (w, r, z)) (hz : stopI z ≠ 0 ∨ st = []) : wordP st l = some (w, r, stopI z) := by
  unfold wordP
  rw [h]
  exact if_neg fun hw => hz.elim (fun h => h hw.1) (fun h => hw.2 h)
theorem name_of {st l w r : List UInt8} {z : Option UInt8} (h : cutL st l = some (w, r, z)) (hw : shortL w = true) (hz : stopI z ≠ 0 := by decide) : nameP st l = some (w, r, stopI z) := by
  unfold shortL at hw
  simp only [Bool.and_eq_true, Bool.not_eq_true', List.isEmpty_eq_false_iff, decide_eq_true_eq] at hw
  unfold nameP
  rw [word_of h (.inl hz)]
  exact if_neg (by rintro (e | e); exact hw.1 e; omega)
theorem labels_len : ∀ (k : Nat) (l : List UInt8) (y : Int) (ls : List Lab) (t : List UInt8), labelsP k l y = some (ls, t) → t.length ≤ l.length
  | 0, l, y, ls, t, h => by
    unfold labelsP at h
    by_cases hy : y = 44
    · rw [if_pos hy] at h; cases h
    · rw [if_neg hy] at h; cases h; exact Nat.le_refl _
  | k + 1, l, y, ls, t, h => by
    unfold labelsP at h
    by_cases hy : y = 44
    · rw [if_pos hy] at h
      cases hn : nameP [61] l with
      | none => rw [hn] at h; cases h
      | some x =>
        obtain ⟨n, m, z⟩ := x
        rw [hn] at h
        simp only at h
        have h1 := name_len hn
        cases hv : nameP [44, 32] m with
        | none => rw [hv] at h; cases h
        | some x =>
          obtain ⟨v, t', z2⟩ := x
          rw [hv] at h
          simp only at h
          have h2 := name_len hv
          cases hl : labelsP k t' z2 with
          | none => rw [hl] at h; cases h
          | some x =>
            obtain ⟨ls', t2⟩ := x
            rw [hl] at h
            simp only [Option.map_some, Option.some.injEq, Prod.mk.injEq] at h
            obtain ⟨_, rfl⟩ := h
            have := labels_len k t' z2 ls' _ hl
            omega
    · rw [if_neg hy] at h; cases h; exact Nat.le_refl _
/-- What stands behind the labels. -/
def tailP (value : Int) (time : Nat) : List UInt8 := valueL ++ 61 :: (textF value ++ 32 :: Lib.decDigits time)
theorem field_tail (value : Int) (time : Nat) : fieldsP (tailP value time) = some (textF value, Lib.decDigits time) := by
  unfold fieldsP tailP
  rw [word_of (cut_value _) (.inl (by decide))]
  simp only [if_true]
  rw [word_of (cut_number _ _) (.inl (by decide))]
  simp only
  rw [word_of (cut_time _) (.inr rfl)]
theorem named_parts {n : List UInt8} (h : namedL n = true) : plainL n = true ∧ shortL n = true := by
  unfold namedL at h
  rwa [Bool.and_eq_true] at h
/-- Labels that were printed are told. -/
theorem labels_back : ∀ (k : Nat) (ls : List Lab) (t : List UInt8), ls ≠ [] → ls.length ≤ k → ls.all (fun x => namedL x.1 && namedL x.2) = true →
    labelsP k ((ls.flatMap labelP ++ 32 :: t).drop 1) 44 = some (ls, t)
  | _, [], _, h, _, _ => absurd rfl h
  | 0, x :: r, _, _, hk, _ => by simp at hk
  | k + 1, (n, v) :: r, t, _, hk, ha => by
    simp only [List.all_cons, Bool.and_eq_true] at ha
    obtain ⟨⟨hn, hv⟩, hr⟩ := ha
    obtain ⟨n1, n2⟩ := named_parts hn
    obtain ⟨v1, v2⟩ := named_parts hv
    have hd : (((n, v) :: r).flatMap labelP ++ 32 :: t).drop 1 = escL n ++ 61 :: (escL v ++ (r.flatMap labelP ++ 32 :: t)) := by simp [labelP]
    rw [hd, labelsP, if_pos rfl, name_of (cut_label n1 _) n2]
    simp only
    cases r with
    | nil =>
      simp only [List.flatMap_nil, List.nil_append]
      rw [name_of (cut_name v1 32 (by simp) _) v2]
      simp only
      cases k <;> simp [labelsP, stopI]
    | cons y r =>
      have ih := labels_back k (y :: r) t (by simp) (by simp at hk ⊢; omega) (by simpa using hr)
      have hy : (y :: r).flatMap labelP ++ 32 :: t = 44 :: ((y :: r).flatMap labelP ++ 32 :: t).drop 1 := by simp [labelP]
      rw [hy, name_of (cut_name v1 44 (by simp) _) v2]
      simp only [stopI]
      rw [show (((44 : UInt8).toNat : Nat) : Int) = 44 from rfl, ih]
      rfl
theorem whole_dec {t : Nat} (h : t ≤ 9223372036854775807) : wholeF (Lib.decDigits t) = ((t : Int), 0) := by
  have h1 := whole_of (s := []) (b := false) (.inl ⟨rfl, rfl⟩) (dec_all t) (dec_len t) (dec_19 (by omega))
  rw [List.nil_append, dec_val] at h1
  rw [h1, fit_of (by unfold most; simp; omega)]
  rfl
theorem nums_back {v : Int} (hv : In64 v) {t : Nat} (ht : t ≤ 9223372036854775807) : numsP (textF v) (Lib.decDigits t) = .ok (v, (t : Int)) := by
  unfold numsP
  rw [read_text hv, whole_dec ht]
  simp only [ne_eq, not_true_eq_false, if_false]
  rw [if_neg (by omega)]
/-- **What was printed is parsed as it was.** -/
theorem parse_print (l : LineV) (hr : rightF l = true) (hv : In64 l.value) (ht : l.time ≤ 9223372036854775807) (hl : (printF l).length ≤ 1024) : parseP (printF l) = .ok l := by
  obtain ⟨name, labels, value, time⟩ := l
  unfold rightF at hr
  simp only [Bool.and_eq_true, decide_eq_true_eq] at hr hv ht
  obtain ⟨⟨⟨hn, hla⟩, hlen⟩, ht0⟩ := hr
  obtain ⟨n1, n2⟩ := named_parts hn
  obtain ⟨t, rfl⟩ : ∃ t : Nat, time = (t : Int) := ⟨time.toNat, by omega⟩
  have htn : t ≤ 9223372036854775807 := by omega
  unfold parseP
  rw [if_neg (by omega)]
  have hp : printF ⟨name, labels, value, (t : Int)⟩ = escL name ++ (labels.flatMap labelP ++ (32 :: tailP value t)) := by
    unfold printF tailP
    simp
  rw [hp]
  unfold lineP
  cases labels with
  | nil =>
    simp only [List.flatMap_nil, List.nil_append]
    rw [name_of (cut_name n1 32 (by simp) _) n2]
    simp only [labelsP, stopI, show ((((32 : UInt8).toNat : Nat) : Int) = 44) = False by decide, if_false]
    rw [field_tail]
    simp only
    rw [nums_back hv htn]
  | cons x r =>
    have hy : (x :: r).flatMap labelP ++ (32 :: tailP value t) = 44 :: ((x :: r).flatMap labelP ++ 32 :: tailP value t).drop 1 := by simp [labelP]
    rw [hy, name_of (cut_name n1 44 (by simp) _) n2]
    simp only [stopI]
    rw [show (((44 : UInt8).toNat : Nat) : Int) = 44 from rfl, labels_back 16 (x :: r) _ (by simp) hlen hla]
    simp only
    rw [field_tail]
    simp only
    rw [nums_back hv htn]
end Go.Proofs.YtdmkiiggpelmaaaGreatDoor
