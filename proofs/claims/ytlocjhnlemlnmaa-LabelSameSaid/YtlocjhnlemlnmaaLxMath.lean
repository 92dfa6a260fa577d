/- Words of a line, as lists of bytes: what is cut, what is escaped, the lines of a batch. No model in this text. -/
namespace Go.Proofs.Ytlocjhnlemlnmaa

/-- One of the four that are escaped. -/
def esc4 (b : UInt8) : Bool := b == 44 || b == 61 || b == 32 || b == 92
/-- A byte that is read. -/
def okB (b : UInt8) : Bool := decide (32 ≤ b.toNat) && b != 127
def plainL (l : List UInt8) : Bool := l.all okB
def escL : List UInt8 → List UInt8
  | [] => []
  | b :: r => if esc4 b then 92 :: b :: escL r else b :: escL r
/-- The word, the rest, what ended it; none: the form is wrong. -/
def cutL (st : List UInt8) : List UInt8 → Option (List UInt8 × List UInt8 × Option UInt8)
  | [] => some ([], [], none)
  | b :: r =>
    if st.contains b then (if okB b then some ([], r, some b) else none)
    else if b = 92 then match r with
      | [] => none
      | c :: r' => if esc4 c then (cutL st r').map (fun x => (c :: x.1, x.2)) else none
    else if okB b then (cutL st r).map (fun x => (b :: x.1, x.2)) else none

theorem cutL_cons (st : List UInt8) (b : UInt8) (r : List UInt8) : cutL st (b :: r) = if st.contains b then (if okB b then some ([], r, some b) else none)
    else if b = 92 then match r with
      | [] => none
      | c :: r' => if esc4 c then (cutL st r').map (fun x => (c :: x.1, x.2)) else none
    else if okB b then (cutL st r).map (fun x => (b :: x.1, x.2)) else none := by rw [cutL.eq_def]
theorem esc4_ok {b : UInt8} (h : esc4 b = true) : okB b = true := by
  simp only [esc4, Bool.or_eq_true, beq_iff_eq] at h
  rcases h with ((rfl | rfl) | rfl) | rfl <;> decide
theorem escL_len (l : List UInt8) : l.length ≤ (escL l).length := by
  induction l with
  | nil => simp [escL]
  | cons b r ih => unfold escL; split <;> simp <;> omega
theorem escL_le (l : List UInt8) : (escL l).length ≤ 2 * l.length := by
  induction l with
  | nil => simp [escL]
  | cons b r ih => unfold escL; split <;> simp <;> omega
theorem escL_append (a b : List UInt8) : escL (a ++ b) = escL a ++ escL b := by
  induction a with
  | nil => simp [escL]
  | cons x r ih => simp only [List.cons_append, escL]; split <;> simp [ih]
theorem plainL_append (a b : List UInt8) : plainL (a ++ b) = (plainL a && plainL b) := by simp [plainL]
theorem plainL_esc (l : List UInt8) : plainL (escL l) = plainL l := by
  induction l with
  | nil => rfl
  | cons b r ih =>
    unfold escL
    split
    · rename_i h
      simp only [plainL, List.all_cons] at ih ⊢
      rw [ih, esc4_ok h]
      simp [show okB 92 = true by decide]
    · simp only [plainL, List.all_cons] at ih ⊢
      rw [ih]
theorem not92 {b : UInt8} (h : esc4 b = false) : b ≠ 92 := by rintro rfl; simp [esc4] at h
/-- An escaped word is gone over, whatever stands behind it. -/
theorem cut_esc (st : List UInt8) (hst : ∀ b, b ∈ st → esc4 b = true) (h92 : (92 : UInt8) ∉ st) (t : List UInt8) : ∀ s : List UInt8, plainL s = true → cutL st (escL s ++ t) = (cutL st t).map (fun x => (s ++ x.1, x.2))
  | [], _ => by simp [escL]
  | b :: r, h => by
    simp only [plainL, List.all_cons, Bool.and_eq_true] at h
    have ih := cut_esc st hst h92 t r h.2
    unfold escL
    by_cases he : esc4 b = true
    · rw [if_pos he]
      simp only [List.cons_append]
      rw [cutL_cons, if_neg (by simpa using h92), if_pos rfl]
      simp only [he, if_true]
      rw [ih]
      cases cutL st t <;> simp
    · rw [if_neg he]
      simp only [List.cons_append]
      have hb : b ∉ st := fun hb => he (hst b hb)
      rw [cutL_cons, if_neg (by simpa using hb), if_neg (not92 (by simpa using he)), if_pos h.1, ih]
      cases cutL st t <;> simp
theorem cut_stop (st : List UInt8) (x : UInt8) (hx : x ∈ st) (hok : okB x = true) (t : List UInt8) : cutL st (x :: t) = some ([], t, some x) := by
  rw [cutL_cons, if_pos (by simpa using hx), if_pos hok]
theorem cut_esc_stop (st : List UInt8) (hst : ∀ b, b ∈ st → esc4 b = true) (h92 : (92 : UInt8) ∉ st) (x : UInt8) (hx : x ∈ st) (s t : List UInt8) (h : plainL s = true) : cutL st (escL s ++ x :: t) = some (s, t, some x) := by
  rw [cut_esc st hst h92 _ s h, cut_stop st x hx (esc4_ok (hst x hx))]
  simp
theorem cut_esc_end (st : List UInt8) (hst : ∀ b, b ∈ st → esc4 b = true) (h92 : (92 : UInt8) ∉ st) (s : List UInt8) (h : plainL s = true) : cutL st (escL s) = some (s, [], none) := by
  have := cut_esc st hst h92 [] s h
  simpa [cutL] using this
/-- What is wrong, behind a word that is escaped. -/
theorem cut_bad (s t : List UInt8) (h : plainL s = true) (ht : cutL [] t = none) : cutL [] (escL s ++ t) = none := by
  rw [cut_esc [] (by simp) (by simp) t s h, ht]; rfl
theorem bad_byte (b : UInt8) (hb : okB b = false) (t : List UInt8) : cutL [] (b :: t) = none := by
  have h9 : b ≠ 92 := by rintro rfl; simp [okB] at hb
  rw [cutL_cons, if_neg (by simp), if_neg h9, if_neg (by simp [hb])]
theorem bad_esc (c : UInt8) (hc : esc4 c = false) (t : List UInt8) : cutL [] (92 :: c :: t) = none := by
  rw [cutL_cons, if_neg (by simp), if_pos rfl]
  simp [hc]
theorem bad_end : cutL [] [92] = none := by
  rw [cutL_cons, if_neg (by simp), if_pos rfl]
/-- A word alone: what is plain of a text. -/
def keepL (l : List UInt8) : List UInt8 := l.filter okB
theorem keepL_plain (l : List UInt8) : plainL (keepL l) = true := by simp [plainL, keepL]

/-- The first line, and what stands behind it (none: the text ends here). -/
def brk : List UInt8 → List UInt8 × Option (List UInt8)
  | [] => ([], none)
  | b :: r => if b = 10 then ([], some r) else (b :: (brk r).1, (brk r).2)
theorem brk_len : ∀ (l r : List UInt8), (brk l).2 = some r → r.length < l.length
  | [], r, h => by simp [brk] at h
  | b :: l, r, h => by
    unfold brk at h
    split at h
    · simp only [Option.some.injEq] at h; subst h; simp
    · have := brk_len l r h; simp; omega
/-- A line without the carriage return at its end. -/
def trimR (l : List UInt8) : List UInt8 := if l.getLast? = some 13 then l.dropLast else l
def keptL (l : List UInt8) : Bool := !l.isEmpty && l.head? != some 35
def oneL (l : List UInt8) : List (List UInt8) := if keptL (trimR l) then [trimR l] else []
/-- The lines that are told. -/
def linesL (l : List UInt8) : List (List UInt8) :=
  oneL (brk l).1 ++ (match _h : (brk l).2 with
    | none => []
    | some r => linesL r)
termination_by l.length
decreasing_by exact brk_len l r (by assumption)
theorem brk_cons (s t : List UInt8) (h : (10 : UInt8) ∉ s) : brk (s ++ 10 :: t) = (s, some t) := by
  induction s with
  | nil => simp [brk]
  | cons b r ih =>
    simp only [List.mem_cons, not_or] at h
    simp only [List.cons_append, brk]
    rw [if_neg (fun e => h.1 e.symm), ih h.2]
theorem brk_end (s : List UInt8) (h : (10 : UInt8) ∉ s) : brk s = (s, none) := by
  induction s with
  | nil => simp [brk]
  | cons b r ih =>
    simp only [List.mem_cons, not_or] at h
    simp only [brk]
    rw [if_neg (fun e => h.1 e.symm), ih h.2]
theorem lines_cons (s t : List UInt8) (h : (10 : UInt8) ∉ s) : linesL (s ++ 10 :: t) = oneL s ++ linesL t := by
  rw [linesL]
  have hb := brk_cons s t h
  split
  · rename_i h1; rw [hb] at h1; simp at h1
  · rename_i r h1; rw [hb] at h1; simp only [Option.some.injEq] at h1; subst h1; rw [hb]
theorem lines_end (s : List UInt8) (h : (10 : UInt8) ∉ s) : linesL s = oneL s := by
  rw [linesL]
  have hb := brk_end s h
  split
  · rw [hb]; simp
  · rename_i r h1; rw [hb] at h1; simp at h1
theorem lines_nil : linesL [] = [] := by rw [lines_end [] (by simp)]; rfl
theorem plain_no {s : List UInt8} (h : plainL s = true) (b : UInt8) (hb : okB b = false) : b ∉ s := by
  intro hm
  simp only [plainL, List.all_eq_true] at h
  rw [h b hm] at hb; simp at hb
theorem trimR_plain {s : List UInt8} (h : plainL s = true) : trimR s = s := by
  unfold trimR
  rw [if_neg]
  intro e
  exact plain_no h 13 (by decide) (List.mem_of_getLast? e)
theorem trimR_ret (s : List UInt8) : trimR (s ++ [13]) = s := by
  unfold trimR
  rw [if_pos (by simp)]
  simp
theorem one_plain {s : List UInt8} (h : plainL s = true) : oneL s = if keptL s then [s] else [] := by unfold oneL; rw [trimR_plain h]
theorem one_ret (s : List UInt8) : oneL (s ++ [13]) = if keptL s then [s] else [] := by unfold oneL; rw [trimR_ret]
/-- One plain line more ahead. -/
theorem lines_line (s t : List UInt8) (h : plainL s = true) (ret : Bool) : linesL (s ++ ((if ret then [13] else []) ++ 10 :: t)) = (if keptL s then [s] else []) ++ linesL t := by
  cases ret with
  | false =>
    simp only [Bool.false_eq_true, if_false, List.nil_append]
    rw [lines_cons s t (plain_no h 10 (by decide)), one_plain h]
  | true =>
    simp only [if_true]
    rw [show s ++ ([13] ++ 10 :: t) = (s ++ [13]) ++ 10 :: t by simp, lines_cons (s ++ [13]) t (by
      simp only [List.mem_append, List.mem_singleton, not_or]
      exact ⟨plain_no h 10 (by decide), by decide⟩), one_ret]
end Go.Proofs.Ytlocjhnlemlnmaa
