/- Readers of lines: a whole line. -/
import Derived.Test.YtdmkiiggpelmaaaGreatDoorLnC
namespace Go.Proofs.YtdmkiiggpelmaaaGreatDoor.Lx
open Go Go.RowKit

def LineEnd (B : Nat) : Except Int LineV → World → Ending → World → Prop
  | .error k, w, e, w' => e = PE k ∧ Mov (fun j => j = B) w w'
  | .ok L, w, e, w' => ∃ v, e = .returned (.agg #[.string (tx L.name), v, .int .i64 L.value, .int .i64 L.time]) ∧ OwnL w.heap.size v L.labels w' ∧ Mov (fun j => j = B) w w'
theorem read_ok (l : List UInt8) (hl : l.length ≤ 1024) (w : World) :
    Calls Tryz.prog 34 #[.string (tx l)] w fun e w' => e = .returned (.tuple #[.int .i64 (readF l).1, .int .i64 (readF l).2]) ∧ Below w.heap.size w w' := readL_any l (by unfold maxLen; omega) w
theorem whole_ok (l : List UInt8) (hl : l.length ≤ 1024) (w : World) :
    Calls Tryz.prog 35 #[.string (tx l)] w fun e w' => e = .returned (.tuple #[.int .i64 (wholeF l).1, .int .i64 (wholeF l).2]) ∧ Below w.heap.size w w' := wholeL_any l (by unfold maxLen; omega) w
/-- The cells of a line. -/
abbrev lineC (n : ByteArray) (v : Value) (a b : Int) : Array Value := #[.string n, v, .int .i64 a, .int .i64 b]

/-- A line that is being read: what the reader holds, the line so far, the place of the answer. -/
structure Ln (B : Nat) (w0 : World) (t : List UInt8) (y : Int) (n : ByteArray) (v : Value) (a b : Int) (ls : List Lab) (w : World) : Prop where
  lt : B < w0.heap.size
  rd : LrAt B t y w
  vr : CellsAt (w0.heap.size + 1) (lineC n v a b) w
  res : CellsAt w0.heap.size (lineC ⟨#[]⟩ (.slice none 0 0) 0 0) w
  row : OwnL (w0.heap.size + 2) v ls w
  mov : Mov (fun j => j = B) w0 w
section
variable {B : Nat} {w0 w w' : World} {t t' : List UInt8} {y y' : Int} {n n' : ByteArray} {v v' : Value} {a b a' b' : Int} {ls ls' : List Lab}
theorem Ln.next (h : Ln B w0 t y n v a b ls w) (hR : LrAt B t' y' w') (hM : Mov (fun j => j = B) w w') : Ln B w0 t' y' n v a b ls w' :=
  ⟨h.lt, hR, cells_mov h.vr hM (fun e => by have := h.lt; omega), cells_mov h.res hM (fun e => by have := h.lt; omega), h.row.mov hM (fun g hg e => by have := (h.row.lt hg).1; have := h.lt; omega), h.mov.trans hM (fun _ _ e => e)⟩
theorem Ln.below (h : Ln B w0 t y n v a b ls w) (hB : Below w.heap.size w w') : Ln B w0 t y n v a b ls w' :=
  ⟨h.lt, CellsAt.below h.rd hB, h.vr.below hB, h.res.below hB, h.row.below hB, h.mov.trans (Mov.ofB (S := fun j => j = B) hB) (fun _ _ e => e)⟩
theorem Ln.set (h : Ln B w0 t y n v a b ls w) (i : Nat) (x : Value) (hO : OwnL (w0.heap.size + 2) v' ls' w) (hc : CellsAt (w0.heap.size + 1) (lineC n' v' a' b') (w.setCell ⟨w0.heap.size + 1, i, none⟩ x)) :
    Ln B w0 t y n' v' a' b' ls' (w.setCell ⟨w0.heap.size + 1, i, none⟩ x) :=
  ⟨h.lt, CellsAt.other h.rd _ _ (by have := h.lt; simp; omega), hc, h.res.other _ _ (by simp),
    hO.mov (Mov.set (S := fun j => j = w0.heap.size + 1) (Mov.refl _ _) rfl i x) (fun g hg e => by have := (hO.lt hg).1; omega), h.mov.setNew (by omega) i x⟩
theorem Ln.setN (h : Ln B w0 t y n v a b ls w) (n' : ByteArray) : Ln B w0 t y n' v a b ls (w.setCell ⟨w0.heap.size + 1, 0, none⟩ (.string n')) := h.set 0 _ h.row (h.vr.set 0 (.string n') (by simp))
theorem Ln.setV (h : Ln B w0 t y n v a b ls w) (hO : OwnL (w0.heap.size + 2) v' ls' w) : Ln B w0 t y n v' a b ls' (w.setCell ⟨w0.heap.size + 1, 1, none⟩ v') := h.set 1 _ hO (h.vr.set 1 v' (by simp))
theorem Ln.setA (h : Ln B w0 t y n v a b ls w) (a' : Int) : Ln B w0 t y n v a' b ls (w.setCell ⟨w0.heap.size + 1, 2, none⟩ (.int .i64 a')) := h.set 2 _ h.row (h.vr.set 2 (.int .i64 a') (by simp))
theorem Ln.setB (h : Ln B w0 t y n v a b ls w) (b' : Int) : Ln B w0 t y n v a b' ls (w.setCell ⟨w0.heap.size + 1, 3, none⟩ (.int .i64 b')) := h.set 3 _ h.row (h.vr.set 3 (.int .i64 b') (by simp))
end
theorem ln_new {B : Nat} {l : List UInt8} {y : Int} {w : World} (hR : LrAt B l y w) :
    Ln B w l y ⟨#[]⟩ (.slice none 0 0) 0 0 [] ((w.alloc (.cells (lineC ⟨#[]⟩ (.slice none 0 0) 0 0) 24)).alloc (.cells (lineC ⟨#[]⟩ (.slice none 0 0) 0 0) 24)) :=
  ⟨hR.lt, CellsAt.past (CellsAt.past hR _) _, CellsAt.newAt _ _ _ _ (by simp), (CellsAt.new _ _ w).past _, OwnL.nil _ _, ((Mov.refl _ _).alloc _).alloc _⟩

theorem lineP_a {l : List UInt8} (h : nameP [44, 32] l = none) : lineP l = .error 2 := by unfold lineP; rw [h]
theorem lineP_b {l n m : List UInt8} {y : Int} (h : nameP [44, 32] l = some (n, m, y)) (h2 : labelsP 16 m y = none) : lineP l = .error 2 := by unfold lineP; rw [h]; simp only [h2]
theorem lineP_c {l n m t : List UInt8} {y : Int} {ls : List Lab} (h : nameP [44, 32] l = some (n, m, y)) (h2 : labelsP 16 m y = some (ls, t)) (h3 : fieldsP t = none) : lineP l = .error 2 := by unfold lineP; rw [h]; simp only [h2, h3]
theorem lineP_d {l n m t a b : List UInt8} {y : Int} {ls : List Lab} (h : nameP [44, 32] l = some (n, m, y)) (h2 : labelsP 16 m y = some (ls, t)) (h3 : fieldsP t = some (a, b)) :
    lineP l = match numsP a b with | .error k => .error k | .ok x => .ok ⟨n, ls, x.1, x.2⟩ := by unfold lineP; rw [h]; simp only [h2, h3]; cases numsP a b <;> rfl
theorem fields_a {t : List UInt8} (h : wordP [61] t = none) : fieldsP t = none := by unfold fieldsP; rw [h]
theorem fields_b {t f m : List UInt8} {y : Int} (h : wordP [61] t = some (f, m, y)) (hf : f ≠ valueL) : fieldsP t = none := by unfold fieldsP; rw [h]; simp only; rw [if_neg hf]
theorem fields_c {t m : List UInt8} {y : Int} (h : wordP [61] t = some (valueL, m, y)) (h2 : wordP [32] m = none) : fieldsP t = none := by unfold fieldsP; rw [h]; simp only [if_true, h2]
theorem fields_d {t m a s : List UInt8} {y z : Int} (h : wordP [61] t = some (valueL, m, y)) (h2 : wordP [32] m = some (a, s, z)) (h3 : wordP [] s = none) : fieldsP t = none := by unfold fieldsP; rw [h]; simp only [if_true, h2, h3]
theorem fields_e {t m a s b r : List UInt8} {y z x : Int} (h : wordP [61] t = some (valueL, m, y)) (h2 : wordP [32] m = some (a, s, z)) (h3 : wordP [] s = some (b, r, x)) : fieldsP t = some (a, b) := by unfold fieldsP; rw [h]; simp only [if_true, h2, h3]

theorem nums_a {a b : List UInt8} (h : (readF a).2 ≠ 0) : numsP a b = .error (readF a).2 := by unfold numsP; rw [if_pos h]
theorem nums_b {a b : List UInt8} (h : (readF a).2 = 0) (h2 : (wholeF b).2 ≠ 0) : numsP a b = .error (wholeF b).2 := by unfold numsP; rw [if_neg (by simp [h]), if_pos h2]
theorem nums_c {a b : List UInt8} (h : (readF a).2 = 0) (h2 : (wholeF b).2 = 0) (h3 : (wholeF b).1 < 0) : numsP a b = .error 7 := by unfold numsP; rw [if_neg (by simp [h]), if_neg (by simp [h2]), if_pos h3]
theorem nums_d {a b : List UInt8} (h : (readF a).2 = 0) (h2 : (wholeF b).2 = 0) (h3 : ¬ (wholeF b).1 < 0) : numsP a b = .ok ((readF a).1, (wholeF b).1) := by unfold numsP; rw [if_neg (by simp [h]), if_neg (by simp [h2]), if_neg h3]

set_option maxRecDepth 100000 in
set_option maxHeartbeats 8000000 in
theorem line_any (B : Nat) (l : List UInt8) (hl : l.length ≤ 1024) (w : World) (hR : LrAt B l 0 w) :
    Calls Tryz.prog 20 #[.pointer (some ⟨B, 0, none⟩)] w (LineEnd B (lineP l) w) := by
  obtain ⟨R, hres⟩ : ∃ R, lineP l = R := ⟨_, rfl⟩
  rw [hres]
  have HRES := Lib.hid hres.symm
  have HL := Lib.hid (ln_new hR)
  clear hres hR
  go_enter Tryz.func20, Tryz.ntmps20
  go_wp2_with fail
  cases hn : nameP [44, 32] l with
  | none =>
    obtain rfl : R = .error 2 := HRES.out.trans (lineP_a hn)
    refine (name_no B l 0 ⟨#[44, 32]⟩ (by decide) hl hn _ HL.out.rd).mono ?_
    rintro e w1 ⟨rfl, hM1⟩
    clear hn HRES
    go_wp2
    exact ⟨rfl, rfl, HL.out.mov.trans hM1 (fun _ _ h => h)⟩
  | some x =>
  obtain ⟨n, m, y⟩ := x
  have hm : m.length ≤ 1024 := by have := name_len hn; omega
  refine (name_yes B l 0 ⟨#[44, 32]⟩ (by decide) hl hn _ HL.out.rd).mono ?_
  rintro e w1 ⟨rfl, hR1, hM1⟩
  have HL1 := Lib.hid (HL.out.next hR1 hM1)
  have HN := Lib.hid hn
  clear hn hR1 hM1 HL
  have k0 := HL1.out.vr.cell 0 _ rfl
  have f0 := HL1.out.vr.fro 0 _ rfl
  go_wp2_with fail
  have HL2 := Lib.hid (HL1.out.setN (tx n))
  clear k0 f0 HL1
  refine (labels_any B m y hm _ HL2.out.rd).mono ?_
  rintro e w2 hE
  cases hb : labelsP 16 m y with
  | none =>
    rw [hb] at hE
    obtain ⟨rfl, hM2⟩ := hE
    obtain rfl : R = .error 2 := HRES.out.trans (lineP_b HN.out hb)
    clear hb HRES
    go_wp2
    exact ⟨rfl, rfl, HL2.out.mov.trans hM2 (fun _ _ h => h)⟩
  | some x =>
  obtain ⟨ls, t⟩ := x
  rw [hb] at hE
  obtain ⟨v, z, rfl, hO2, hR2, hM2⟩ := hE
  obtain ⟨p, cap, rfl⟩ := hO2.len
  have HL3 := Lib.hid (HL2.out.next hR2 hM2)
  have HO3 := Lib.hid (hO2.sub (N := w.heap.size + 2) (by have := HL2.out.vr.lt; omega))
  have ht : t.length ≤ 1024 := by have := labels_len _ _ _ _ _ hb; omega
  have HB := Lib.hid hb
  clear hb hO2 hR2 hM2 HL2
  have k0 := HL3.out.vr.cell 1 _ rfl
  have f0 := HL3.out.vr.fro 1 _ rfl
  go_wp2_with fail
  have HL4 := Lib.hid (HL3.out.setV HO3.out)
  clear k0 f0 HL3 HO3
  cases hw : wordP [61] t with
  | none =>
    obtain rfl : R = .error 2 := HRES.out.trans (lineP_c HN.out HB.out (fields_a hw))
    refine (word_no B t z ⟨#[61]⟩ (by decide) ht hw _ HL4.out.rd).mono ?_
    rintro e w3 ⟨rfl, hB3⟩
    clear hw HRES
    go_wp2
    exact ⟨rfl, rfl, HL4.out.mov.trans (Mov.ofB (S := fun j => j = B) hB3) (fun _ _ h => h)⟩
  | some x =>
  obtain ⟨f, m2, y2⟩ := x
  have hm2 : m2.length ≤ 1024 := by have := word_len hw; omega
  refine (word_yes B t z ⟨#[61]⟩ (by decide) ht hw _ HL4.out.rd).mono ?_
  rintro e w3 ⟨rfl, hR3, hM3⟩
  have HL5 := Lib.hid (HL4.out.next hR3 hM3)
  clear hR3 hM3 HL4
  by_cases hf : f = valueL
  rotate_left
  · obtain rfl : R = .error 2 := HRES.out.trans (lineP_c HN.out HB.out (fields_b hw hf))
    have ht1 : (!(tx f).toList == [118, 97, 108, 117, 101]) = true := by
      rw [Lib.toList_data, list_tx]
      simp only [Bool.not_eq_true', beq_eq_false_iff_ne]
      exact hf
    clear hw HRES hf
    generalize tx f = F at ht1
    go_wp2
    exact ⟨rfl, rfl, HL5.out.mov⟩
  have ht1 : (!(tx f).toList == [118, 97, 108, 117, 101]) = false := by
    rw [Lib.toList_data, list_tx, hf]
    decide
  rw [hf] at hw
  have HW := Lib.hid hw
  clear hw hf
  generalize tx f = F at ht1
  go_wp2_with fail
  clear ht1
  cases hx : wordP [32] m2 with
  | none =>
    obtain rfl : R = .error 2 := HRES.out.trans (lineP_c HN.out HB.out (fields_c HW.out hx))
    refine (word_no B m2 y2 ⟨#[32]⟩ (by decide) hm2 hx _ HL5.out.rd).mono ?_
    rintro e w4 ⟨rfl, hB4⟩
    clear hx HRES
    go_wp2
    exact ⟨rfl, rfl, HL5.out.mov.trans (Mov.ofB (S := fun j => j = B) hB4) (fun _ _ h => h)⟩
  | some x =>
  obtain ⟨a, s, y3⟩ := x
  have hs : s.length ≤ 1024 := by have := word_len hx; omega
  have ha : a.length ≤ 1024 := by have := word_len hx; omega
  refine (word_yes B m2 y2 ⟨#[32]⟩ (by decide) hm2 hx _ HL5.out.rd).mono ?_
  rintro e w4 ⟨rfl, hR4, hM4⟩
  have HL6 := Lib.hid (HL5.out.next hR4 hM4)
  have HX := Lib.hid hx
  clear hR4 hM4 HL5 hx
  go_wp2_with fail
  cases hu : wordP [] s with
  | none =>
    obtain rfl : R = .error 2 := HRES.out.trans (lineP_c HN.out HB.out (fields_d HW.out HX.out hu))
    refine (word_no B s y3 ⟨#[]⟩ (by decide) hs hu _ HL6.out.rd).mono ?_
    rintro e w5 ⟨rfl, hB5⟩
    clear hu HRES
    go_wp2
    exact ⟨rfl, rfl, HL6.out.mov.trans (Mov.ofB (S := fun j => j = B) hB5) (fun _ _ h => h)⟩
  | some x =>
  obtain ⟨b, r, y4⟩ := x
  have hb : b.length ≤ 1024 := by have := word_len hu; omega
  refine (word_yes B s y3 ⟨#[]⟩ (by decide) hs hu _ HL6.out.rd).mono ?_
  rintro e w5 ⟨rfl, hR5, hM5⟩
  have HL7 := Lib.hid (HL6.out.next hR5 hM5)
  have HRES2 : Hid (R = match numsP a b with | .error k => .error k | .ok x => .ok ⟨n, ls, x.1, x.2⟩) := Lib.hid (HRES.out.trans (lineP_d HN.out HB.out (fields_e HW.out HX.out hu)))
  clear hR5 hM5 HL6 hu HX HW HN HB HRES
  go_wp2_with fail
  have h1 := read_ok a ha
  by_cases he : (readF a).2 = 0
  rotate_left
  · have hr := HRES2.out
    rw [nums_a he] at hr
    generalize (readF a).1 = q1 at h1
    generalize (readF a).2 = q2 at h1 he hr
    obtain rfl : R = .error q2 := hr
    clear HRES2
    have hsu := sure_no q1 q2 he
    refine (h1 _).mono ?_
    rintro e w6 ⟨rfl, hB6⟩
    have HL8 := Lib.hid (HL7.out.below hB6)
    go_wp2_with fail
    refine (hsu _).mono ?_
    rintro e w7 ⟨rfl, rfl⟩
    clear he
    go_wp2
    exact ⟨rfl, rfl, HL8.out.mov⟩
  obtain ⟨q1, hq1⟩ : ∃ q, (readF a).1 = q := ⟨_, rfl⟩
  rw [he, hq1] at h1
  have HE1 := Lib.hid he
  have HQ1 := Lib.hid hq1
  clear he hq1
  refine (h1 _).mono ?_
  rintro e w6 ⟨rfl, hB6⟩
  have HL8 := Lib.hid (HL7.out.below hB6)
  clear hB6 HL7 h1
  go_wp2_with fail
  refine (sure_yes q1 _).mono ?_
  rintro e w7 ⟨rfl, rfl⟩
  have k0 := HL8.out.vr.cell 2 _ rfl
  have f0 := HL8.out.vr.fro 2 _ rfl
  go_wp2_with fail
  have HL9 := Lib.hid (HL8.out.setA q1)
  clear k0 f0 HL8
  have h2 := whole_ok b hb
  by_cases he : (wholeF b).2 = 0
  rotate_left
  · have hr := HRES2.out
    rw [nums_b HE1.out he] at hr
    generalize (wholeF b).1 = q3 at h2
    generalize (wholeF b).2 = q2 at h2 he hr
    obtain rfl : R = .error q2 := hr
    clear HRES2
    have hsu := sure_no q3 q2 he
    refine (h2 _).mono ?_
    rintro e w8 ⟨rfl, hB8⟩
    have HL10 := Lib.hid (HL9.out.below hB8)
    go_wp2_with fail
    refine (hsu _).mono ?_
    rintro e w9 ⟨rfl, rfl⟩
    clear he
    go_wp2
    exact ⟨rfl, rfl, HL10.out.mov⟩
  obtain ⟨q2, hq2⟩ : ∃ q, (wholeF b).1 = q := ⟨_, rfl⟩
  rw [he, hq2] at h2
  have HE2 := Lib.hid he
  have HQ2 := Lib.hid hq2
  clear he hq2
  refine (h2 _).mono ?_
  rintro e w8 ⟨rfl, hB8⟩
  have HL10 := Lib.hid (HL9.out.below hB8)
  clear hB8 HL9 h2
  go_wp2_with fail
  refine (sure_yes q2 _).mono ?_
  rintro e w9 ⟨rfl, rfl⟩
  have k0 := HL10.out.vr.cell 3 _ rfl
  have f0 := HL10.out.vr.fro 3 _ rfl
  have HL11 := Lib.hid (HL10.out.setB q2)
  have g0 := HL11.out.vr.cell 0 _ rfl
  have g1 := HL11.out.vr.cell 1 _ rfl
  have g2 := HL11.out.vr.cell 2 _ rfl
  have g3 := HL11.out.vr.cell 3 _ rfl
  by_cases h0 : q2 < 0
  · obtain rfl : R = .error 7 := by rw [HRES2.out, nums_c HE1.out HE2.out (by rw [HQ2.out]; exact h0)]
    clear HRES2
    go_wp2
    exact ⟨rfl, rfl, HL11.out.mov⟩
  · have h0 : 0 ≤ q2 := by omega
    obtain rfl : R = .ok ⟨n, ls, q1, q2⟩ := by rw [HRES2.out, nums_d HE1.out HE2.out (by rw [HQ2.out]; omega), HQ1.out, HQ2.out]
    clear HRES2
    have r0 := HL11.out.res.cell 0 _ rfl
    have r1 := HL11.out.res.cell 1 _ rfl
    have r2 := HL11.out.res.cell 2 _ rfl
    have r3 := HL11.out.res.cell 3 _ rfl
    have z0 := HL11.out.res.fro 0 _ rfl
    have z1 := HL11.out.res.fro 1 _ rfl
    have z2 := HL11.out.res.fro 2 _ rfl
    have z3 := HL11.out.res.fro 3 _ rfl
    go_wp2
    have hrow := HL11.out.row
    have hmov := HL11.out.mov
    refine bodyPost_ret (v := .agg #[.string (tx n), .slice p ls.length cap, .int .i64 q1, .int .i64 q2]) (by simp [results, Tryz.results20, go_sem, r0, r1, r2, r3]) rfl ⟨_, rfl, ?_, ?_⟩
    · refine (hrow.sub (by omega)).mov (Mov.set (S := fun j => j = w.heap.size) (Mov.set (S := fun j => j = w.heap.size) (Mov.set (S := fun j => j = w.heap.size) (Mov.set (S := fun j => j = w.heap.size) (Mov.refl _ _) rfl 0 _) rfl 1 _) rfl 2 _) rfl 3 _) (fun g hg e => ?_)
      have := (hrow.lt hg).1
      omega
    · exact (((hmov.setNew (Nat.le_refl _) 0 _).setNew (Nat.le_refl _) 1 _).setNew (Nat.le_refl _) 2 _).setNew (Nat.le_refl _) 3 _
end Go.Proofs.YtdmkiiggpelmaaaGreatDoor.Lx
