/- GateOpens walked. -/
import Derived.Test.YtmlmahkddmegiaaGtC
namespace Go.Proofs.Ytmlmahkddmegiaa
open Go Go.RowKit

attribute [local go_sem] gate_guard gate_eql field0 field1
set_option maxRecDepth 100000 in
set_option maxHeartbeats 8000000 in
theorem opens_true (l h n M : Int) (hM : min l h = M) (hM0 : 0 ≤ M) (hM1 : M ≤ 65535) (hl0 : 0 ≤ l) (hl1 : l ≤ 65535) (hh0 : 0 ≤ h) (hh1 : h ≤ 65535) (hn : M < n) (w : World) :
    Calls Try.prog 6 #[.int .u16 l, .int .u16 h, .int .u64 n] w fun e w' => e = .returned (.bool true) ∧ Below w.heap.size w w' := by
  have h1 := fun W => gnew l h W
  rw [hM] at h1
  have h2 := fun W => gsee false M h h W
  rw [decide_eq_true (Int.le_refl h), Bool.false_or] at h2
  have h3 := fun W => gturn true M h M W
  rw [decide_eq_false (by omega), Bool.and_false] at h3
  have h4 := fun W => gturn true M h (M + 1) W
  rw [decide_eq_true (by omega), Bool.and_true] at h4
  have h5 := fun W => gturn false M h n W
  rw [Bool.false_and] at h5
  have h6 := fun W => gturn true M h n W
  rw [decide_eq_true hn, Bool.true_and] at h6
  have h7 := fun W => gsee true M h 0 W
  rw [Bool.true_or] at h7
  have hn2 : (n ≤ M) = False := eq_false (by omega)
  have hw : IntKind.u64.wrap (M + 1) = M + 1 := by simp [IntKind.wrap, IntKind.signed, IntKind.bits]; omega
  have hex := fun W => examples_any W
  clear hM
  go_enter Try.func6, Try.ntmps6
  go_wp2_with fail
  refine (hex _).mono ?_
  rintro e w1 ⟨rfl, hB1⟩
  have HB := Lib.hid hB1
  clear hex hB1
  go_wp2_with fail
  refine (h1 _).mono ?_
  rintro e w2 ⟨rfl, hBx⟩
  replace HB := Lib.hid (HB.out.trans (hBx.mono HB.out.size))
  clear hBx h1
  obtain ⟨A, hA⟩ : ∃ A, w2.heap.size = A := ⟨_, rfl⟩
  have HA : Hid (CellsAt A #[.bool false, .int .u64 M, .int .u64 h] (w2.alloc (.cells #[.bool false, .int .u64 M, .int .u64 h] 24))) := Lib.hid (CellsAt.newAt #[.bool false, .int .u64 M, .int .u64 h] 24 w2 A hA.symm)
  have hBx : Below w2.heap.size w2 (w2.alloc (.cells #[.bool false, .int .u64 M, .int .u64 h] 24)) := (Below.refl _ _).alloc (Nat.le_refl _) _
  replace HB := Lib.hid (HB.out.trans (hBx.mono HB.out.size))
  clear hBx
  go_wp2_with fail
  refine (h2 _).mono ?_
  rintro e w3 ⟨rfl, hBx⟩
  replace HA := Lib.hid (HA.out.below hBx)
  replace HB := Lib.hid (HB.out.trans (hBx.mono HB.out.size))
  clear hBx h2
  clear hA
  obtain ⟨X, hX⟩ : ∃ X, w3.heap.size = X := ⟨_, rfl⟩
  have HX : Hid (CellsAt X #[.bool true, .int .u64 M, .int .u64 h] (w3.alloc (.cells #[.bool true, .int .u64 M, .int .u64 h] 24))) := Lib.hid (CellsAt.newAt #[.bool true, .int .u64 M, .int .u64 h] 24 w3 X hX.symm)
  have hBx : Below w3.heap.size w3 (w3.alloc (.cells #[.bool true, .int .u64 M, .int .u64 h] 24)) := (Below.refl _ _).alloc (Nat.le_refl _) _
  replace HA := Lib.hid (HA.out.below hBx)
  replace HB := Lib.hid (HB.out.trans (hBx.mono HB.out.size))
  clear hBx
  go_wp2
  generalize w3.alloc (.cells #[.bool true, .int .u64 M, .int .u64 h] 24) = WW at *
  have lA := HA.out.lt
  have qA0 := fun p => Beh.cell lA (HA.out.cell 0 _ rfl) p
  have qA1 := fun p => Beh.cell lA (HA.out.cell 1 _ rfl) p
  have qA2 := fun p => Beh.cell lA (HA.out.cell 2 _ rfl) p
  have lX := HX.out.lt
  have qX0 := fun p => Beh.cell lX (HX.out.cell 0 _ rfl) p
  have qX1 := fun p => Beh.cell lX (HX.out.cell 1 _ rfl) p
  have qX2 := fun p => Beh.cell lX (HX.out.cell 2 _ rfl) p
  simp only [List.getElem_toArray, List.getElem_cons_zero, List.getElem_cons_succ] at qA0 qA1 qA2 qX0 qX1 qX2
  clear hX
  refine wp_region_beh (by kernel_rfl) (by kernel_rfl) ?_
  iterate 13 (quiet_step (exact calls_beh _ (h3 _)))
  iterate 8 (quiet_step (exact calls_beh _ (h4 _)))
  iterate 7 (quiet_step (exact calls_beh _ (h5 _)))
  iterate 11 (quiet_step (exact calls_beh _ (h6 _)))
  iterate 6 (quiet_step (exact calls_beh _ (h7 _)))
  refine wpQuiet_nil ?_
  intro _ hw'
  obtain ⟨⟨W, hBW⟩, hw''⟩ := hw'
  subst hw''
  have HB2 := Lib.hid (HB.out.trans (hBW.mono HB.out.size))
  clear hBW qA0 qA1 qA2 qX0 qX1 qX2 h3 h4 h5 h6 h7
  go_wp2
  go_ret
  exact ⟨rfl, HB2.out⟩
set_option maxRecDepth 100000 in
set_option maxHeartbeats 8000000 in
theorem opens_false (l h n M : Int) (hM : min l h = M) (hM0 : 0 ≤ M) (hM1 : M ≤ 65535) (hl0 : 0 ≤ l) (hl1 : l ≤ 65535) (hh0 : 0 ≤ h) (hh1 : h ≤ 65535) (hn : n ≤ M) (w : World) :
    Calls Try.prog 6 #[.int .u16 l, .int .u16 h, .int .u64 n] w fun e w' => e = .returned (.bool true) ∧ Below w.heap.size w w' := by
  have h1 := fun W => gnew l h W
  rw [hM] at h1
  have h2 := fun W => gsee false M h h W
  rw [decide_eq_true (Int.le_refl h), Bool.false_or] at h2
  have h3 := fun W => gturn true M h M W
  rw [decide_eq_false (by omega), Bool.and_false] at h3
  have h4 := fun W => gturn true M h (M + 1) W
  rw [decide_eq_true (by omega), Bool.and_true] at h4
  have h5 := fun W => gturn false M h n W
  rw [Bool.false_and] at h5
  have h6 := fun W => gturn true M h n W
  rw [decide_eq_false (by omega), Bool.true_and] at h6
  have h7 := fun W => gsee true M h 0 W
  rw [Bool.true_or] at h7
  have hn2 : (M < n) = False := eq_false (by omega)
  have hw : IntKind.u64.wrap (M + 1) = M + 1 := by simp [IntKind.wrap, IntKind.signed, IntKind.bits]; omega
  have hex := fun W => examples_any W
  clear hM
  go_enter Try.func6, Try.ntmps6
  go_wp2_with fail
  refine (hex _).mono ?_
  rintro e w1 ⟨rfl, hB1⟩
  have HB := Lib.hid hB1
  clear hex hB1
  go_wp2_with fail
  refine (h1 _).mono ?_
  rintro e w2 ⟨rfl, hBx⟩
  replace HB := Lib.hid (HB.out.trans (hBx.mono HB.out.size))
  clear hBx h1
  obtain ⟨A, hA⟩ : ∃ A, w2.heap.size = A := ⟨_, rfl⟩
  have HA : Hid (CellsAt A #[.bool false, .int .u64 M, .int .u64 h] (w2.alloc (.cells #[.bool false, .int .u64 M, .int .u64 h] 24))) := Lib.hid (CellsAt.newAt #[.bool false, .int .u64 M, .int .u64 h] 24 w2 A hA.symm)
  have hBx : Below w2.heap.size w2 (w2.alloc (.cells #[.bool false, .int .u64 M, .int .u64 h] 24)) := (Below.refl _ _).alloc (Nat.le_refl _) _
  replace HB := Lib.hid (HB.out.trans (hBx.mono HB.out.size))
  clear hBx
  go_wp2_with fail
  refine (h2 _).mono ?_
  rintro e w3 ⟨rfl, hBx⟩
  replace HA := Lib.hid (HA.out.below hBx)
  replace HB := Lib.hid (HB.out.trans (hBx.mono HB.out.size))
  clear hBx h2
  clear hA
  obtain ⟨X, hX⟩ : ∃ X, w3.heap.size = X := ⟨_, rfl⟩
  have HX : Hid (CellsAt X #[.bool true, .int .u64 M, .int .u64 h] (w3.alloc (.cells #[.bool true, .int .u64 M, .int .u64 h] 24))) := Lib.hid (CellsAt.newAt #[.bool true, .int .u64 M, .int .u64 h] 24 w3 X hX.symm)
  have hBx : Below w3.heap.size w3 (w3.alloc (.cells #[.bool true, .int .u64 M, .int .u64 h] 24)) := (Below.refl _ _).alloc (Nat.le_refl _) _
  replace HA := Lib.hid (HA.out.below hBx)
  replace HB := Lib.hid (HB.out.trans (hBx.mono HB.out.size))
  clear hBx
  go_wp2
  generalize w3.alloc (.cells #[.bool true, .int .u64 M, .int .u64 h] 24) = WW at *
  have lA := HA.out.lt
  have qA0 := fun p => Beh.cell lA (HA.out.cell 0 _ rfl) p
  have qA1 := fun p => Beh.cell lA (HA.out.cell 1 _ rfl) p
  have qA2 := fun p => Beh.cell lA (HA.out.cell 2 _ rfl) p
  have lX := HX.out.lt
  have qX0 := fun p => Beh.cell lX (HX.out.cell 0 _ rfl) p
  have qX1 := fun p => Beh.cell lX (HX.out.cell 1 _ rfl) p
  have qX2 := fun p => Beh.cell lX (HX.out.cell 2 _ rfl) p
  simp only [List.getElem_toArray, List.getElem_cons_zero, List.getElem_cons_succ] at qA0 qA1 qA2 qX0 qX1 qX2
  clear hX
  refine wp_region_beh (by kernel_rfl) (by kernel_rfl) ?_
  iterate 13 (quiet_step (exact calls_beh _ (h3 _)))
  iterate 8 (quiet_step (exact calls_beh _ (h4 _)))
  iterate 7 (quiet_step (exact calls_beh _ (h5 _)))
  iterate 11 (quiet_step (exact calls_beh _ (h6 _)))
  iterate 6 (quiet_step (exact calls_beh _ (h7 _)))
  refine wpQuiet_nil ?_
  intro _ hw'
  obtain ⟨⟨W, hBW⟩, hw''⟩ := hw'
  subst hw''
  have HB2 := Lib.hid (HB.out.trans (hBW.mono HB.out.size))
  clear hBW qA0 qA1 qA2 qX0 qX1 qX2 h3 h4 h5 h6 h7
  go_wp2
  go_ret
  exact ⟨rfl, HB2.out⟩
theorem GateOpens_walk (l : Int) (hl : (Lit.int .u16 l).wf = true) (h : Int) (hh : (Lit.int .u16 h).wf = true) (n : Int) (_ : (Lit.int .u64 n).wf = true) (w : World) :
    Calls Try.prog 6 #[.int .u16 l, .int .u16 h, .int .u64 n] w fun e w' => e = .returned (.bool true) ∧ Below w.heap.size w w' := by
  have gl : 0 ≤ l ∧ l ≤ 65535 := by simpa [Lit.wf, IntKind.min, IntKind.max, IntKind.signed, IntKind.bits] using hl
  have gh : 0 ≤ h ∧ h ≤ 65535 := by simpa [Lit.wf, IntKind.min, IntKind.max, IntKind.signed, IntKind.bits] using hh
  obtain ⟨M, hM⟩ : ∃ M, min l h = M := ⟨_, rfl⟩
  rcases (show M < n ∨ n ≤ M by omega) with hn | hn
  · exact opens_true l h n M hM (by omega) (by omega) gl.1 gl.2 gh.1 gh.2 hn w
  · exact opens_false l h n M hM (by omega) (by omega) gl.1 gl.2 gh.1 gh.2 hn w
end Go.Proofs.Ytmlmahkddmegiaa
