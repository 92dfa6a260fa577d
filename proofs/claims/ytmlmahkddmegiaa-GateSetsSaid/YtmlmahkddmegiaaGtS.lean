/- GateSets walked. -/
import Derived.Test.YtmlmahkddmegiaaGtC
namespace Go.Proofs.Ytmlmahkddmegiaa
open Go Go.RowKit

attribute [local go_sem] gate_guard gate_eql field0 field1
set_option maxRecDepth 100000 in
set_option maxHeartbeats 8000000 in
theorem sets_true_le (a b c d n : Int) (hb : b ≤ n) (hc : c ≤ d) (w : World) :
    Calls Try.prog 5 #[.int .u64 a, .int .u64 b, .int .u64 c, .int .u64 d, .int .u64 n] w fun e w' => e = .returned (.bool true) ∧ Below w.heap.size w w' := by
  have h1 := fun W => gnew a b W
  have hMb := Int.min_le_right a b
  obtain ⟨M, hM⟩ : ∃ M, min a b = M := ⟨_, rfl⟩
  rw [hM] at h1 hMb
  have h2 := fun W => gsee false M b n W
  rw [decide_eq_true hb, Bool.false_or] at h2
  have h3 := fun W => gset true M b c d W
  rw [Int.min_eq_left hc] at h3
  have h4 := fun W => gset true c d a b W
  rw [hM] at h4
  have hc2 : (d < c) = False := eq_false (by omega)
  have hb2 : (n < b) = False := eq_false (by omega)
  have hex := fun W => examples_any W
  clear hM
  go_enter Try.func5, Try.ntmps5
  go_wp2_with fail
  refine (hex _).mono ?_
  rintro e w1 ⟨rfl, hB1⟩
  have HB := Lib.hid hB1
  clear hex hB1
  go_wp2_with fail
  refine (h1 _).mono ?_
  rintro e w2 ⟨rfl, hBx⟩
  replace HB := Lib.hid (HB.out.trans (hBx.mono HB.out.size))
  clear hBx h1
  obtain ⟨A, hA⟩ : ∃ A, w2.heap.size = A := ⟨_, rfl⟩
  have HA : Hid (CellsAt A #[.bool false, .int .u64 M, .int .u64 b] (w2.alloc (.cells #[.bool false, .int .u64 M, .int .u64 b] 24))) := Lib.hid (CellsAt.newAt #[.bool false, .int .u64 M, .int .u64 b] 24 w2 A hA.symm)
  have hBx : Below w2.heap.size w2 (w2.alloc (.cells #[.bool false, .int .u64 M, .int .u64 b] 24)) := (Below.refl _ _).alloc (Nat.le_refl _) _
  replace HB := Lib.hid (HB.out.trans (hBx.mono HB.out.size))
  clear hBx
  go_wp2_with fail
  refine (h2 _).mono ?_
  rintro e w3 ⟨rfl, hBx⟩
  replace HA := Lib.hid (HA.out.below hBx)
  replace HB := Lib.hid (HB.out.trans (hBx.mono HB.out.size))
  clear hBx h2
  clear hA
  obtain ⟨X, hX⟩ : ∃ X, w3.heap.size = X := ⟨_, rfl⟩
  have HX : Hid (CellsAt X #[.bool true, .int .u64 M, .int .u64 b] (w3.alloc (.cells #[.bool true, .int .u64 M, .int .u64 b] 24))) := Lib.hid (CellsAt.newAt #[.bool true, .int .u64 M, .int .u64 b] 24 w3 X hX.symm)
  have hBx : Below w3.heap.size w3 (w3.alloc (.cells #[.bool true, .int .u64 M, .int .u64 b] 24)) := (Below.refl _ _).alloc (Nat.le_refl _) _
  replace HA := Lib.hid (HA.out.below hBx)
  replace HB := Lib.hid (HB.out.trans (hBx.mono HB.out.size))
  clear hBx
  go_wp2_with fail
  refine (h3 _).mono ?_
  rintro e w4 ⟨rfl, hBx⟩
  replace HA := Lib.hid (HA.out.below hBx)
  replace HX := Lib.hid (HX.out.below hBx)
  replace HB := Lib.hid (HB.out.trans (hBx.mono HB.out.size))
  clear hBx h3
  clear hX
  obtain ⟨Y, hY⟩ : ∃ Y, w4.heap.size = Y := ⟨_, rfl⟩
  have HY : Hid (CellsAt Y #[.bool true, .int .u64 c, .int .u64 d] (w4.alloc (.cells #[.bool true, .int .u64 c, .int .u64 d] 24))) := Lib.hid (CellsAt.newAt #[.bool true, .int .u64 c, .int .u64 d] 24 w4 Y hY.symm)
  have hBx : Below w4.heap.size w4 (w4.alloc (.cells #[.bool true, .int .u64 c, .int .u64 d] 24)) := (Below.refl _ _).alloc (Nat.le_refl _) _
  replace HA := Lib.hid (HA.out.below hBx)
  replace HX := Lib.hid (HX.out.below hBx)
  replace HB := Lib.hid (HB.out.trans (hBx.mono HB.out.size))
  clear hBx
  go_wp2
  generalize w4.alloc (.cells #[.bool true, .int .u64 c, .int .u64 d] 24) = WW at *
  have lA := HA.out.lt
  have qA0 := fun p => Beh.cell lA (HA.out.cell 0 _ rfl) p
  have qA1 := fun p => Beh.cell lA (HA.out.cell 1 _ rfl) p
  have qA2 := fun p => Beh.cell lA (HA.out.cell 2 _ rfl) p
  have lX := HX.out.lt
  have qX0 := fun p => Beh.cell lX (HX.out.cell 0 _ rfl) p
  have qX1 := fun p => Beh.cell lX (HX.out.cell 1 _ rfl) p
  have qX2 := fun p => Beh.cell lX (HX.out.cell 2 _ rfl) p
  have lY := HY.out.lt
  have qY0 := fun p => Beh.cell lY (HY.out.cell 0 _ rfl) p
  have qY1 := fun p => Beh.cell lY (HY.out.cell 1 _ rfl) p
  have qY2 := fun p => Beh.cell lY (HY.out.cell 2 _ rfl) p
  simp only [List.getElem_toArray, List.getElem_cons_zero, List.getElem_cons_succ] at qA0 qA1 qA2 qX0 qX1 qX2 qY0 qY1 qY2
  clear hY
  refine wp_region_beh (by kernel_rfl) (by kernel_rfl) ?_
  iterate 51 (quiet_step (exact calls_beh _ (h4 _)))
  refine wpQuiet_nil ?_
  intro _ hw'
  obtain ⟨⟨W, hBW⟩, hw''⟩ := hw'
  subst hw''
  have HB2 := Lib.hid (HB.out.trans (hBW.mono HB.out.size))
  clear hBW qA0 qA1 qA2 qX0 qX1 qX2 qY0 qY1 qY2 h4
  go_wp2
  go_ret
  exact ⟨rfl, HB2.out⟩
set_option maxRecDepth 100000 in
set_option maxHeartbeats 8000000 in
theorem sets_true_gt (a b c d n : Int) (hb : b ≤ n) (hc : d < c) (w : World) :
    Calls Try.prog 5 #[.int .u64 a, .int .u64 b, .int .u64 c, .int .u64 d, .int .u64 n] w fun e w' => e = .returned (.bool true) ∧ Below w.heap.size w w' := by
  have h1 := fun W => gnew a b W
  have hMb := Int.min_le_right a b
  obtain ⟨M, hM⟩ : ∃ M, min a b = M := ⟨_, rfl⟩
  rw [hM] at h1 hMb
  have h2 := fun W => gsee false M b n W
  rw [decide_eq_true hb, Bool.false_or] at h2
  have h3 := fun W => gset true M b c d W
  rw [Int.min_eq_right (by omega)] at h3
  have h4 := fun W => gset true d d a b W
  rw [hM] at h4
  have hc2 : (c ≤ d) = False := eq_false (by omega)
  have hb2 : (n < b) = False := eq_false (by omega)
  have hex := fun W => examples_any W
  clear hM
  go_enter Try.func5, Try.ntmps5
  go_wp2_with fail
  refine (hex _).mono ?_
  rintro e w1 ⟨rfl, hB1⟩
  have HB := Lib.hid hB1
  clear hex hB1
  go_wp2_with fail
  refine (h1 _).mono ?_
  rintro e w2 ⟨rfl, hBx⟩
  replace HB := Lib.hid (HB.out.trans (hBx.mono HB.out.size))
  clear hBx h1
  obtain ⟨A, hA⟩ : ∃ A, w2.heap.size = A := ⟨_, rfl⟩
  have HA : Hid (CellsAt A #[.bool false, .int .u64 M, .int .u64 b] (w2.alloc (.cells #[.bool false, .int .u64 M, .int .u64 b] 24))) := Lib.hid (CellsAt.newAt #[.bool false, .int .u64 M, .int .u64 b] 24 w2 A hA.symm)
  have hBx : Below w2.heap.size w2 (w2.alloc (.cells #[.bool false, .int .u64 M, .int .u64 b] 24)) := (Below.refl _ _).alloc (Nat.le_refl _) _
  replace HB := Lib.hid (HB.out.trans (hBx.mono HB.out.size))
  clear hBx
  go_wp2_with fail
  refine (h2 _).mono ?_
  rintro e w3 ⟨rfl, hBx⟩
  replace HA := Lib.hid (HA.out.below hBx)
  replace HB := Lib.hid (HB.out.trans (hBx.mono HB.out.size))
  clear hBx h2
  clear hA
  obtain ⟨X, hX⟩ : ∃ X, w3.heap.size = X := ⟨_, rfl⟩
  have HX : Hid (CellsAt X #[.bool true, .int .u64 M, .int .u64 b] (w3.alloc (.cells #[.bool true, .int .u64 M, .int .u64 b] 24))) := Lib.hid (CellsAt.newAt #[.bool true, .int .u64 M, .int .u64 b] 24 w3 X hX.symm)
  have hBx : Below w3.heap.size w3 (w3.alloc (.cells #[.bool true, .int .u64 M, .int .u64 b] 24)) := (Below.refl _ _).alloc (Nat.le_refl _) _
  replace HA := Lib.hid (HA.out.below hBx)
  replace HB := Lib.hid (HB.out.trans (hBx.mono HB.out.size))
  clear hBx
  go_wp2_with fail
  refine (h3 _).mono ?_
  rintro e w4 ⟨rfl, hBx⟩
  replace HA := Lib.hid (HA.out.below hBx)
  replace HX := Lib.hid (HX.out.below hBx)
  replace HB := Lib.hid (HB.out.trans (hBx.mono HB.out.size))
  clear hBx h3
  clear hX
  obtain ⟨Y, hY⟩ : ∃ Y, w4.heap.size = Y := ⟨_, rfl⟩
  have HY : Hid (CellsAt Y #[.bool true, .int .u64 d, .int .u64 d] (w4.alloc (.cells #[.bool true, .int .u64 d, .int .u64 d] 24))) := Lib.hid (CellsAt.newAt #[.bool true, .int .u64 d, .int .u64 d] 24 w4 Y hY.symm)
  have hBx : Below w4.heap.size w4 (w4.alloc (.cells #[.bool true, .int .u64 d, .int .u64 d] 24)) := (Below.refl _ _).alloc (Nat.le_refl _) _
  replace HA := Lib.hid (HA.out.below hBx)
  replace HX := Lib.hid (HX.out.below hBx)
  replace HB := Lib.hid (HB.out.trans (hBx.mono HB.out.size))
  clear hBx
  go_wp2
  generalize w4.alloc (.cells #[.bool true, .int .u64 d, .int .u64 d] 24) = WW at *
  have lA := HA.out.lt
  have qA0 := fun p => Beh.cell lA (HA.out.cell 0 _ rfl) p
  have qA1 := fun p => Beh.cell lA (HA.out.cell 1 _ rfl) p
  have qA2 := fun p => Beh.cell lA (HA.out.cell 2 _ rfl) p
  have lX := HX.out.lt
  have qX0 := fun p => Beh.cell lX (HX.out.cell 0 _ rfl) p
  have qX1 := fun p => Beh.cell lX (HX.out.cell 1 _ rfl) p
  have qX2 := fun p => Beh.cell lX (HX.out.cell 2 _ rfl) p
  have lY := HY.out.lt
  have qY0 := fun p => Beh.cell lY (HY.out.cell 0 _ rfl) p
  have qY1 := fun p => Beh.cell lY (HY.out.cell 1 _ rfl) p
  have qY2 := fun p => Beh.cell lY (HY.out.cell 2 _ rfl) p
  simp only [List.getElem_toArray, List.getElem_cons_zero, List.getElem_cons_succ] at qA0 qA1 qA2 qX0 qX1 qX2 qY0 qY1 qY2
  clear hY
  refine wp_region_beh (by kernel_rfl) (by kernel_rfl) ?_
  iterate 51 (quiet_step (exact calls_beh _ (h4 _)))
  refine wpQuiet_nil ?_
  intro _ hw'
  obtain ⟨⟨W, hBW⟩, hw''⟩ := hw'
  subst hw''
  have HB2 := Lib.hid (HB.out.trans (hBW.mono HB.out.size))
  clear hBW qA0 qA1 qA2 qX0 qX1 qX2 qY0 qY1 qY2 h4
  go_wp2
  go_ret
  exact ⟨rfl, HB2.out⟩
set_option maxRecDepth 100000 in
set_option maxHeartbeats 8000000 in
theorem sets_false_le (a b c d n : Int) (hb : n < b) (hc : c ≤ d) (w : World) :
    Calls Try.prog 5 #[.int .u64 a, .int .u64 b, .int .u64 c, .int .u64 d, .int .u64 n] w fun e w' => e = .returned (.bool true) ∧ Below w.heap.size w w' := by
  have h1 := fun W => gnew a b W
  have hMb := Int.min_le_right a b
  obtain ⟨M, hM⟩ : ∃ M, min a b = M := ⟨_, rfl⟩
  rw [hM] at h1 hMb
  have h2 := fun W => gsee false M b n W
  rw [decide_eq_false (by omega), Bool.false_or] at h2
  have h3 := fun W => gset false M b c d W
  rw [Int.min_eq_left hc] at h3
  have h4 := fun W => gset false c d a b W
  rw [hM] at h4
  have hc2 : (d < c) = False := eq_false (by omega)
  have hb2 : (b ≤ n) = False := eq_false (by omega)
  have hex := fun W => examples_any W
  clear hM
  go_enter Try.func5, Try.ntmps5
  go_wp2_with fail
  refine (hex _).mono ?_
  rintro e w1 ⟨rfl, hB1⟩
  have HB := Lib.hid hB1
  clear hex hB1
  go_wp2_with fail
  refine (h1 _).mono ?_
  rintro e w2 ⟨rfl, hBx⟩
  replace HB := Lib.hid (HB.out.trans (hBx.mono HB.out.size))
  clear hBx h1
  obtain ⟨A, hA⟩ : ∃ A, w2.heap.size = A := ⟨_, rfl⟩
  have HA : Hid (CellsAt A #[.bool false, .int .u64 M, .int .u64 b] (w2.alloc (.cells #[.bool false, .int .u64 M, .int .u64 b] 24))) := Lib.hid (CellsAt.newAt #[.bool false, .int .u64 M, .int .u64 b] 24 w2 A hA.symm)
  have hBx : Below w2.heap.size w2 (w2.alloc (.cells #[.bool false, .int .u64 M, .int .u64 b] 24)) := (Below.refl _ _).alloc (Nat.le_refl _) _
  replace HB := Lib.hid (HB.out.trans (hBx.mono HB.out.size))
  clear hBx
  go_wp2_with fail
  refine (h2 _).mono ?_
  rintro e w3 ⟨rfl, hBx⟩
  replace HA := Lib.hid (HA.out.below hBx)
  replace HB := Lib.hid (HB.out.trans (hBx.mono HB.out.size))
  clear hBx h2
  clear hA
  obtain ⟨X, hX⟩ : ∃ X, w3.heap.size = X := ⟨_, rfl⟩
  have HX : Hid (CellsAt X #[.bool false, .int .u64 M, .int .u64 b] (w3.alloc (.cells #[.bool false, .int .u64 M, .int .u64 b] 24))) := Lib.hid (CellsAt.newAt #[.bool false, .int .u64 M, .int .u64 b] 24 w3 X hX.symm)
  have hBx : Below w3.heap.size w3 (w3.alloc (.cells #[.bool false, .int .u64 M, .int .u64 b] 24)) := (Below.refl _ _).alloc (Nat.le_refl _) _
  replace HA := Lib.hid (HA.out.below hBx)
  replace HB := Lib.hid (HB.out.trans (hBx.mono HB.out.size))
  clear hBx
  go_wp2_with fail
  refine (h3 _).mono ?_
  rintro e w4 ⟨rfl, hBx⟩
  replace HA := Lib.hid (HA.out.below hBx)
  replace HX := Lib.hid (HX.out.below hBx)
  replace HB := Lib.hid (HB.out.trans (hBx.mono HB.out.size))
  clear hBx h3
  clear hX
  obtain ⟨Y, hY⟩ : ∃ Y, w4.heap.size = Y := ⟨_, rfl⟩
  have HY : Hid (CellsAt Y #[.bool false, .int .u64 c, .int .u64 d] (w4.alloc (.cells #[.bool false, .int .u64 c, .int .u64 d] 24))) := Lib.hid (CellsAt.newAt #[.bool false, .int .u64 c, .int .u64 d] 24 w4 Y hY.symm)
  have hBx : Below w4.heap.size w4 (w4.alloc (.cells #[.bool false, .int .u64 c, .int .u64 d] 24)) := (Below.refl _ _).alloc (Nat.le_refl _) _
  replace HA := Lib.hid (HA.out.below hBx)
  replace HX := Lib.hid (HX.out.below hBx)
  replace HB := Lib.hid (HB.out.trans (hBx.mono HB.out.size))
  clear hBx
  go_wp2
  generalize w4.alloc (.cells #[.bool false, .int .u64 c, .int .u64 d] 24) = WW at *
  have lA := HA.out.lt
  have qA0 := fun p => Beh.cell lA (HA.out.cell 0 _ rfl) p
  have qA1 := fun p => Beh.cell lA (HA.out.cell 1 _ rfl) p
  have qA2 := fun p => Beh.cell lA (HA.out.cell 2 _ rfl) p
  have lX := HX.out.lt
  have qX0 := fun p => Beh.cell lX (HX.out.cell 0 _ rfl) p
  have qX1 := fun p => Beh.cell lX (HX.out.cell 1 _ rfl) p
  have qX2 := fun p => Beh.cell lX (HX.out.cell 2 _ rfl) p
  have lY := HY.out.lt
  have qY0 := fun p => Beh.cell lY (HY.out.cell 0 _ rfl) p
  have qY1 := fun p => Beh.cell lY (HY.out.cell 1 _ rfl) p
  have qY2 := fun p => Beh.cell lY (HY.out.cell 2 _ rfl) p
  simp only [List.getElem_toArray, List.getElem_cons_zero, List.getElem_cons_succ] at qA0 qA1 qA2 qX0 qX1 qX2 qY0 qY1 qY2
  clear hY
  refine wp_region_beh (by kernel_rfl) (by kernel_rfl) ?_
  iterate 51 (quiet_step (exact calls_beh _ (h4 _)))
  refine wpQuiet_nil ?_
  intro _ hw'
  obtain ⟨⟨W, hBW⟩, hw''⟩ := hw'
  subst hw''
  have HB2 := Lib.hid (HB.out.trans (hBW.mono HB.out.size))
  clear hBW qA0 qA1 qA2 qX0 qX1 qX2 qY0 qY1 qY2 h4
  go_wp2
  go_ret
  exact ⟨rfl, HB2.out⟩
set_option maxRecDepth 100000 in
set_option maxHeartbeats 8000000 in
theorem sets_false_gt (a b c d n : Int) (hb : n < b) (hc : d < c) (w : World) :
    Calls Try.prog 5 #[.int .u64 a, .int .u64 b, .int .u64 c, .int .u64 d, .int .u64 n] w fun e w' => e = .returned (.bool true) ∧ Below w.heap.size w w' := by
  have h1 := fun W => gnew a b W
  have hMb := Int.min_le_right a b
  obtain ⟨M, hM⟩ : ∃ M, min a b = M := ⟨_, rfl⟩
  rw [hM] at h1 hMb
  have h2 := fun W => gsee false M b n W
  rw [decide_eq_false (by omega), Bool.false_or] at h2
  have h3 := fun W => gset false M b c d W
  rw [Int.min_eq_right (by omega)] at h3
  have h4 := fun W => gset false d d a b W
  rw [hM] at h4
  have hc2 : (c ≤ d) = False := eq_false (by omega)
  have hb2 : (b ≤ n) = False := eq_false (by omega)
  have hex := fun W => examples_any W
  clear hM
  go_enter Try.func5, Try.ntmps5
  go_wp2_with fail
  refine (hex _).mono ?_
  rintro e w1 ⟨rfl, hB1⟩
  have HB := Lib.hid hB1
  clear hex hB1
  go_wp2_with fail
  refine (h1 _).mono ?_
  rintro e w2 ⟨rfl, hBx⟩
  replace HB := Lib.hid (HB.out.trans (hBx.mono HB.out.size))
  clear hBx h1
  obtain ⟨A, hA⟩ : ∃ A, w2.heap.size = A := ⟨_, rfl⟩
  have HA : Hid (CellsAt A #[.bool false, .int .u64 M, .int .u64 b] (w2.alloc (.cells #[.bool false, .int .u64 M, .int .u64 b] 24))) := Lib.hid (CellsAt.newAt #[.bool false, .int .u64 M, .int .u64 b] 24 w2 A hA.symm)
  have hBx : Below w2.heap.size w2 (w2.alloc (.cells #[.bool false, .int .u64 M, .int .u64 b] 24)) := (Below.refl _ _).alloc (Nat.le_refl _) _
  replace HB := Lib.hid (HB.out.trans (hBx.mono HB.out.size))
  clear hBx
  go_wp2_with fail
  refine (h2 _).mono ?_
  rintro e w3 ⟨rfl, hBx⟩
  replace HA := Lib.hid (HA.out.below hBx)
  replace HB := Lib.hid (HB.out.trans (hBx.mono HB.out.size))
  clear hBx h2
  clear hA
  obtain ⟨X, hX⟩ : ∃ X, w3.heap.size = X := ⟨_, rfl⟩
  have HX : Hid (CellsAt X #[.bool false, .int .u64 M, .int .u64 b] (w3.alloc (.cells #[.bool false, .int .u64 M, .int .u64 b] 24))) := Lib.hid (CellsAt.newAt #[.bool false, .int .u64 M, .int .u64 b] 24 w3 X hX.symm)
  have hBx : Below w3.heap.size w3 (w3.alloc (.cells #[.bool false, .int .u64 M, .int .u64 b] 24)) := (Below.refl _ _).alloc (Nat.le_refl _) _
  replace HA := Lib.hid (HA.out.below hBx)
  replace HB := Lib.hid (HB.out.trans (hBx.mono HB.out.size))
  clear hBx
  go_wp2_with fail
  refine (h3 _).mono ?_
  rintro e w4 ⟨rfl, hBx⟩
  replace HA := Lib.hid (HA.out.below hBx)
  replace HX := Lib.hid (HX.out.below hBx)
  replace HB := Lib.hid (HB.out.trans (hBx.mono HB.out.size))
  clear hBx h3
  clear hX
  obtain ⟨Y, hY⟩ : ∃ Y, w4.heap.size = Y := ⟨_, rfl⟩
  have HY : Hid (CellsAt Y #[.bool false, .int .u64 d, .int .u64 d] (w4.alloc (.cells #[.bool false, .int .u64 d, .int .u64 d] 24))) := Lib.hid (CellsAt.newAt #[.bool false, .int .u64 d, .int .u64 d] 24 w4 Y hY.symm)
  have hBx : Below w4.heap.size w4 (w4.alloc (.cells #[.bool false, .int .u64 d, .int .u64 d] 24)) := (Below.refl _ _).alloc (Nat.le_refl _) _
  replace HA := Lib.hid (HA.out.below hBx)
  replace HX := Lib.hid (HX.out.below hBx)
  replace HB := Lib.hid (HB.out.trans (hBx.mono HB.out.size))
  clear hBx
  go_wp2
  generalize w4.alloc (.cells #[.bool false, .int .u64 d, .int .u64 d] 24) = WW at *
  have lA := HA.out.lt
  have qA0 := fun p => Beh.cell lA (HA.out.cell 0 _ rfl) p
  have qA1 := fun p => Beh.cell lA (HA.out.cell 1 _ rfl) p
  have qA2 := fun p => Beh.cell lA (HA.out.cell 2 _ rfl) p
  have lX := HX.out.lt
  have qX0 := fun p => Beh.cell lX (HX.out.cell 0 _ rfl) p
  have qX1 := fun p => Beh.cell lX (HX.out.cell 1 _ rfl) p
  have qX2 := fun p => Beh.cell lX (HX.out.cell 2 _ rfl) p
  have lY := HY.out.lt
  have qY0 := fun p => Beh.cell lY (HY.out.cell 0 _ rfl) p
  have qY1 := fun p => Beh.cell lY (HY.out.cell 1 _ rfl) p
  have qY2 := fun p => Beh.cell lY (HY.out.cell 2 _ rfl) p
  simp only [List.getElem_toArray, List.getElem_cons_zero, List.getElem_cons_succ] at qA0 qA1 qA2 qX0 qX1 qX2 qY0 qY1 qY2
  clear hY
  refine wp_region_beh (by kernel_rfl) (by kernel_rfl) ?_
  iterate 51 (quiet_step (exact calls_beh _ (h4 _)))
  refine wpQuiet_nil ?_
  intro _ hw'
  obtain ⟨⟨W, hBW⟩, hw''⟩ := hw'
  subst hw''
  have HB2 := Lib.hid (HB.out.trans (hBW.mono HB.out.size))
  clear hBW qA0 qA1 qA2 qX0 qX1 qX2 qY0 qY1 qY2 h4
  go_wp2
  go_ret
  exact ⟨rfl, HB2.out⟩
theorem GateSets_walk (a : Int) (_ : (Lit.int .u64 a).wf = true) (b : Int) (_ : (Lit.int .u64 b).wf = true) (c : Int) (_ : (Lit.int .u64 c).wf = true) (d : Int) (_ : (Lit.int .u64 d).wf = true) (n : Int) (_ : (Lit.int .u64 n).wf = true) (w : World) :
    Calls Try.prog 5 #[.int .u64 a, .int .u64 b, .int .u64 c, .int .u64 d, .int .u64 n] w fun e w' => e = .returned (.bool true) ∧ Below w.heap.size w w' := by
  rcases (show b ≤ n ∨ n < b by omega) with hb | hb <;> rcases (show c ≤ d ∨ d < c by omega) with hc | hc
  · exact sets_true_le a b c d n hb hc w
  · exact sets_true_gt a b c d n hb hc w
  · exact sets_false_le a b c d n hb hc w
  · exact sets_false_gt a b c d n hb hc w
end Go.Proofs.Ytmlmahkddmegiaa
