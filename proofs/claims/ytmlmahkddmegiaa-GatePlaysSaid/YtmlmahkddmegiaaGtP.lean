/- GatePlays walked. -/
import Derived.Test.YtmlmahkddmegiaaGtC
import Derived.Deep.Cut
namespace Go.Proofs.Ytmlmahkddmegiaa
open Go Go.RowKit

attribute [local go_sem] gate_guard gate_eql field0 field1
set_option maxRecDepth 100000 in
set_option maxHeartbeats 16000000 in
theorem plays_as (c : Bool) (l h low high a b : Int) (w : World) :
    Calls Try.prog 3 #[.agg #[.bool c, .int .u64 l, .int .u64 h], .bool false, .int .u64 low, .int .u64 high, .int .u64 a, .int .u64 b] w fun e w' => e = .returned (.bool true) ∧ Below w.heap.size w w' := by
  have e1 := fun W => gsee c l h a W
  have r1 := fun W => rsee c l h a W
  have e2 := fun W => gturn c l h b W
  have r2 := fun W => rturn c l h b W
  have e3 := fun W => gset c l h low high W
  have r3 := fun W => rset c l h low high W
  have e4 := fun W => gnew low high W
  have r4 := fun W => rnew low high W
  obtain ⟨s1, hs1⟩ : ∃ s, (c || decide (h ≤ a)) = s := ⟨_, rfl⟩
  obtain ⟨s2, hs2⟩ : ∃ s, (c && decide (l < b)) = s := ⟨_, rfl⟩
  obtain ⟨K, hK⟩ : ∃ s, min low high = s := ⟨_, rfl⟩
  rw [hs1] at e1 r1
  rw [hs2] at e2 r2
  rw [hK] at e3 r3 e4 r4
  have k1 := fun W => gsame s1 l h W
  have k2 := fun W => gsame s2 l h W
  have k3 := fun W => gsame c K high W
  have k4 := fun W => gsame false K high W
  have e6 := fun W => gturn s1 l h b W
  have r6 := fun W => rturn s1 l h b W
  obtain ⟨s3, hs3⟩ : ∃ s, (s1 && decide (l < b)) = s := ⟨_, rfl⟩
  rw [hs3] at e6 r6
  have e7 := fun W => gset s3 l h low high W
  have r7 := fun W => rset s3 l h low high W
  rw [hK] at e7 r7
  have k5 := fun W => gsame s3 K high W
  clear hs1 hs2 hs3 hK
  obtain ⟨A, hA⟩ : ∃ A, w.heap.size = A := ⟨_, rfl⟩
  have HA : Hid (CellsAt A #[.bool c, .int .u64 l, .int .u64 h] (w.alloc (.cells #[.bool c, .int .u64 l, .int .u64 h] 24))) := Lib.hid (CellsAt.newAt #[.bool c, .int .u64 l, .int .u64 h] 24 w A hA.symm)
  have HB : Hid (Below w.heap.size w (w.alloc (.cells #[.bool c, .int .u64 l, .int .u64 h] 24))) := Lib.hid ((Below.refl _ _).alloc (Nat.le_refl _) _)
  have hle : w.heap.size ≤ A := Nat.le_of_eq hA
  have hex := fun W => examples_any W
  go_enter Try.func3, Try.ntmps3
  go_wp2_with fail
  refine (hex _).mono ?_
  rintro e w1 ⟨rfl, hBx⟩
  replace HA := Lib.hid (HA.out.below hBx)
  replace HB := Lib.hid (HB.out.trans (hBx.mono HB.out.size))
  clear hex hBx hA
  have m0 := HA.out.cell 0 _ rfl
  have m1 := HA.out.cell 1 _ rfl
  have m2 := HA.out.cell 2 _ rfl
  have mf0 := HA.out.fro 0 _ rfl
  have mf1 := HA.out.fro 1 _ rfl
  have mf2 := HA.out.fro 2 _ rfl
  have ml := HA.out.lt
  simp only [List.getElem_toArray, List.getElem_cons_zero, List.getElem_cons_succ] at m0 m1 m2
  obtain ⟨X, hX⟩ : ∃ X, (w1).heap.size = X := ⟨_, rfl⟩
  have HX : Hid (CellsAt X #[.bool c, .int .u64 l, .int .u64 h] ((w1).alloc (.cells #[.bool c, .int .u64 l, .int .u64 h] 27))) := Lib.hid (CellsAt.newAt #[.bool c, .int .u64 l, .int .u64 h] 27 _ X hX.symm)
  have hBx : Below (w1).heap.size (w1) ((w1).alloc (.cells #[.bool c, .int .u64 l, .int .u64 h] 27)) := (Below.refl _ _).alloc (Nat.le_refl _) _
  replace HA := Lib.hid (HA.out.below hBx)
  replace HB := Lib.hid (HB.out.trans (hBx.mono HB.out.size))
  clear hBx
  go_wp2
  clear m0 m1 m2 mf0 mf1 mf2 ml hX
  generalize (w1.alloc (.cells #[.bool c, .int .u64 l, .int .u64 h] 27)) = WW at *
  have lA := HA.out.lt
  have qA0 := fun p => Beh.cell lA (HA.out.cell 0 _ rfl) p
  have qA1 := fun p => Beh.cell lA (HA.out.cell 1 _ rfl) p
  have qA2 := fun p => Beh.cell lA (HA.out.cell 2 _ rfl) p
  have lX := HX.out.lt
  have qX0 := fun p => Beh.cell lX (HX.out.cell 0 _ rfl) p
  have qX1 := fun p => Beh.cell lX (HX.out.cell 1 _ rfl) p
  have qX2 := fun p => Beh.cell lX (HX.out.cell 2 _ rfl) p
  simp only [List.getElem_toArray, List.getElem_cons_zero, List.getElem_cons_succ] at qA0 qA1 qA2 qX0 qX1 qX2
  refine wp_region_beh (by kernel_rfl) (by kernel_rfl) ?_
  iterate 6 (quiet_step (exact calls_beh _ (e1 _)))
  iterate 3 (quiet_step (exact calls_beh _ (r1 _)))
  iterate 1 (quiet_step (exact calls_beh _ (k1 _)))
  iterate 6 (quiet_step (exact calls_beh _ (e2 _)))
  iterate 3 (quiet_step (exact calls_beh _ (r2 _)))
  iterate 1 (quiet_step (exact calls_beh _ (k2 _)))
  iterate 7 (quiet_step (exact calls_beh _ (e3 _)))
  iterate 4 (quiet_step (exact calls_beh _ (r3 _)))
  iterate 1 (quiet_step (exact calls_beh _ (k3 _)))
  iterate 6 (quiet_step (exact calls_beh _ (e4 _)))
  iterate 3 (quiet_step (exact calls_beh _ (r4 _)))
  iterate 1 (quiet_step (exact calls_beh _ (k4 _)))
  iterate 6 (quiet_step (exact calls_beh _ (e1 _)))
  iterate 2 (quiet_step (exact calls_beh _ (e6 _)))
  iterate 3 (quiet_step (exact calls_beh _ (e7 _)))
  iterate 3 (quiet_step (exact calls_beh _ (r1 _)))
  iterate 2 (quiet_step (exact calls_beh _ (r6 _)))
  iterate 3 (quiet_step (exact calls_beh _ (r7 _)))
  iterate 1 (quiet_step (exact calls_beh _ (k5 _)))
  iterate 2 (quiet_step (exact calls_beh _ (k5 _)))
  refine wpQuiet_nil ?_
  intro _ hw'
  obtain ⟨⟨W, hBW⟩, hw''⟩ := hw'
  subst hw''
  have HB2 := Lib.hid (HB.out.trans (hBW.mono HB.out.size))
  clear hBW qA0 qA1 qA2 qX0 qX1 qX2 e1 r1 e2 r2 e3 r3 e4 r4 e6 r6 e7 r7 k1 k2 k3 k4 k5
  go_wp2
  go_ret
  exact ⟨rfl, HB2.out⟩
set_option maxRecDepth 100000 in
set_option maxHeartbeats 16000000 in
theorem plays_own (c : Bool) (l h low high a b : Int) (hl0 : 0 ≤ low) (hl1 : low ≤ 18446744073709551615) (hh0 : 0 ≤ high) (hh1 : high ≤ 18446744073709551615) (ha0 : 0 ≤ a) (ha1 : a ≤ 18446744073709551615) (hb0 : 0 ≤ b) (hb1 : b ≤ 18446744073709551615) (w : World) :
    Calls Try.prog 3 #[.agg #[.bool c, .int .u64 l, .int .u64 h], .bool true, .int .u64 low, .int .u64 high, .int .u64 a, .int .u64 b] w fun e w' => e = .returned (.bool true) ∧ Below w.heap.size w w' := by
  obtain ⟨p, hp⟩ : ∃ p, low % 50 = p := ⟨_, rfl⟩
  obtain ⟨q, hq⟩ : ∃ q, high % 50 = q := ⟨_, rfl⟩
  obtain ⟨r, hr⟩ : ∃ r, a % 3 = r := ⟨_, rfl⟩
  obtain ⟨u, hu⟩ : ∃ u, a % 60 = u := ⟨_, rfl⟩
  obtain ⟨v, hv⟩ : ∃ v, b % 60 = v := ⟨_, rfl⟩
  have hn := fun W => gnew p q W
  obtain ⟨M, hM⟩ : ∃ M, min p q = M := ⟨_, rfl⟩
  rw [hM] at hn
  clear hM
  obtain ⟨c2, hc2⟩ : ∃ c2, (r == 0) = c2 := ⟨_, rfl⟩
  have e1 := fun W => gsee c2 M q u W
  have r1 := fun W => rsee c2 M q u W
  have e2 := fun W => gturn c2 M q v W
  have r2 := fun W => rturn c2 M q v W
  have e3 := fun W => gset c2 M q low high W
  have r3 := fun W => rset c2 M q low high W
  have e4 := fun W => gnew low high W
  have r4 := fun W => rnew low high W
  obtain ⟨s1, hs1⟩ : ∃ s, (c2 || decide (q ≤ u)) = s := ⟨_, rfl⟩
  obtain ⟨s2, hs2⟩ : ∃ s, (c2 && decide (M < v)) = s := ⟨_, rfl⟩
  obtain ⟨K, hK⟩ : ∃ s, min low high = s := ⟨_, rfl⟩
  rw [hs1] at e1 r1
  rw [hs2] at e2 r2
  rw [hK] at e3 r3 e4 r4
  have k1 := fun W => gsame s1 M q W
  have k2 := fun W => gsame s2 M q W
  have k3 := fun W => gsame c2 K high W
  have k4 := fun W => gsame false K high W
  have e6 := fun W => gturn s1 M q v W
  have r6 := fun W => rturn s1 M q v W
  obtain ⟨s3, hs3⟩ : ∃ s, (s1 && decide (M < v)) = s := ⟨_, rfl⟩
  rw [hs3] at e6 r6
  have e7 := fun W => gset s3 M q low high W
  have r7 := fun W => rset s3 M q low high W
  rw [hK] at e7 r7
  have k5 := fun W => gsame s3 K high W
  clear hs1 hs2 hs3 hK
  obtain ⟨A, hA⟩ : ∃ A, w.heap.size = A := ⟨_, rfl⟩
  have HA : Hid (CellsAt A #[.bool c, .int .u64 l, .int .u64 h] (w.alloc (.cells #[.bool c, .int .u64 l, .int .u64 h] 24))) := Lib.hid (CellsAt.newAt #[.bool c, .int .u64 l, .int .u64 h] 24 w A hA.symm)
  have HB : Hid (Below w.heap.size w (w.alloc (.cells #[.bool c, .int .u64 l, .int .u64 h] 24))) := Lib.hid ((Below.refl _ _).alloc (Nat.le_refl _) _)
  have hle : w.heap.size ≤ A := Nat.le_of_eq hA
  have hex := fun W => examples_any W
  go_enter Try.func3, Try.ntmps3
  go_wp2_with fail
  refine (hex _).mono ?_
  rintro e w1 ⟨rfl, hBx⟩
  replace HA := Lib.hid (HA.out.below hBx)
  replace HB := Lib.hid (HB.out.trans (hBx.mono HB.out.size))
  clear hex hBx hA
  have m0 := HA.out.cell 0 _ rfl
  have m1 := HA.out.cell 1 _ rfl
  have m2 := HA.out.cell 2 _ rfl
  have mf0 := HA.out.fro 0 _ rfl
  have mf1 := HA.out.fro 1 _ rfl
  have mf2 := HA.out.fro 2 _ rfl
  have ml := HA.out.lt
  simp only [List.getElem_toArray, List.getElem_cons_zero, List.getElem_cons_succ] at m0 m1 m2
  go_wp2_with fail
  refine (hn _).mono ?_
  rintro e w2 ⟨rfl, hBx⟩
  replace HA := Lib.hid (HA.out.below hBx)
  replace HB := Lib.hid (HB.out.trans (hBx.mono HB.out.size))
  clear m0 m1 m2 mf0 mf1 mf2 ml hn hBx
  have m0 := HA.out.cell 0 _ rfl
  have m1 := HA.out.cell 1 _ rfl
  have m2 := HA.out.cell 2 _ rfl
  have mf0 := HA.out.fro 0 _ rfl
  have mf1 := HA.out.fro 1 _ rfl
  have mf2 := HA.out.fro 2 _ rfl
  have ml := HA.out.lt
  simp only [List.getElem_toArray, List.getElem_cons_zero, List.getElem_cons_succ] at m0 m1 m2
  replace HA : Hid (CellsAt A #[.bool false, .int .u64 M, .int .u64 q] (((w2.setCell ⟨A, 0, none⟩ (.bool false)).setCell ⟨A, 1, none⟩ (.int .u64 M)).setCell ⟨A, 2, none⟩ (.int .u64 q))) := Lib.hid (put_gate HA.out)
  replace HB := Lib.hid (below_gate (P := A) (c := .bool false) (l := .int .u64 M) (h := .int .u64 q) HB.out hle)
  replace HA := Lib.hid (HA.out.set 0 (.bool c2) (by simp))
  replace HB := Lib.hid (HB.out.setCell (p := ⟨A, 0, none⟩) hle (.bool c2))
  go_upto_region 9 with fail
  rw [hu, hv]
  clear hp hq hr hu hv hc2 m0 m1 m2 mf0 mf1 mf2 ml
  replace HA : Hid (CellsAt A #[.bool c2, .int .u64 M, .int .u64 q] _) := HA
  generalize ((((w2.setCell ⟨A, 0, none⟩ (.bool false)).setCell ⟨A, 1, none⟩ (.int .u64 M)).setCell ⟨A, 2, none⟩ (.int .u64 q)).setCell ⟨A, 0, none⟩ (.bool c2)) = w5 at *
  have m0 := HA.out.cell 0 _ rfl
  have m1 := HA.out.cell 1 _ rfl
  have m2 := HA.out.cell 2 _ rfl
  have mf0 := HA.out.fro 0 _ rfl
  have mf1 := HA.out.fro 1 _ rfl
  have mf2 := HA.out.fro 2 _ rfl
  have ml := HA.out.lt
  simp only [List.getElem_toArray, List.getElem_cons_zero, List.getElem_cons_succ] at m0 m1 m2
  obtain ⟨X, hX⟩ : ∃ X, (w5).heap.size = X := ⟨_, rfl⟩
  have HX : Hid (CellsAt X #[.bool c2, .int .u64 M, .int .u64 q] ((w5).alloc (.cells #[.bool c2, .int .u64 M, .int .u64 q] 27))) := Lib.hid (CellsAt.newAt #[.bool c2, .int .u64 M, .int .u64 q] 27 _ X hX.symm)
  have hBx : Below (w5).heap.size (w5) ((w5).alloc (.cells #[.bool c2, .int .u64 M, .int .u64 q] 27)) := (Below.refl _ _).alloc (Nat.le_refl _) _
  replace HA := Lib.hid (HA.out.below hBx)
  replace HB := Lib.hid (HB.out.trans (hBx.mono HB.out.size))
  clear hBx
  go_wp2
  clear m0 m1 m2 mf0 mf1 mf2 ml hX
  generalize (w5.alloc (.cells #[.bool c2, .int .u64 M, .int .u64 q] 27)) = WW at *
  have lA := HA.out.lt
  have qA0 := fun p => Beh.cell lA (HA.out.cell 0 _ rfl) p
  have qA1 := fun p => Beh.cell lA (HA.out.cell 1 _ rfl) p
  have qA2 := fun p => Beh.cell lA (HA.out.cell 2 _ rfl) p
  have lX := HX.out.lt
  have qX0 := fun p => Beh.cell lX (HX.out.cell 0 _ rfl) p
  have qX1 := fun p => Beh.cell lX (HX.out.cell 1 _ rfl) p
  have qX2 := fun p => Beh.cell lX (HX.out.cell 2 _ rfl) p
  simp only [List.getElem_toArray, List.getElem_cons_zero, List.getElem_cons_succ] at qA0 qA1 qA2 qX0 qX1 qX2
  refine wp_region_beh (by kernel_rfl) (by kernel_rfl) ?_
  iterate 6 (quiet_step (exact calls_beh _ (e1 _)))
  iterate 3 (quiet_step (exact calls_beh _ (r1 _)))
  iterate 1 (quiet_step (exact calls_beh _ (k1 _)))
  iterate 6 (quiet_step (exact calls_beh _ (e2 _)))
  iterate 3 (quiet_step (exact calls_beh _ (r2 _)))
  iterate 1 (quiet_step (exact calls_beh _ (k2 _)))
  iterate 7 (quiet_step (exact calls_beh _ (e3 _)))
  iterate 4 (quiet_step (exact calls_beh _ (r3 _)))
  iterate 1 (quiet_step (exact calls_beh _ (k3 _)))
  iterate 6 (quiet_step (exact calls_beh _ (e4 _)))
  iterate 3 (quiet_step (exact calls_beh _ (r4 _)))
  iterate 1 (quiet_step (exact calls_beh _ (k4 _)))
  iterate 6 (quiet_step (exact calls_beh _ (e1 _)))
  iterate 2 (quiet_step (exact calls_beh _ (e6 _)))
  iterate 3 (quiet_step (exact calls_beh _ (e7 _)))
  iterate 3 (quiet_step (exact calls_beh _ (r1 _)))
  iterate 2 (quiet_step (exact calls_beh _ (r6 _)))
  iterate 3 (quiet_step (exact calls_beh _ (r7 _)))
  iterate 1 (quiet_step (exact calls_beh _ (k5 _)))
  iterate 2 (quiet_step (exact calls_beh _ (k5 _)))
  refine wpQuiet_nil ?_
  intro _ hw'
  obtain ⟨⟨W, hBW⟩, hw''⟩ := hw'
  subst hw''
  have HB2 := Lib.hid (HB.out.trans (hBW.mono HB.out.size))
  clear hBW qA0 qA1 qA2 qX0 qX1 qX2 e1 r1 e2 r2 e3 r3 e4 r4 e6 r6 e7 r7 k1 k2 k3 k4 k5
  go_wp2
  go_ret
  exact ⟨rfl, HB2.out⟩
theorem GatePlays_walk (c : Bool) (l h : Int) (own : Bool) (low : Int) (h1 : (Lit.int .u64 low).wf = true) (high : Int) (h2 : (Lit.int .u64 high).wf = true) (a : Int) (h3 : (Lit.int .u64 a).wf = true) (b : Int) (h4 : (Lit.int .u64 b).wf = true) (w : World) :
    Calls Try.prog 3 #[.agg #[.bool c, .int .u64 l, .int .u64 h], .bool own, .int .u64 low, .int .u64 high, .int .u64 a, .int .u64 b] w fun e w' => e = .returned (.bool true) ∧ Below w.heap.size w w' := by
  have g1 : 0 ≤ low ∧ low ≤ 18446744073709551615 := by simpa [Lit.wf, IntKind.min, IntKind.max, IntKind.signed, IntKind.bits] using h1
  have g2 : 0 ≤ high ∧ high ≤ 18446744073709551615 := by simpa [Lit.wf, IntKind.min, IntKind.max, IntKind.signed, IntKind.bits] using h2
  have g3 : 0 ≤ a ∧ a ≤ 18446744073709551615 := by simpa [Lit.wf, IntKind.min, IntKind.max, IntKind.signed, IntKind.bits] using h3
  have g4 : 0 ≤ b ∧ b ≤ 18446744073709551615 := by simpa [Lit.wf, IntKind.min, IntKind.max, IntKind.signed, IntKind.bits] using h4
  cases own
  · exact plays_as c l h low high a b w
  · exact plays_own c l h low high a b g1.1 g1.2 g2.1 g2.2 g3.1 g3.2 g4.1 g4.2 w
end Go.Proofs.Ytmlmahkddmegiaa
