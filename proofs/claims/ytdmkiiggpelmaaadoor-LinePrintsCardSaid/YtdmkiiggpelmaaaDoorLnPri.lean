/- LinePrints, walked. -/
import Derived.Test.YtdmkiiggpelmaaaDoorLnS
import Derived.Test.YtdmkiiggpelmaaaDoorLnH
namespace Go.Proofs.YtdmkiiggpelmaaaDoor.Lx
open Go Go.RowKit

/-- What is made of any parts. -/
theorem made_say (x : MadeV) (w0 : World) (hx0 : x.fits w0) : ∃ (n : List UInt8) (ls : List Lab) (v t : Int), n.length ≤ maxLen ∧ ls.length ≤ maxLen ∧ In64 v ∧ t ≤ 9223372036854775807 ∧
    ∀ w, x.fits w → Calls Tryd.prog 9 #[.agg x.vals] w fun e w' => ∃ p cap, e = .returned (.agg (lineC (tx n) (.slice p ls.length cap) v t)) ∧ LbAt p ls w' ∧ Below w.heap.size w w' := by
  by_cases ho : x.own = true
  · obtain ⟨n, ls, t, hf, _, ht1, hm⟩ := made_some x ho hx0.hv hx0.ht
    refine ⟨n, ls, x.value, t, hf.nmax, hf.lmax, hx0.hv, ht1, fun w hx => (hm w hx).mono ?_⟩
    rintro e w' ⟨p, cap, rfl, hO, hB⟩
    exact ⟨p, cap, rfl, hO.lies hf.lbl, hB⟩
  · have ho : x.own = false := by simpa using ho
    have ht := hx0.ht
    unfold In64 at ht
    refine ⟨x.name, x.ls, x.value, x.time, hx0.hn, hx0.hl, hx0.hv, ht.2, fun w hx => (made_own x ho w).mono ?_⟩
    rintro e w' ⟨rfl, hB⟩
    exact ⟨x.lp, x.lcap, rfl, hx.lb.below hB, hB⟩
theorem ref_print (n : List UInt8) (hn : n.length ≤ maxLen) (p : Option Addr) (cap : Nat) (ls : List Lab) (a b : Int) (ha : In64 a) (hb : b ≤ 9223372036854775807) (hlm : ls.length ≤ maxLen) (w : World) (hL : LbAt p ls w) :
    Calls Tryd.prog 11 #[.agg (lineC (tx n) (.slice p ls.length cap) a b)] w fun e w' => e = .returned (printV ⟨n, ls, a, b⟩ (printB ⟨n, ls, a, b⟩)) ∧ Below w.heap.size w w' := by
  unfold printB
  by_cases hr : rightF ⟨n, ls, a, b⟩ = true
  · rw [hr]
    exact ref_print_right n p cap ls a b ha hb hr w hL
  · have hr : rightF ⟨n, ls, a, b⟩ = false := by simpa using hr
    rw [hr]
    exact ref_print_wrong n hn p cap ls a b hlm hr w hL
theorem printV_two (L : LineV) (b : Bool) : ∃ s : ByteArray, printV L b = .tuple #[.string s, .bool b] := by cases b <;> exact ⟨_, rfl⟩

set_option maxRecDepth 100000 in
set_option maxHeartbeats 4000000 in
theorem LinePrints_walk (x : MadeV) (w : World) (hT : Tens w) (hx : x.fits w) :
    Calls Tryd.prog 3 #[.agg x.vals] w fun e w' => e = .returned (.bool true) ∧ Below w.heap.size w w' := by
  obtain ⟨n, ls, v, t, hn, hl, hv, ht, hmade⟩ := made_say x w hx
  have HX := Lib.hid hx
  have hE0 : Below w.heap.size w (w.alloc (.cells x.vals 28)) := (Below.refl _ _).alloc (Nat.le_refl _) _
  have HV := Lib.hid (CellsAt.new x.vals 28 w)
  have HE := Lib.hid hE0
  have HT := Lib.hid hT
  obtain ⟨S, hS⟩ := printV_two ⟨n, ls, v, t⟩ (printB ⟨n, ls, v, t⟩)
  have hP := fun p cap W h1 h2 => print_any n hn p cap ls v t hv ht hl W h1 h2
  have hQ := fun p cap W h => ref_print n hn p cap ls v t hv ht hl W h
  have hR := fun p cap W h => right_any n hn p cap ls v t hl W h
  have hR2 := fun p cap W h => ref_right n hn p cap ls v t hl W h
  obtain ⟨B, hB⟩ : ∃ B, printB ⟨n, ls, v, t⟩ = B := ⟨_, rfl⟩
  obtain ⟨R, hRR⟩ : ∃ B, rightF ⟨n, ls, v, t⟩ = B := ⟨_, rfl⟩
  rw [hB] at hS
  simp only [hB, hS] at hP hQ
  simp only [hRR] at hR hR2
  obtain ⟨nn, hnn⟩ : ∃ S, tx n = S := ⟨_, rfl⟩
  simp only [hnn] at hP hQ hR hR2 hmade
  have HM := Lib.hid hmade
  have HP := Lib.hid hP
  have HQ := Lib.hid hQ
  have HR := Lib.hid hR
  have HR2 := Lib.hid hR2
  obtain ⟨name, lp, ls0, lcap, value, time, own, np, nm, ncap, ip, it, icap⟩ := x
  simp only [MadeV.vals] at HV HE HX HM ⊢
  clear hx hE0 hT hmade hS hP hQ hR hR2 hB hRR hnn hn hv ht
  unfold maxLen at hl
  go_enter Tryd.func3, Tryd.ntmps3
  go_wp2_with fail
  refine (examples_ok _ (Go.Proofs.YtdmkiiggpelmaaaDoor.Tens.below HT.out HE.out)).mono ?_
  rintro e w1 ⟨rfl, hB1⟩
  have HE1 := Lib.hid (HE.out.trans (hB1.mono HE.out.size))
  have HV1 := Lib.hid (HV.out.below hB1)
  clear hB1 HE HV
  have k0 := HV1.out.cell 0 _ rfl
  have k1 := HV1.out.cell 1 _ rfl
  have k2 := HV1.out.cell 2 _ rfl
  have k3 := HV1.out.cell 3 _ rfl
  have k4 := HV1.out.cell 4 _ rfl
  have k5 := HV1.out.cell 5 _ rfl
  have k6 := HV1.out.cell 6 _ rfl
  go_wp2_with fail
  refine (HM.out _ (HX.out.below HE1.out)).mono ?_
  rintro e w3 ⟨vp, vcap, rfl, hL3, hB3⟩
  have hE3 := HE1.out.trans (hB3.mono HE1.out.size)
  have hA1 : Below w3.heap.size w3 (w3.alloc (.cells (lineC nn (.slice vp ls.length vcap) v t) 24)) := (Below.refl _ _).alloc (Nat.le_refl _) _
  have HC4 := Lib.hid (CellsAt.new (lineC nn (.slice vp ls.length vcap) v t) 24 w3)
  have HE4 := Lib.hid (hE3.trans (hA1.mono hE3.size))
  have HL4 := Lib.hid (hL3.below hA1)
  clear hL3 hB3 hE3 hA1 HE1 HV1 HM HX k0 k1 k2 k3 k4 k5 k6
  go_wp2_with fail
  refine (HP.out vp vcap _ (Go.Proofs.YtdmkiiggpelmaaaDoor.Tens.below HT.out HE4.out) HL4.out).mono ?_
  rintro e w5 ⟨rfl, hB5⟩
  have HE5 := Lib.hid (HE4.out.trans (hB5.mono HE4.out.size))
  have HC5 := Lib.hid (HC4.out.below hB5)
  have HL5 := Lib.hid (HL4.out.below hB5)
  clear hB5 HE4 HC4 HL4 HP
  obtain ⟨N, hN⟩ : ∃ N, w3.heap.size = N := ⟨_, rfl⟩
  rw [hN] at HC5
  have k0 := HC5.out.cell 0 _ rfl
  have k1 := HC5.out.cell 1 _ rfl
  have k2 := HC5.out.cell 2 _ rfl
  have k3 := HC5.out.cell 3 _ rfl
  go_wp2_with fail
  refine (ref_line nn vp ls.length vcap v t _).mono ?_
  rintro e w6 ⟨rfl, hB6⟩
  have HE6 := Lib.hid (HE5.out.trans (hB6.mono HE5.out.size))
  have HC6 := Lib.hid (HC5.out.below hB6)
  have HL6 := Lib.hid (HL5.out.below hB6)
  clear hB6 HE5 HC5 HL5 hN k0 k1 k2 k3
  go_wp2_with fail
  refine (HQ.out vp vcap _ HL6.out).mono ?_
  rintro e w7 ⟨rfl, hB7⟩
  have HE7 := Lib.hid (HE6.out.trans (hB7.mono HE6.out.size))
  have HC7 := Lib.hid (HC6.out.below hB7)
  have HL7 := Lib.hid (HL6.out.below hB7)
  clear hB7 HE6 HC6 HL6 HQ
  have hBl := HC7.out.lt
  have q0 := Beh.cell (w := w7) hBl (HC7.out.cell 0 _ rfl)
  have q1 := Beh.cell (w := w7) hBl (HC7.out.cell 1 _ rfl)
  have q2 := Beh.cell (w := w7) hBl (HC7.out.cell 2 _ rfl)
  have q3 := Beh.cell (w := w7) hBl (HC7.out.cell 3 _ rfl)
  have he1 := fun (p : Beh w7) => HR.out vp vcap p.u (HL7.out.below p.h)
  have he2 := fun (p : Beh w7) => ref_line nn vp ls.length vcap v t p.u
  have he3 := fun (p : Beh w7) => HR2.out vp vcap p.u (HL7.out.below p.h)
  clear HR HR2 HC7 HL7
  go_wp2
  refine wp_region_beh (by kernel_rfl) (by kernel_rfl) ?_
  iterate 20 (quiet_step (first | exact calls_beh _ (he1 _) | exact calls_beh _ (he2 _) | exact calls_beh _ (he3 _)))
  refine wpQuiet_nil ?_
  intro _ hw'
  obtain ⟨⟨W, hBW⟩, hw''⟩ := hw'
  subst hw''
  have HB2 := Lib.hid (HE7.out.trans (hBW.mono HE7.out.size))
  clear he1 he2 he3 q0 q1 q2 q3 hBW
  go_wp2
  go_ret
  exact ⟨rfl, HB2.out⟩
end Go.Proofs.YtdmkiiggpelmaaaDoor.Lx
