/- LineBack, walked. -/
import Derived.Test.YtdmkiiggpelmaaaDoorLnR
import Derived.Test.YtdmkiiggpelmaaaDoorLnH
import Derived.Deep.QuietTactic
namespace Go.Proofs.YtdmkiiggpelmaaaDoor.Lx
open Go Go.RowKit

set_option maxRecDepth 100000 in
set_option maxHeartbeats 16000000 in
theorem LineBack_walk (x : MadeV) (w : World) (hT : Tens w) (hx : x.fits w) :
    Calls Tryd.prog 4 #[.agg x.vals] w fun e w' => e = .returned (.bool true) ∧ Below w.heap.size w w' := by
  obtain ⟨n, ls, t, hf, ht0, ht1, hmade⟩ := made_some { x with own := true } rfl hx.hv hx.ht
  have HX := Lib.hid (hx.own true)
  have hE0 : Below w.heap.size w (w.alloc (.cells x.vals 28)) := (Below.refl _ _).alloc (Nat.le_refl _) _
  have HV := Lib.hid (CellsAt.new x.vals 28 w)
  have HE := Lib.hid hE0
  have HT := Lib.hid hT
  have hv := hx.hv
  obtain ⟨name, lp, ls0, lcap, value, time, own, np, nm, ncap, ip, it, icap⟩ := x
  have HF := Lib.hid hf
  have hl5 := hf.l5
  have HM := Lib.hid hmade
  have HP := Lib.hid (fun p cap W h1 h2 => hf.prints hv ht0 ht1 p cap W h1 h2)
  have HQ := Lib.hid (fun W => hf.parses hv ht0 ht1 W)
  have HR := Lib.hid (fun p cap W h => hf.rights (a := value) ht0 p cap W h)
  have hS := hf.short hv ht1
  clear hx hE0 hT hf hmade
  simp only [MadeV.vals] at HV HE HX HM HP HQ HR hS ⊢
  obtain ⟨S, hSS⟩ : ∃ S, tx (printF ⟨n, ls, value, t⟩) = S := ⟨_, rfl⟩
  rw [hSS] at HP HQ
  obtain ⟨nn, hnn⟩ : ∃ S, tx n = S := ⟨_, rfl⟩
  simp only [hnn] at HM HP HQ HR
  clear hSS hS hnn
  go_enter Tryd.func4, Tryd.ntmps4
  go_wp2_with fail
  refine (examples_ok _ (Go.Proofs.YtdmkiiggpelmaaaDoor.Tens.below HT.out HE.out)).mono ?_
  rintro e w1 ⟨rfl, hB1⟩
  have HE1 := Lib.hid (HE.out.trans (hB1.mono HE.out.size))
  have HV1 := Lib.hid (HV.out.below hB1)
  clear hB1 HE HV
  have k0 := HV1.out.cell 0 _ rfl
  have k1 := HV1.out.cell 1 _ rfl
  have k2 := HV1.out.cell 2 _ rfl
  have k3 := HV1.out.cell 3 _ rfl
  have k4 := HV1.out.cell 4 _ rfl
  have k5 := HV1.out.cell 5 _ rfl
  have k6 := HV1.out.cell 6 _ rfl
  have f4 := HV1.out.fro 4 _ rfl
  have HE2 := Lib.hid (HE1.out.setCell (p := ⟨w.heap.size, 4, none⟩) (Nat.le_refl _) (.bool true))
  go_wp2_with fail
  refine (HM.out _ (HX.out.below HE2.out)).mono ?_
  rintro e w3 ⟨vp, vcap, rfl, hO3, hB3⟩
  have HE3 := Lib.hid (HE2.out.trans (hB3.mono HE2.out.size))
  have hL3 := HE3.out.size
  have HE4 := Lib.hid (HE3.out.alloc hL3 (.cells (lineC nn (.slice vp ls.length vcap) value t) 24))
  have HC4 := Lib.hid (CellsAt.new (lineC nn (.slice vp ls.length vcap) value t) 24 w3)
  have HL4 := Lib.hid ((hO3.lies HF.out.lbl).below ((Below.refl _ _).alloc (Nat.le_refl _) (.cells (lineC nn (.slice vp ls.length vcap) value t) 24)))
  clear hO3 hB3 HE2 HE1 HV1 HX HM k0 k1 k2 k3 k4 k5 k6 f4 HE3
  obtain ⟨N, hN⟩ : ∃ N, w3.heap.size = N := ⟨_, rfl⟩
  rw [hN] at HC4
  have k0 := HC4.out.cell 0 _ rfl
  have k1 := HC4.out.cell 1 _ rfl
  have k2 := HC4.out.cell 2 _ rfl
  have k3 := HC4.out.cell 3 _ rfl
  go_wp2_with fail
  refine (HP.out vp vcap _ (Go.Proofs.YtdmkiiggpelmaaaDoor.Tens.below HT.out HE4.out) HL4.out).mono ?_
  rintro e w5 ⟨rfl, hB5⟩
  have HE5 := Lib.hid (HE4.out.trans (hB5.mono HE4.out.size))
  have HC5 := Lib.hid (HC4.out.below hB5)
  have HL5 := Lib.hid (HL4.out.below hB5)
  clear hB5 HE4 HC4 HL4 HP hN hL3 k0 k1 k2 k3
  go_wp2_with fail
  refine (HQ.out _).mono ?_
  rintro e w6 ⟨vq, cq, rfl, hO6, hB6⟩
  have hE6 := HE5.out.trans (hB6.mono HE5.out.size)
  have hC6 := HC5.out.below hB6
  have hL6 := HL5.out.below hB6
  have hA : Below w6.heap.size w6 (w6.alloc (.cells (lineC nn (.slice vq ls.length cq) value t) 24)) := (Below.refl _ _).alloc (Nat.le_refl _) _
  have HE7 := Lib.hid (hE6.trans (hA.mono hE6.size))
  have HC7 := Lib.hid (hC6.below hA)
  have HL7 := Lib.hid (hL6.below hA)
  have HD7 := Lib.hid (CellsAt.new (lineC nn (.slice vq ls.length cq) value t) 24 w6)
  have HM7 := Lib.hid ((hO6.lies HF.out.lbl).below hA)
  clear hO6 hB6 hE6 hC6 hL6 hA HE5 HC5 HL5 HQ
  obtain ⟨M, hM⟩ : ∃ N, w6.heap.size = N := ⟨_, rfl⟩
  rw [hM] at HD7
  have k1 := HC7.out.cell 1 _ rfl
  have d1 := HD7.out.cell 1 _ rfl
  go_wp2
  clear k1 d1 hM
  go_loopg [9] ls.length (fun g s9 wx => ∃ i : Nat, i + g = ls.length ∧ s9 = .int .i64 (i : Int) ∧ Hid (CellsAt N (lineC nn (.slice vp ls.length vcap) value t) wx) ∧ Hid (CellsAt M (lineC nn (.slice vq ls.length cq) value t) wx) ∧ Hid (LbAt vp ls wx) ∧ Hid (LbAt vq ls wx) ∧ Hid (Below w.heap.size w wx))
  case atStart => exact ⟨0, by omega, rfl, HC7, HD7, HL7, HM7, HE7⟩
  case round =>
    clear HC7 HD7 HL7 HM7 HE7
    obtain ⟨i, hig, rfl, HC, HD, HL, HK, HE⟩ := hrel
    have k1 := HC.out.cell 1 _ rfl
    have d1 := HD.out.cell 1 _ rfl
    by_cases hlt : i < ls.length
    · obtain ⟨g, rfl⟩ : ∃ g, gk = g + 1 := ⟨gk - 1, by omega⟩
      obtain ⟨C, off, rfl, hC, c0, c1, _, _⟩ := HL.out i hlt
      obtain ⟨D, off2, rfl, hD, e0, e1, _, _⟩ := HK.out i hlt
      generalize ls[i] = y at c0 c1 e0 e1
      obtain ⟨y1, y2⟩ := y
      generalize tx y1 = z1 at *
      generalize tx y2 = z2 at *
      have hdr : ∀ q, Below wr.heap.size wr (wr.drewN q) := fun q => ⟨rfl, rfl, rfl, Nat.le_refl _, fun _ _ => rfl⟩
      have HC2 := Lib.hid (fun q => HC.out.below (hdr q))
      have HD2 := Lib.hid (fun q => HD.out.below (hdr q))
      have HL2 := Lib.hid (fun q => HL.out.below (hdr q))
      have HK2 := Lib.hid (fun q => HK.out.below (hdr q))
      have HE2 := Lib.hid (fun q => HE.out.trans ((hdr q).mono HE.out.size))
      clear hdr
      clear HC HD HL HK HE HR
      go_wp2
      go_quiet (fail)
      go_wp2
      go_roundg g
      case measure => omega
      case rel => exact ⟨i + 1, by omega, by go_num, Lib.hid (HC2.out _), Lib.hid (HD2.out _), Lib.hid (HL2.out _), Lib.hid (HK2.out _), Lib.hid (HE2.out _)⟩
    · obtain rfl : i = ls.length := by omega
      have k0 := HC.out.cell 0 _ rfl
      have k2 := HC.out.cell 2 _ rfl
      have k3 := HC.out.cell 3 _ rfl
      have d0 := HD.out.cell 0 _ rfl
      have d2 := HD.out.cell 2 _ rfl
      have d3 := HD.out.cell 3 _ rfl
      go_wp2_with fail
      refine (HR.out vp vcap _ HL.out).mono ?_
      rintro e w8 ⟨rfl, hB8⟩
      have HE8 := Lib.hid (HE.out.trans (hB8.mono HE.out.size))
      go_wp2
      go_ret
      exact ⟨rfl, HE8.out⟩
end Go.Proofs.YtdmkiiggpelmaaaDoor.Lx
