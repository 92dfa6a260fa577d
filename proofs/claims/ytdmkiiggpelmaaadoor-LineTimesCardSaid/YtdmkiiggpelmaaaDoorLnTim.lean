/- LineTimes, walked. -/
import Derived.Test.YtdmkiiggpelmaaaDoorLnR
import Derived.Test.YtdmkiiggpelmaaaDoorLnH
import Derived.Deep.QuietTactic
namespace Go.Proofs.YtdmkiiggpelmaaaDoor.Lx
open Go Go.RowKit

theorem list_inj {a b : ByteArray} (h : a.toList = b.toList) : a = b := by
  rw [Lib.toList_data, Lib.toList_data] at h
  rw [← tx_list a, ← tx_list b, h]
theorem tx_inj {a b : List UInt8} (h : tx a = tx b) : a = b := by
  have := congrArg (fun s : ByteArray => s.data.toList) h
  simpa only [list_tx] using this
set_option maxRecDepth 100000 in
set_option maxHeartbeats 16000000 in
theorem LineTimes_walk (x : MadeV) (val : Int) (hval : (Lit.int .i64 val).wf = true) (tm : Int) (htm : (Lit.int .i64 tm).wf = true) (w : World) (hT : Tens w) (hx : x.fits w) :
    Calls Tryd.prog 7 #[.agg x.vals, .int .i64 val, .int .i64 tm] w fun e w' => e = .returned (.bool true) ∧ Below w.heap.size w w' := by
  obtain ⟨n, ls, t, hf, ht0, ht1, hmade⟩ := made_some { x with own := true } rfl hx.hv hx.ht
  have ha := in64_wf hval
  have hb := in64_wf htm
  unfold In64 at hb
  clear hval htm
  have HX := Lib.hid (hx.own true)
  have hE0 : Below w.heap.size w (w.alloc (.cells x.vals 28)) := (Below.refl _ _).alloc (Nat.le_refl _) _
  have HV := Lib.hid (CellsAt.new x.vals 28 w)
  have HE := Lib.hid hE0
  have HT := Lib.hid hT
  have hv := hx.hv
  obtain ⟨name, lp, ls0, lcap, value, time, own, np, nm, ncap, ip, it, icap⟩ := x
  have HF := Lib.hid hf
  have hl5 := hf.l5
  have HM := Lib.hid hmade
  obtain ⟨u, hu⟩ : ∃ u, max tm 0 = u := ⟨_, rfl⟩
  have hu0 : 0 ≤ u := by omega
  have hu1 : u ≤ 9223372036854775807 := by omega
  have HP := Lib.hid (fun p cap W h1 h2 => hf.prints hv ht0 ht1 p cap W h1 h2)
  have HP2 := Lib.hid (fun p cap W h1 h2 => hf.prints ha hu0 hu1 p cap W h1 h2)
  have HQ := Lib.hid (fun W => hf.parses ha hu0 hu1 W)
  have hinj := fun h => hf.inj hv ht0 ht1 ha hu0 hu1 h
  clear hx hE0 hT hf hmade
  simp only [MadeV.vals] at HV HE HX HM HP HQ HP2 hinj ⊢
  obtain ⟨S, hSS⟩ : ∃ S, tx (printF ⟨n, ls, value, t⟩) = S := ⟨_, rfl⟩
  obtain ⟨S2, hS2⟩ : ∃ S, tx (printF ⟨n, ls, val, u⟩) = S := ⟨_, rfl⟩
  have hcase : (S = S2 ∧ value = val ∧ t = u) ∨ (S ≠ S2 ∧ value ≠ val) ∨ (S ≠ S2 ∧ value = val ∧ t ≠ u) := by
    by_cases h1 : value = val
    · by_cases h2 : t = u
      · exact .inl ⟨by rw [← hSS, ← hS2, h1, h2], h1, h2⟩
      · refine .inr (.inr ⟨fun e => h2 (hinj ?_).2, h1, h2⟩)
        rw [← hSS, ← hS2] at e
        exact tx_inj e
    · refine .inr (.inl ⟨fun e => h1 (hinj ?_).1, h1⟩)
      rw [← hSS, ← hS2] at e
      exact tx_inj e
  rw [hSS] at HP
  rw [hS2] at HP2 HQ
  obtain ⟨nn, hnn⟩ : ∃ S, tx n = S := ⟨_, rfl⟩
  simp only [hnn] at HM HP HQ HP2
  have HCA := Lib.hid hcase
  clear hSS hS2 hnn hinj hcase ha hv
  go_enter Tryd.func7, Tryd.ntmps7
  go_wp2_with fail
  refine (examples_ok _ (Go.Proofs.YtdmkiiggpelmaaaDoor.Tens.below HT.out HE.out)).mono ?_
  rintro e w1 ⟨rfl, hB1⟩
  have HE1 := Lib.hid (HE.out.trans (hB1.mono HE.out.size))
  have HV1 := Lib.hid (HV.out.below hB1)
  clear hB1 HE HV
  have k0 := HV1.out.cell 0 _ rfl
  have k1 := HV1.out.cell 1 _ rfl
  have k2 := HV1.out.cell 2 _ rfl
  have k3 := HV1.out.cell 3 _ rfl
  have k4 := HV1.out.cell 4 _ rfl
  have k5 := HV1.out.cell 5 _ rfl
  have k6 := HV1.out.cell 6 _ rfl
  have f4 := HV1.out.fro 4 _ rfl
  have HE2 := Lib.hid (HE1.out.setCell (p := ⟨w.heap.size, 4, none⟩) (Nat.le_refl _) (.bool true))
  go_wp2_with fail
  refine (HM.out _ (HX.out.below HE2.out)).mono ?_
  rintro e w3 ⟨vp, vcap, rfl, hO3, hB3⟩
  have hE3 := HE2.out.trans (hB3.mono HE2.out.size)
  have hA1 : Below w3.heap.size w3 (w3.alloc (.cells (lineC nn (.slice vp ls.length vcap) value t) 24)) := (Below.refl _ _).alloc (Nat.le_refl _) _
  have hA2 := hA1.alloc hA1.size (.cells (lineC nn (.slice vp ls.length vcap) val u) 24)
  have HC5 := Lib.hid ((CellsAt.new (lineC nn (.slice vp ls.length vcap) value t) 24 w3).past (.cells (lineC nn (.slice vp ls.length vcap) val u) 24))
  have HD5 := Lib.hid (CellsAt.newAt (lineC nn (.slice vp ls.length vcap) val u) 24 (w3.alloc (.cells (lineC nn (.slice vp ls.length vcap) value t) 24)) (w3.heap.size + 1) (by simp))
  have HL5 := Lib.hid ((hO3.lies HF.out.lbl).below hA2)
  have HE5 := Lib.hid (hE3.trans (hA2.mono hE3.size))
  clear hO3 hB3 HE2 HE1 HV1 HX HM hA1 hA2 hE3 k0 k1 k2 k3 k4 k5 k6 f4
  go_wp2_with fail
  refine (HP.out vp vcap _ (Go.Proofs.YtdmkiiggpelmaaaDoor.Tens.below HT.out HE5.out) HL5.out).mono ?_
  rintro e w6 ⟨rfl, hB6⟩
  have HE6 := Lib.hid (HE5.out.trans (hB6.mono HE5.out.size))
  have HC6 := Lib.hid (HC5.out.below hB6)
  have HD6 := Lib.hid (HD5.out.below hB6)
  have HL6 := Lib.hid (HL5.out.below hB6)
  clear hB6 HE5 HC5 HD5 HL5 HP
  obtain ⟨N, hN⟩ : ∃ N, w3.heap.size = N := ⟨_, rfl⟩
  rw [hN] at HC6 HD6
  have d0 := HD6.out.cell 0 _ rfl
  have d1 := HD6.out.cell 1 _ rfl
  have d2 := HD6.out.cell 2 _ rfl
  have d3 := HD6.out.cell 3 _ rfl
  go_wp2_with fail
  refine (HP2.out vp vcap _ (Go.Proofs.YtdmkiiggpelmaaaDoor.Tens.below HT.out HE6.out) HL6.out).mono ?_
  rintro e w7 ⟨rfl, hB7⟩
  have HE7 := Lib.hid (HE6.out.trans (hB7.mono HE6.out.size))
  have HC7 := Lib.hid (HC6.out.below hB7)
  have HD7 := Lib.hid (HD6.out.below hB7)
  have HL7 := Lib.hid (HL6.out.below hB7)
  clear hB7 HE6 HC6 HD6 HL6 HP2 hN d0 d1 d2 d3
  go_wp2_with fail
  refine (HQ.out _).mono ?_
  rintro e w8 ⟨vq, cq, rfl, hO8, hB8⟩
  have hE8 := HE7.out.trans (hB8.mono HE7.out.size)
  have hC8 := HC7.out.below hB8
  have hD8 := HD7.out.below hB8
  have hL8 := HL7.out.below hB8
  have hA : Below w8.heap.size w8 (w8.alloc (.cells (lineC nn (.slice vq ls.length cq) val u) 24)) := (Below.refl _ _).alloc (Nat.le_refl _) _
  have HE9 := Lib.hid (hE8.trans (hA.mono hE8.size))
  have HC9 := Lib.hid (hC8.below hA)
  have HD9 := Lib.hid (hD8.below hA)
  have HL9 := Lib.hid (hL8.below hA)
  have HG9 := Lib.hid (CellsAt.new (lineC nn (.slice vq ls.length cq) val u) 24 w8)
  have HM9 := Lib.hid ((hO8.lies HF.out.lbl).below hA)
  clear hO8 hB8 hE8 hC8 hD8 hL8 hA HE7 HC7 HD7 HL7 HQ
  obtain ⟨M, hM⟩ : ∃ N, w8.heap.size = N := ⟨_, rfl⟩
  rw [hM] at HG9
  have k1 := HC9.out.cell 1 _ rfl
  have g1 := HG9.out.cell 1 _ rfl
  go_wp2
  clear k1 g1 hM
  go_loopg [16] ls.length (fun g s16 wx => ∃ i : Nat, i + g = ls.length ∧ s16 = .int .i64 (i : Int) ∧ Hid (CellsAt N (lineC nn (.slice vp ls.length vcap) value t) wx) ∧ Hid (CellsAt (N + 1) (lineC nn (.slice vp ls.length vcap) val u) wx) ∧ Hid (CellsAt M (lineC nn (.slice vq ls.length cq) val u) wx) ∧ Hid (LbAt vp ls wx) ∧ Hid (LbAt vq ls wx) ∧ Hid (Below w.heap.size w wx))
  case atStart => exact ⟨0, by omega, rfl, HC9, HD9, HG9, HL9, HM9, HE9⟩
  case round =>
    clear HC9 HD9 HG9 HL9 HM9 HE9
    obtain ⟨i, hig, rfl, HC, HD, HG, HL, HK, HE⟩ := hrel
    have k1 := HC.out.cell 1 _ rfl
    have g1 := HG.out.cell 1 _ rfl
    by_cases hlt : i < ls.length
    · obtain ⟨g, rfl⟩ : ∃ g, gk = g + 1 := ⟨gk - 1, by omega⟩
      obtain ⟨C, off, rfl, hC, c0, c1, _, _⟩ := HL.out i hlt
      obtain ⟨D, off2, rfl, hD, e0, e1, _, _⟩ := HK.out i hlt
      generalize ls[i] = y at c0 c1 e0 e1
      obtain ⟨y1, y2⟩ := y
      generalize tx y1 = z1 at *
      generalize tx y2 = z2 at *
      have hdr : ∀ q, Below wr.heap.size wr (wr.drewN q) := fun q => ⟨rfl, rfl, rfl, Nat.le_refl _, fun _ _ => rfl⟩
      have HC2 := Lib.hid (fun q => HC.out.below (hdr q))
      have HD2 := Lib.hid (fun q => HD.out.below (hdr q))
      have HG2 := Lib.hid (fun q => HG.out.below (hdr q))
      have HL2 := Lib.hid (fun q => HL.out.below (hdr q))
      have HK2 := Lib.hid (fun q => HK.out.below (hdr q))
      have HE2 := Lib.hid (fun q => HE.out.trans ((hdr q).mono HE.out.size))
      clear hdr
      clear HC HD HG HL HK HE HCA
      go_wp2
      go_quiet (fail)
      go_wp2
      go_roundg g
      case measure => omega
      case rel => exact ⟨i + 1, by omega, by go_num, Lib.hid (HC2.out _), Lib.hid (HD2.out _), Lib.hid (HG2.out _), Lib.hid (HL2.out _), Lib.hid (HK2.out _), Lib.hid (HE2.out _)⟩
    · obtain rfl : i = ls.length := by omega
      have k2 := HC.out.cell 2 _ rfl
      have k3 := HC.out.cell 3 _ rfl
      have d2 := HD.out.cell 2 _ rfl
      have d3 := HD.out.cell 3 _ rfl
      have g2 := HG.out.cell 2 _ rfl
      have g3 := HG.out.cell 3 _ rfl
      have hca := HCA.out
      clear HCA HC HD HG HL HK
      rcases hca with ⟨h1, h2, h3⟩ | ⟨h1, h2⟩ | ⟨h1, h2, h3⟩
      · subst h1 h2 h3
        go_wp2
        go_ret
        exact ⟨rfl, HE.out⟩
      · have h1b : (S.toList == S2.toList) = false := by rw [beq_eq_false_iff_ne]; exact fun e => h1 (list_inj e)
        have h2b : (value == val) = false := by rw [beq_eq_false_iff_ne]; exact h2
        clear h1 h2
        go_wp2
        go_ret
        exact ⟨rfl, HE.out⟩
      · subst h2
        have h1b : (S.toList == S2.toList) = false := by rw [beq_eq_false_iff_ne]; exact fun e => h1 (list_inj e)
        have h3b : (t == u) = false := by rw [beq_eq_false_iff_ne]; exact h3
        clear h1 h3
        go_wp2
        go_ret
        exact ⟨rfl, HE.out⟩
end Go.Proofs.YtdmkiiggpelmaaaDoor.Lx
