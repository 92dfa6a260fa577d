/- What a key was made of is split off it, sorted; turned round it makes the same key. -/
import Derived.Test.YtlocjhnlemlnmaaLbKb
import Derived.Test.YtlocjhnlemlnmaaLbLk
namespace Go.Proofs.Ytlocjhnlemlnmaa.Lx
open Go Go.RowKit

set_option maxRecDepth 100000 in
set_option maxHeartbeats 8000000 in
theorem back_true (hT : TextOk) (pw : Option Addr) (ws : List Nat) (cw : Nat) (hw : ws.length ≤ maxLen) (p : Option Addr) (l : List ItemV) (c : Nat) (_ : l.length ≤ maxLen) (hlc : l.length ≤ c) (w : World) (hO : Octs pw ws w) (hR : Rows9 p l w) :
    Calls Try.prog 6 #[.slice pw ws.length cw, .slice p l.length c] w fun e w' => e = .returned (.bool true) ∧ Below w.heap.size w w' := by
  have hex := fun w => examples_of hT w
  have HSP := Lib.hid (fun s h w => split_of hT s h w)
  obtain ⟨l16, hl16⟩ : ∃ m, l.take 16 = m := ⟨_, rfl⟩
  obtain ⟨m, hm⟩ : ∃ m, l16.length = m := ⟨_, rfl⟩
  have hml : m ≤ 16 ∧ m ≤ l.length ∧ m = min l.length 16 := by rw [← hm, ← hl16, List.length_take]; omega
  have hmi : min (l.length : Int) 16 = (m : Int) := by omega
  have hfm : (fewS l16).length ≤ 16 := by
    unfold fewS
    rw [List.length_map, List.length_range, hm]
    omega
  have HF := Lib.hid (fun W h1 => few_any p l16 c (by unfold maxLen; omega) (.slice none 0 0) W h1)
  have HW := Lib.hid (fun W h => word_any pw ws cw hw W h)
  have HR := Lib.hid (hl16 ▸ hR.take 16)
  have HO := Lib.hid hO
  have HOK := Lib.hid (fewS_ok l16)
  have HSH := Lib.hid (fewS_short l16)
  have HN13 := Lib.hid (wordS_len ws)
  have HNM := Lib.hid (wordS_named ws)
  rw [hm] at HF
  obtain ⟨hm1, hm2, -⟩ := hml
  have hmc : m ≤ c := by omega
  clear hT hR hO hw hl16 hm
  generalize wordS ws = N at *
  go_enter Try.func6, Try.ntmps6
  go_wp2_with fail
  refine (hex _).mono ?_
  rintro e w1 ⟨rfl, hB⟩
  have HB1 := Lib.hid hB
  clear hB hex
  go_wp2_with fail
  refine (HF.out _ (HR.out.below HB1.out)).mono ?_
  rintro e w2 ⟨v, rfl, hO3, hB⟩
  have HB2 := Lib.hid (HB1.out.trans (hB.mono HB1.out.size))
  obtain ⟨P, C, rfl⟩ := hO3.len
  have HLB2 := Lib.hid (hO3.lies HSH.out)
  have HPC := Lib.hid hO3.none
  clear hB hO3 HB1 HF HR
  generalize fewS l16 = ls at *
  have HLM : Hid (ls.length ≤ maxLab) := Lib.hid (by unfold maxLab; omega)
  have hso := sort_any P C ls HPC.out HLM.out w2 HLB2.out
  go_wp2_with fail
  refine hso.mono ?_
  intro e w3 hE
  clear hso
  cases hs : sortK ls with
  | none =>
    rw [hs] at hE
    obtain ⟨rfl, hB⟩ := hE
    have HB3 := Lib.hid (HB2.out.trans (hB.mono HB2.out.size))
    have HLB3 := Lib.hid (HLB2.out.below hB)
    have hke := few_none HNM.out hfm HOK.out.1 hs
    clear hB HB2 HLB2 hs
    go_wp2_with fail
    refine (HW.out _ (HO.out.below HB3.out)).mono ?_
    rintro e w4 ⟨rfl, hB⟩
    have HB4 := Lib.hid (HB3.out.trans (hB.mono HB3.out.size))
    have hk := key_any N (by have := HN13.out; unfold maxLen; omega) P C ls HPC.out HLM.out w4 (HLB3.out.below hB)
    rw [hke] at hk
    clear hB HB3 HLB3 hke
    go_wp2_with fail
    refine hk.mono ?_
    rintro e w5 ⟨rfl, hB⟩
    have HB5 := Lib.hid (HB4.out.trans (hB.mono HB4.out.size))
    rw [show keyV (.error 11) = .tuple #[.string ⟨#[]⟩, .int .i64 11] from rfl]
    clear hB HB4 hk
    go_wp2
    go_ret
    exact ⟨rfl, HB5.out⟩
  | some s =>
    rw [hs] at hE
    obtain ⟨v, rfl, hO4, hB⟩ := hE
    obtain ⟨h1, h2⟩ := sort_fits HLM.out HLB2.out.short s hs
    obtain ⟨hsd, hpm⟩ := sortK_some hs
    obtain ⟨P2, C2, rfl⟩ := hO4.len
    have hsl : s.length = ls.length := hpm.length_eq
    have HSE := Lib.hid (hO4.lies h2)
    have HSM := Lib.hid h1
    have HB3 := Lib.hid (HB2.out.trans (hB.mono HB2.out.size))
    have HLB3 := Lib.hid (HLB2.out.below hB)
    obtain ⟨hke, hik⟩ := few_some HNM.out HN13.out hfm HOK.out.1 HOK.out.2 hs
    have hrev : keyE N ls.reverse = .ok (keyK N s) := by rw [keyE_perm (List.reverse_perm ls)]; exact hke
    have HREV := Lib.hid hrev
    have HSS := Lib.hid (splitP_of hik)
    have HSX := Lib.hid (key_more hik 120)
    have HSL := Lib.hid (key_less hik)
    obtain ⟨-, -, -, s9, -, -, hklen⟩ := keyE_ok hke
    clear s9
    have hkpos : 1 ≤ (keyK N s).length := by simp [keyK, txK]
    have HPW := Lib.hid (List.pairwise_iff_getElem.1 hsd)
    clear hB HB2 HLB2 hs hO4 h1 h2 hpm hik hrev hsd
    generalize keyK N s = k at *
    go_wp2_with fail
    refine (HW.out _ (HO.out.below HB3.out)).mono ?_
    rintro e w4 ⟨rfl, hB⟩
    have HB4 := Lib.hid (HB3.out.trans (hB.mono HB3.out.size))
    have HSE4 := Lib.hid (HSE.out.below hB)
    have HLB4 := Lib.hid (HLB3.out.below hB)
    have hk := key_any N (by have := HN13.out; unfold maxLen; omega) P C ls HPC.out HLM.out w4 HLB4.out
    rw [hke] at hk
    clear hB HB3 HLB3 HSE hke
    go_wp2_with fail
    refine hk.mono ?_
    rintro e w5 ⟨rfl, hB⟩
    rw [show keyV (.ok k) = .tuple #[.string (tx k), .int .i64 0] from rfl]
    have HB5 := Lib.hid (HB4.out.trans (hB.mono HB4.out.size))
    have HSE5 := Lib.hid (HSE4.out.below hB)
    have HLB5 := Lib.hid (HLB4.out.below hB)
    have HO5 := Lib.hid (OwnL.nil w5.heap.size w5)
    have HX5 := Lib.hid (Below.refl w5.heap.size w5)
    clear hB HB4 HLB4 HSE4 hk
    obtain ⟨n, hn⟩ : ∃ n, ls.length = n := ⟨_, rfl⟩
    rw [hn] at hfm hsl
    have HNL := Lib.hid hn
    rw [hn]
    have HSN := Lib.hid hsl
    clear hn hsl
    go_wp2
    go_loopg [11, 12] n (fun g s11 s12 wx => ∃ (j : Nat) (A : List LabB), s12 = .int .i64 ((n : Int) - 1 - (j : Int)) ∧ j + g = n ∧ A.length = j ∧ Hid (A = ls.reverse.take j) ∧ Hid (OwnL w5.heap.size s11 A wx) ∧ Hid (Below w5.heap.size w5 wx))
    case atStart => exact ⟨0, [], by simp, by omega, rfl, Lib.hid rfl, HO5, HX5⟩
    case round =>
      clear HO5 HX5
      obtain ⟨j, A, rfl, hjg, hAl, HA, HOA, HX⟩ := hrel
      cases gk with
      | succ g =>
        obtain ⟨i, hi⟩ : ∃ i : Nat, (n : Int) - 1 - (j : Int) = (i : Int) := ⟨n - 1 - j, by omega⟩
        rw [hi]
        have hil : i < ls.length := by rw [HNL.out]; omega
        have hin : i < n := by omega
        have hrv : ls.reverse.take (j + 1) = ls.reverse.take j ++ [ls[i]] := by
          have hjr : j < ls.reverse.length := by rw [List.length_reverse, HNL.out]; omega
          rw [List.take_succ_eq_append_getElem hjr, List.getElem_reverse]
          congr 2
          congr 1
          have := HNL.out
          omega
        obtain ⟨D, off, rfl, hD, c0, c1, -, -⟩ := (HLB5.out.below HX.out) i hil
        have HRV := Lib.hid hrv
        clear hrv
        generalize ls[i] = x at c0 c1 HRV
        obtain ⟨x1, x2⟩ := x
        simp only at c0 c1
        have HA2 : Hid (A ++ [(x1, x2)] = ls.reverse.take (j + 1)) := Lib.hid (by rw [HA.out, HRV.out])
        obtain ⟨q0, d0, rfl⟩ := HOA.out.len
        have HAL := Lib.hid hAl
        rw [hAl]
        clear hAl
        obtain ⟨v', w', hr1, hG⟩ := append_label 23 HOA.out (x1, x2) (by have := HAL.out; unfold maxLab; omega) HX.out.size
        have HX2 := Lib.hid (HX.out.trans (hG.low (fun g hg => (HOA.out.lt hg).1) HX.out.size))
        have HO2 := Lib.hid hG.1
        rw [HAL.out] at hr1
        have HR1 := Lib.hid hr1
        have HI := Lib.hid hi
        clear hr1 hG HOA HX HA HRV hil hi
        go_wp2_with (first | (at_builtin; refine Lib.wpList_append_run _ rfl _ _ _ _ rfl _ _ rfl rfl _ _ HR1.out ?_))
        go_roundg g
        case measure => omega
        case rel => exact ⟨j + 1, A ++ [(x1, x2)], by have := HI.out; congr 1; first | omega | (rw [IntWalk.i64_in _ (by omega)]; omega), by omega, by rw [List.length_append, HAL.out]; rfl, HA2, HO2, HX2⟩
      | zero =>
        obtain rfl : j = n := by omega
        have hA := HA.out
        rw [List.take_of_length_le (by rw [List.length_reverse, HNL.out]; exact Nat.le_refl _)] at hA
        subst hA
        rw [show (j : Int) - 1 - (j : Int) = -1 by omega]
        obtain ⟨q0, d0, rfl⟩ := HOA.out.len
        have hlr := HOA.out.lies (fun x hx => HLB5.out.short x (List.mem_reverse.1 hx))
        have hqn := HOA.out.none
        have HRL : Hid (ls.reverse.length = j) := Lib.hid hAl
        have HLR := Lib.hid hlr
        have HQN := Lib.hid hqn
        clear hlr hqn HA HOA
        rw [hAl]
        clear hAl hjg
        generalize ls.reverse = rs at *
        have HBX := Lib.hid (HB5.out.trans (HX.out.mono HB5.out.size))
        have HSEX := Lib.hid (HSE5.out.below HX.out)
        have hkm : k.length ≤ maxLen := by unfold maxLen; omega
        have hms : metricS k = N := by unfold metricS; rw [HSS.out]
        have hme := fun w => metric_of k (fun w => HSP.out k hkm w) w
        rw [hms] at hme
        have HME := Lib.hid hme
        have hsp := fun w => HSP.out k hkm w
        rw [HSS.out] at hsp
        have HS1 := Lib.hid hsp
        have hsl := fun w => HSP.out (k.take (k.length - 1)) (by rw [List.length_take]; unfold maxLen; omega) w
        rw [HSL.out] at hsl
        have HS2 := Lib.hid hsl
        have hsx := fun w => HSP.out (k ++ [120]) (by rw [List.length_append, List.length_singleton]; unfold maxLen; omega) w
        rw [HSX.out] at hsx
        have HS3 := Lib.hid hsx
        clear hme hsp hsl hsx hms hkm HSP HSS HSL HSX HX HSE5 HB5 HLB5
        go_wp2_with fail
        refine (HW.out _ (HO.out.below HBX.out)).mono ?_
        rintro e w6 ⟨rfl, hB⟩
        have HB6 := Lib.hid (HBX.out.trans (hB.mono HBX.out.size))
        have HSE6 := Lib.hid (HSEX.out.below hB)
        have hk := key_any N (by have := HN13.out; unfold maxLen; omega) q0 d0 rs HQN.out (by rw [HRL.out]; unfold maxLab; omega) w6 (HLR.out.below hB)
        rw [HREV.out, HRL.out] at hk
        clear hB HBX HSEX HLR
        go_wp2_with fail
        refine hk.mono ?_
        rintro e w7 ⟨rfl, hB⟩
        rw [show keyV (.ok k) = .tuple #[.string (tx k), .int .i64 0] from rfl]
        have HB7 := Lib.hid (HB6.out.trans (hB.mono HB6.out.size))
        have HSE7 := Lib.hid (HSE6.out.below hB)
        clear hB HB6 HSE6 hk
        go_wp2_with fail
        refine (HS1.out _).mono ?_
        rintro e w8 ⟨v, he, hO8, hB⟩
        have he : e = .returned (.tuple #[.string (tx N), v, .bool true]) := he
        subst he
        have hO8 : OwnL w7.heap.size v s w8 := hO8
        obtain ⟨P3, C3, rfl⟩ := hO8.len
        have hl8 := hO8.lies HSE7.out.short
        have HB8 := Lib.hid (HB7.out.trans (hB.mono HB7.out.size))
        have hsm := same_any P3 P2 s s C3 C2 HSM.out HSM.out w8 hl8 (HSE7.out.below hB)
        rw [decide_eq_true rfl, HSN.out] at hsm
        have HL8 := Lib.hid hl8
        rw [HSN.out]
        clear hB HB7 HSE7 hO8 hl8 HS1
        go_wp2_with fail
        refine hsm.mono ?_
        rintro e w9 ⟨rfl, hB⟩
        have HB9 := Lib.hid (HB8.out.trans (hB.mono HB8.out.size))
        have HL9 := Lib.hid (HL8.out.below hB)
        have HX9 := Lib.hid (Below.refl w9.heap.size w9)
        clear hB HB8 HL8 hsm
        go_wp2
        go_loopg [19] (j - 1) (fun g s19 wx => ∃ t : Nat, s19 = .int .i64 ((t : Int) + 1) ∧ t + g = j - 1 ∧ Hid (Below w9.heap.size w9 wx))
        case atStart => exact ⟨0, rfl, by omega, HX9⟩
        case round =>
          clear HX9
          obtain ⟨t, rfl, htg, HX⟩ := hrel
          cases gk with
          | succ g =>
            have ht1 : t + 1 < j := by omega
            have hta : t < s.length := by rw [HSN.out]; omega
            have htb : t + 1 < s.length := by rw [HSN.out]; omega
            have hLx := HL9.out.below HX.out
            obtain ⟨D, off, rfl, hD, c0, -, -, -⟩ := hLx t hta
            obtain ⟨D', off', hDD, -, e0, -, -, -⟩ := hLx (t + 1) htb
            simp only [Option.some.injEq, Addr.mk.injEq, and_true] at hDD
            obtain ⟨rfl, rfl⟩ := hDD
            have hlt := HPW.out t (t + 1) hta htb (by omega)
            have hbl : Op.bytesLess (tx s[t].1).toList (tx s[t + 1].1).toList = true := by rw [less_tx]; exact hlt
            generalize tx s[t].1 = y1 at *
            generalize tx s[t + 1].1 = y2 at *
            clear hlt hta htb hLx
            go_wp2
            go_quiet (fail)
            have HX2 := Lib.hid (below_drewN HX.out nq)
            generalize wr.drewN nq = W2 at *
            go_wp2
            go_roundg g
            case measure => omega
            case rel => exact ⟨t + 1, by go_num, by omega, HX2⟩
          | zero =>
            have hend : ¬ ((t : Int) + 1 < (j : Int)) := by omega
            have HBw := Lib.hid (HB9.out.trans (HX.out.mono HB9.out.size))
            clear HX HB9 HL9 HPW HREV HQN
            have hz := tx_len k
            have hxe : (tx k).extract 0 (k.length - 1) = tx (k.take (k.length - 1)) := by rw [tx_extract]; rfl
            have hax : tx k ++ ⟨#[120]⟩ = tx (k ++ [120]) := by rw [← tx_append]; rfl
            have hap : (tx k ++ ⟨#[120]⟩).size = k.length + 1 := by rw [hax, tx_len, List.length_append]; rfl
            obtain ⟨kl, hkl⟩ : ∃ kl, k.length = kl := ⟨_, rfl⟩
            obtain ⟨k1, hk1⟩ : ∃ k1, kl - 1 = k1 := ⟨_, rfl⟩
            rw [hkl] at hz hxe hklen hkpos hap
            rw [hk1] at hxe
            simp only [hkl, hk1] at HS2
            have hmin : min (kl : Int) 1 = 1 := by omega
            have hki : (kl : Int) - 1 = (k1 : Int) := by omega
            have hkle : (k1 : Int) ≤ (kl : Int) := by omega
            have hzf : (9223372036854775807 < kl + 1) = False := eq_false (by omega)
            clear hk1 hkl
            generalize tx (k.take k1) = T1 at *
            generalize tx (k ++ [120]) = T2 at *
            generalize tx k = K at *
            go_wp2_with fail
            refine (HS2.out _).mono ?_
            rintro e w10 ⟨rfl, hB⟩
            have HB10 := Lib.hid (HBw.out.trans (hB.mono HBw.out.size))
            clear hB HBw HS2 hxe hmin hki hkle
            go_wp2_with fail
            refine (HS3.out _).mono ?_
            rintro e w11 ⟨rfl, hB⟩
            have HB11 := Lib.hid (HB10.out.trans (hB.mono HB10.out.size))
            clear hB HB10 HS3 hax hap hzf
            go_wp2_with fail
            refine (HW.out _ (HO.out.below HB11.out)).mono ?_
            rintro e w12 ⟨rfl, hB⟩
            have HB12 := Lib.hid (HB11.out.trans (hB.mono HB11.out.size))
            clear hB HB11 HW HO
            go_wp2_with fail
            refine (HME.out _).mono ?_
            rintro e w13 ⟨rfl, hB⟩
            have HB13 := Lib.hid (HB12.out.trans (hB.mono HB12.out.size))
            clear hB HB12 HME
            generalize tx N = TN at *
            go_wp2
            go_ret
            exact ⟨rfl, HB13.out⟩
end Go.Proofs.Ytlocjhnlemlnmaa.Lx
