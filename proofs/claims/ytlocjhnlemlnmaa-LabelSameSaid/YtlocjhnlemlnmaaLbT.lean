/- The chapter's own answer: a key. -/
import Derived.Test.YtlocjhnlemlnmaaLbQ
import Derived.Deep.RegionWith
namespace Go.Proofs.Ytlocjhnlemlnmaa.Lx
open Go Go.RowKit

theorem byte_in (c : UInt8) (W : World) (g : Nat) (h : W.cell? ⟨g, 0, none⟩ = some (.int .u8 (c.toNat : Int))) : (convert 24 9 (.slice (some ⟨g, 0, none⟩) 1 1)).run Try.prog W = .ok (.string (tx [c])) W :=
  run_convert_bytes_back (P := Try.prog) W 24 9 5 ⟨g, 0, none⟩ 1 [c] Try.underlying24 Try.underlying5 Try.underlying9 (fun j hj => by
    have : j = 0 := by simp at hj; omega
    subst this
    rw [Addr.add_lit, Nat.zero_add]
    exact h)
theorem wrap_ofNat (n : Nat) : IntKind.u8.wrap (n : Int) = ((UInt8.ofNat n).toNat : Int) := by
  rw [ofNat_wrap]
  simp [IntKind.wrap, IntKind.signed, IntKind.bits]

set_option maxHeartbeats 2000000 in
theorem ref_text (s : List UInt8) (hs : s.length ≤ 64) (w : World) :
    Calls Try.prog 33 #[.string (tx s)] w fun e w' => e = .returned (.string (tx (txK s))) ∧ Below w.heap.size w w' := by
  have hz : (tx s).size ≤ 64 := by rw [tx_len]; exact hs
  have hw := wrap_ofNat (tx s).size
  have hm : ((tx s).size : Int) % 256 = ((UInt8.ofNat (tx s).size).toNat : Int) := (ofNat_wrap _).symm
  have hb : Below w.heap.size w (w.alloc (.cells #[.int .u8 ((UInt8.ofNat (tx s).size).toNat : Int)] 5)) := (Below.refl _ _).alloc (Nat.le_refl _) _
  have HB := Lib.hid hb
  have HE : Hid (tx [UInt8.ofNat (tx s).size] ++ tx s = tx (txK s)) := Lib.hid (by rw [tx_append, tx_len]; rfl)
  have h1 : (tx [UInt8.ofNat (tx s).size]).size = 1 := by rw [tx_len]; rfl
  have one := byte_in (UInt8.ofNat (tx s).size) (w.alloc (.cells #[.int .u8 ((UInt8.ofNat (tx s).size).toNat : Int)] 5)) w.heap.size (by rw [World.cell?_alloc_new]; rfl)
  clear hb
  generalize tx s = S at *
  generalize UInt8.ofNat S.size = y at *
  generalize tx [y] = M at *
  have z1 : (9223372036854775807 < 1 + S.size) = False := eq_false (by omega)
  have z2 : (9223372036854775807 < M.size + S.size) = False := eq_false (by omega)
  go_enter Try.func33, Try.ntmps33
  go_wp2
  go_ret
  exact ⟨by rw [← HE.out]; rfl, HB.out⟩

set_option maxRecDepth 100000 in
set_option maxHeartbeats 8000000 in
theorem ref_key (n : List UInt8) (hn : n.length ≤ maxLen) (p : Option Addr) (c : Nat) (ls : List LabB) (hlen : ls.length ≤ maxLab) (w : World) (hL : LbAt p ls w) :
    Calls Try.prog 16 #[.string (tx n), .slice p ls.length c] w fun e w' => e = .returned (keyV (keyE n ls)) ∧ Below w.heap.size w w' := by
  have hnm := fun w => ref_named n hn w
  have HLEN := hlen
  unfold maxLab at hlen
  obtain ⟨F0, hF0⟩ : ∃ b, namedL n = b := ⟨_, rfl⟩
  rw [hF0] at hnm
  obtain ⟨Rk, hRk⟩ : ∃ Rk, keyE n ls = Rk := ⟨_, rfl⟩
  rw [hRk]
  have HRK := Lib.hid hRk
  have HF0 := Lib.hid hF0
  have HL := Lib.hid hL
  have HB0 := Lib.hid (Below.refl w.heap.size w)
  have HS := Lib.hid (fun W h => ref_sort p c ls HLEN W h)
  have HFF : Hid (F0 = (F0 && (ls.take 0).all okL)) := Lib.hid (by simp)
  clear hRk hF0 hL HLEN
  go_enter Try.func16, Try.ntmps16
  go_wp2_with fail
  refine (hnm _).mono ?_
  rintro e w1 ⟨rfl, rfl⟩
  clear hnm
  go_wp2
  go_loopg [6, 7] ls.length (fun g s6 s7 wx => ∃ (k : Nat) (F : Bool), s7 = .int .i64 (k : Int) ∧ s6 = .bool F ∧ g + k = ls.length ∧ Hid (F = (F0 && (ls.take k).all okL)) ∧ Hid (LbAt p ls wx) ∧ Hid (Below w1.heap.size w1 wx))
  case atStart => exact ⟨0, F0, rfl, rfl, rfl, HFF, HL, HB0⟩
  case round =>
    clear HL HB0 HFF
    obtain ⟨k, F, rfl, rfl, hgk, HV, HL, HB⟩ := hrel
    cases gk with
    | zero =>
      have hk : k = ls.length := by omega
      subst hk
      have hv := HV.out
      rw [List.take_length] at hv
      cases F with
      | false =>
        have hr : Rk = .error 1 := by
          rw [← HRK.out]
          cases h1 : F0 with
          | false => exact keyE_name (by rw [HF0.out, h1])
          | true => rw [h1, Bool.true_and] at hv; exact keyE_all hv.symm
        subst hr
        clear hv HV HRK HS HL
        go_wp2
        go_ret2
        exact ⟨rfl, HB.out⟩
      | true =>
        have hv2 := hv.symm
        rw [Bool.and_eq_true] at hv2
        obtain ⟨hn1, hall⟩ := hv2
        have hnn : namedL n = true := by rw [HF0.out]; exact hn1
        by_cases hm : 16 < ls.length
        · have hr : Rk = .error 1 := by rw [← HRK.out]; exact keyE_many hm
          subst hr
          clear hv HV HRK HS HL hall hnn hn1
          go_wp2
          go_ret2
          exact ⟨rfl, HB.out⟩
        have hm : ls.length ≤ 16 := by omega
        have hfine := keyE_fine hm hnn hall
        rw [HRK.out] at hfine
        have HALL := Lib.hid hall
        have HNS := Lib.hid (named_short hnn)
        clear hall hv HV hnn hn1
        go_wp2_with fail
        refine (HS.out _ HL.out).mono ?_
        intro e w2 hE
        cases hs : sortK ls with
        | none =>
          rw [hs] at hE hfine
          obtain ⟨rfl, hB2⟩ := hE
          simp only at hfine
          subst hfine
          have HB2 := Lib.hid (HB.out.trans (hB2.mono HB.out.size))
          clear hB2 hs HB HS HL HRK
          go_wp2
          go_ret2
          exact ⟨rfl, HB2.out⟩
        | some s =>
          rw [hs] at hE hfine
          obtain ⟨v, rfl, hO, hB2⟩ := hE
          simp only at hfine
          obtain ⟨s1, s2⟩ := sortK_some hs
          have hsl : s.length = ls.length := s2.length_eq
          have hsf : ∀ x ∈ s, x.1.length ≤ 64 ∧ x.2.length ≤ 64 := fun x hx => okL_fit (List.all_eq_true.1 HALL.out x (s2.mem_iff.1 hx))
          obtain ⟨q, d, rfl⟩ := hO.len
          have hlies := hO.lies (fun x hx => by have := hsf x hx; unfold maxLen; omega)
          have HLI := Lib.hid hlies
          have HSF := Lib.hid hsf
          have HB2 := Lib.hid (HB.out.trans (hB2.mono HB.out.size))
          have HFI := Lib.hid hfine
          have HSL := Lib.hid hsl
          clear hB2 hs HB HS HL HRK hO hlies hsf s1 s2 HALL hfine
          have hns := HNS.out.2
          have htx := fun w => ref_text n hns w
          have hcv := wrap_ofNat ls.length
          have hcm : (ls.length : Int) % 256 = ((UInt8.ofNat ls.length).toNat : Int) := (ofNat_wrap _).symm
          have one := fun W g => byte_in (UInt8.ofNat ls.length) W g
          have HE0 : Hid (tx (txK n) ++ tx [UInt8.ofNat ls.length] = tx (txK n ++ UInt8.ofNat s.length :: (s.take 0).flatMap labK)) := Lib.hid (by rw [tx_append, HSL.out]; simp)
          have e1 : (tx (txK n)).size ≤ 65 := by rw [tx_len]; simp [txK]; omega
          have e2 : (tx [UInt8.ofNat ls.length]).size = 1 := by rw [tx_len]; rfl
          have hN1 : w1.heap.size ≤ w2.heap.size := HB2.out.size
          generalize hy : UInt8.ofNat ls.length = y at hcv hcm one e2 HE0
          obtain ⟨T0, hT0⟩ : ∃ T, tx (txK n) = T := ⟨_, rfl⟩
          obtain ⟨M, hM⟩ : ∃ T, tx [y] = T := ⟨_, rfl⟩
          rw [hM] at one e2 HE0
          simp only [hT0] at htx e1 HE0
          clear hT0 hM hy
          have z1 : (9223372036854775807 < T0.size + M.size) = False := eq_false (by omega)
          have z2 : (9223372036854775807 < T0.size + 1) = False := eq_false (by omega)
          go_wp2
          go_region_with (first
            | (refine (htx _).mono ?_; rintro e w3 ⟨rfl, hB3⟩; have y3 := fun h => hB3.cell (p := ⟨w2.heap.size, 0, none⟩) h; simp at y3))
          all_goals
            have HB3 := Lib.hid hB3
            have HE1 := HE0
            clear hB3 y3 htx hcv hcm one z1 z2 e1 e2
            have hSz : (T0 ++ M).size ≤ 66 := by rw [HE0.out, tx_len]; simp [txK]; omega
            go_wp2
            go_loopg [12, 13] s.length (fun g s12 s13 wx => ∃ (k : Nat) (T : ByteArray), s13 = .int .i64 (k : Int) ∧ s12 = .string T ∧ k + g = s.length ∧ T.size ≤ 66 + 130 * k ∧ Hid (T = tx (txK n ++ UInt8.ofNat s.length :: (s.take k).flatMap labK)) ∧ Hid (Below w2.heap.size w2 wx))
            case atStart =>
              refine ⟨0, T0 ++ M, rfl, rfl, by omega, by omega, HE1, Lib.hid ?_⟩
              first
                | exact ((Below.refl w2.heap.size w2).drew.trans (HB3.out.mono (Nat.le_refl _))).alloc (by have := HB3.out.size; exact this) (.cells #[.int .u8 (y.toNat : Int)] 5)
                | exact ((Below.refl w2.heap.size w2).alloc (Nat.le_refl _) (.cells #[.int .u8 (y.toNat : Int)] 5)).drew.trans (HB3.out.mono (by simp))
            case round =>
              clear HE0 HE1 HB3 hSz
              obtain ⟨k, T, rfl, rfl, hkg, hTs, HT, HBx⟩ := hrel
              cases gk with
              | zero =>
                obtain rfl : k = s.length := by omega
                have hT := HT.out
                rw [List.take_length, show txK n ++ UInt8.ofNat s.length :: s.flatMap labK = keyK n s from rfl] at hT
                have hsz : (keyK n s).length = T.size := by rw [hT, tx_len]
                have hfine := HFI.out
                rw [hsz] at hfine
                have HB3 := Lib.hid (HB2.out.trans (HBx.out.mono HB2.out.size))
                have HTT := Lib.hid hT
                clear hT hsz HT HBx HFI
                by_cases h4 : 2048 < T.size
                · rw [if_pos h4] at hfine
                  subst hfine
                  go_wp2
                  go_ret2
                  exact ⟨rfl, HB3.out⟩
                · rw [if_neg h4] at hfine
                  subst hfine
                  have h4 : T.size ≤ 2048 := by omega
                  have hv : keyV (.ok (keyK n s)) = .tuple #[.string T, .int .i64 0] := by rw [HTT.out]; rfl
                  have HV := Lib.hid hv
                  clear hv
                  go_wp2
                  go_ret2
                  exact ⟨by rw [HV.out]; rfl, HB3.out⟩
              | succ g =>
                have hlt : k < s.length := by omega
                obtain ⟨C, off, rfl, hC, c0, c1, _, _⟩ := (HLI.out.below HBx.out) k hlt
                obtain ⟨f1, f2⟩ := HSF.out _ (List.getElem_mem hlt)
                have HTK : Hid (txK n ++ UInt8.ofNat s.length :: (s.take (k + 1)).flatMap labK = txK n ++ UInt8.ofNat s.length :: (s.take k).flatMap labK ++ txK s[k].1 ++ txK s[k].2) := Lib.hid (by
                  rw [List.take_succ_eq_append_getElem hlt, List.flatMap_append]
                  simp [labK])
                generalize s[k] = x at c0 c1 f1 f2 HTK
                obtain ⟨x1, x2⟩ := x
                have he1 := fun (p : Beh wr) => ref_text x1 f1 p.u
                have he2 := fun (p : Beh wr) => ref_text x2 f2 p.u
                have q1 := Beh.cell (w := wr) hC c0
                have q2 := Beh.cell (w := wr) hC c1
                have s1 : (tx (txK x1)).size ≤ 65 := by rw [tx_len]; simp only [txK, List.length_cons]; simp only at f1; omega
                have s2 : (tx (txK x2)).size ≤ 65 := by rw [tx_len]; simp only [txK, List.length_cons]; simp only at f2; omega
                have HT2 : Hid (T ++ tx (txK x1) ++ tx (txK x2) = tx (txK n ++ UInt8.ofNat s.length :: (s.take (k + 1)).flatMap labK)) := Lib.hid (by
                  rw [HTK.out, HT.out, tx_append, tx_append])
                clear HT HTK f1 f2 c0 c1
                generalize tx (txK x1) = E1 at *
                generalize tx (txK x2) = E2 at *
                generalize tx x1 = y1 at *
                generalize tx x2 = y2 at *
                have z1 : (9223372036854775807 < T.size + E1.size) = False := eq_false (by omega)
                have z2 : (9223372036854775807 < T.size + E1.size + E2.size) = False := eq_false (by omega)
                go_wp2
                refine wp_region_beh (by kernel_rfl) (by kernel_rfl) ?_
                iterate 7 (quiet_step (exact calls_beh _ (he1 _)))
                iterate 9 (quiet_step (exact calls_beh _ (he2 _)))
                refine wpQuiet_nil ?_
                intro W9 hw9
                obtain ⟨pW, hw''⟩ := hw9
                have hBW := pW.h
                rw [← hw''] at hBW
                have HB9 := Lib.hid (HBx.out.trans (hBW.mono HBx.out.size))
                have hT3 : (T ++ E1 ++ E2).size ≤ 66 + 130 * (k + 1) := by rw [ByteArray.size_append, ByteArray.size_append]; omega
                clear hw'' hBW he1 he2 q1 q2 z1 z2 HBx
                generalize T ++ E1 ++ E2 = T3 at *
                go_wp2
                go_roundg g
                case measure => omega
                case rel => exact ⟨k + 1, T3, by go_num, rfl, by omega, hT3, HT2, HB9⟩
    | succ g =>
      have hlt : k < ls.length := by omega
      obtain ⟨C, off, rfl, hC, c0, c1, b0, b1⟩ := HL.out k hlt
      have htk : (ls.take (k + 1)).all okL = ((ls.take k).all okL && okL ls[k]) := by
        rw [List.take_succ_eq_append_getElem hlt, List.all_append]
        simp
      have HTK := Lib.hid htk
      clear htk
      generalize ls[k] = x at c0 c1 b0 b1 HTK
      obtain ⟨x1, x2⟩ := x
      have hn1 := fun w => ref_named x1 b0 w
      have hn2 := fun w => ref_named x2 b1 w
      clear b0 b1
      obtain ⟨N1, h1⟩ : ∃ b, namedL x1 = b := ⟨_, rfl⟩
      obtain ⟨N2, h2⟩ : ∃ b, namedL x2 = b := ⟨_, rfl⟩
      rw [h1] at hn1
      rw [h2] at hn2
      have HR2 : ∀ F', F' = (F && N1 && N2) → Hid (F' = (F0 && (ls.take (k + 1)).all okL)) := fun F' e => Lib.hid (by
        rw [e, HV.out, HTK.out, show okL (x1, x2) = (N1 && N2) by unfold okL; rw [h1, h2]]
        cases F0 <;> cases (ls.take k).all okL <;> cases N1 <;> cases N2 <;> rfl)
      have HR3 := Lib.hid HR2
      clear h1 h2 HV HTK HR2
      generalize tx x1 = y1 at *
      generalize tx x2 = y2 at *
      go_wp2_with fail
      refine (hn1 _).mono ?_
      rintro e w1 ⟨rfl, rfl⟩
      go_wp2_with fail
      refine (hn2 _).mono ?_
      rintro e w1 ⟨rfl, rfl⟩
      cases F <;> cases N1 <;> cases N2
      all_goals
        go_wp2
        go_roundg g
        case measure => omega
        case rel => exact ⟨k + 1, _, by go_num, rfl, by omega, HR3.out _ rfl, HL, HB⟩
end Go.Proofs.Ytlocjhnlemlnmaa.Lx
