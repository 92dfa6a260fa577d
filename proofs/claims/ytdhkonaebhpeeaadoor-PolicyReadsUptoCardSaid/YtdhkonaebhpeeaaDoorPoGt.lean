/- A policy is got off bytes. -/
import Derived.Test.YtdhkonaebhpeeaaDoorPoGm
import Derived.Test.YtdhkonaebhpeeaaDoorPoRd
namespace Go.Proofs.YtdhkonaebhpeeaaDoor.Po
open Go Go.RowKit

def GetV : Option (List Int × List Int × List UInt8) → Value → Value
  | none, _ => .tuple #[.agg (valsP zeroN (.slice none 0 0)), .string ⟨#[]⟩, .bool false]
  | some x, v => .tuple #[.agg (valsP x.1 v), .string (tx x.2.2), .bool true]
def GetT : Option (List Int × List Int × List UInt8) → List Int
  | none => []
  | some x => x.2.1
set_option maxRecDepth 100000 in
set_option maxHeartbeats 16000000 in
theorem get_any (s : List UInt8) (hl : s.length ≤ 9223372036854775807) (w : World) :
    Calls Tryd.prog 25 #[.string (tx s)] w fun e w' => ∃ v, e = .returned (GetV (getZ s) v) ∧ Tr (fun j => j < w.heap.size) v (GetT (getZ s)) w' ∧ Below w.heap.size w w' := by
  obtain ⟨N, hN⟩ : ∃ N, w.heap.size = N := ⟨_, rfl⟩
  have hA : Below N w ((w.alloc (.cells #[.int .i64 0, .int .i64 0, .int .i64 0, .int .i64 0, .int .i64 0, .int .i64 0, .int .i64 0, .int .i64 0, .int .i64 0, .int .i64 0, .slice none 0 0] 24)).alloc (.cells #[.int .i64 0, .int .i64 0, .int .i64 0, .int .i64 0, .int .i64 0, .int .i64 0, .int .i64 0, .int .i64 0, .int .i64 0, .int .i64 0, .slice none 0 0] 24)) := ((Below.refl N w).alloc (by omega) _).alloc (by simp; omega) _
  have hZ0 : PolAt N zeroN (.slice none 0 0) ((w.alloc (.cells #[.int .i64 0, .int .i64 0, .int .i64 0, .int .i64 0, .int .i64 0, .int .i64 0, .int .i64 0, .int .i64 0, .int .i64 0, .int .i64 0, .slice none 0 0] 24)).alloc (.cells #[.int .i64 0, .int .i64 0, .int .i64 0, .int .i64 0, .int .i64 0, .int .i64 0, .int .i64 0, .int .i64 0, .int .i64 0, .int .i64 0, .slice none 0 0] 24)) := (CellsAt.newAt #[.int .i64 0, .int .i64 0, .int .i64 0, .int .i64 0, .int .i64 0, .int .i64 0, .int .i64 0, .int .i64 0, .int .i64 0, .int .i64 0, .slice none 0 0] 24 w N hN.symm).past _
  have hP0 : PolAt (N + 1) zeroN (.slice none 0 0) ((w.alloc (.cells #[.int .i64 0, .int .i64 0, .int .i64 0, .int .i64 0, .int .i64 0, .int .i64 0, .int .i64 0, .int .i64 0, .int .i64 0, .int .i64 0, .slice none 0 0] 24)).alloc (.cells #[.int .i64 0, .int .i64 0, .int .i64 0, .int .i64 0, .int .i64 0, .int .i64 0, .int .i64 0, .int .i64 0, .int .i64 0, .int .i64 0, .slice none 0 0] 24)) := CellsAt.newAt #[.int .i64 0, .int .i64 0, .int .i64 0, .int .i64 0, .int .i64 0, .int .i64 0, .int .i64 0, .int .i64 0, .int .i64 0, .int .i64 0, .slice none 0 0] 24 _ _ (by simp [hN])
  have hs1 : ((w.alloc (.cells #[.int .i64 0, .int .i64 0, .int .i64 0, .int .i64 0, .int .i64 0, .int .i64 0, .int .i64 0, .int .i64 0, .int .i64 0, .int .i64 0, .slice none 0 0] 24)).alloc (.cells #[.int .i64 0, .int .i64 0, .int .i64 0, .int .i64 0, .int .i64 0, .int .i64 0, .int .i64 0, .int .i64 0, .int .i64 0, .int .i64 0, .slice none 0 0] 24)).heap.size = N + 2 := by simp [hN]
  have HA := Lib.hid hA
  have HZ0 := Lib.hid hZ0
  have HP0 := Lib.hid hP0
  have hf := fun W => fields_of (N + 1) W
  obtain ⟨R, hR⟩ : ∃ R, getZ s = R := ⟨_, rfl⟩
  rw [hR]
  have HRZ := Lib.hid hR
  clear hA hZ0 hP0 hR
  go_enter Tryd.func25, Tryd.ntmps25
  go_wp2_with fail
  refine (hf _).mono ?_
  rintro e w2 ⟨rfl, hF2, hB2⟩
  rw [hs1] at hF2 hB2 ⊢
  obtain ⟨B, hB⟩ : ∃ B, w2.heap.size = B := ⟨_, rfl⟩
  have hFB : N + 2 < B := by rw [← hB]; exact hF2.lt
  have HF2 := Lib.hid hF2
  have HZ2 := Lib.hid (CellsAt.belowAt HZ0.out hB2 (by omega))
  have hP2 := CellsAt.belowAt HP0.out hB2 (by omega)
  have HBw := Lib.hid (HA.out.trans (hB2.mono (by omega)))
  have HP2 : Hid (∃ v, PolAt (N + 1) (nAt s 0) v w2 ∧ Tr (fun j => j < B) v (tAt s 0) w2) := Lib.hid ⟨.slice none 0 0, hP2, Tr.nil _ _⟩
  have HM2 : Hid (Mov (fun j => j = N + 1) w2 w2) := Lib.hid (Mov.refl _ _)
  have HO2 : Hid (offG s 0 ≤ s.length) := Lib.hid (by unfold offG; rw [if_neg (by omega)]; omega)
  have HS0 : Hid (s = s.drop (offG s 0)) := Lib.hid rfl
  clear hF2 hP2 HZ0 HP0 HA hB2 hf hs1
  go_wp2
  go_loopg [6, 14] 11 (fun g s6 s14 wx => ∃ (k : Nat) (r : List UInt8), s14 = .int .i64 (k : Int) ∧ g + k = 11 ∧ s6 = .string (tx r) ∧ Hid (r = s.drop (offG s k)) ∧ Hid (offG s k ≤ s.length) ∧ Hid (∃ v, PolAt (N + 1) (nAt s k) v wx ∧ Tr (fun j => j < B) v (tAt s k) wx) ∧ Hid (Mov (fun j => j = N + 1) w2 wx))
  case atStart => exact ⟨0, s, rfl, rfl, rfl, HS0, HO2, HP2, HM2⟩
  case round =>
    clear HS0 HO2 HP2 HM2
    obtain ⟨k, r, rfl, hgk, rfl, HR, HO, HP, HM⟩ := hrel
    cases gk with
    | zero =>
      obtain rfl : k = 11 := by omega
      have hoff : offG s 11 = 81 + 8 * manyZ s := by unfold offG; rw [if_pos rfl]
      have hRv := getZ_full (s := s) (by rw [← hoff]; exact HO.out)
      rw [HRZ.out, ← hoff, ← HR.out] at hRv
      have HRV := Lib.hid hRv
      obtain ⟨v, hP, hT⟩ := HP.out
      have hx1 := nAt_len (s := s) (k := 11) (by omega)
      have hin := nAt_in s 11
      obtain ⟨x1, hx1e⟩ : ∃ x, nAt s 11 = x := ⟨_, rfl⟩
      obtain ⟨x2, hx2e⟩ : ∃ x, tAt s 11 = x := ⟨_, rfl⟩
      rw [hx1e] at hP hx1 hin HRV
      rw [hx2e] at hT HRV
      have hrg := right_any (fun j => j < B) x1 x2 v wr hx1 hin hT
      rw [right_same x1 x2 hx1] at hrg
      have hZ := cells_mov HZ2.out HM.out (by omega)
      have HZ3 : Hid (CellsAt N (valsP zeroN (.slice none 0 0)) wr) := Lib.hid hZ
      have HB3 := Lib.hid (HBw.out.trans (HM.out.below (N := N) (fun j h => by omega) (by omega)))
      have hszr : B ≤ wr.heap.size := by have := HM.out.size; omega
      obtain ⟨q, d, rfl⟩ := hT.len
      obtain ⟨L, hL⟩ : ∃ L, x2.length = L := ⟨_, rfl⟩
      rw [hL] at hP hrg hT
      obtain ⟨b0, b1, b2, b3, b4, b5, b6, b7, b8, b9, hxe⟩ := ten_of hx1
      have hve : valsP x1 (.slice q L d) = #[.int .i64 b0, .int .i64 b1, .int .i64 b2, .int .i64 b3, .int .i64 b4, .int .i64 b5, .int .i64 b6, .int .i64 b7, .int .i64 b8, .int .i64 b9, .slice q L d] := by rw [hxe]; rfl
      have HVE := Lib.hid hve
      rw [hve] at hrg
      have hPc : CellsAt (N + 1) #[.int .i64 b0, .int .i64 b1, .int .i64 b2, .int .i64 b3, .int .i64 b4, .int .i64 b5, .int .i64 b6, .int .i64 b7, .int .i64 b8, .int .i64 b9, .slice q L d] wr := by rw [← hve]; exact hP
      have p0 := hPc.cell 0 _ rfl
      have p1 := hPc.cell 1 _ rfl
      have p2 := hPc.cell 2 _ rfl
      have p3 := hPc.cell 3 _ rfl
      have p4 := hPc.cell 4 _ rfl
      have p5 := hPc.cell 5 _ rfl
      have p6 := hPc.cell 6 _ rfl
      have p7 := hPc.cell 7 _ rfl
      have p8 := hPc.cell 8 _ rfl
      have p9 := hPc.cell 9 _ rfl
      have p10 := hPc.cell 10 _ rfl
      simp only [List.getElem_toArray, List.getElem_cons_zero, List.getElem_cons_succ] at p0 p1 p2 p3 p4 p5 p6 p7 p8 p9 p10
      have HPC := Lib.hid hPc
      have HT3 := Lib.hid hT
      have hPl := hPc.lt
      have HX1 := Lib.hid hx1
      clear hRv hoff hP hT hin hx1e hx2e hZ hL hve hxe hPc hx1 HP HM HO HR
      by_cases hrt : rightZ x1 x2 = true
      · rw [hrt] at hrg
        have hRe : R = some (x1, x2, r) := by rw [HRV.out, if_pos hrt]
        subst hRe
        clear hrt HRV HRZ
        go_wp2_with fail
        refine hrg.mono ?_
        rintro e w4 ⟨rfl, hB4⟩
        have hZ4 := CellsAt.below HZ3.out hB4
        have hP4 := CellsAt.below HPC.out hB4
        have r0 := hP4.cell 0 _ rfl
        have r1 := hP4.cell 1 _ rfl
        have r2 := hP4.cell 2 _ rfl
        have r3 := hP4.cell 3 _ rfl
        have r4 := hP4.cell 4 _ rfl
        have r5 := hP4.cell 5 _ rfl
        have r6 := hP4.cell 6 _ rfl
        have r7 := hP4.cell 7 _ rfl
        have r8 := hP4.cell 8 _ rfl
        have r9 := hP4.cell 9 _ rfl
        have r10 := hP4.cell 10 _ rfl
        simp only [List.getElem_toArray, List.getElem_cons_zero, List.getElem_cons_succ] at r0 r1 r2 r3 r4 r5 r6 r7 r8 r9 r10
        have HB4 := Lib.hid (HB3.out.trans (hB4.mono (by omega)))
        have HT4 := Lib.hid (HT3.out.below hB4)
        have HZ4 := Lib.hid hZ4
        have hPl4 := hP4.lt
        clear hB4 hZ4 hP4 HB3 HT3 HZ3 HPC hrg p0 p1 p2 p3 p4 p5 p6 p7 p8 p9 p10 hPl
        go_wp2_with (refine wpList_store_cells rfl _ _ _ rfl N #[.int .i64 b0, .int .i64 b1, .int .i64 b2, .int .i64 b3, .int .i64 b4, .int .i64 b5, .int .i64 b6, .int .i64 b7, .int .i64 b8, .int .i64 b9, .slice q L d] _ rfl rfl HZ4.out (show _ = some 11 by kernel_rfl) (show _ = 11 by kernel_rfl) (by simp [Value.oneCell']) ?_)
        refine bodyPost_ret (result_cell3 rfl rfl (by
          have := load_pol (pol_put (n := x1) (v := .slice q L d) HZ4.out rfl HX1.out) HX1.out
          rw [HVE.out] at this
          exact this)) rfl ?_
        refine ⟨.slice q L d, by show _ = Ending.returned (.tuple #[.agg (valsP x1 (.slice q L d)), .string (tx r), .bool true]); rw [HVE.out]; rfl, ?_, hN ▸ below_sets (Nat.le_refl N) _ 0 w _ HB4.out⟩
        exact (HT4.out.mov (Mov.sets (S := fun j => j = N) rfl _ 0 _ (Mov.refl _ _)) (fun j h _ => by omega)).weak (fun j h _ => by omega)
      · have hrt2 : rightZ x1 x2 = false := by simpa using hrt
        rw [hrt2] at hrg
        have hRe : R = none := by rw [HRV.out, if_neg hrt]
        subst hRe
        clear hrt hrt2 HRV HRZ
        go_wp2_with fail
        refine hrg.mono ?_
        rintro e w4 ⟨rfl, hB4⟩
        have hZ4 := CellsAt.below HZ3.out hB4
        have HB4 := Lib.hid (HB3.out.trans (hB4.mono (by omega)))
        have HZ4 := Lib.hid hZ4
        clear hB4 hZ4 HB3 HT3 HZ3 HPC hrg p0 p1 p2 p3 p4 p5 p6 p7 p8 p9 p10 hPl
        go_wp2_with (refine wpList_store_cells rfl _ _ _ rfl N (valsP zeroN (.slice none 0 0)) _ rfl rfl HZ4.out (by kernel_rfl) (by kernel_rfl) (by kernel_rfl) ?_)
        refine bodyPost_ret (result_cell3 rfl rfl (load_pol (pol_put (n := zeroN) (v := .slice none 0 0) HZ4.out rfl rfl) rfl)) rfl ?_
        exact ⟨.slice none 0 0, rfl, Tr.nil _ _, hN ▸ below_sets (Nat.le_refl N) _ 0 w _ HB4.out⟩
    | succ g =>
      have hk : k < 11 := by omega
      have hk2 : (k : Int) < 11 := by omega
      have hFx := cells_mov HF2.out HM.out (by omega)
      obtain ⟨f0, f1, f2, f3, f4, f5⟩ := PartsAt.row hFx hk
      have hFl : N + 2 < wr.heap.size := hFx.lt
      have hszx : B ≤ wr.heap.size := by have := HM.out.size; omega
      have HFV : Hid (fieldV (N + 1) k = .agg #[.string (tx (tellN k)), .int .i64 (loN k), .int .i64 (hiN k), .pointer (cntP (N + 1) k), .pointer (timP (N + 1) k), .pointer (tieP (N + 1) k)]) := Lib.hid rfl
      obtain ⟨TN, hTN⟩ : ∃ T, tx (tellN k) = T := ⟨_, rfl⟩
      rw [hTN] at f0 HFV
      have hq3 : k = 10 ∧ tieP (N + 1) k = some ⟨N + 1, k, none⟩ ∨ k ≠ 10 ∧ tieP (N + 1) k = none := by
        unfold tieP
        by_cases h : k = 10
        · exact .inl ⟨h, if_pos h⟩
        · exact .inr ⟨h, if_neg h⟩
      generalize loN k = lo at *
      generalize hiN k = hi at *
      generalize cntP (N + 1) k = q1 at *
      generalize timP (N + 1) k = q2 at *
      obtain ⟨q3, hq⟩ : ∃ q, tieP (N + 1) k = q := ⟨_, rfl⟩
      rw [hq] at hq3 f5 HFV
      have hZa : CellsAt N #[.int .i64 0, .int .i64 0, .int .i64 0, .int .i64 0, .int .i64 0, .int .i64 0, .int .i64 0, .int .i64 0, .int .i64 0, .int .i64 0, .slice none 0 0] (wr.alloc (.cells #[.string TN, .int .i64 lo, .int .i64 hi, .pointer q1, .pointer q2, .pointer q3] 70)) := (cells_mov HZ2.out HM.out (by omega)).past _
      have hBa : Below wr.heap.size wr (wr.alloc (.cells #[.string TN, .int .i64 lo, .int .i64 hi, .pointer q1, .pointer q2, .pointer q3] 70)) := (Below.refl _ _).alloc (Nat.le_refl _) _
      have HZa : Hid (CellsAt N (valsP zeroN (.slice none 0 0)) (wr.alloc (.cells #[.string TN, .int .i64 lo, .int .i64 hi, .pointer q1, .pointer q2, .pointer q3] 70))) := Lib.hid hZa
      have HBa := Lib.hid hBa
      have HBN : Hid (Below N w (wr.alloc (.cells #[.string TN, .int .i64 lo, .int .i64 hi, .pointer q1, .pointer q2, .pointer q3] 70))) := Lib.hid (((HBw.out).trans (HM.out.below (N := N) (fun j h => by omega) (by omega))).alloc (by omega) _)
      have HCa := Lib.hid (CellsAt.new #[.string TN, .int .i64 lo, .int .i64 hi, .pointer q1, .pointer q2, .pointer q3] 70 wr)
      have HGK := Lib.hid hgk
      clear hFx hTN hq hZa hBa hgk
      rcases hq3 with ⟨hk10, rfl⟩ | ⟨hk10, rfl⟩
      · have hoff : offG s k = 80 := by unfold offG; rw [if_neg (by omega), hk10]
        have HRL : Hid (r = s.drop 80) := Lib.hid (by rw [← hoff]; exact HR.out)
        have HOL : Hid (80 ≤ s.length) := Lib.hid (by rw [← hoff]; exact HO.out)
        have HK10 := Lib.hid hk10
        clear hoff HR HO hk10
        cases r with
        | nil =>
          have hlen : s.length < 81 := by
            have h1 := congrArg List.length HRL.out
            rw [List.length_drop] at h1
            simp at h1
            omega
          rw [show tx [] = (⟨#[]⟩ : ByteArray) from rfl]
          have hG : R = none := HRZ.out.symm.trans (getZ_short hlen)
          subst hG
          clear hlen
          go_wp2_with (refine wpList_store_cells rfl _ _ _ rfl N (valsP zeroN (.slice none 0 0)) _ rfl rfl HZa.out (by kernel_rfl) (by kernel_rfl) (by kernel_rfl) ?_)
          refine bodyPost_ret (result_cell3 rfl rfl (load_pol (pol_put (n := zeroN) (v := .slice none 0 0) HZa.out rfl rfl) rfl)) rfl ?_
          exact ⟨.slice none 0 0, rfl, Tr.nil _ _, hN ▸ below_sets (Nat.le_refl N) _ 0 w _ HBN.out⟩
        | cons c t =>
          obtain ⟨hz, hx, he⟩ := first_of (s := tx (c :: t)) (list_tx _)
          have hn := txt_ne (l := c :: t) (by simp)
          have hn2 := txt_no (l := c :: t) (by simp)
          have hcb := byte_facts c
          have hmany : manyZ s = c.toNat := by unfold manyZ; rw [← HRL.out]; rfl
          have hd81 : s.drop 81 = t := by rw [show 81 = 80 + 1 from rfl, ← List.drop_drop, ← HRL.out]; rfl
          have hsl : s.length = 81 + t.length := by
            have h1 := congrArg List.length HRL.out
            rw [List.length_drop, List.length_cons] at h1
            have := HOL.out
            omega
          have HMY := Lib.hid hmany
          have HD81 := Lib.hid hd81
          have HSL := Lib.hid hsl
          have hdr : ∀ q, Below (wr.alloc (.cells #[.string TN, .int .i64 lo, .int .i64 hi, .pointer q1, .pointer q2, .pointer (some ⟨N + 1, k, none⟩)] 70)).heap.size (wr.alloc (.cells #[.string TN, .int .i64 lo, .int .i64 hi, .pointer q1, .pointer q2, .pointer (some ⟨N + 1, k, none⟩)] 70)) ((wr.alloc (.cells #[.string TN, .int .i64 lo, .int .i64 hi, .pointer q1, .pointer q2, .pointer (some ⟨N + 1, k, none⟩)] 70)).drewN q) := fun q => ⟨rfl, rfl, rfl, Nat.le_refl _, fun _ _ => rfl⟩
          have HZq := Lib.hid (fun q => HZa.out.below (hdr q))
          have HBNq := Lib.hid (fun q => HBN.out.trans ((hdr q).mono (by have := HBN.out.size; omega)))
          have HCq := Lib.hid (fun q => HCa.out.below (hdr q))
          have HBq := Lib.hid (fun q => HBa.out.trans ((hdr q).mono HBa.out.size))
          have htl : (tx t).size = t.length := tx_len t
          have htz : (tx t).size ≤ 9223372036854775807 := by omega
          clear hdr hmany hd81 hsl HZa HBN HCa HBa
          go_wp2
          go_quiet (fail)
          clear f0 f1 f2 f3 f4 f5
          have HZb := Lib.hid (HZq.out nq)
          have HBNb := Lib.hid (HBNq.out nq)
          have HCa := Lib.hid (HCq.out nq)
          have HBa := Lib.hid (HBq.out nq)
          clear HZq HBNq HCq HBq hz hx he hn hn2
          by_cases ht8 : t.length < c.toNat * 8
          · have h8i : ((tx t).size : Int) < (c.toNat : Int) * 8 := by omega
            have h8j : (t.length : Int) < (c.toNat : Int) * 8 := by omega
            have hG : R = none := HRZ.out.symm.trans (getZ_tail (by rw [HMY.out, HSL.out]; omega))
            subst hG
            clear ht8 htl
            go_wp2_with (refine wpList_store_cells rfl _ _ _ rfl N (valsP zeroN (.slice none 0 0)) _ rfl rfl HZb.out (by kernel_rfl) (by kernel_rfl) (by kernel_rfl) ?_)
            refine bodyPost_ret (result_cell3 rfl rfl (load_pol (pol_put (n := zeroN) (v := .slice none 0 0) HZb.out rfl rfl) rfl)) rfl ?_
            exact ⟨.slice none 0 0, rfl, Tr.nil _ _, hN ▸ below_sets (Nat.le_refl N) _ 0 w _ HBNb.out⟩
          · have h8i : ¬ ((tx t).size : Int) < (c.toNat : Int) * 8 := by omega
            have h8j : ¬ (t.length : Int) < (c.toNat : Int) * 8 := by omega
            have HR8 : Hid (8 * c.toNat ≤ t.length) := Lib.hid (by omega)
            have HRM : Hid (t.length ≤ 9223372036854775807) := Lib.hid (by omega)
            have HMB : Hid (c.toNat ≤ 255) := Lib.hid (by omega)
            have HN : Hid (setN (nAt s k) k (getsZ c.toNat t) = nAt s (k + 1) ∧ setT (tAt s k) k (getsZ c.toNat t) = tAt s (k + 1) ∧ (k = 10 ∨ (getsZ c.toNat t).length = 1) ∧ t.drop (8 * c.toNat) = s.drop (offG s (k + 1)) ∧ offG s (k + 1) ≤ s.length) := Lib.hid (by
              rw [HK10.out]
              refine ⟨nAt_ten s _, ?_, .inl rfl, ?_, ?_⟩
              · unfold setT tAt
                rw [if_pos rfl, if_pos rfl, HMY.out, HD81.out]
              · unfold offG
                rw [if_pos rfl, HMY.out, ← List.drop_drop, HD81.out]
              · unfold offG
                rw [if_pos rfl, HMY.out, HSL.out]
                omega)
            clear ht8 htl
            have HU0 : Hid (OwnI (wr.heap.size + 1) (.slice none 0 0) (getsZ 0 t) ((wr.alloc (.cells #[.string TN, .int .i64 lo, .int .i64 hi, .pointer q1, .pointer q2, .pointer (some ⟨N + 1, k, none⟩)] 70)).drewN nq)) := Lib.hid (OwnI.nil _ _)
            have HW0 : Hid (Below (wr.heap.size + 1) ((wr.alloc (.cells #[.string TN, .int .i64 lo, .int .i64 hi, .pointer q1, .pointer q2, .pointer (some ⟨N + 1, k, none⟩)] 70)).drewN nq) ((wr.alloc (.cells #[.string TN, .int .i64 lo, .int .i64 hi, .pointer q1, .pointer q2, .pointer (some ⟨N + 1, k, none⟩)] 70)).drewN nq)) := Lib.hid (Below.refl _ _)
            have HWS : Hid (((wr.alloc (.cells #[.string TN, .int .i64 lo, .int .i64 hi, .pointer q1, .pointer q2, .pointer (some ⟨N + 1, k, none⟩)] 70)).drewN nq).heap.size = wr.heap.size + 1) := Lib.hid (by show (wr.alloc _).heap.size = _; simp)
            have HPa : Hid (∃ v, PolAt (N + 1) (nAt s k) v ((wr.alloc (.cells #[.string TN, .int .i64 lo, .int .i64 hi, .pointer q1, .pointer q2, .pointer (some ⟨N + 1, k, none⟩)] 70)).drewN nq) ∧ Tr (fun j => j < B) v (tAt s k) ((wr.alloc (.cells #[.string TN, .int .i64 lo, .int .i64 hi, .pointer q1, .pointer q2, .pointer (some ⟨N + 1, k, none⟩)] 70)).drewN nq)) := Lib.hid (by
              obtain ⟨v, h1, h2⟩ := HP.out
              exact ⟨v, CellsAt.below h1 HBa.out, h2.below HBa.out⟩)
            have HMa : Hid (Mov (fun j => j = N + 1) w2 ((wr.alloc (.cells #[.string TN, .int .i64 lo, .int .i64 hi, .pointer q1, .pointer q2, .pointer (some ⟨N + 1, k, none⟩)] 70)).drewN nq)) := Lib.hid ((HM.out.alloc _).drewN _)
            clear HP HM HBa
            go_wp2
            obtain ⟨C, hC⟩ : ∃ C, wr.heap.size = C := ⟨_, rfl⟩
            have hBC : B ≤ C := by omega
            rw [hC] at HU0 HW0 HWS HCa ⊢
            generalize ((wr.alloc (.cells #[.string TN, .int .i64 lo, .int .i64 hi, .pointer q1, .pointer q2, .pointer (some ⟨N + 1, k, none⟩)] 70)).drewN nq) = wq at *
            clear hC hFl hszx
            go_loopg [6, 10, 37] c.toNat (fun g2 s6 s10 s37 wy => ∃ (j : Nat) (y : List UInt8), s37 = .int .i64 (j : Int) ∧ g2 + j = c.toNat ∧ s6 = .string (tx y) ∧ Hid (y = t.drop (8 * j)) ∧ Hid (OwnI (C + 1) s10 (getsZ j t) wy) ∧ Hid (Below (C + 1) wq wy))
            case atStart => exact ⟨0, t, rfl, by omega, rfl, Lib.hid rfl, HU0, HW0⟩
            case round =>
              clear HU0 HW0
              obtain ⟨j, y, rfl, hgj, rfl, HY, HU, HW⟩ := hrel
              have hszy : C + 1 ≤ wr.heap.size := by have h1 := HW.out.size; have h2 := HWS.out; omega
              cases gk with
              | zero =>
                obtain rfl : j = c.toNat := by omega
                have hns := gets_len (c.toNat) t
                obtain ⟨ns, hnse⟩ : ∃ ns, getsZ (c.toNat) t = ns := ⟨_, rfl⟩
                have HNE := Lib.hid hnse
                have hU := HU.out
                rw [hnse] at hU hns
                obtain ⟨pu, cu, rfl⟩ := hU.len
                have hUT : Tr (fun j => j < B) (.slice pu ns.length cu) ns wr := hU.tr (fun g h1 h2 => by omega) (by rw [← hnse]; exact gets_in _ _)
                have hC := CellsAt.belowAt HCa.out HW.out (by omega)
                obtain ⟨v, hv1, hv2⟩ := HPa.out
                have hPw : PolAt (N + 1) (nAt s k) v wr := CellsAt.belowAt hv1 HW.out (by omega)
                have hTw : Tr (fun j => j < B) v (tAt s k) wr := hv2.mov (Mov.of HW.out) (fun j h1 h2 => by have := HWS.out; omega)
                have hset := set_any (fun j => j < B) (N + 1) k (by omega) hk (nAt s k) (tAt s k) v (.slice pu ns.length cu) ns wr (nAt_len (by omega)) hPw hTw hUT
                rw [HFV.out] at hset
                have m0 := hC.cell 0 _ rfl
                have m1 := hC.cell 1 _ rfl
                have m2 := hC.cell 2 _ rfl
                have m3 := hC.cell 3 _ rfl
                have m4 := hC.cell 4 _ rfl
                have m5 := hC.cell 5 _ rfl
                simp only [List.getElem_toArray, List.getElem_cons_zero, List.getElem_cons_succ] at m0 m1 m2 m3 m4 m5
                have hCl := hC.lt
                have HMw : Hid (Mov (fun j => j = N + 1) w2 wr) := Lib.hid (HMa.out.trans (Mov.of HW.out) (fun i h1 h2 => by omega))
                obtain ⟨hn1, hn2, hn3, hn4, hn5⟩ := HN.out
                rw [hnse] at hn1 hn2 hn3
                have HN1 := Lib.hid hn1
                have HN2 := Lib.hid hn2
                have HN3 := Lib.hid hn3
                have HYn : Hid (y = s.drop (offG s (k + 1))) := Lib.hid (by rw [HY.out, hn4])
                have HOn := Lib.hid hn5
                clear hn1 hn2 hn3 hn4 hn5 hnse hU hUT hC hv1 hv2 hPw hTw hns HU HW HY hgj HNE
                go_wp2_with fail
                refine hset.mono ?_
                rintro e w9 hE
                unfold SetEnd at hE
                rw [if_pos HN3.out, HN1.out, HN2.out] at hE
                obtain ⟨rfl, hM9, hP9⟩ := hE
                have HM9 := Lib.hid (HMw.out.trans hM9 (fun _ _ h => h))
                have HP9 := Lib.hid hP9
                clear hM9 hP9 hset m0 m1 m2 m3 m4 m5 hCl HN1 HN2 HN3 HMw
                go_wp2
                go_roundg g
                case measure => omega
                case rel => exact ⟨k + 1, y, by go_num, by have := HGK.out; omega, rfl, HYn, HOn, HP9, HM9⟩
              | succ g2 =>
                have hjm : j < c.toNat := by omega
                have hjmi : (j : Int) < ((c.toNat : Nat) : Int) := by omega
                have hy8 : 8 ≤ y.length := by rw [HY.out, List.length_drop]; have := HR8.out; omega
                have hy8s : 8 ≤ (tx y).size := by rw [tx_len]; exact hy8
                have hy8i : (8 : Int) ≤ ((tx y).size : Int) := by omega
                have hsy : (tx y).size ≤ 9223372036854775807 := by rw [tx_len, HY.out, List.length_drop]; have := HRM.out; omega
                have hnum := fun W => getnumber_any ((tx y).extract 0 8) (by rw [ByteArray.size_extract]; omega) W
                obtain ⟨x, hx⟩ : ∃ x, i64Z (numZ ((tx y).extract 0 8).data.toList) = x := ⟨_, rfl⟩
                rw [hx] at hnum
                have HX : Hid (getsZ (j + 1) t = getsZ j t ++ [x]) := Lib.hid (by rw [gets_succ, ← HY.out, ← hx, ext_upto, list_tx, list_tx])
                obtain ⟨v', w', hr1, hGr⟩ := append_I 22 HU.out x (by rw [gets_len]; have := HMB.out; omega) hszy
                obtain ⟨pu, cu, hu⟩ := HU.out.len
                subst hu
                have HO7 : Hid (OwnI (C + 1) v' (getsZ (j + 1) t) w') := Lib.hid (by rw [HX.out]; exact hGr.1)
                have HW7 := Lib.hid (HW.out.trans (hGr.low (N := C + 1) (fun g hg => (HU.out.lt hg).1) hszy))
                have HR1 := Lib.hid hr1
                have HJ := Lib.hid hgj
                have hed : (tx y).extract 8 (tx y).size = tx (y.drop 8) := by rw [ext_from, list_tx]
                have HY7 : Hid (y.drop 8 = t.drop (8 * (j + 1))) := Lib.hid (by rw [HY.out, List.drop_drop]; congr 1)
                obtain ⟨Lg, hLg⟩ : ∃ L, (getsZ j t).length = L := ⟨_, rfl⟩
                rw [hLg] at HR1 ⊢
                clear hx hGr hr1 hgj hLg HU HW HX
                go_wp2_with fail
                refine (hnum _).mono ?_
                rintro e w7 ⟨rfl, rfl⟩
                clear hnum
                go_wp2_with (at_builtin; refine Lib.wpList_append_run _ rfl _ _ _ _ rfl _ _ rfl rfl _ _ HR1.out ?_)
                go_roundg g2
                case measure => omega
                case rel => exact ⟨j + 1, y.drop 8, by go_num, by have := HJ.out; omega, rfl, HY7, HO7, HW7⟩
      · have hoff : offG s k = 8 * k := by unfold offG; rw [if_neg (by omega)]
        have HRL : Hid (r = s.drop (8 * k)) := Lib.hid (by rw [← hoff]; exact HR.out)
        have HOL : Hid (8 * k ≤ s.length) := Lib.hid (by rw [← hoff]; exact HO.out)
        have hrl : (tx r).size = s.length - 8 * k := by rw [tx_len, HRL.out, List.length_drop]
        have HRS := Lib.hid hrl
        have hsl : (tx r).size ≤ 9223372036854775807 := by omega
        clear hoff HR HO hrl
        by_cases h8 : (tx r).size < 8
        · have h8i : ((tx r).size : Int) < 8 := by omega
          have hG : R = none := HRZ.out.symm.trans (getZ_short (by have := HRS.out; have := HOL.out; omega))
          subst hG
          go_wp2_with (refine wpList_store_cells rfl _ _ _ rfl N (valsP zeroN (.slice none 0 0)) _ rfl rfl HZa.out (by kernel_rfl) (by kernel_rfl) (by kernel_rfl) ?_)
          refine bodyPost_ret (result_cell3 rfl rfl (load_pol (pol_put (n := zeroN) (v := .slice none 0 0) HZa.out rfl rfl) rfl)) rfl ?_
          exact ⟨.slice none 0 0, rfl, Tr.nil _ _, hN ▸ below_sets (Nat.le_refl N) _ 0 w _ HBN.out⟩
        · have h8i : ¬ ((tx r).size : Int) < 8 := by omega
          have hr8 : 8 ≤ r.length := by rw [tx_len] at h8; omega
          have HR8 : Hid (8 * 1 ≤ r.length) := Lib.hid (by omega)
          have HRM : Hid (r.length ≤ 9223372036854775807) := Lib.hid (by rw [tx_len] at hsl; exact hsl)
          have HMB : Hid (1 ≤ 255) := Lib.hid (by omega)
          have HN : Hid (setN (nAt s k) k (getsZ 1 r) = nAt s (k + 1) ∧ setT (tAt s k) k (getsZ 1 r) = tAt s (k + 1) ∧ (k = 10 ∨ (getsZ 1 r).length = 1) ∧ r.drop (8 * 1) = s.drop (offG s (k + 1)) ∧ offG s (k + 1) ≤ s.length) := Lib.hid (by
            have h1 := HRS.out
            have h2 := HOL.out
            refine ⟨by rw [HRL.out]; exact nAt_set (by omega), ?_, .inr (gets_len 1 r), ?_, ?_⟩
            · unfold setT tAt
              rw [if_neg hk10, if_neg (by omega), if_neg (by omega)]
            · unfold offG
              rw [if_neg (by omega), HRL.out, List.drop_drop]
              congr 1
            · unfold offG
              rw [if_neg (by omega)]
              omega)
          clear hr8 hsl h8
          have HU0 : Hid (OwnI (wr.heap.size + 1) (.slice none 0 0) (getsZ 0 r) (wr.alloc (.cells #[.string TN, .int .i64 lo, .int .i64 hi, .pointer q1, .pointer q2, .pointer none] 70))) := Lib.hid (OwnI.nil _ _)
          have HW0 : Hid (Below (wr.heap.size + 1) (wr.alloc (.cells #[.string TN, .int .i64 lo, .int .i64 hi, .pointer q1, .pointer q2, .pointer none] 70)) (wr.alloc (.cells #[.string TN, .int .i64 lo, .int .i64 hi, .pointer q1, .pointer q2, .pointer none] 70))) := Lib.hid (Below.refl _ _)
          have HWS : Hid ((wr.alloc (.cells #[.string TN, .int .i64 lo, .int .i64 hi, .pointer q1, .pointer q2, .pointer none] 70)).heap.size = wr.heap.size + 1) := Lib.hid (by simp)
          have HPa : Hid (∃ v, PolAt (N + 1) (nAt s k) v (wr.alloc (.cells #[.string TN, .int .i64 lo, .int .i64 hi, .pointer q1, .pointer q2, .pointer none] 70)) ∧ Tr (fun j => j < B) v (tAt s k) (wr.alloc (.cells #[.string TN, .int .i64 lo, .int .i64 hi, .pointer q1, .pointer q2, .pointer none] 70))) := Lib.hid (by
            obtain ⟨v, h1, h2⟩ := HP.out
            exact ⟨v, CellsAt.below h1 HBa.out, h2.below HBa.out⟩)
          have HMa : Hid (Mov (fun j => j = N + 1) w2 (wr.alloc (.cells #[.string TN, .int .i64 lo, .int .i64 hi, .pointer q1, .pointer q2, .pointer none] 70))) := Lib.hid (HM.out.alloc _)
          clear HP HM HBa
          go_wp2
          clear f0 f1 f2 f3 f4 f5
          obtain ⟨C, hC⟩ : ∃ C, wr.heap.size = C := ⟨_, rfl⟩
          have hBC : B ≤ C := by omega
          rw [hC] at HU0 HW0 HWS HCa ⊢
          generalize (wr.alloc (.cells #[.string TN, .int .i64 lo, .int .i64 hi, .pointer q1, .pointer q2, .pointer none] 70)) = wq at *
          clear hC hFl hszx
          go_loopg [6, 10, 37] 1 (fun g2 s6 s10 s37 wy => ∃ (j : Nat) (y : List UInt8), s37 = .int .i64 (j : Int) ∧ g2 + j = 1 ∧ s6 = .string (tx y) ∧ Hid (y = r.drop (8 * j)) ∧ Hid (OwnI (C + 1) s10 (getsZ j r) wy) ∧ Hid (Below (C + 1) wq wy))
          case atStart => exact ⟨0, r, rfl, by omega, rfl, Lib.hid rfl, HU0, HW0⟩
          case round =>
            clear HU0 HW0
            obtain ⟨j, y, rfl, hgj, rfl, HY, HU, HW⟩ := hrel
            have hszy : C + 1 ≤ wr.heap.size := by have h1 := HW.out.size; have h2 := HWS.out; omega
            cases gk with
            | zero =>
              obtain rfl : j = 1 := by omega
              have hns := gets_len (1) r
              obtain ⟨ns, hnse⟩ : ∃ ns, getsZ (1) r = ns := ⟨_, rfl⟩
              have HNE := Lib.hid hnse
              have hU := HU.out
              rw [hnse] at hU hns
              obtain ⟨pu, cu, rfl⟩ := hU.len
              have hUT : Tr (fun j => j < B) (.slice pu ns.length cu) ns wr := hU.tr (fun g h1 h2 => by omega) (by rw [← hnse]; exact gets_in _ _)
              have hC := CellsAt.belowAt HCa.out HW.out (by omega)
              obtain ⟨v, hv1, hv2⟩ := HPa.out
              have hPw : PolAt (N + 1) (nAt s k) v wr := CellsAt.belowAt hv1 HW.out (by omega)
              have hTw : Tr (fun j => j < B) v (tAt s k) wr := hv2.mov (Mov.of HW.out) (fun j h1 h2 => by have := HWS.out; omega)
              have hset := set_any (fun j => j < B) (N + 1) k (by omega) hk (nAt s k) (tAt s k) v (.slice pu ns.length cu) ns wr (nAt_len (by omega)) hPw hTw hUT
              rw [HFV.out] at hset
              have m0 := hC.cell 0 _ rfl
              have m1 := hC.cell 1 _ rfl
              have m2 := hC.cell 2 _ rfl
              have m3 := hC.cell 3 _ rfl
              have m4 := hC.cell 4 _ rfl
              have m5 := hC.cell 5 _ rfl
              simp only [List.getElem_toArray, List.getElem_cons_zero, List.getElem_cons_succ] at m0 m1 m2 m3 m4 m5
              have hCl := hC.lt
              have HMw : Hid (Mov (fun j => j = N + 1) w2 wr) := Lib.hid (HMa.out.trans (Mov.of HW.out) (fun i h1 h2 => by omega))
              obtain ⟨hn1, hn2, hn3, hn4, hn5⟩ := HN.out
              rw [hnse] at hn1 hn2 hn3
              have HN1 := Lib.hid hn1
              have HN2 := Lib.hid hn2
              have HN3 := Lib.hid hn3
              have HYn : Hid (y = s.drop (offG s (k + 1))) := Lib.hid (by rw [HY.out, hn4])
              have HOn := Lib.hid hn5
              clear hn1 hn2 hn3 hn4 hn5 hnse hU hUT hC hv1 hv2 hPw hTw hns HU HW HY hgj HNE
              go_wp2_with fail
              refine hset.mono ?_
              rintro e w9 hE
              unfold SetEnd at hE
              rw [if_pos HN3.out, HN1.out, HN2.out] at hE
              obtain ⟨rfl, hM9, hP9⟩ := hE
              have HM9 := Lib.hid (HMw.out.trans hM9 (fun _ _ h => h))
              have HP9 := Lib.hid hP9
              clear hM9 hP9 hset m0 m1 m2 m3 m4 m5 hCl HN1 HN2 HN3 HMw
              go_wp2
              go_roundg g
              case measure => omega
              case rel => exact ⟨k + 1, y, by go_num, by have := HGK.out; omega, rfl, HYn, HOn, HP9, HM9⟩
            | succ g2 =>
              have hjm : j < 1 := by omega
              have hjmi : (j : Int) < 1 := by omega
              have hy8 : 8 ≤ y.length := by rw [HY.out, List.length_drop]; have := HR8.out; omega
              have hy8s : 8 ≤ (tx y).size := by rw [tx_len]; exact hy8
              have hy8i : (8 : Int) ≤ ((tx y).size : Int) := by omega
              have hsy : (tx y).size ≤ 9223372036854775807 := by rw [tx_len, HY.out, List.length_drop]; have := HRM.out; omega
              have hnum := fun W => getnumber_any ((tx y).extract 0 8) (by rw [ByteArray.size_extract]; omega) W
              obtain ⟨x, hx⟩ : ∃ x, i64Z (numZ ((tx y).extract 0 8).data.toList) = x := ⟨_, rfl⟩
              rw [hx] at hnum
              have HX : Hid (getsZ (j + 1) r = getsZ j r ++ [x]) := Lib.hid (by rw [gets_succ, ← HY.out, ← hx, ext_upto, list_tx, list_tx])
              obtain ⟨v', w', hr1, hGr⟩ := append_I 22 HU.out x (by rw [gets_len]; have := HMB.out; omega) hszy
              obtain ⟨pu, cu, hu⟩ := HU.out.len
              subst hu
              have HO7 : Hid (OwnI (C + 1) v' (getsZ (j + 1) r) w') := Lib.hid (by rw [HX.out]; exact hGr.1)
              have HW7 := Lib.hid (HW.out.trans (hGr.low (N := C + 1) (fun g hg => (HU.out.lt hg).1) hszy))
              have HR1 := Lib.hid hr1
              have HJ := Lib.hid hgj
              have hed : (tx y).extract 8 (tx y).size = tx (y.drop 8) := by rw [ext_from, list_tx]
              have HY7 : Hid (y.drop 8 = r.drop (8 * (j + 1))) := Lib.hid (by rw [HY.out, List.drop_drop]; congr 1)
              obtain ⟨Lg, hLg⟩ : ∃ L, (getsZ j r).length = L := ⟨_, rfl⟩
              rw [hLg] at HR1 ⊢
              clear hx hGr hr1 hgj hLg HU HW HX
              go_wp2_with fail
              refine (hnum _).mono ?_
              rintro e w7 ⟨rfl, rfl⟩
              clear hnum
              go_wp2_with (at_builtin; refine Lib.wpList_append_run _ rfl _ _ _ _ rfl _ _ rfl rfl _ _ HR1.out ?_)
              go_roundg g2
              case measure => omega
              case rel => exact ⟨j + 1, y.drop 8, by go_num, by have := HJ.out; omega, rfl, HY7, HO7, HW7⟩
end Go.Proofs.YtdhkonaebhpeeaaDoor.Po

