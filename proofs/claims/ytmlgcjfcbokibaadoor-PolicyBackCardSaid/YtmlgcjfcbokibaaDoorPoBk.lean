/- PolicyBack walked. -/
import Derived.Test.YtmlgcjfcbokibaaDoorPoWl
import Derived.Test.YtmlgcjfcbokibaaDoorPoPu
import Derived.Test.YtmlgcjfcbokibaaDoorPoSa
import Derived.Test.YtmlgcjfcbokibaaDoorPoWo
namespace Go.Proofs.YtmlgcjfcbokibaaDoor.Po
open Go Go.RowKit

theorem extract_toList (s : ByteArray) (i j : Nat) : (s.extract i j).data.toList = (s.data.toList.drop i).take (j - i) := by
  simp [ByteArray.data_extract, Array.toList_extract]
theorem cut_list (t : ByteArray) (q : Nat) : (t.extract 0 q).data.toList = t.data.toList.take q := by rw [extract_toList]; rfl
theorem cut_tx (l : List UInt8) (q : Nat) : (tx l).extract 0 q = tx (l.take q) := by
  have h := tx_list ((tx l).extract 0 q)
  rw [cut_list, list_tx] at h
  exact h.symm
theorem wishN_len (hs : List Nat) : (wishN hs).length = 10 := rfl
set_option maxRecDepth 100000 in
set_option maxHeartbeats 16000000 in
theorem back_in (a0 a1 a2 a3 a4 a5 a6 a7 a8 a9 : Int) (q0 : Option Addr) (l0 d0 : Nat) (ow : Bool) (p : Option Addr) (hs : List Nat) (c : Nat) (sl : List UInt8) (k : Nat) (w : World) (hX : Tens w) (hl : hs.length ≤ 9223372036854775807) (hsl : sl.length ≤ 140737488355328) (hk : k < 65536)
    (hS : Shorts p hs w) :
    Calls Tryd.prog 5 #[.agg #[.int .i64 a0, .int .i64 a1, .int .i64 a2, .int .i64 a3, .int .i64 a4, .int .i64 a5, .int .i64 a6, .int .i64 a7, .int .i64 a8, .int .i64 a9, .slice q0 l0 d0, .bool ow, .slice p hs.length c], .string (tx sl), .int .u16 (k : Int)] w fun e w' => e = .returned (.bool true) ∧ Below w.heap.size w w' := by
  have hex := fun W hW => examples_any W hW
  have hr := wish_right hs (hA hs 11 % 3)
  obtain ⟨t, ht⟩ : ∃ t, wishT hs (hA hs 11 % 3) = t := ⟨_, rfl⟩
  rw [ht] at hr
  obtain ⟨x0, x1, x2, x3, x4, x5, x6, x7, x8, x9, hn⟩ := ten_of (wishN_len hs)
  rw [hn] at hr
  obtain ⟨hi1, hi2, ht1, ht3, -⟩ := right_in hr
  have hin : ∀ x ∈ [x0, x1, x2, x3, x4, x5, x6, x7, x8, x9], In64 x := fun x hx => in64_of (hi1 x hx)
  have htin : ∀ x ∈ t, In64 x := fun x hx => in64_of ⟨by have := hi2 x hx; omega, (hi2 x hx).2⟩
  obtain ⟨l, hlen⟩ : ∃ l, t.length = l := ⟨_, rfl⟩
  have HWI : Hid (∀ W, Shorts p hs W → Calls Tryd.prog 11 #[.agg #[.int .i64 a0, .int .i64 a1, .int .i64 a2, .int .i64 a3, .int .i64 a4, .int .i64 a5, .int .i64 a6, .int .i64 a7, .int .i64 a8, .int .i64 a9, .slice q0 l0 d0, .bool true, .slice p hs.length c]] W fun e w' => ∃ q d, e = .returned (.agg #[.int .i64 x0, .int .i64 x1, .int .i64 x2, .int .i64 x3, .int .i64 x4, .int .i64 x5, .int .i64 x6, .int .i64 x7, .int .i64 x8, .int .i64 x9, .slice q l d]) ∧ Tr (fun _ => False) (.slice q l d) t w' ∧ Below W.heap.size W w') := Lib.hid (fun W h1 => by
    refine (wish_any a0 a1 a2 a3 a4 a5 a6 a7 a8 a9 q0 l0 d0 p hs c W hl h1).mono ?_
    rintro e w' ⟨v, rfl, hT, hB⟩
    rw [ht] at hT
    rw [hn]
    obtain ⟨q, d, rfl⟩ := hT.len
    rw [hlen] at hT ⊢
    exact ⟨q, d, rfl, hT, hB⟩)
  have HTX : Hid (∀ W q d, Tr (fun _ => False) (.slice q l d) t W → Tens W → Calls Tryd.prog 19 #[.agg #[.int .i64 x0, .int .i64 x1, .int .i64 x2, .int .i64 x3, .int .i64 x4, .int .i64 x5, .int .i64 x6, .int .i64 x7, .int .i64 x8, .int .i64 x9, .slice q l d]] W fun e w' => e = .returned (.string (tx (textZ [x0, x1, x2, x3, x4, x5, x6, x7, x8, x9] t))) ∧ Below W.heap.size W w') := Lib.hid (fun W q d h1 h2 => text_any _ [x0, x1, x2, x3, x4, x5, x6, x7, x8, x9] t (.slice q l d) W rfl hin h1 (by omega) h2)
  have HRD : Hid (∀ W, Calls Tryd.prog 23 #[.string (tx (textZ [x0, x1, x2, x3, x4, x5, x6, x7, x8, x9] t))] W fun e w' => ∃ q d, e = .returned (.tuple #[.agg #[.int .i64 x0, .int .i64 x1, .int .i64 x2, .int .i64 x3, .int .i64 x4, .int .i64 x5, .int .i64 x6, .int .i64 x7, .int .i64 x8, .int .i64 x9, .slice q l d], .int .i64 0]) ∧ Tr (fun _ => False) (.slice q l d) t w' ∧ Below W.heap.size W w') := Lib.hid (fun W => by
    have := read_at (textZ [x0, x1, x2, x3, x4, x5, x6, x7, x8, x9] t) [x0, x1, x2, x3, x4, x5, x6, x7, x8, x9] t 0 (read_textZ hr) (by have := text_len (n := [x0, x1, x2, x3, x4, x5, x6, x7, x8, x9]) (t := t) rfl hin htin; omega) W
    rw [hlen] at this
    exact this)
  have HPU : Hid (∀ W q d, Tr (fun _ => False) (.slice q l d) t W → Calls Tryd.prog 12 #[.agg #[.int .i64 x0, .int .i64 x1, .int .i64 x2, .int .i64 x3, .int .i64 x4, .int .i64 x5, .int .i64 x6, .int .i64 x7, .int .i64 x8, .int .i64 x9, .slice q l d]] W fun e w' => e = .returned (.tuple #[.string (tx (putZ [x0, x1, x2, x3, x4, x5, x6, x7, x8, x9] t)), .bool true]) ∧ Below W.heap.size W w') := Lib.hid (fun W q d h1 => by
    have := put_any _ [x0, x1, x2, x3, x4, x5, x6, x7, x8, x9] t (.slice q l d) W rfl hin h1
    rw [if_pos hr] at this
    exact this)
  have hpl := put_len hr
  have HGE : Hid (∀ W, Calls Tryd.prog 25 #[.string (tx (putZ [x0, x1, x2, x3, x4, x5, x6, x7, x8, x9] t ++ sl))] W fun e w' => ∃ q d, e = .returned (.tuple #[.agg #[.int .i64 x0, .int .i64 x1, .int .i64 x2, .int .i64 x3, .int .i64 x4, .int .i64 x5, .int .i64 x6, .int .i64 x7, .int .i64 x8, .int .i64 x9, .slice q l d], .string (tx sl), .bool true]) ∧ Tr (fun _ => False) (.slice q l d) t w' ∧ Below W.heap.size W w') := Lib.hid (fun W => by
    refine (get_any (putZ [x0, x1, x2, x3, x4, x5, x6, x7, x8, x9] t ++ sl) (by rw [List.length_append, hpl]; omega) W).mono ?_
    rw [get_put hr sl]
    rintro e w' ⟨v, rfl, hT, hB⟩
    obtain ⟨q, d, rfl⟩ := hT.len
    have hT2 : Tr (fun _ => False) (.slice q t.length d) t w' := hT.weak (fun _ h _ => h.elim)
    refine ⟨q, d, ?_, by rw [← hlen]; exact hT2, hB⟩
    show Ending.returned (GetV (some (_, t, sl)) (.slice q t.length d)) = _
    rw [hlen]
    rfl)
  obtain ⟨nb, hnb⟩ : ∃ nb, (tx (putZ [x0, x1, x2, x3, x4, x5, x6, x7, x8, x9] t)).size = nb := ⟨_, rfl⟩
  have hnb2 : nb = 81 + 8 * l := by rw [← hnb, tx_len, hpl, hlen]
  obtain ⟨kk, hkk⟩ : ∃ kk, k % nb = kk := ⟨_, rfl⟩
  have hkk2 : kk < nb := by rw [← hkk]; exact Nat.mod_lt _ (by omega)
  have hki : (k : Int) % (nb : Int) = (kk : Int) := by rw [← hkk]; rfl
  have HGC : Hid (∀ W, Calls Tryd.prog 25 #[.string ((tx (putZ [x0, x1, x2, x3, x4, x5, x6, x7, x8, x9] t)).extract 0 kk)] W fun e w' => e = .returned (.tuple #[.agg #[.int .i64 0, .int .i64 0, .int .i64 0, .int .i64 0, .int .i64 0, .int .i64 0, .int .i64 0, .int .i64 0, .int .i64 0, .int .i64 0, .slice none 0 0], .string ⟨#[]⟩, .bool false]) ∧ Below W.heap.size W w') := Lib.hid (fun W => by
    rw [cut_tx]
    refine (get_any ((putZ [x0, x1, x2, x3, x4, x5, x6, x7, x8, x9] t).take kk) (by rw [List.length_take]; omega) W).mono ?_
    rw [get_cut hr (by rw [hpl, hlen]; omega)]
    rintro e w' ⟨v, rfl, hT, hB⟩
    exact ⟨rfl, hB⟩)
  have HSA : Hid (∀ W q d q' d', Tr (fun _ => False) (.slice q l d) t W → Tr (fun _ => False) (.slice q' l d') t W → Calls Tryd.prog 17 #[.agg #[.int .i64 x0, .int .i64 x1, .int .i64 x2, .int .i64 x3, .int .i64 x4, .int .i64 x5, .int .i64 x6, .int .i64 x7, .int .i64 x8, .int .i64 x9, .slice q l d], .agg #[.int .i64 x0, .int .i64 x1, .int .i64 x2, .int .i64 x3, .int .i64 x4, .int .i64 x5, .int .i64 x6, .int .i64 x7, .int .i64 x8, .int .i64 x9, .slice q' l d']] W fun e w' => e = .returned (.bool true) ∧ Below W.heap.size W w') := Lib.hid (fun W q d q' d' h1 h2 => by
    have := same_any _ _ [x0, x1, x2, x3, x4, x5, x6, x7, x8, x9] t [x0, x1, x2, x3, x4, x5, x6, x7, x8, x9] t (.slice q l d) (.slice q' l d') W rfl hin h1 rfl hin h2
    rw [decide_eq_true ⟨rfl, rfl⟩] at this
    exact this)
  have HRI : Hid (∀ W q d, Tr (fun _ => False) (.slice q l d) t W → Calls Tryd.prog 15 #[.agg #[.int .i64 x0, .int .i64 x1, .int .i64 x2, .int .i64 x3, .int .i64 x4, .int .i64 x5, .int .i64 x6, .int .i64 x7, .int .i64 x8, .int .i64 x9, .slice q l d]] W fun e w' => e = .returned (.bool true) ∧ Below W.heap.size W w') := Lib.hid (fun W q d h1 => by
    have := right_any _ [x0, x1, x2, x3, x4, x5, x6, x7, x8, x9] t (.slice q l d) W rfl hin h1
    rw [right_same _ _ rfl, hr] at this
    exact this)
  have hcat : tx (putZ [x0, x1, x2, x3, x4, x5, x6, x7, x8, x9] t) ++ tx sl = tx (putZ [x0, x1, x2, x3, x4, x5, x6, x7, x8, x9] t ++ sl) := tx_append _ _
  have hne : (tx (putZ [x0, x1, x2, x3, x4, x5, x6, x7, x8, x9] t)).toList.isEmpty = false := txt_no (fun e => by rw [e] at hpl; simp only [List.length_nil] at hpl; omega)
  have hcz : (tx sl).size ≤ 140737488355328 := by rw [tx_len]; exact hsl
  obtain ⟨TT, hTT⟩ : ∃ T, tx (textZ [x0, x1, x2, x3, x4, x5, x6, x7, x8, x9] t) = T := ⟨_, rfl⟩
  obtain ⟨BB, hBB⟩ : ∃ T, tx (putZ [x0, x1, x2, x3, x4, x5, x6, x7, x8, x9] t) = T := ⟨_, rfl⟩
  obtain ⟨BS, hBS⟩ : ∃ T, tx (putZ [x0, x1, x2, x3, x4, x5, x6, x7, x8, x9] t ++ sl) = T := ⟨_, rfl⟩
  obtain ⟨SS, hSS⟩ : ∃ T, tx sl = T := ⟨_, rfl⟩
  rw [hTT] at HTX HRD
  rw [hBB] at HPU HGC hcat hne hnb
  rw [hBS] at HGE hcat
  rw [hSS] at HGE hcat hcz ⊢
  have hcz2 : (9223372036854775807 < nb + SS.size) = False := eq_false (by omega)
  have hne2 : (!BB.toList.isEmpty) = true := by rw [hne]; rfl
  have hss : (SS.toList == SS.toList) = true := beq_self_eq_true _
  have hnb3 : 81 ≤ nb ∧ nb ≤ 105 := by omega
  clear hr hn ht hi1 hi2 hin htin hlen hpl hTT hBB hBS hSS hkk hsl ht1 ht3 hnb2
  obtain ⟨N, hN⟩ : ∃ N, w.heap.size = N := ⟨_, rfl⟩
  have HC0 : Hid (CellsAt N #[.int .i64 a0, .int .i64 a1, .int .i64 a2, .int .i64 a3, .int .i64 a4, .int .i64 a5, .int .i64 a6, .int .i64 a7, .int .i64 a8, .int .i64 a9, .slice q0 l0 d0, .bool ow, .slice p hs.length c] (w.alloc (.cells #[.int .i64 a0, .int .i64 a1, .int .i64 a2, .int .i64 a3, .int .i64 a4, .int .i64 a5, .int .i64 a6, .int .i64 a7, .int .i64 a8, .int .i64 a9, .slice q0 l0 d0, .bool ow, .slice p hs.length c] 27))) := Lib.hid (CellsAt.newAt #[.int .i64 a0, .int .i64 a1, .int .i64 a2, .int .i64 a3, .int .i64 a4, .int .i64 a5, .int .i64 a6, .int .i64 a7, .int .i64 a8, .int .i64 a9, .slice q0 l0 d0, .bool ow, .slice p hs.length c] 27 w N hN.symm)
  have HB : Hid (Below w.heap.size w (w.alloc (.cells #[.int .i64 a0, .int .i64 a1, .int .i64 a2, .int .i64 a3, .int .i64 a4, .int .i64 a5, .int .i64 a6, .int .i64 a7, .int .i64 a8, .int .i64 a9, .slice q0 l0 d0, .bool ow, .slice p hs.length c] 27))) := Lib.hid ((Below.refl _ _).alloc (Nat.le_refl _) _)
  have HS := Lib.hid hS
  have HX := Lib.hid hX
  have hle : w.heap.size ≤ N := Nat.le_of_eq hN
  clear hS hX
  go_enter Tryd.func5, Tryd.ntmps5
  go_wp2_with fail
  refine (hex _ (HX.out.below HB.out)).mono ?_
  rintro e w2 ⟨rfl, hBx⟩
  replace HC0 := Lib.hid (HC0.out.below hBx)
  replace HB := Lib.hid (HB.out.trans (hBx.mono HB.out.size))
  clear hBx hex
  have k11 := HC0.out.cell 11 _ rfl
  have f11 := HC0.out.fro 11 _ rfl
  have lN := HC0.out.lt
  simp only [List.getElem_toArray, List.getElem_cons_zero, List.getElem_cons_succ] at k11
  have hM : Mov (fun j => j = N) w2 (w2.setCell ⟨N, 11, none⟩ (.bool true)) := Mov.set (S := fun j => j = N) (Mov.refl _ _) rfl 11 _
  have HC1 : Hid (CellsAt N #[.int .i64 a0, .int .i64 a1, .int .i64 a2, .int .i64 a3, .int .i64 a4, .int .i64 a5, .int .i64 a6, .int .i64 a7, .int .i64 a8, .int .i64 a9, .slice q0 l0 d0, .bool true, .slice p hs.length c] (w2.setCell ⟨N, 11, none⟩ (.bool true))) := Lib.hid (HC0.out.set 11 (.bool true) (by simp))
  replace HB := Lib.hid (HB.out.trans (hM.below (N := w.heap.size) (fun j h => by omega) HB.out.size))
  clear hM HC0
  go_upto_region 5 with fail
  clear k11 f11 lN hN
  generalize w2.setCell ⟨N, 11, none⟩ (.bool true) = W3 at *
  have k0 := HC1.out.cell 0 _ rfl
  have k1 := HC1.out.cell 1 _ rfl
  have k2 := HC1.out.cell 2 _ rfl
  have k3 := HC1.out.cell 3 _ rfl
  have k4 := HC1.out.cell 4 _ rfl
  have k5 := HC1.out.cell 5 _ rfl
  have k6 := HC1.out.cell 6 _ rfl
  have k7 := HC1.out.cell 7 _ rfl
  have k8 := HC1.out.cell 8 _ rfl
  have k9 := HC1.out.cell 9 _ rfl
  have k10 := HC1.out.cell 10 _ rfl
  have k11 := HC1.out.cell 11 _ rfl
  have k12 := HC1.out.cell 12 _ rfl
  have kl := HC1.out.lt
  simp only [List.getElem_toArray, List.getElem_cons_zero, List.getElem_cons_succ] at k0 k1 k2 k3 k4 k5 k6 k7 k8 k9 k10 k11 k12
  go_wp2_with fail
  refine (HWI.out W3 (HS.out.below HB.out)).mono ?_
  rintro e w4 ⟨q, d, rfl, hT, hBx⟩
  replace HB := Lib.hid (HB.out.trans (hBx.mono HB.out.size))
  clear hBx HC1 HWI
  clear k0 k1 k2 k3 k4 k5 k6 k7 k8 k9 k10 k11 k12 kl
  have HT := Lib.hid hT
  clear hT
  obtain ⟨A, hA⟩ : ∃ A, w4.heap.size = A := ⟨_, rfl⟩
  have HA : Hid (CellsAt A #[.int .i64 x0, .int .i64 x1, .int .i64 x2, .int .i64 x3, .int .i64 x4, .int .i64 x5, .int .i64 x6, .int .i64 x7, .int .i64 x8, .int .i64 x9, .slice q l d] (w4.alloc (.cells #[.int .i64 x0, .int .i64 x1, .int .i64 x2, .int .i64 x3, .int .i64 x4, .int .i64 x5, .int .i64 x6, .int .i64 x7, .int .i64 x8, .int .i64 x9, .slice q l d] 24))) := Lib.hid (CellsAt.newAt #[.int .i64 x0, .int .i64 x1, .int .i64 x2, .int .i64 x3, .int .i64 x4, .int .i64 x5, .int .i64 x6, .int .i64 x7, .int .i64 x8, .int .i64 x9, .slice q l d] 24 w4 A hA.symm)
  have hBx : Below w4.heap.size w4 (w4.alloc (.cells #[.int .i64 x0, .int .i64 x1, .int .i64 x2, .int .i64 x3, .int .i64 x4, .int .i64 x5, .int .i64 x6, .int .i64 x7, .int .i64 x8, .int .i64 x9, .slice q l d] 24)) := (Below.refl _ _).alloc (Nat.le_refl _) _
  replace HT := Lib.hid (HT.out.below hBx)
  replace HB := Lib.hid (HB.out.trans (hBx.mono HB.out.size))
  clear hBx
  go_wp2_with fail
  refine (HTX.out _ q d HT.out (HX.out.below HB.out)).mono ?_
  rintro e w5 ⟨rfl, hBx⟩
  replace HT := Lib.hid (HT.out.below hBx)
  replace HA := Lib.hid (HA.out.below hBx)
  replace HB := Lib.hid (HB.out.trans (hBx.mono HB.out.size))
  clear hBx HTX hA
  go_wp2_with fail
  refine (HRD.out _).mono ?_
  rintro e w6 ⟨q1, d1, rfl, hT1, hBx⟩
  replace HT := Lib.hid (HT.out.below hBx)
  replace HA := Lib.hid (HA.out.below hBx)
  replace HB := Lib.hid (HB.out.trans (hBx.mono HB.out.size))
  clear hBx HRD
  have HT1 := Lib.hid hT1
  clear hT1
  have m0 := HA.out.cell 0 _ rfl
  have m1 := HA.out.cell 1 _ rfl
  have m2 := HA.out.cell 2 _ rfl
  have m3 := HA.out.cell 3 _ rfl
  have m4 := HA.out.cell 4 _ rfl
  have m5 := HA.out.cell 5 _ rfl
  have m6 := HA.out.cell 6 _ rfl
  have m7 := HA.out.cell 7 _ rfl
  have m8 := HA.out.cell 8 _ rfl
  have m9 := HA.out.cell 9 _ rfl
  have m10 := HA.out.cell 10 _ rfl
  have ml := HA.out.lt
  simp only [List.getElem_toArray, List.getElem_cons_zero, List.getElem_cons_succ] at m0 m1 m2 m3 m4 m5 m6 m7 m8 m9 m10
  obtain ⟨Xb, hXb⟩ : ∃ Xb, w6.heap.size = Xb := ⟨_, rfl⟩
  have HXb : Hid (CellsAt Xb #[.int .i64 x0, .int .i64 x1, .int .i64 x2, .int .i64 x3, .int .i64 x4, .int .i64 x5, .int .i64 x6, .int .i64 x7, .int .i64 x8, .int .i64 x9, .slice q1 l d1] (w6.alloc (.cells #[.int .i64 x0, .int .i64 x1, .int .i64 x2, .int .i64 x3, .int .i64 x4, .int .i64 x5, .int .i64 x6, .int .i64 x7, .int .i64 x8, .int .i64 x9, .slice q1 l d1] 24))) := Lib.hid (CellsAt.newAt #[.int .i64 x0, .int .i64 x1, .int .i64 x2, .int .i64 x3, .int .i64 x4, .int .i64 x5, .int .i64 x6, .int .i64 x7, .int .i64 x8, .int .i64 x9, .slice q1 l d1] 24 w6 Xb hXb.symm)
  have hBx : Below w6.heap.size w6 (w6.alloc (.cells #[.int .i64 x0, .int .i64 x1, .int .i64 x2, .int .i64 x3, .int .i64 x4, .int .i64 x5, .int .i64 x6, .int .i64 x7, .int .i64 x8, .int .i64 x9, .slice q1 l d1] 24)) := (Below.refl _ _).alloc (Nat.le_refl _) _
  replace HT := Lib.hid (HT.out.below hBx)
  replace HA := Lib.hid (HA.out.below hBx)
  replace HT1 := Lib.hid (HT1.out.below hBx)
  replace HB := Lib.hid (HB.out.trans (hBx.mono HB.out.size))
  clear hBx
  rw [hXb] at ml
  go_wp2_with fail
  refine (HPU.out _ q d HT.out).mono ?_
  rintro e w7 ⟨rfl, hBx⟩
  replace HT := Lib.hid (HT.out.below hBx)
  replace HA := Lib.hid (HA.out.below hBx)
  replace HT1 := Lib.hid (HT1.out.below hBx)
  replace HXb := Lib.hid (HXb.out.below hBx)
  replace HB := Lib.hid (HB.out.trans (hBx.mono HB.out.size))
  clear hBx HPU hXb
  clear m0 m1 m2 m3 m4 m5 m6 m7 m8 m9 m10 ml
  go_wp2_with fail
  refine (HGE.out _).mono ?_
  rintro e w8 ⟨q2, d2, rfl, hT2, hBx⟩
  replace HT := Lib.hid (HT.out.below hBx)
  replace HA := Lib.hid (HA.out.below hBx)
  replace HT1 := Lib.hid (HT1.out.below hBx)
  replace HXb := Lib.hid (HXb.out.below hBx)
  replace HB := Lib.hid (HB.out.trans (hBx.mono HB.out.size))
  clear hBx HGE
  have HT2 := Lib.hid hT2
  clear hT2
  obtain ⟨Y, hY⟩ : ∃ Y, w8.heap.size = Y := ⟨_, rfl⟩
  have HY : Hid (CellsAt Y #[.int .i64 x0, .int .i64 x1, .int .i64 x2, .int .i64 x3, .int .i64 x4, .int .i64 x5, .int .i64 x6, .int .i64 x7, .int .i64 x8, .int .i64 x9, .slice q2 l d2] (w8.alloc (.cells #[.int .i64 x0, .int .i64 x1, .int .i64 x2, .int .i64 x3, .int .i64 x4, .int .i64 x5, .int .i64 x6, .int .i64 x7, .int .i64 x8, .int .i64 x9, .slice q2 l d2] 24))) := Lib.hid (CellsAt.newAt #[.int .i64 x0, .int .i64 x1, .int .i64 x2, .int .i64 x3, .int .i64 x4, .int .i64 x5, .int .i64 x6, .int .i64 x7, .int .i64 x8, .int .i64 x9, .slice q2 l d2] 24 w8 Y hY.symm)
  have hBx : Below w8.heap.size w8 (w8.alloc (.cells #[.int .i64 x0, .int .i64 x1, .int .i64 x2, .int .i64 x3, .int .i64 x4, .int .i64 x5, .int .i64 x6, .int .i64 x7, .int .i64 x8, .int .i64 x9, .slice q2 l d2] 24)) := (Below.refl _ _).alloc (Nat.le_refl _) _
  replace HT := Lib.hid (HT.out.below hBx)
  replace HA := Lib.hid (HA.out.below hBx)
  replace HT1 := Lib.hid (HT1.out.below hBx)
  replace HXb := Lib.hid (HXb.out.below hBx)
  replace HT2 := Lib.hid (HT2.out.below hBx)
  replace HB := Lib.hid (HB.out.trans (hBx.mono HB.out.size))
  clear hBx
  go_wp2_with fail
  refine (HGC.out _).mono ?_
  rintro e w9 ⟨rfl, hBx⟩
  replace HT := Lib.hid (HT.out.below hBx)
  replace HA := Lib.hid (HA.out.below hBx)
  replace HT1 := Lib.hid (HT1.out.below hBx)
  replace HXb := Lib.hid (HXb.out.below hBx)
  replace HT2 := Lib.hid (HT2.out.below hBx)
  replace HY := Lib.hid (HY.out.below hBx)
  replace HB := Lib.hid (HB.out.trans (hBx.mono HB.out.size))
  clear hBx HGC hY
  have m0 := HA.out.cell 0 _ rfl
  have m1 := HA.out.cell 1 _ rfl
  have m2 := HA.out.cell 2 _ rfl
  have m3 := HA.out.cell 3 _ rfl
  have m4 := HA.out.cell 4 _ rfl
  have m5 := HA.out.cell 5 _ rfl
  have m6 := HA.out.cell 6 _ rfl
  have m7 := HA.out.cell 7 _ rfl
  have m8 := HA.out.cell 8 _ rfl
  have m9 := HA.out.cell 9 _ rfl
  have m10 := HA.out.cell 10 _ rfl
  have ml := HA.out.lt
  simp only [List.getElem_toArray, List.getElem_cons_zero, List.getElem_cons_succ] at m0 m1 m2 m3 m4 m5 m6 m7 m8 m9 m10
  have n0 := HXb.out.cell 0 _ rfl
  have n1 := HXb.out.cell 1 _ rfl
  have n2 := HXb.out.cell 2 _ rfl
  have n3 := HXb.out.cell 3 _ rfl
  have n4 := HXb.out.cell 4 _ rfl
  have n5 := HXb.out.cell 5 _ rfl
  have n6 := HXb.out.cell 6 _ rfl
  have n7 := HXb.out.cell 7 _ rfl
  have n8 := HXb.out.cell 8 _ rfl
  have n9 := HXb.out.cell 9 _ rfl
  have n10 := HXb.out.cell 10 _ rfl
  have nl := HXb.out.lt
  simp only [List.getElem_toArray, List.getElem_cons_zero, List.getElem_cons_succ] at n0 n1 n2 n3 n4 n5 n6 n7 n8 n9 n10
  obtain ⟨V, hV⟩ : ∃ V, w9.heap.size = V := ⟨_, rfl⟩
  have HV : Hid (CellsAt V #[.int .i64 0, .int .i64 0, .int .i64 0, .int .i64 0, .int .i64 0, .int .i64 0, .int .i64 0, .int .i64 0, .int .i64 0, .int .i64 0, .slice none 0 0] (w9.alloc (.cells #[.int .i64 0, .int .i64 0, .int .i64 0, .int .i64 0, .int .i64 0, .int .i64 0, .int .i64 0, .int .i64 0, .int .i64 0, .int .i64 0, .slice none 0 0] 24))) := Lib.hid (CellsAt.newAt #[.int .i64 0, .int .i64 0, .int .i64 0, .int .i64 0, .int .i64 0, .int .i64 0, .int .i64 0, .int .i64 0, .int .i64 0, .int .i64 0, .slice none 0 0] 24 w9 V hV.symm)
  have hBx : Below w9.heap.size w9 (w9.alloc (.cells #[.int .i64 0, .int .i64 0, .int .i64 0, .int .i64 0, .int .i64 0, .int .i64 0, .int .i64 0, .int .i64 0, .int .i64 0, .int .i64 0, .slice none 0 0] 24)) := (Below.refl _ _).alloc (Nat.le_refl _) _
  replace HT := Lib.hid (HT.out.below hBx)
  replace HA := Lib.hid (HA.out.below hBx)
  replace HT1 := Lib.hid (HT1.out.below hBx)
  replace HXb := Lib.hid (HXb.out.below hBx)
  replace HT2 := Lib.hid (HT2.out.below hBx)
  replace HY := Lib.hid (HY.out.below hBx)
  replace HB := Lib.hid (HB.out.trans (hBx.mono HB.out.size))
  clear hBx
  rw [hV] at ml nl
  go_wp2_with fail
  refine (HSA.out _ q1 d1 q d HT1.out HT.out).mono ?_
  rintro e w10 ⟨rfl, hBx⟩
  replace HT := Lib.hid (HT.out.below hBx)
  replace HA := Lib.hid (HA.out.below hBx)
  replace HT2 := Lib.hid (HT2.out.below hBx)
  replace HY := Lib.hid (HY.out.below hBx)
  replace HB := Lib.hid (HB.out.trans (hBx.mono HB.out.size))
  clear hBx HV HXb hV
  clear m0 m1 m2 m3 m4 m5 m6 m7 m8 m9 m10 ml
  clear n0 n1 n2 n3 n4 n5 n6 n7 n8 n9 n10 nl
  have m0 := HA.out.cell 0 _ rfl
  have m1 := HA.out.cell 1 _ rfl
  have m2 := HA.out.cell 2 _ rfl
  have m3 := HA.out.cell 3 _ rfl
  have m4 := HA.out.cell 4 _ rfl
  have m5 := HA.out.cell 5 _ rfl
  have m6 := HA.out.cell 6 _ rfl
  have m7 := HA.out.cell 7 _ rfl
  have m8 := HA.out.cell 8 _ rfl
  have m9 := HA.out.cell 9 _ rfl
  have m10 := HA.out.cell 10 _ rfl
  have ml := HA.out.lt
  simp only [List.getElem_toArray, List.getElem_cons_zero, List.getElem_cons_succ] at m0 m1 m2 m3 m4 m5 m6 m7 m8 m9 m10
  have n0 := HY.out.cell 0 _ rfl
  have n1 := HY.out.cell 1 _ rfl
  have n2 := HY.out.cell 2 _ rfl
  have n3 := HY.out.cell 3 _ rfl
  have n4 := HY.out.cell 4 _ rfl
  have n5 := HY.out.cell 5 _ rfl
  have n6 := HY.out.cell 6 _ rfl
  have n7 := HY.out.cell 7 _ rfl
  have n8 := HY.out.cell 8 _ rfl
  have n9 := HY.out.cell 9 _ rfl
  have n10 := HY.out.cell 10 _ rfl
  have nl := HY.out.lt
  simp only [List.getElem_toArray, List.getElem_cons_zero, List.getElem_cons_succ] at n0 n1 n2 n3 n4 n5 n6 n7 n8 n9 n10
  go_wp2_with fail
  refine (HSA.out _ q2 d2 q d HT2.out HT.out).mono ?_
  rintro e w11 ⟨rfl, hBx⟩
  replace HT := Lib.hid (HT.out.below hBx)
  replace HA := Lib.hid (HA.out.below hBx)
  replace HB := Lib.hid (HB.out.trans (hBx.mono HB.out.size))
  clear hBx HY HSA
  clear m0 m1 m2 m3 m4 m5 m6 m7 m8 m9 m10 ml
  clear n0 n1 n2 n3 n4 n5 n6 n7 n8 n9 n10 nl
  have m0 := HA.out.cell 0 _ rfl
  have m1 := HA.out.cell 1 _ rfl
  have m2 := HA.out.cell 2 _ rfl
  have m3 := HA.out.cell 3 _ rfl
  have m4 := HA.out.cell 4 _ rfl
  have m5 := HA.out.cell 5 _ rfl
  have m6 := HA.out.cell 6 _ rfl
  have m7 := HA.out.cell 7 _ rfl
  have m8 := HA.out.cell 8 _ rfl
  have m9 := HA.out.cell 9 _ rfl
  have m10 := HA.out.cell 10 _ rfl
  have ml := HA.out.lt
  simp only [List.getElem_toArray, List.getElem_cons_zero, List.getElem_cons_succ] at m0 m1 m2 m3 m4 m5 m6 m7 m8 m9 m10
  go_wp2_with fail
  refine (HRI.out _ q d HT.out).mono ?_
  rintro e w12 ⟨rfl, hBx⟩
  replace HB := Lib.hid (HB.out.trans (hBx.mono HB.out.size))
  clear hBx HA HRI
  clear m0 m1 m2 m3 m4 m5 m6 m7 m8 m9 m10 ml
  go_wp2
  go_ret
  exact ⟨rfl, HB.out⟩
theorem PolicyBack_walk (x : WishV) (a : ByteArray) (_ : a.size ≤ maxLen) (hz : a.size ≤ 140737488355328) (k : Int) (hk : (Lit.int .u16 k).wf = true) (w : World) (hX : Tens w) (hx : x.fits w) :
    Calls Tryd.prog 5 #[.agg x.vals, .string a, .int .u16 k] w fun e w' => e = .returned (.bool true) ∧ Below w.heap.size w w' := by
  have gk : 0 ≤ k ∧ k ≤ 65535 := by simpa [Lit.wf, IntKind.min, IntKind.max, IntKind.signed, IntKind.bits] using hk
  obtain ⟨m, rfl⟩ : ∃ m : Nat, k = m := ⟨k.toNat, by omega⟩
  obtain ⟨n, q, t, d, own, p, hs, c⟩ := x
  obtain ⟨a0, a1, a2, a3, a4, a5, a6, a7, a8, a9, rfl⟩ := ten_of hx.len
  rw [← tx_list a]
  exact back_in a0 a1 a2 a3 a4 a5 a6 a7 a8 a9 q t.length d own p hs c a.data.toList m w hX hx.hl (by rw [size_list]; exact hz) (by omega) hx.nums
end Go.Proofs.YtmlgcjfcbokibaaDoor.Po
