/- The chapter's examples. -/
import Derived.Test.YtcgkgdhbipbnfaaGreatDoorMqB
import Derived.Test.YtcgkgdhbipbnfaaGreatDoorQuT
import Derived.Test.YtcgkgdhbipbnfaaGreatDoorPoWl
namespace Go.Proofs.YtcgkgdhbipbnfaaGreatDoor.Qu
open Go Go.RowKit

/-- A quota that only grew: what one call leaves of it. -/
structure Kept (base : Nat) (a : Ad) (s : St) (w w' : World) : Prop where
  q : Qo base a s w'
  b : Below base w w'
theorem admit_at {base : Nat} {a : Ad} {s s' : St} {w w0 : World} {c : Int} (h : Qo base a s w) (hb : base = w0.heap.size) (hB : Below base w0 w) (hT : Hl.Tab w0) (key metric : ByteArray) (hk : key.size ≤ maxLen) (hm : metric.size ≤ maxLen) (kn fu : Bool) (hc : admitC s key metric kn fu = c) (hs : admitS s key metric kn fu = s') :
    Calls Tryz.prog 26 #[.pointer (some ⟨a.B, 0, none⟩), .string key, .string metric, .bool kn, .bool fu] w fun e w' => e = .returned (.int .i64 c) ∧ ∃ v', Qo base ⟨a.B, a.N, a.P, a.T, v'⟩ s' w' ∧ Below base w0 w' := by
  subst hc hs
  refine (admit_any h (hT.below (hb ▸ hB)) key metric hk hm kn fu).mono ?_
  rintro e w' ⟨he, v', hq, hM, _⟩
  exact ⟨he, v', hq, hB.trans (h.out hM)⟩
theorem one_zero : Hl.estOf 6 (zl 6) = 0 := est_zl 6 (by decide) (by decide)
theorem est_add (h : Nat) : Hl.estOf 6 (Hl.mergeL (Hl.addL 6 h (zl 6)) (zl 6)) = 1 := by
  rw [merge_lz (by rw [Hl.addL_length, zl_len])]
  exact Hl.est_one 6 (by decide) (by decide) h
def kK : ByteArray := ⟨#[107]⟩
def kJ : ByteArray := ⟨#[106]⟩
def kM : ByteArray := ⟨#[109]⟩
def e0 (win : Int) : St := ⟨win, false, 0, 1, 6, zl 6, zl 6, 8, []⟩
def e1 (win : Int) : St := ⟨win, true, 0, 1, 6, Hl.addL 6 (hashN kK) (zl 6), zl 6, 8, []⟩
def e2 (l : List UInt8) : St := ⟨3, true, 0, 1, 6, l, zl 6, 8, [⟨kM, 1, 0⟩]⟩
def e4 : St := ⟨5, true, 0, 1, 6, Hl.addL 6 (hashN kK) (zl 6), zl 6, 8, [⟨kM, 1, 0⟩]⟩
theorem add_e0 (win : Int) : addN (e0 win) kK = e1 win := by
  unfold addN e0 e1
  simp only [est_add]
  rfl
theorem add_m : Tq.addS 8 kM 1 [] = [⟨kM, 1, 0⟩] := by
  rw [Tq.addS_ok (by decide) (by decide) (by decide), Tq.addL_room (Tq.plc_no (fun j hj => by simp at hj)) (by decide)]
  rfl
theorem ad1 : admitC (e0 3) kK kM true false = 0 ∧ admitS (e0 3) kK kM true false = e1 3 := by
  have h : ¬ 64 < kM.size := by decide
  unfold admitC admitS
  rw [if_neg h, if_neg h, add_e0]
  exact ⟨rfl, if_pos rfl⟩
theorem ad2 : ∃ l, admitC (e1 3) kJ kM false false = 10 ∧ admitS (e1 3) kJ kM false false = e2 l := by
  have h : ¬ 64 < kM.size := by decide
  refine ⟨Hl.addL 6 (hashN kJ) (Hl.addL 6 (hashN kK) (zl 6)), ?_⟩
  unfold admitC admitS
  rw [if_neg h, if_neg h]
  refine ⟨rfl, ?_⟩
  show St.mk _ _ _ _ _ _ _ _ (Tq.addS 8 kM 1 []) = _
  rw [add_m]
  rfl
theorem ad4 : admitC (e0 5) kK kM false true = 10 ∧ admitS (e0 5) kK kM false true = e4 := by
  have h : ¬ 64 < kM.size := by decide
  unfold admitC admitS
  rw [if_neg h, if_neg h, add_e0]
  refine ⟨rfl, ?_⟩
  show St.mk _ _ _ _ _ _ _ _ (Tq.addS 8 kM 1 []) = _
  rw [add_m]
  rfl
theorem many_e4 : many e4 = 1 := by
  unfold many
  show Hl.estOf 6 (Hl.mergeL (Hl.addL 6 (hashN kK) (zl 6)) (zl 6)) = 1
  exact est_add (hashN kK)
theorem pol_right : Po.rightZ [64, 0, 1, 8, 6, 2, 2, 60, 30, 5] [10, 60] = true := by decide
set_option maxRecDepth 100000 in
set_option maxHeartbeats 16000000 in
theorem examples_any (w : World) (hT : Hl.Tab w) :
    Calls Tryz.prog 9 #[] w fun e w' => e = .returned (.bool true) ∧ Below w.heap.size w w' := by
  have HT := Lib.hid hT
  clear hT
  go_enter Tryz.func9, Tryz.ntmps9
  go_wp2_with fail
  refine (Po.base_lit _).mono ?_
  rintro e w1 ⟨p, c, rfl, hTr, hB1⟩
  obtain ⟨P, hP⟩ : ∃ P, w1.heap.size = P := ⟨_, rfl⟩
  have hB2 : Below P w1 (w1.alloc (.cells #[.int .i64 64, .int .i64 0, .int .i64 1, .int .i64 8, .int .i64 6, .int .i64 2, .int .i64 2, .int .i64 60, .int .i64 30, .int .i64 5, .slice p 2 c] 24)) := (Below.refl _ _).alloc (by omega) _
  have HP : Hid (CellsAt P #[.int .i64 64, .int .i64 0, .int .i64 1, .int .i64 8, .int .i64 6, .int .i64 2, .int .i64 2, .int .i64 60, .int .i64 30, .int .i64 5, .slice p 2 c] (w1.alloc (.cells #[.int .i64 64, .int .i64 0, .int .i64 1, .int .i64 8, .int .i64 6, .int .i64 2, .int .i64 2, .int .i64 60, .int .i64 30, .int .i64 5, .slice p 2 c] 24))) := Lib.hid (CellsAt.newAt #[.int .i64 64, .int .i64 0, .int .i64 1, .int .i64 8, .int .i64 6, .int .i64 2, .int .i64 2, .int .i64 60, .int .i64 30, .int .i64 5, .slice p 2 c] 24 w1 P hP.symm)
  have HTr := Lib.hid (hTr.below (by rw [hP]; exact hB2))
  have HB := Lib.hid (hB1.trans (hB2.mono (by rw [← hP]; exact hB1.size)))
  have HPE := Lib.hid hP
  clear hTr hB1 hB2
  go_upto_region 4 with fail
  generalize w1.alloc (.cells #[.int .i64 64, .int .i64 0, .int .i64 1, .int .i64 8, .int .i64 6, .int .i64 2, .int .i64 2, .int .i64 60, .int .i64 30, .int .i64 5, .slice p 2 c] 24) = W2 at *
  clear hP
  have k0 := HP.out.cell 0 _ rfl
  have k1 := HP.out.cell 1 _ rfl
  have k2 := HP.out.cell 2 _ rfl
  have k3 := HP.out.cell 3 _ rfl
  have k4 := HP.out.cell 4 _ rfl
  have k5 := HP.out.cell 5 _ rfl
  have k6 := HP.out.cell 6 _ rfl
  have k7 := HP.out.cell 7 _ rfl
  have k8 := HP.out.cell 8 _ rfl
  have k9 := HP.out.cell 9 _ rfl
  have k10 := HP.out.cell 10 _ rfl
  have kl := HP.out.lt
  simp only [List.getElem_toArray, List.getElem_cons_zero, List.getElem_cons_succ] at k0 k1 k2 k3 k4 k5 k6 k7 k8 k9 k10
  have hng := new_neg 64 0 1 8 6 2 2 60 30 5 (-1) p 2 c [10, 60] pol_right (by decide) W2 HTr.out
  go_wp2_with fail
  refine hng.mono ?_
  rintro e W3 ⟨rfl, hB3⟩
  clear hng
  clear k0 k1 k2 k3 k4 k5 k6 k7 k8 k9 k10 kl
  replace HP := Lib.hid (HP.out.below hB3)
  replace HTr := Lib.hid (HTr.out.below hB3)
  replace HB := Lib.hid (HB.out.trans (hB3.mono HB.out.size))
  clear hB3
  have k0 := HP.out.cell 0 _ rfl
  have k1 := HP.out.cell 1 _ rfl
  have k2 := HP.out.cell 2 _ rfl
  have k3 := HP.out.cell 3 _ rfl
  have k4 := HP.out.cell 4 _ rfl
  have k5 := HP.out.cell 5 _ rfl
  have k6 := HP.out.cell 6 _ rfl
  have k7 := HP.out.cell 7 _ rfl
  have k8 := HP.out.cell 8 _ rfl
  have k9 := HP.out.cell 9 _ rfl
  have k10 := HP.out.cell 10 _ rfl
  have kl := HP.out.lt
  simp only [List.getElem_toArray, List.getElem_cons_zero, List.getElem_cons_succ] at k0 k1 k2 k3 k4 k5 k6 k7 k8 k9 k10
  have hnw : Calls Tryz.prog 11 #[.agg #[.int .i64 64, .int .i64 0, .int .i64 1, .int .i64 8, .int .i64 6, .int .i64 2, .int .i64 2, .int .i64 60, .int .i64 30, .int .i64 5, .slice p 2 c], .int .i64 3] W3 fun e w' => ∃ a : Ad, e = .returned (.tuple #[.pointer (some ⟨a.B, 0, none⟩), .int .i64 0]) ∧ Qo W3.heap.size a (e0 3) w' ∧ Below W3.heap.size W3 w' := new_in 64 0 1 2 2 60 30 5 3 8 6 p 2 c [10, 60] pol_right (by decide) (by decide) W3 HTr.out
  go_wp2_with fail
  refine hnw.mono ?_
  rintro e W4 ⟨a, rfl, hQ, hB4⟩
  clear hnw
  clear k0 k1 k2 k3 k4 k5 k6 k7 k8 k9 k10 kl
  have HQ := Lib.hid hQ
  have HBN := Lib.hid hB4
  have HTB : Hid (Hl.Tab W3) := Lib.hid (HT.out.below HB.out)
  clear hQ hB4
  have had : Calls Tryz.prog 26 #[.pointer (some ⟨a.B, 0, none⟩), .string ⟨#[107]⟩, .string ⟨#[109]⟩, .bool true, .bool false] W4 fun e w' => e = .returned (.int .i64 0) ∧ ∃ v', Qo W3.heap.size ⟨a.B, a.N, a.P, a.T, v'⟩ (e1 3) w' ∧ Below W3.heap.size W3 w' := admit_at HQ.out rfl HBN.out HTB.out ⟨#[107]⟩ ⟨#[109]⟩ (by decide) (by decide) true false (ad1).1 (ad1).2
  go_wp2_with fail
  refine had.mono ?_
  rintro e W5 ⟨rfl, v1, hq, hb⟩
  clear had
  replace HQ := Lib.hid hq
  replace HBN := Lib.hid hb
  clear hq hb
  obtain ⟨l2, h21, h22⟩ := ad2
  have HL2 := Lib.hid (And.intro h21 h22)
  clear h21 h22
  have had : Calls Tryz.prog 26 #[.pointer (some ⟨a.B, 0, none⟩), .string ⟨#[106]⟩, .string ⟨#[109]⟩, .bool false, .bool false] W5 fun e w' => e = .returned (.int .i64 10) ∧ ∃ v', Qo W3.heap.size ⟨a.B, a.N, a.P, a.T, v'⟩ (e2 l2) w' ∧ Below W3.heap.size W3 w' := admit_at HQ.out rfl HBN.out HTB.out ⟨#[106]⟩ ⟨#[109]⟩ (by decide) (by decide) false false (HL2.out).1 (HL2.out).2
  go_wp2_with fail
  refine had.mono ?_
  rintro e W6 ⟨rfl, v2, hq, hb⟩
  clear had
  replace HQ := Lib.hid hq
  replace HBN := Lib.hid hb
  clear hq hb
  have HPc : Hid (CellsAt P #[.int .i64 64, .int .i64 0, .int .i64 1, .int .i64 8, .int .i64 6, .int .i64 2, .int .i64 2, .int .i64 60, .int .i64 30, .int .i64 5, .slice p 2 c] W6) := Lib.hid (CellsAt.belowAt HP.out HBN.out HP.out.lt)
  have k0 := HPc.out.cell 0 _ rfl
  have k1 := HPc.out.cell 1 _ rfl
  have k2 := HPc.out.cell 2 _ rfl
  have k3 := HPc.out.cell 3 _ rfl
  have k4 := HPc.out.cell 4 _ rfl
  have k5 := HPc.out.cell 5 _ rfl
  have k6 := HPc.out.cell 6 _ rfl
  have k7 := HPc.out.cell 7 _ rfl
  have k8 := HPc.out.cell 8 _ rfl
  have k9 := HPc.out.cell 9 _ rfl
  have k10 := HPc.out.cell 10 _ rfl
  have kl := HPc.out.lt
  simp only [List.getElem_toArray, List.getElem_cons_zero, List.getElem_cons_succ] at k0 k1 k2 k3 k4 k5 k6 k7 k8 k9 k10
  have hro : Calls Tryz.prog 15 #[.pointer (some ⟨a.B, 0, none⟩), .int .i64 3, .agg #[.int .i64 64, .int .i64 0, .int .i64 1, .int .i64 8, .int .i64 6, .int .i64 2, .int .i64 2, .int .i64 60, .int .i64 30, .int .i64 5, .slice p 2 c]] W6 fun e w' => e = .returned (.int .i64 0) ∧ Below W6.heap.size W6 w' := roll_old HQ.out 64 0 1 8 6 2 2 60 30 5 3 p 2 c (show (3 : Int) ≤ 3 by decide)
  go_wp2_with fail
  refine hro.mono ?_
  rintro e W7 ⟨rfl, hb⟩
  clear hro
  clear k0 k1 k2 k3 k4 k5 k6 k7 k8 k9 k10 kl
  replace HQ := Lib.hid (HQ.out.below hb)
  replace HBN := Lib.hid (HBN.out.trans (hb.mono HBN.out.size))
  clear hb HPc
  have HPc : Hid (CellsAt P #[.int .i64 64, .int .i64 0, .int .i64 1, .int .i64 8, .int .i64 6, .int .i64 2, .int .i64 2, .int .i64 60, .int .i64 30, .int .i64 5, .slice p 2 c] W7) := Lib.hid (CellsAt.belowAt HP.out HBN.out HP.out.lt)
  have k0 := HPc.out.cell 0 _ rfl
  have k1 := HPc.out.cell 1 _ rfl
  have k2 := HPc.out.cell 2 _ rfl
  have k3 := HPc.out.cell 3 _ rfl
  have k4 := HPc.out.cell 4 _ rfl
  have k5 := HPc.out.cell 5 _ rfl
  have k6 := HPc.out.cell 6 _ rfl
  have k7 := HPc.out.cell 7 _ rfl
  have k8 := HPc.out.cell 8 _ rfl
  have k9 := HPc.out.cell 9 _ rfl
  have k10 := HPc.out.cell 10 _ rfl
  have kl := HPc.out.lt
  simp only [List.getElem_toArray, List.getElem_cons_zero, List.getElem_cons_succ] at k0 k1 k2 k3 k4 k5 k6 k7 k8 k9 k10
  have htr7 := HTr.out.mov (M := fun k => W3.heap.size ≤ k) ⟨HBN.out.os, HBN.out.tape, HBN.out.output, HBN.out.size, fun k hk hn => HBN.out.block k (by omega)⟩ (fun j h1 h2 => by omega)
  have hro : Calls Tryz.prog 15 #[.pointer (some ⟨a.B, 0, none⟩), .int .i64 5, .agg #[.int .i64 64, .int .i64 0, .int .i64 1, .int .i64 8, .int .i64 6, .int .i64 2, .int .i64 2, .int .i64 60, .int .i64 30, .int .i64 5, .slice p 2 c]] W7 fun e w' => e = .returned (.int .i64 2) ∧ ∃ a' : Ad, a'.B = a.B ∧ Qo W3.heap.size a' (e0 5) w' ∧ Below W3.heap.size W3 w' := by
    refine (roll_later HQ.out 64 0 1 2 2 60 30 5 5 8 6 p 2 c [10, 60] pol_right (by decide) (by decide) (show (3 : Int) < 5 by decide) (show (5 : Int) - 3 ≠ 1 by decide) htr7).mono ?_
    rintro e w' ⟨he, a', h1, h2, h3, -⟩
    exact ⟨he, a', h1, h2, HBN.out.trans (HQ.out.out h3)⟩
  go_wp2_with fail
  refine hro.mono ?_
  rintro e W8 ⟨rfl, a2, hab, hq, hb⟩
  clear hro htr7
  clear k0 k1 k2 k3 k4 k5 k6 k7 k8 k9 k10 kl
  obtain ⟨B2, N2, P2, T2, v2'⟩ := a2
  obtain ⟨Ba, Na, Pa, Ta, va⟩ := a
  have hab : B2 = Ba := hab
  subst hab
  replace HQ := Lib.hid hq
  replace HBN := Lib.hid hb
  clear hq hb HPc
  have had : Calls Tryz.prog 26 #[.pointer (some ⟨B2, 0, none⟩), .string ⟨#[107]⟩, .string ⟨#[109]⟩, .bool false, .bool true] W8 fun e w' => e = .returned (.int .i64 10) ∧ ∃ v', Qo W3.heap.size ⟨B2, N2, P2, T2, v'⟩ (e4) w' ∧ Below W3.heap.size W3 w' := admit_at HQ.out rfl HBN.out HTB.out ⟨#[107]⟩ ⟨#[109]⟩ (by decide) (by decide) false true (ad4).1 (ad4).2
  go_wp2_with fail
  refine had.mono ?_
  rintro e W9 ⟨rfl, v4, hq, hb⟩
  clear had
  replace HQ := Lib.hid hq
  replace HBN := Lib.hid hb
  clear hq hb
  have hst : Calls Tryz.prog 20 #[.pointer (some ⟨B2, 0, none⟩)] W9 fun e w' => ∃ v, e = .returned (.agg #[.int .i64 5, .bool true, .string (Hl.tx e4.now), .string (Hl.tx e4.old), .int .u64 1, v]) ∧ ItAt W9.heap.size [⟨kM, 1, 0⟩] v w' ∧ Below W9.heap.size W9 w' := state_any HQ.out
  obtain ⟨sn, hsn⟩ : ∃ t, Hl.tx e4.now = t := ⟨_, rfl⟩
  obtain ⟨so, hso⟩ : ∃ t, Hl.tx e4.old = t := ⟨_, rfl⟩
  rw [hsn, hso] at hst
  clear hsn hso
  go_wp2_with fail
  refine hst.mono ?_
  rintro e W10 ⟨v, rfl, ⟨its, hI, hpm, -⟩, hb⟩
  clear hst
  obtain rfl : its = [⟨kM, 1, 0⟩] := List.perm_singleton.1 hpm
  obtain ⟨g, cap, rfl, hg1, hg2, hcap, hmax, hcell, -⟩ := hI.form_pos (by decide)
  have hc0 : W10.cell? ⟨g, 0, none⟩ = some (.string ⟨#[109]⟩) := (hcell 0 (by decide)).1
  replace HQ := Lib.hid (HQ.out.below hb)
  replace HBN := Lib.hid (HBN.out.trans (hb.mono HBN.out.size))
  have hS : CellsAt W10.heap.size #[.int .i64 5, .bool true, .string sn, .string so, .int .u64 1, .slice (some ⟨g, 0, none⟩) 1 cap] (W10.alloc (.cells #[.int .i64 5, .bool true, .string sn, .string so, .int .u64 1, .slice (some ⟨g, 0, none⟩) 1 cap] 59)) := CellsAt.new _ _ _
  have hbx : Below W10.heap.size W10 (W10.alloc (.cells #[.int .i64 5, .bool true, .string sn, .string so, .int .u64 1, .slice (some ⟨g, 0, none⟩) 1 cap] 59)) := (Below.refl _ _).alloc (Nat.le_refl _) _
  have hg3 := (hbx.cell (p := ⟨g, 0, none⟩) hg2).trans hc0
  have hg4 : g < (W10.alloc (.cells #[.int .i64 5, .bool true, .string sn, .string so, .int .u64 1, .slice (some ⟨g, 0, none⟩) 1 cap] 59)).heap.size := Nat.lt_of_lt_of_le hg2 hbx.size
  replace HQ := Lib.hid (HQ.out.below hbx)
  replace HBN := Lib.hid (HBN.out.trans (hbx.mono HBN.out.size))
  have HS := Lib.hid hS
  clear hI hpm hg1 hg2 hmax hcell hc0 hb hbx hS
  obtain ⟨S, hSe⟩ : ∃ S, W10.heap.size = S := ⟨_, rfl⟩
  rw [hSe] at HS
  go_upto_region 14 with fail
  generalize W10.alloc (.cells #[.int .i64 5, .bool true, .string sn, .string so, .int .u64 1, .slice (some ⟨g, 0, none⟩) 1 cap] 59) = V at *
  clear hSe
  have q4 := HS.out.cell 4 _ rfl
  have q5 := HS.out.cell 5 _ rfl
  have ql := HS.out.lt
  simp only [List.getElem_toArray, List.getElem_cons_zero, List.getElem_cons_succ] at q4 q5
  have hwi : Calls Tryz.prog 14 #[.pointer (some ⟨B2, 0, none⟩)] V fun e w' => e = .returned (.int .i64 5) ∧ V = w' := window_any HQ.out
  have hcl : Calls Tryz.prog 28 #[.pointer (some ⟨B2, 0, none⟩)] V fun e w' => e = .returned (.bool true) ∧ V = w' := closed_any HQ.out
  have hmn : Calls Tryz.prog 24 #[.pointer (some ⟨B2, 0, none⟩)] V fun e w' => e = .returned (.int .u64 1) ∧ Below V.heap.size V w' := by
    have := many_any HQ.out
    rwa [many_e4] at this
  go_wp2_with fail
  refine hwi.mono ?_
  rintro e V1 ⟨rfl, rfl⟩
  clear hwi
  go_wp2_with fail
  refine hcl.mono ?_
  rintro e V1 ⟨rfl, rfl⟩
  clear hcl
  go_wp2_with fail
  refine hmn.mono ?_
  rintro e V1 ⟨rfl, hb⟩
  have HE := Lib.hid (HB.out.trans ((HBN.out.trans (hb.mono HBN.out.size)).mono HB.out.size))
  clear hmn hb q4 q5 ql hg3 hg4
  go_wp2
  go_ret
  exact ⟨rfl, HE.out⟩
end Go.Proofs.YtcgkgdhbipbnfaaGreatDoor.Qu

