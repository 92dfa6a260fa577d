/- QuotaRolls walked. -/
import Derived.Test.YtcgkgdhbipbnfaaGreatDoorQuL
namespace Go.Proofs.YtcgkgdhbipbnfaaGreatDoor.Qu
open Go Go.RowKit

set_option maxRecDepth 100000 in
set_option maxHeartbeats 16000000 in
theorem rolls_next (a0 a1 a2 a3 a4 a5 a6 a7 a8 a9 : Int) (q0 : Option Addr) (l0 d0 : Nat) (ow : Bool) (p : Option Addr) (hs : List Nat) (c : Nat) (hl : hs.length ≤ 9223372036854775807) (x0 x1 x2 x5 x6 x7 x8 x9 : Int) (r b l : Nat) (t : List Int) (hlit : Lit hs x0 x1 x2 x5 x6 x7 x8 x9 r b l t) (p1 : Option Addr) (l1 : List Nat) (c1 : Nat) (hl1 : l1.length ≤ 9223372036854775807) (y : Nat) (hy : y < 256) (hki : (y : Int) % 4 = 0) (w : World) (hT : Hl.Tab w) (hS : Po.Shorts p hs w) (hO : Tq.Octs p1 l1 w) :
    Calls Tryz.prog 6 #[.agg #[.int .i64 a0, .int .i64 a1, .int .i64 a2, .int .i64 a3, .int .i64 a4, .int .i64 a5, .int .i64 a6, .int .i64 a7, .int .i64 a8, .int .i64 a9, .slice q0 l0 d0, .bool ow, .slice p hs.length c], .slice p1 l1.length c1, .int .u8 (y : Int)] w fun e w' => e = .returned (.bool true) ∧ Below w.heap.size w w' := by
  obtain ⟨n, hn⟩ : ∃ n, l1.length = n := ⟨_, rfl⟩
  have HNL := Lib.hid hn
  rw [hn] at hl1 ⊢
  clear hn
  obtain ⟨N, hN⟩ : ∃ N, w.heap.size = N := ⟨_, rfl⟩
  have HC0 : Hid (CellsAt N #[.int .i64 a0, .int .i64 a1, .int .i64 a2, .int .i64 a3, .int .i64 a4, .int .i64 a5, .int .i64 a6, .int .i64 a7, .int .i64 a8, .int .i64 a9, .slice q0 l0 d0, .bool ow, .slice p hs.length c] (w.alloc (.cells #[.int .i64 a0, .int .i64 a1, .int .i64 a2, .int .i64 a3, .int .i64 a4, .int .i64 a5, .int .i64 a6, .int .i64 a7, .int .i64 a8, .int .i64 a9, .slice q0 l0 d0, .bool ow, .slice p hs.length c] 27))) := Lib.hid (CellsAt.newAt _ _ _ _ hN.symm)
  have HB : Hid (Below w.heap.size w (w.alloc (.cells #[.int .i64 a0, .int .i64 a1, .int .i64 a2, .int .i64 a3, .int .i64 a4, .int .i64 a5, .int .i64 a6, .int .i64 a7, .int .i64 a8, .int .i64 a9, .slice q0 l0 d0, .bool ow, .slice p hs.length c] 27))) := Lib.hid ((Below.refl _ _).alloc (Nat.le_refl _) _)
  have HS := Lib.hid hS
  have HO := Lib.hid hO
  have HT := Lib.hid hT
  have HLI := Lib.hid hlit
  have HHL := Lib.hid hl
  have hle : w.heap.size ≤ N := Nat.le_of_eq hN
  have HNN := Lib.hid hN
  clear hS hO hT hlit hl
  go_enter Tryz.func6, Tryz.ntmps6
  go_wp2_with fail
  refine (examples_any _ (HT.out.below HB.out)).mono ?_
  rintro e w2 ⟨rfl, hBx⟩
  replace HC0 := Lib.hid (HC0.out.below hBx)
  replace HB := Lib.hid (HB.out.trans (hBx.mono HB.out.size))
  clear hBx
  have k11 := HC0.out.cell 11 _ rfl
  have f11 := HC0.out.fro 11 _ rfl
  have lN := HC0.out.lt
  simp only [List.getElem_toArray, List.getElem_cons_zero, List.getElem_cons_succ] at k11
  have hM : Tq.Mov (fun j => j = N) w2 (w2.setCell ⟨N, 11, none⟩ (.bool true)) := Tq.Mov.set (S := fun j => j = N) (Tq.Mov.refl _ _) rfl 11 _
  have HC1 : Hid (CellsAt N #[.int .i64 a0, .int .i64 a1, .int .i64 a2, .int .i64 a3, .int .i64 a4, .int .i64 a5, .int .i64 a6, .int .i64 a7, .int .i64 a8, .int .i64 a9, .slice q0 l0 d0, .bool true, .slice p hs.length c] (w2.setCell ⟨N, 11, none⟩ (.bool true))) := Lib.hid (HC0.out.set 11 (.bool true) (by simp))
  replace HB := Lib.hid (HB.out.trans (hM.below (N := w.heap.size) (fun j h => by omega) HB.out.size))
  clear hM HC0
  go_upto_region 5 with fail
  clear k11 f11 lN hN
  generalize w2.setCell ⟨N, 11, none⟩ (.bool true) = W3 at *
  have k0 := HC1.out.cell 0 _ rfl
  have k1 := HC1.out.cell 1 _ rfl
  have k2 := HC1.out.cell 2 _ rfl
  have k3 := HC1.out.cell 3 _ rfl
  have k4 := HC1.out.cell 4 _ rfl
  have k5 := HC1.out.cell 5 _ rfl
  have k6 := HC1.out.cell 6 _ rfl
  have k7 := HC1.out.cell 7 _ rfl
  have k8 := HC1.out.cell 8 _ rfl
  have k9 := HC1.out.cell 9 _ rfl
  have k10 := HC1.out.cell 10 _ rfl
  have k11 := HC1.out.cell 11 _ rfl
  have k12 := HC1.out.cell 12 _ rfl
  have kl := HC1.out.lt
  simp only [List.getElem_toArray, List.getElem_cons_zero, List.getElem_cons_succ] at k0 k1 k2 k3 k4 k5 k6 k7 k8 k9 k10 k11 k12
  have hwi := HLI.out.wish a0 a1 a2 a3 a4 a5 a6 a7 a8 a9 q0 l0 d0 p c W3 HHL.out (HS.out.below HB.out)
  go_wp2_with fail
  refine hwi.mono ?_
  rintro e w4 ⟨q, d, rfl, hTr, hB1⟩
  clear hwi
  clear k0 k1 k2 k3 k4 k5 k6 k7 k8 k9 k10 k11 k12 kl
  obtain ⟨P, hP⟩ : ∃ P, w4.heap.size = P := ⟨_, rfl⟩
  have hBx : Below w4.heap.size w4 (w4.alloc (.cells #[.int .i64 x0, .int .i64 x1, .int .i64 x2, .int .i64 (r : Int), .int .i64 (b : Int), .int .i64 x5, .int .i64 x6, .int .i64 x7, .int .i64 x8, .int .i64 x9, .slice q l d] 24)) := (Below.refl _ _).alloc (Nat.le_refl _) _
  have HP : Hid (CellsAt P #[.int .i64 x0, .int .i64 x1, .int .i64 x2, .int .i64 (r : Int), .int .i64 (b : Int), .int .i64 x5, .int .i64 x6, .int .i64 x7, .int .i64 x8, .int .i64 x9, .slice q l d] (w4.alloc (.cells #[.int .i64 x0, .int .i64 x1, .int .i64 x2, .int .i64 (r : Int), .int .i64 (b : Int), .int .i64 x5, .int .i64 x6, .int .i64 x7, .int .i64 x8, .int .i64 x9, .slice q l d] 24))) := Lib.hid (CellsAt.newAt _ _ _ _ hP.symm)
  have HTr := Lib.hid (hTr.below hBx)
  replace HB := Lib.hid (HB.out.trans ((hB1.trans (hBx.mono hB1.size)).mono HB.out.size))
  clear hB1 hBx hTr HC1
  go_upto_region 6 with fail
  generalize w4.alloc (.cells #[.int .i64 x0, .int .i64 x1, .int .i64 x2, .int .i64 (r : Int), .int .i64 (b : Int), .int .i64 x5, .int .i64 x6, .int .i64 x7, .int .i64 x8, .int .i64 x9, .slice q l d] 24) = V at *
  clear hP
  have HTB : Hid (Hl.Tab V) := Lib.hid (HT.out.below HB.out)
  have HOV := Lib.hid (HO.out.below HB.out)
  clear HO HT HS
  have k0 := HP.out.cell 0 _ rfl
  have k1 := HP.out.cell 1 _ rfl
  have k2 := HP.out.cell 2 _ rfl
  have k3 := HP.out.cell 3 _ rfl
  have k4 := HP.out.cell 4 _ rfl
  have k5 := HP.out.cell 5 _ rfl
  have k6 := HP.out.cell 6 _ rfl
  have k7 := HP.out.cell 7 _ rfl
  have k8 := HP.out.cell 8 _ rfl
  have k9 := HP.out.cell 9 _ rfl
  have k10 := HP.out.cell 10 _ rfl
  have kl := HP.out.lt
  simp only [List.getElem_toArray, List.getElem_cons_zero, List.getElem_cons_succ] at k0 k1 k2 k3 k4 k5 k6 k7 k8 k9 k10
  have hnw := new_in x0 x1 x2 x5 x6 x7 x8 x9 7 r b q l d t HLI.out.right (by decide) (by decide) V HTr.out
  go_wp2_with fail
  refine hnw.mono ?_
  rintro e W5 ⟨a, rfl, hQ, hB5⟩
  clear hnw
  clear k0 k1 k2 k3 k4 k5 k6 k7 k8 k9 k10 kl
  obtain ⟨VN, hVN⟩ : ∃ n, V.heap.size = n := ⟨_, rfl⟩
  rw [hVN] at hQ hB5
  have HVN := Lib.hid hVN
  have HPV : Hid (P < VN) := Lib.hid (by rw [← hVN]; exact HP.out.lt)
  have HR0 : Hid (Run VN a ⟨7, false, min x1 x2, x2, b, zl b, zl b, r, []⟩ 7 b r (min x1 x2) x2 V W5) := Lib.hid ⟨hQ, hB5, rfl, rfl, rfl, rfl, rfl, rfl⟩
  clear hQ hB5 hVN hle
  go_wp2_with fail
  go_loopg [11] (min n 60) (fun g i wx => ∃ (k : Nat) (s : St) (v : Value), k + g = min n 60 ∧ i = .int .i64 (k : Int) ∧ Hid (Run VN ⟨a.B, a.N, a.P, a.T, v⟩ s 7 b r (min x1 x2) x2 V wx))
  case atStart => exact ⟨0, _, a.v, by omega, rfl, HR0⟩
  case round =>
    clear HR0
    obtain ⟨k, s, v, hkg, rfl, HR⟩ := hrel
    cases gk with
    | zero =>
      have hend : ¬ (k < n) ∨ (k < n ∧ ¬ (k < 60)) := by omega
      clear hkg
      have hlb := HLI.out.bounds
      obtain ⟨cl, hcl⟩ : ∃ c, s.cl = c := ⟨_, rfl⟩
      obtain ⟨M, hM⟩ : ∃ c, many s = c := ⟨_, rfl⟩
      have HQ : Hid (Qo VN ⟨a.B, a.N, a.P, a.T, v⟩ s wr) := Lib.hid HR.out.q
      have HBW := Lib.hid HR.out.bel
      have h1 : Calls Tryz.prog 28 #[.pointer (some ⟨a.B, 0, none⟩)] wr fun e w' => e = .returned (.bool cl) ∧ wr = w' := by rw [← hcl]; exact closed_any (a := ⟨a.B, a.N, a.P, a.T, v⟩) HQ.out
      have h2 : Calls Tryz.prog 24 #[.pointer (some ⟨a.B, 0, none⟩)] wr fun e w' => e = .returned (.int .u64 (M : Int)) ∧ Below wr.heap.size wr w' := by rw [← hM]; exact many_any (a := ⟨a.B, a.N, a.P, a.T, v⟩) HQ.out
      have hest : Hl.estOf s.b s.now = M := by
        rw [← hM]
        unfold many
        rw [HR.out.old, ← HR.out.bits, merge_lz HQ.out.now.len]
      have hx1 : min x1 x2 = x1 := by omega
      have hu1 : IntKind.u64.wrap x1 = x1 := IntWalk.u64_in _ (by omega)
      have HU1 := Lib.hid hu1
      have HMX := Lib.hid hx1
      have HEST := Lib.hid hest
      have HCL := Lib.hid hcl
      have HLB := Lib.hid hlb
      have hlo : s.lo = x1 := by rw [HR.out.eLo, hx1]
      have HLO := Lib.hid hlo
      have HWN : Hid (s.win = 7) := Lib.hid HR.out.eWin
      have HSB : Hid (s.b = b) := Lib.hid HR.out.bits
      clear hest hx1 hcl hM hlb hlo HR hu1
      rcases hend with hend | ⟨hend1, hend⟩
      all_goals
        go_wp2_with fail
        refine h1.mono ?_
        rintro e W6 ⟨rfl, rfl⟩
        clear h1
        go_wp2_with fail
        refine h2.mono ?_
        rintro e W7 ⟨rfl, hb⟩
        clear h2 hend
        have HQ7 := Lib.hid (HQ.out.below hb)
        have HB7 := Lib.hid (HBW.out.trans (hb.mono (by rw [← HVN.out]; exact HBW.out.size)))
        clear hb
        have HP7 : Hid (CellsAt P #[.int .i64 x0, .int .i64 x1, .int .i64 x2, .int .i64 (r : Int), .int .i64 (b : Int), .int .i64 x5, .int .i64 x6, .int .i64 x7, .int .i64 x8, .int .i64 x9, .slice q l d] W7) := Lib.hid (CellsAt.belowAt HP.out HB7.out HPV.out)
        have k0 := HP7.out.cell 0 _ rfl
        have k1 := HP7.out.cell 1 _ rfl
        have k2 := HP7.out.cell 2 _ rfl
        have k3 := HP7.out.cell 3 _ rfl
        have k4 := HP7.out.cell 4 _ rfl
        have k5 := HP7.out.cell 5 _ rfl
        have k6 := HP7.out.cell 6 _ rfl
        have k7 := HP7.out.cell 7 _ rfl
        have k8 := HP7.out.cell 8 _ rfl
        have k9 := HP7.out.cell 9 _ rfl
        have k10 := HP7.out.cell 10 _ rfl
        have kl := HP7.out.lt
        simp only [List.getElem_toArray, List.getElem_cons_zero, List.getElem_cons_succ] at k0 k1 k2 k3 k4 k5 k6 k7 k8 k9 k10
        have hro : Calls Tryz.prog 15 #[.pointer (some ⟨a.B, 0, none⟩), .int .i64 8, .agg #[.int .i64 x0, .int .i64 x1, .int .i64 x2, .int .i64 (r : Int), .int .i64 (b : Int), .int .i64 x5, .int .i64 x6, .int .i64 x7, .int .i64 x8, .int .i64 x9, .slice q l d]] W7 fun e w' => e = .returned (.int .i64 1) ∧ ∃ a' : Ad, a'.B = a.B ∧ Qo VN a' ⟨8, cl && decide (x1 < (M : Int)), min x1 x2, x2, b, zl b, s.now, r, []⟩ w' ∧ Below VN V w' := by
          have htr := HTr.out.mov (M := fun k => VN ≤ k) ⟨HB7.out.os, HB7.out.tape, HB7.out.output, HB7.out.size, fun k hk hn => HB7.out.block k (by omega)⟩ (fun j h1 h2 => by rw [HVN.out] at h2; omega)
          refine (roll_nexta HQ7.out x0 x1 x2 x5 x6 x7 x8 x9 8 r b q l d t HLI.out.right (by decide) (by decide) (by rw [HWN.out]; decide) (by rw [HWN.out]; rfl) htr HSB.out).mono ?_
          rintro e w' ⟨he, a', h1, h2, h3, -⟩
          rw [HEST.out, HLO.out, HCL.out] at h2
          exact ⟨he, a', h1, h2, HB7.out.trans (HQ7.out.out h3)⟩
        go_wp2_with fail
        refine hro.mono ?_
        rintro e W8 ⟨rfl, a2, hab, hq, hb⟩
        clear hro
        clear k0 k1 k2 k3 k4 k5 k6 k7 k8 k9 k10 kl
        have HQ8 := Lib.hid hq
        have HB8 := Lib.hid hb
        have HAB := Lib.hid hab
        clear hq hb hab HP7 HQ7 HB7
        obtain ⟨ST, hST⟩ : ∃ s' : St, ⟨8, cl && decide (x1 < (M : Int)), min x1 x2, x2, b, zl b, s.now, r, []⟩ = s' := ⟨⟨8, cl && decide (x1 < (M : Int)), min x1 x2, x2, b, zl b, s.now, r, []⟩, rfl⟩
        have HST := Lib.hid hST
        rw [hST] at HQ8
        clear hST
        have hst : Calls Tryz.prog 20 #[.pointer (some ⟨a.B, 0, none⟩)] W8 fun e w' => ∃ v i, e = .returned (.agg #[.int .i64 ST.win, .bool ST.cl, .string (Hl.tx ST.now), .string (Hl.tx ST.old), .int .u64 0, .slice v 0 i]) ∧ Below W8.heap.size W8 w' := by
          have h9 := state_any HQ8.out
          rw [HAB.out] at h9
          refine h9.mono ?_
          rintro e w' ⟨v, he, ⟨its, hI, hp, -⟩, hB⟩
          have e1 : ST.l = [] := by rw [← HST.out]
          rw [e1] at hp he
          obtain rfl : its = [] := List.perm_nil.1 hp
          obtain ⟨p9, c9, rfl, _, _⟩ := hI.cap
          exact ⟨p9, c9, he, hB⟩
        obtain ⟨sw, hsw⟩ : ∃ v, ST.win = v := ⟨_, rfl⟩
        obtain ⟨sc, hsc⟩ : ∃ v, ST.cl = v := ⟨_, rfl⟩
        obtain ⟨sn, hsn⟩ : ∃ v, Hl.tx ST.now = v := ⟨_, rfl⟩
        obtain ⟨so, hso⟩ : ∃ v, Hl.tx ST.old = v := ⟨_, rfl⟩
        rw [hsw, hsc, hsn, hso] at hst
        clear hsw hsc hsn hso
        go_wp2_with fail
        refine hst.mono ?_
        rintro e W9 ⟨vi, ci, rfl, hb⟩
        clear hst
        have hS : CellsAt W9.heap.size #[.int .i64 sw, .bool sc, .string sn, .string so, .int .u64 0, .slice vi 0 ci] (W9.alloc (.cells #[.int .i64 sw, .bool sc, .string sn, .string so, .int .u64 0, .slice vi 0 ci] 59)) := CellsAt.new _ _ _
        have hbx : Below W9.heap.size W9 (W9.alloc (.cells #[.int .i64 sw, .bool sc, .string sn, .string so, .int .u64 0, .slice vi 0 ci] 59)) := (Below.refl _ _).alloc (Nat.le_refl _) _
        have hbz := hb.trans (hbx.mono hb.size)
        replace HQ8 := Lib.hid (HQ8.out.below hbz)
        replace HB8 := Lib.hid (HB8.out.trans (hbz.mono (by rw [← HVN.out]; exact HB8.out.size)))
        have HSS := Lib.hid hS
        obtain ⟨S, hSe⟩ : ∃ S, W9.heap.size = S := ⟨_, rfl⟩
        rw [hSe] at HSS
        clear hb hS hbx hbz
        go_upto_region 18 with fail
        generalize W9.alloc (.cells #[.int .i64 sw, .bool sc, .string sn, .string so, .int .u64 0, .slice vi 0 ci] 59) = U at *
        clear hSe
        have HP8 : Hid (CellsAt P #[.int .i64 x0, .int .i64 x1, .int .i64 x2, .int .i64 (r : Int), .int .i64 (b : Int), .int .i64 x5, .int .i64 x6, .int .i64 x7, .int .i64 x8, .int .i64 x9, .slice q l d] U) := Lib.hid (CellsAt.belowAt HP.out HB8.out HPV.out)
        have k0 := HP8.out.cell 0 _ rfl
        have k1 := HP8.out.cell 1 _ rfl
        have k2 := HP8.out.cell 2 _ rfl
        have k3 := HP8.out.cell 3 _ rfl
        have k4 := HP8.out.cell 4 _ rfl
        have k5 := HP8.out.cell 5 _ rfl
        have k6 := HP8.out.cell 6 _ rfl
        have k7 := HP8.out.cell 7 _ rfl
        have k8 := HP8.out.cell 8 _ rfl
        have k9 := HP8.out.cell 9 _ rfl
        have k10 := HP8.out.cell 10 _ rfl
        have kl := HP8.out.lt
        simp only [List.getElem_toArray, List.getElem_cons_zero, List.getElem_cons_succ] at k0 k1 k2 k3 k4 k5 k6 k7 k8 k9 k10
        have hro : Calls Tryz.prog 15 #[.pointer (some ⟨a.B, 0, none⟩), .int .i64 8, .agg #[.int .i64 x0, .int .i64 x1, .int .i64 x2, .int .i64 (r : Int), .int .i64 (b : Int), .int .i64 x5, .int .i64 x6, .int .i64 x7, .int .i64 x8, .int .i64 x9, .slice q l d]] U fun e w' => e = .returned (.int .i64 0) ∧ Below U.heap.size U w' := by
          have h9 := roll_old HQ8.out x0 x1 x2 (r : Int) (b : Int) x5 x6 x7 x8 x9 8 q l d (by rw [← HST.out]; exact Int.le_refl _)
          rwa [HAB.out] at h9
        go_wp2_with fail
        refine hro.mono ?_
        rintro e U2 ⟨rfl, hb⟩
        clear hro
        clear k0 k1 k2 k3 k4 k5 k6 k7 k8 k9 k10 kl
        replace HQ8 := Lib.hid (HQ8.out.below hb)
        replace HB8 := Lib.hid (HB8.out.trans (hb.mono (by rw [← HVN.out]; exact HB8.out.size)))
        replace HSS := Lib.hid (HSS.out.below hb)
        replace HP8 := Lib.hid (HP8.out.below hb)
        clear hb
        have k0 := HP8.out.cell 0 _ rfl
        have k1 := HP8.out.cell 1 _ rfl
        have k2 := HP8.out.cell 2 _ rfl
        have k3 := HP8.out.cell 3 _ rfl
        have k4 := HP8.out.cell 4 _ rfl
        have k5 := HP8.out.cell 5 _ rfl
        have k6 := HP8.out.cell 6 _ rfl
        have k7 := HP8.out.cell 7 _ rfl
        have k8 := HP8.out.cell 8 _ rfl
        have k9 := HP8.out.cell 9 _ rfl
        have k10 := HP8.out.cell 10 _ rfl
        have kl := HP8.out.lt
        simp only [List.getElem_toArray, List.getElem_cons_zero, List.getElem_cons_succ] at k0 k1 k2 k3 k4 k5 k6 k7 k8 k9 k10
        have hro : Calls Tryz.prog 15 #[.pointer (some ⟨a.B, 0, none⟩), .int .i64 0, .agg #[.int .i64 x0, .int .i64 x1, .int .i64 x2, .int .i64 (r : Int), .int .i64 (b : Int), .int .i64 x5, .int .i64 x6, .int .i64 x7, .int .i64 x8, .int .i64 x9, .slice q l d]] U2 fun e w' => e = .returned (.int .i64 0) ∧ Below U2.heap.size U2 w' := by
          have h9 := roll_old HQ8.out x0 x1 x2 (r : Int) (b : Int) x5 x6 x7 x8 x9 0 q l d (by rw [← HST.out]; show (0 : Int) ≤ 8; decide)
          rwa [HAB.out] at h9
        go_wp2_with fail
        refine hro.mono ?_
        rintro e U3 ⟨rfl, hb⟩
        clear hro
        clear k0 k1 k2 k3 k4 k5 k6 k7 k8 k9 k10 kl
        replace HQ8 := Lib.hid (HQ8.out.below hb)
        replace HB8 := Lib.hid (HB8.out.trans (hb.mono (by rw [← HVN.out]; exact HB8.out.size)))
        replace HSS := Lib.hid (HSS.out.below hb)
        replace HP8 := Lib.hid (HP8.out.below hb)
        clear hb
        have q4 := HSS.out.cell 4 _ rfl
        have q5 := HSS.out.cell 5 _ rfl
        have ql := HSS.out.lt
        have k1 := HP8.out.cell 1 _ rfl
        have kl := HP8.out.lt
        simp only [List.getElem_toArray, List.getElem_cons_zero, List.getElem_cons_succ] at q4 q5 k1
        have hmn : Calls Tryz.prog 24 #[.pointer (some ⟨a.B, 0, none⟩)] U3 fun e w' => e = .returned (.int .u64 (M : Int)) ∧ Below U3.heap.size U3 w' := by
          have h9 := many_any HQ8.out
          rw [HAB.out] at h9
          have e1 : many ST = M := by
            rw [← HST.out]
            unfold many
            rw [merge_zl (by have := HQ.out.now.len; rw [HSB.out] at this; exact this), ← HSB.out]
            exact HEST.out
          rw [e1] at h9
          exact h9
        have hcd : ∀ W, Below U3.heap.size U3 W → Calls Tryz.prog 28 #[.pointer (some ⟨a.B, 0, none⟩)] W fun e w' => e = .returned (.bool (cl && decide (x1 < (M : Int)))) ∧ W = w' := fun W hb => by
          have h9 := closed_any (HQ8.out.below hb)
          rw [HAB.out] at h9
          have e1 : ST.cl = (cl && decide (x1 < (M : Int))) := by rw [← HST.out]
          rw [e1] at h9
          exact h9
        have HCD := Lib.hid hcd
        clear hcd
        go_wp2_with fail
        refine hmn.mono ?_
        rintro e U4 ⟨rfl, hb⟩
        clear hmn
        have hc4 := HCD.out _ hb
        replace HB8 := Lib.hid (HB8.out.trans (hb.mono (by rw [← HVN.out]; exact HB8.out.size)))
        have q4' := (hb.cell (p := ⟨S, 4, none⟩) ql).trans q4
        have q5' := (hb.cell (p := ⟨S, 5, none⟩) ql).trans q5
        have k1' := (hb.cell (p := ⟨P, 1, none⟩) kl).trans k1
        have ql' := Nat.lt_of_lt_of_le ql hb.size
        have kl' := Nat.lt_of_lt_of_le kl hb.size
        clear q4 q5 k1 ql kl hb HCD
        have hE := HB.out.trans (HB8.out.mono (by rw [← HVN.out]; exact HB.out.size))
        have HE := Lib.hid hE
        clear hE
        go_wp2_with fail
        refine hc4.mono ?_
        rintro e U5 ⟨rfl, rfl⟩
        clear hc4
        have hu1 := HU1.out
        cases cl
        · go_wp2
          go_ret
          exact ⟨rfl, HE.out⟩
        · by_cases hd : x1 < (M : Int)
          · go_wp2
            go_ret
            exact ⟨rfl, HE.out⟩
          · go_wp2
            go_ret
            exact ⟨rfl, HE.out⟩
    | succ g =>
      have hk1 : k < n := by omega
      have hk2 : k < 60 := by omega
      have hkl : k < l1.length := by rw [HNL.out]; exact hk1
      obtain ⟨C, off, rfl, hC, hcell, hz⟩ := HOV.out k hkl
      obtain ⟨z, hzz⟩ : ∃ z, l1[k]'hkl = z := ⟨_, rfl⟩
      rw [hzz] at hcell hz
      have hcell2 := (HR.out.bel.cell (p := ⟨C, off + k, none⟩) (by rw [← HVN.out]; exact hC)).trans hcell
      have hC2 : C < wr.heap.size := Nat.lt_of_lt_of_le hC HR.out.bel.size
      have hcv := Tq.letter_back z hz wr wr.heap.size rfl
      have hR2 := HR.out.below (wy := wr.alloc (.cells #[.int .u8 (z : Int)] 5)) ((Below.refl _ _).alloc (Nat.le_refl _) _) HVN.out.symm
      have had := hR2.admit HVN.out.symm HTB.out (Tq.nmC z) ⟨#[109]⟩ (by rw [Tq.nmC_size]; decide) (by decide) false true
      clear hcell hC hkl hzz hR2 hz
      go_wp2_with fail
      refine had.mono ?_
      rintro e Wa ⟨rfl, v', hr⟩
      have HR' := Lib.hid hr
      clear had hr hcv hcell2 hC2
      go_wp2
      go_roundg g
      case measure => omega
      case rel => exact ⟨k + 1, _, v', by omega, by go_num, HR'⟩
set_option maxRecDepth 100000 in
set_option maxHeartbeats 16000000 in
theorem rolls_later (a0 a1 a2 a3 a4 a5 a6 a7 a8 a9 : Int) (q0 : Option Addr) (l0 d0 : Nat) (ow : Bool) (p : Option Addr) (hs : List Nat) (c : Nat) (hl : hs.length ≤ 9223372036854775807) (x0 x1 x2 x5 x6 x7 x8 x9 : Int) (r b l : Nat) (t : List Int) (hlit : Lit hs x0 x1 x2 x5 x6 x7 x8 x9 r b l t) (p1 : Option Addr) (l1 : List Nat) (c1 : Nat) (hl1 : l1.length ≤ 9223372036854775807) (y : Nat) (hy : y < 256) (m : Nat) (hm0 : 0 < m) (hm4 : m < 4) (hki : (y : Int) % 4 = (m : Int)) (w : World) (hT : Hl.Tab w) (hS : Po.Shorts p hs w) (hO : Tq.Octs p1 l1 w) :
    Calls Tryz.prog 6 #[.agg #[.int .i64 a0, .int .i64 a1, .int .i64 a2, .int .i64 a3, .int .i64 a4, .int .i64 a5, .int .i64 a6, .int .i64 a7, .int .i64 a8, .int .i64 a9, .slice q0 l0 d0, .bool ow, .slice p hs.length c], .slice p1 l1.length c1, .int .u8 (y : Int)] w fun e w' => e = .returned (.bool true) ∧ Below w.heap.size w w' := by
  obtain ⟨n, hn⟩ : ∃ n, l1.length = n := ⟨_, rfl⟩
  have HNL := Lib.hid hn
  rw [hn] at hl1 ⊢
  clear hn
  obtain ⟨N, hN⟩ : ∃ N, w.heap.size = N := ⟨_, rfl⟩
  have HC0 : Hid (CellsAt N #[.int .i64 a0, .int .i64 a1, .int .i64 a2, .int .i64 a3, .int .i64 a4, .int .i64 a5, .int .i64 a6, .int .i64 a7, .int .i64 a8, .int .i64 a9, .slice q0 l0 d0, .bool ow, .slice p hs.length c] (w.alloc (.cells #[.int .i64 a0, .int .i64 a1, .int .i64 a2, .int .i64 a3, .int .i64 a4, .int .i64 a5, .int .i64 a6, .int .i64 a7, .int .i64 a8, .int .i64 a9, .slice q0 l0 d0, .bool ow, .slice p hs.length c] 27))) := Lib.hid (CellsAt.newAt _ _ _ _ hN.symm)
  have HB : Hid (Below w.heap.size w (w.alloc (.cells #[.int .i64 a0, .int .i64 a1, .int .i64 a2, .int .i64 a3, .int .i64 a4, .int .i64 a5, .int .i64 a6, .int .i64 a7, .int .i64 a8, .int .i64 a9, .slice q0 l0 d0, .bool ow, .slice p hs.length c] 27))) := Lib.hid ((Below.refl _ _).alloc (Nat.le_refl _) _)
  have HS := Lib.hid hS
  have HO := Lib.hid hO
  have HT := Lib.hid hT
  have HLI := Lib.hid hlit
  have HHL := Lib.hid hl
  have hle : w.heap.size ≤ N := Nat.le_of_eq hN
  have HNN := Lib.hid hN
  clear hS hO hT hlit hl
  go_enter Tryz.func6, Tryz.ntmps6
  go_wp2_with fail
  refine (examples_any _ (HT.out.below HB.out)).mono ?_
  rintro e w2 ⟨rfl, hBx⟩
  replace HC0 := Lib.hid (HC0.out.below hBx)
  replace HB := Lib.hid (HB.out.trans (hBx.mono HB.out.size))
  clear hBx
  have k11 := HC0.out.cell 11 _ rfl
  have f11 := HC0.out.fro 11 _ rfl
  have lN := HC0.out.lt
  simp only [List.getElem_toArray, List.getElem_cons_zero, List.getElem_cons_succ] at k11
  have hM : Tq.Mov (fun j => j = N) w2 (w2.setCell ⟨N, 11, none⟩ (.bool true)) := Tq.Mov.set (S := fun j => j = N) (Tq.Mov.refl _ _) rfl 11 _
  have HC1 : Hid (CellsAt N #[.int .i64 a0, .int .i64 a1, .int .i64 a2, .int .i64 a3, .int .i64 a4, .int .i64 a5, .int .i64 a6, .int .i64 a7, .int .i64 a8, .int .i64 a9, .slice q0 l0 d0, .bool true, .slice p hs.length c] (w2.setCell ⟨N, 11, none⟩ (.bool true))) := Lib.hid (HC0.out.set 11 (.bool true) (by simp))
  replace HB := Lib.hid (HB.out.trans (hM.below (N := w.heap.size) (fun j h => by omega) HB.out.size))
  clear hM HC0
  go_upto_region 5 with fail
  clear k11 f11 lN hN
  generalize w2.setCell ⟨N, 11, none⟩ (.bool true) = W3 at *
  have k0 := HC1.out.cell 0 _ rfl
  have k1 := HC1.out.cell 1 _ rfl
  have k2 := HC1.out.cell 2 _ rfl
  have k3 := HC1.out.cell 3 _ rfl
  have k4 := HC1.out.cell 4 _ rfl
  have k5 := HC1.out.cell 5 _ rfl
  have k6 := HC1.out.cell 6 _ rfl
  have k7 := HC1.out.cell 7 _ rfl
  have k8 := HC1.out.cell 8 _ rfl
  have k9 := HC1.out.cell 9 _ rfl
  have k10 := HC1.out.cell 10 _ rfl
  have k11 := HC1.out.cell 11 _ rfl
  have k12 := HC1.out.cell 12 _ rfl
  have kl := HC1.out.lt
  simp only [List.getElem_toArray, List.getElem_cons_zero, List.getElem_cons_succ] at k0 k1 k2 k3 k4 k5 k6 k7 k8 k9 k10 k11 k12
  have hwi := HLI.out.wish a0 a1 a2 a3 a4 a5 a6 a7 a8 a9 q0 l0 d0 p c W3 HHL.out (HS.out.below HB.out)
  go_wp2_with fail
  refine hwi.mono ?_
  rintro e w4 ⟨q, d, rfl, hTr, hB1⟩
  clear hwi
  clear k0 k1 k2 k3 k4 k5 k6 k7 k8 k9 k10 k11 k12 kl
  obtain ⟨P, hP⟩ : ∃ P, w4.heap.size = P := ⟨_, rfl⟩
  have hBx : Below w4.heap.size w4 (w4.alloc (.cells #[.int .i64 x0, .int .i64 x1, .int .i64 x2, .int .i64 (r : Int), .int .i64 (b : Int), .int .i64 x5, .int .i64 x6, .int .i64 x7, .int .i64 x8, .int .i64 x9, .slice q l d] 24)) := (Below.refl _ _).alloc (Nat.le_refl _) _
  have HP : Hid (CellsAt P #[.int .i64 x0, .int .i64 x1, .int .i64 x2, .int .i64 (r : Int), .int .i64 (b : Int), .int .i64 x5, .int .i64 x6, .int .i64 x7, .int .i64 x8, .int .i64 x9, .slice q l d] (w4.alloc (.cells #[.int .i64 x0, .int .i64 x1, .int .i64 x2, .int .i64 (r : Int), .int .i64 (b : Int), .int .i64 x5, .int .i64 x6, .int .i64 x7, .int .i64 x8, .int .i64 x9, .slice q l d] 24))) := Lib.hid (CellsAt.newAt _ _ _ _ hP.symm)
  have HTr := Lib.hid (hTr.below hBx)
  replace HB := Lib.hid (HB.out.trans ((hB1.trans (hBx.mono hB1.size)).mono HB.out.size))
  clear hB1 hBx hTr HC1
  go_upto_region 6 with fail
  generalize w4.alloc (.cells #[.int .i64 x0, .int .i64 x1, .int .i64 x2, .int .i64 (r : Int), .int .i64 (b : Int), .int .i64 x5, .int .i64 x6, .int .i64 x7, .int .i64 x8, .int .i64 x9, .slice q l d] 24) = V at *
  clear hP
  have HTB : Hid (Hl.Tab V) := Lib.hid (HT.out.below HB.out)
  have HOV := Lib.hid (HO.out.below HB.out)
  clear HO HT HS
  have k0 := HP.out.cell 0 _ rfl
  have k1 := HP.out.cell 1 _ rfl
  have k2 := HP.out.cell 2 _ rfl
  have k3 := HP.out.cell 3 _ rfl
  have k4 := HP.out.cell 4 _ rfl
  have k5 := HP.out.cell 5 _ rfl
  have k6 := HP.out.cell 6 _ rfl
  have k7 := HP.out.cell 7 _ rfl
  have k8 := HP.out.cell 8 _ rfl
  have k9 := HP.out.cell 9 _ rfl
  have k10 := HP.out.cell 10 _ rfl
  have kl := HP.out.lt
  simp only [List.getElem_toArray, List.getElem_cons_zero, List.getElem_cons_succ] at k0 k1 k2 k3 k4 k5 k6 k7 k8 k9 k10
  have hnw := new_in x0 x1 x2 x5 x6 x7 x8 x9 7 r b q l d t HLI.out.right (by decide) (by decide) V HTr.out
  go_wp2_with fail
  refine hnw.mono ?_
  rintro e W5 ⟨a, rfl, hQ, hB5⟩
  clear hnw
  clear k0 k1 k2 k3 k4 k5 k6 k7 k8 k9 k10 kl
  obtain ⟨VN, hVN⟩ : ∃ n, V.heap.size = n := ⟨_, rfl⟩
  rw [hVN] at hQ hB5
  have HVN := Lib.hid hVN
  have HPV : Hid (P < VN) := Lib.hid (by rw [← hVN]; exact HP.out.lt)
  have HR0 : Hid (Run VN a ⟨7, false, min x1 x2, x2, b, zl b, zl b, r, []⟩ 7 b r (min x1 x2) x2 V W5) := Lib.hid ⟨hQ, hB5, rfl, rfl, rfl, rfl, rfl, rfl⟩
  clear hQ hB5 hVN hle
  go_wp2_with fail
  go_loopg [11] (min n 60) (fun g i wx => ∃ (k : Nat) (s : St) (v : Value), k + g = min n 60 ∧ i = .int .i64 (k : Int) ∧ Hid (Run VN ⟨a.B, a.N, a.P, a.T, v⟩ s 7 b r (min x1 x2) x2 V wx))
  case atStart => exact ⟨0, _, a.v, by omega, rfl, HR0⟩
  case round =>
    clear HR0
    obtain ⟨k, s, v, hkg, rfl, HR⟩ := hrel
    cases gk with
    | zero =>
      have hend : ¬ (k < n) ∨ (k < n ∧ ¬ (k < 60)) := by omega
      clear hkg
      have hlb := HLI.out.bounds
      obtain ⟨cl, hcl⟩ : ∃ c, s.cl = c := ⟨_, rfl⟩
      obtain ⟨M, hM⟩ : ∃ c, many s = c := ⟨_, rfl⟩
      have HQ : Hid (Qo VN ⟨a.B, a.N, a.P, a.T, v⟩ s wr) := Lib.hid HR.out.q
      have HBW := Lib.hid HR.out.bel
      have h1 : Calls Tryz.prog 28 #[.pointer (some ⟨a.B, 0, none⟩)] wr fun e w' => e = .returned (.bool cl) ∧ wr = w' := by rw [← hcl]; exact closed_any (a := ⟨a.B, a.N, a.P, a.T, v⟩) HQ.out
      have h2 : Calls Tryz.prog 24 #[.pointer (some ⟨a.B, 0, none⟩)] wr fun e w' => e = .returned (.int .u64 (M : Int)) ∧ Below wr.heap.size wr w' := by rw [← hM]; exact many_any (a := ⟨a.B, a.N, a.P, a.T, v⟩) HQ.out
      have hest : Hl.estOf s.b s.now = M := by
        rw [← hM]
        unfold many
        rw [HR.out.old, ← HR.out.bits, merge_lz HQ.out.now.len]
      have hx1 : min x1 x2 = x1 := by omega
      have hu1 : IntKind.u64.wrap x1 = x1 := IntWalk.u64_in _ (by omega)
      have HU1 := Lib.hid hu1
      have HMX := Lib.hid hx1
      have HEST := Lib.hid hest
      have HCL := Lib.hid hcl
      have HLB := Lib.hid hlb
      have hlo : s.lo = x1 := by rw [HR.out.eLo, hx1]
      have HLO := Lib.hid hlo
      have HWN : Hid (s.win = 7) := Lib.hid HR.out.eWin
      have HSB : Hid (s.b = b) := Lib.hid HR.out.bits
      clear hest hx1 hcl hM hlb hlo HR hu1
      have hmw : IntKind.i64.wrap (m : Int) = (m : Int) := IntWalk.i64_in _ (by omega)
      have hmt : IntKind.i64.wrap (8 + (m : Int)) = 8 + (m : Int) := IntWalk.i64_in _ (by omega)
      have hne8 : ¬ (8 + (m : Int) = 8) := by omega
      rcases hend with hend | ⟨hend1, hend⟩
      all_goals
        go_wp2_with fail
        refine h1.mono ?_
        rintro e W6 ⟨rfl, rfl⟩
        clear h1
        go_wp2_with fail
        refine h2.mono ?_
        rintro e W7 ⟨rfl, hb⟩
        clear h2 hend
        have HQ7 := Lib.hid (HQ.out.below hb)
        have HB7 := Lib.hid (HBW.out.trans (hb.mono (by rw [← HVN.out]; exact HBW.out.size)))
        clear hb
        have HP7 : Hid (CellsAt P #[.int .i64 x0, .int .i64 x1, .int .i64 x2, .int .i64 (r : Int), .int .i64 (b : Int), .int .i64 x5, .int .i64 x6, .int .i64 x7, .int .i64 x8, .int .i64 x9, .slice q l d] W7) := Lib.hid (CellsAt.belowAt HP.out HB7.out HPV.out)
        have k0 := HP7.out.cell 0 _ rfl
        have k1 := HP7.out.cell 1 _ rfl
        have k2 := HP7.out.cell 2 _ rfl
        have k3 := HP7.out.cell 3 _ rfl
        have k4 := HP7.out.cell 4 _ rfl
        have k5 := HP7.out.cell 5 _ rfl
        have k6 := HP7.out.cell 6 _ rfl
        have k7 := HP7.out.cell 7 _ rfl
        have k8 := HP7.out.cell 8 _ rfl
        have k9 := HP7.out.cell 9 _ rfl
        have k10 := HP7.out.cell 10 _ rfl
        have kl := HP7.out.lt
        simp only [List.getElem_toArray, List.getElem_cons_zero, List.getElem_cons_succ] at k0 k1 k2 k3 k4 k5 k6 k7 k8 k9 k10
        have hro : Calls Tryz.prog 15 #[.pointer (some ⟨a.B, 0, none⟩), .int .i64 (8 + (m : Int)), .agg #[.int .i64 x0, .int .i64 x1, .int .i64 x2, .int .i64 (r : Int), .int .i64 (b : Int), .int .i64 x5, .int .i64 x6, .int .i64 x7, .int .i64 x8, .int .i64 x9, .slice q l d]] W7 fun e w' => e = .returned (.int .i64 2) ∧ ∃ a' : Ad, a'.B = a.B ∧ Qo VN a' ⟨8 + (m : Int), false, min x1 x2, x2, b, zl b, zl b, r, []⟩ w' ∧ Below VN V w' := by
          have htr := HTr.out.mov (M := fun k => VN ≤ k) ⟨HB7.out.os, HB7.out.tape, HB7.out.output, HB7.out.size, fun k hk hn => HB7.out.block k (by omega)⟩ (fun j h1 h2 => by rw [HVN.out] at h2; omega)
          refine (roll_later HQ7.out x0 x1 x2 x5 x6 x7 x8 x9 (8 + (m : Int)) r b q l d t HLI.out.right (by omega) (by omega) (by rw [HWN.out]; omega) (by rw [HWN.out]; omega) htr).mono ?_
          rintro e w' ⟨he, a', h1, h2, h3, -⟩
          have hf : (s.cl && decide (s.lo < ((0 : Nat) : Int))) = false := by
            rw [HLO.out]
            have := HLB.out.1.1
            simp
            omega
          rw [hf] at h2
          exact ⟨he, a', h1, h2, HB7.out.trans (HQ7.out.out h3)⟩
        go_wp2_with fail
        refine hro.mono ?_
        rintro e W8 ⟨rfl, a2, hab, hq, hb⟩
        clear hro
        clear k0 k1 k2 k3 k4 k5 k6 k7 k8 k9 k10 kl
        have HQ8 := Lib.hid hq
        have HB8 := Lib.hid hb
        have HAB := Lib.hid hab
        clear hq hb hab HP7 HQ7 HB7
        obtain ⟨ST, hST⟩ : ∃ s' : St, ⟨8 + (m : Int), false, min x1 x2, x2, b, zl b, zl b, r, []⟩ = s' := ⟨⟨8 + (m : Int), false, min x1 x2, x2, b, zl b, zl b, r, []⟩, rfl⟩
        have HST := Lib.hid hST
        rw [hST] at HQ8
        clear hST
        have hst : Calls Tryz.prog 20 #[.pointer (some ⟨a.B, 0, none⟩)] W8 fun e w' => ∃ v i, e = .returned (.agg #[.int .i64 ST.win, .bool ST.cl, .string (Hl.tx ST.now), .string (Hl.tx ST.old), .int .u64 0, .slice v 0 i]) ∧ Below W8.heap.size W8 w' := by
          have h9 := state_any HQ8.out
          rw [HAB.out] at h9
          refine h9.mono ?_
          rintro e w' ⟨v, he, ⟨its, hI, hp, -⟩, hB⟩
          have e1 : ST.l = [] := by rw [← HST.out]
          rw [e1] at hp he
          obtain rfl : its = [] := List.perm_nil.1 hp
          obtain ⟨p9, c9, rfl, _, _⟩ := hI.cap
          exact ⟨p9, c9, he, hB⟩
        obtain ⟨sw, hsw⟩ : ∃ v, ST.win = v := ⟨_, rfl⟩
        obtain ⟨sc, hsc⟩ : ∃ v, ST.cl = v := ⟨_, rfl⟩
        obtain ⟨sn, hsn⟩ : ∃ v, Hl.tx ST.now = v := ⟨_, rfl⟩
        obtain ⟨so, hso⟩ : ∃ v, Hl.tx ST.old = v := ⟨_, rfl⟩
        rw [hsw, hsc, hsn, hso] at hst
        clear hsw hsc hsn hso
        go_wp2_with fail
        refine hst.mono ?_
        rintro e W9 ⟨vi, ci, rfl, hb⟩
        clear hst
        have hS : CellsAt W9.heap.size #[.int .i64 sw, .bool sc, .string sn, .string so, .int .u64 0, .slice vi 0 ci] (W9.alloc (.cells #[.int .i64 sw, .bool sc, .string sn, .string so, .int .u64 0, .slice vi 0 ci] 59)) := CellsAt.new _ _ _
        have hbx : Below W9.heap.size W9 (W9.alloc (.cells #[.int .i64 sw, .bool sc, .string sn, .string so, .int .u64 0, .slice vi 0 ci] 59)) := (Below.refl _ _).alloc (Nat.le_refl _) _
        have hbz := hb.trans (hbx.mono hb.size)
        replace HQ8 := Lib.hid (HQ8.out.below hbz)
        replace HB8 := Lib.hid (HB8.out.trans (hbz.mono (by rw [← HVN.out]; exact HB8.out.size)))
        have HSS := Lib.hid hS
        obtain ⟨S, hSe⟩ : ∃ S, W9.heap.size = S := ⟨_, rfl⟩
        rw [hSe] at HSS
        clear hb hS hbx hbz
        go_upto_region 18 with fail
        generalize W9.alloc (.cells #[.int .i64 sw, .bool sc, .string sn, .string so, .int .u64 0, .slice vi 0 ci] 59) = U at *
        clear hSe
        have HP8 : Hid (CellsAt P #[.int .i64 x0, .int .i64 x1, .int .i64 x2, .int .i64 (r : Int), .int .i64 (b : Int), .int .i64 x5, .int .i64 x6, .int .i64 x7, .int .i64 x8, .int .i64 x9, .slice q l d] U) := Lib.hid (CellsAt.belowAt HP.out HB8.out HPV.out)
        have k0 := HP8.out.cell 0 _ rfl
        have k1 := HP8.out.cell 1 _ rfl
        have k2 := HP8.out.cell 2 _ rfl
        have k3 := HP8.out.cell 3 _ rfl
        have k4 := HP8.out.cell 4 _ rfl
        have k5 := HP8.out.cell 5 _ rfl
        have k6 := HP8.out.cell 6 _ rfl
        have k7 := HP8.out.cell 7 _ rfl
        have k8 := HP8.out.cell 8 _ rfl
        have k9 := HP8.out.cell 9 _ rfl
        have k10 := HP8.out.cell 10 _ rfl
        have kl := HP8.out.lt
        simp only [List.getElem_toArray, List.getElem_cons_zero, List.getElem_cons_succ] at k0 k1 k2 k3 k4 k5 k6 k7 k8 k9 k10
        have hro : Calls Tryz.prog 15 #[.pointer (some ⟨a.B, 0, none⟩), .int .i64 (8 + (m : Int)), .agg #[.int .i64 x0, .int .i64 x1, .int .i64 x2, .int .i64 (r : Int), .int .i64 (b : Int), .int .i64 x5, .int .i64 x6, .int .i64 x7, .int .i64 x8, .int .i64 x9, .slice q l d]] U fun e w' => e = .returned (.int .i64 0) ∧ Below U.heap.size U w' := by
          have h9 := roll_old HQ8.out x0 x1 x2 (r : Int) (b : Int) x5 x6 x7 x8 x9 (8 + (m : Int)) q l d (by rw [← HST.out]; exact Int.le_refl _)
          rwa [HAB.out] at h9
        go_wp2_with fail
        refine hro.mono ?_
        rintro e U2 ⟨rfl, hb⟩
        clear hro
        clear k0 k1 k2 k3 k4 k5 k6 k7 k8 k9 k10 kl
        replace HQ8 := Lib.hid (HQ8.out.below hb)
        replace HB8 := Lib.hid (HB8.out.trans (hb.mono (by rw [← HVN.out]; exact HB8.out.size)))
        replace HSS := Lib.hid (HSS.out.below hb)
        replace HP8 := Lib.hid (HP8.out.below hb)
        clear hb
        have k0 := HP8.out.cell 0 _ rfl
        have k1 := HP8.out.cell 1 _ rfl
        have k2 := HP8.out.cell 2 _ rfl
        have k3 := HP8.out.cell 3 _ rfl
        have k4 := HP8.out.cell 4 _ rfl
        have k5 := HP8.out.cell 5 _ rfl
        have k6 := HP8.out.cell 6 _ rfl
        have k7 := HP8.out.cell 7 _ rfl
        have k8 := HP8.out.cell 8 _ rfl
        have k9 := HP8.out.cell 9 _ rfl
        have k10 := HP8.out.cell 10 _ rfl
        have kl := HP8.out.lt
        simp only [List.getElem_toArray, List.getElem_cons_zero, List.getElem_cons_succ] at k0 k1 k2 k3 k4 k5 k6 k7 k8 k9 k10
        have hro : Calls Tryz.prog 15 #[.pointer (some ⟨a.B, 0, none⟩), .int .i64 0, .agg #[.int .i64 x0, .int .i64 x1, .int .i64 x2, .int .i64 (r : Int), .int .i64 (b : Int), .int .i64 x5, .int .i64 x6, .int .i64 x7, .int .i64 x8, .int .i64 x9, .slice q l d]] U2 fun e w' => e = .returned (.int .i64 0) ∧ Below U2.heap.size U2 w' := by
          have h9 := roll_old HQ8.out x0 x1 x2 (r : Int) (b : Int) x5 x6 x7 x8 x9 0 q l d (by rw [← HST.out]; show (0 : Int) ≤ 8 + (m : Int); omega)
          rwa [HAB.out] at h9
        go_wp2_with fail
        refine hro.mono ?_
        rintro e U3 ⟨rfl, hb⟩
        clear hro
        clear k0 k1 k2 k3 k4 k5 k6 k7 k8 k9 k10 kl
        replace HQ8 := Lib.hid (HQ8.out.below hb)
        replace HB8 := Lib.hid (HB8.out.trans (hb.mono (by rw [← HVN.out]; exact HB8.out.size)))
        replace HSS := Lib.hid (HSS.out.below hb)
        replace HP8 := Lib.hid (HP8.out.below hb)
        clear hb
        have q4 := HSS.out.cell 4 _ rfl
        have q5 := HSS.out.cell 5 _ rfl
        have ql := HSS.out.lt
        have k1 := HP8.out.cell 1 _ rfl
        have kl := HP8.out.lt
        simp only [List.getElem_toArray, List.getElem_cons_zero, List.getElem_cons_succ] at q4 q5 k1
        have hmn : Calls Tryz.prog 24 #[.pointer (some ⟨a.B, 0, none⟩)] U3 fun e w' => e = .returned (.int .u64 0) ∧ Below U3.heap.size U3 w' := by
          have h9 := many_any HQ8.out
          rw [HAB.out] at h9
          have e1 : many ST = 0 := by
            rw [← HST.out]
            unfold many
            rw [merge_zl (zl_len b)]
            exact est_zl b HLB.out.2.2.2.1 HLB.out.2.2.2.2.1
          rw [e1] at h9
          exact h9
        have hcd : ∀ W, Below U3.heap.size U3 W → Calls Tryz.prog 28 #[.pointer (some ⟨a.B, 0, none⟩)] W fun e w' => e = .returned (.bool false) ∧ W = w' := fun W hb => by
          have h9 := closed_any (HQ8.out.below hb)
          rw [HAB.out] at h9
          have e1 : ST.cl = false := by rw [← HST.out]
          rw [e1] at h9
          exact h9
        have HCD := Lib.hid hcd
        have HWD : Hid (∀ W, Below U3.heap.size U3 W → Calls Tryz.prog 14 #[.pointer (some ⟨a.B, 0, none⟩)] W fun e w' => e = .returned (.int .i64 (8 + (m : Int))) ∧ W = w') := Lib.hid (fun W hb => by
          have h9 := window_any (HQ8.out.below hb)
          rw [HAB.out] at h9
          have e1 : ST.win = 8 + (m : Int) := by rw [← HST.out]
          rw [e1] at h9
          exact h9)
        clear hcd
        go_wp2_with fail
        refine hmn.mono ?_
        rintro e U4 ⟨rfl, hb⟩
        clear hmn
        have hc4 := HCD.out _ hb
        have hw4 := HWD.out _ hb
        replace HB8 := Lib.hid (HB8.out.trans (hb.mono (by rw [← HVN.out]; exact HB8.out.size)))
        have q4' := (hb.cell (p := ⟨S, 4, none⟩) ql).trans q4
        have q5' := (hb.cell (p := ⟨S, 5, none⟩) ql).trans q5
        have k1' := (hb.cell (p := ⟨P, 1, none⟩) kl).trans k1
        have ql' := Nat.lt_of_lt_of_le ql hb.size
        have kl' := Nat.lt_of_lt_of_le kl hb.size
        clear q4 q5 k1 ql kl hb HCD
        have hE := HB.out.trans (HB8.out.mono (by rw [← HVN.out]; exact HB.out.size))
        have HE := Lib.hid hE
        clear hE
        go_wp2_with fail
        refine hc4.mono ?_
        rintro e U5 ⟨rfl, rfl⟩
        clear hc4
        go_wp2_with fail
        refine hw4.mono ?_
        rintro e U6 ⟨rfl, rfl⟩
        clear hw4
        go_wp2
        go_ret
        exact ⟨rfl, HE.out⟩
    | succ g =>
      have hk1 : k < n := by omega
      have hk2 : k < 60 := by omega
      have hkl : k < l1.length := by rw [HNL.out]; exact hk1
      obtain ⟨C, off, rfl, hC, hcell, hz⟩ := HOV.out k hkl
      obtain ⟨z, hzz⟩ : ∃ z, l1[k]'hkl = z := ⟨_, rfl⟩
      rw [hzz] at hcell hz
      have hcell2 := (HR.out.bel.cell (p := ⟨C, off + k, none⟩) (by rw [← HVN.out]; exact hC)).trans hcell
      have hC2 : C < wr.heap.size := Nat.lt_of_lt_of_le hC HR.out.bel.size
      have hcv := Tq.letter_back z hz wr wr.heap.size rfl
      have hR2 := HR.out.below (wy := wr.alloc (.cells #[.int .u8 (z : Int)] 5)) ((Below.refl _ _).alloc (Nat.le_refl _) _) HVN.out.symm
      have had := hR2.admit HVN.out.symm HTB.out (Tq.nmC z) ⟨#[109]⟩ (by rw [Tq.nmC_size]; decide) (by decide) false true
      clear hcell hC hkl hzz hR2 hz
      go_wp2_with fail
      refine had.mono ?_
      rintro e Wa ⟨rfl, v', hr⟩
      have HR' := Lib.hid hr
      clear had hr hcv hcell2 hC2
      go_wp2
      go_roundg g
      case measure => omega
      case rel => exact ⟨k + 1, _, v', by omega, by go_num, HR'⟩
theorem QuotaRolls_walk (x : Po.WishV) (p1 : Option Addr) (l1 : List Nat) (c1 : Nat) (h1 : l1.length ≤ c1) (hm : c1 ≤ maxLen) (y : Int) (hy : (Go.Lit.int .u8 y).wf = true) (w : World) (hT : Hl.Tab w) (hx : x.fits w) (hO : Tq.Octs p1 l1 w) :
    Calls Tryz.prog 6 #[.agg x.vals, .slice p1 l1.length c1, .int .u8 y] w fun e w' => e = .returned (.bool true) ∧ Below w.heap.size w w' := by
  have gy : 0 ≤ y ∧ y ≤ 255 := by simpa [Go.Lit.wf, IntKind.min, IntKind.max, IntKind.signed, IntKind.bits] using hy
  obtain ⟨z, rfl⟩ : ∃ z : Nat, y = z := ⟨y.toNat, by omega⟩
  have hlen : l1.length ≤ 9223372036854775807 := by unfold maxLen at hm; omega
  obtain ⟨nx, q0, t0, d0, ow, p, hs, c⟩ := x
  obtain ⟨a0, a1, a2, a3, a4, a5, a6, a7, a8, a9, rfl⟩ := Po.ten_of hx.len
  obtain ⟨x0, x1, x2, x5, x6, x7, x8, x9, r, b, l, t, hlit⟩ := lit_of hs
  by_cases h0 : z % 4 = 0
  · exact rolls_next a0 a1 a2 a3 a4 a5 a6 a7 a8 a9 q0 t0.length d0 ow p hs c hx.hl x0 x1 x2 x5 x6 x7 x8 x9 r b l t hlit p1 l1 c1 hlen z (by omega) (by omega) w hT hx.nums hO
  · exact rolls_later a0 a1 a2 a3 a4 a5 a6 a7 a8 a9 q0 t0.length d0 ow p hs c hx.hl x0 x1 x2 x5 x6 x7 x8 x9 r b l t hlit p1 l1 c1 hlen z (by omega) (z % 4) (by omega) (by omega) (by omega) w hT hx.nums hO
end Go.Proofs.YtcgkgdhbipbnfaaGreatDoor.Qu

