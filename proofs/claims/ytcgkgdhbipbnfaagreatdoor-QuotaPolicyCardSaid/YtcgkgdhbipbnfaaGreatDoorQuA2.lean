/- QuotaPolicy walked. -/
import Derived.Test.YtcgkgdhbipbnfaaGreatDoorQuL
namespace Go.Proofs.YtcgkgdhbipbnfaaGreatDoor.Qu
open Go Go.RowKit

theorem bad_right (y1 y2 : Int) (r2 b2 : Nat) (y5 y6 y7 y8 y9 : Int) (t : List Int) : Po.rightZ [0, y1, y2, (r2 : Int), (b2 : Int), y5, y6, y7, y8, y9] t = false := by
  simp [Po.rightZ, Po.boundZ, Po.inZ]
set_option maxRecDepth 100000 in
set_option maxHeartbeats 16000000 in
theorem policy_same (a0 a1 a2 a3 a4 a5 a6 a7 a8 a9 : Int) (q0 : Option Addr) (l0 d0 : Nat) (ow : Bool) (p : Option Addr) (hs : List Nat) (c : Nat) (hl : hs.length ≤ 9223372036854775807) (a02 a12 a22 a32 a42 a52 a62 a72 a82 a92 : Int) (q02 : Option Addr) (l02 d02 : Nat) (ow2 : Bool) (p2 : Option Addr) (hs2 : List Nat) (c2 : Nat) (hl2 : hs2.length ≤ 9223372036854775807) (x0 x1 x2 x5 x6 x7 x8 x9 : Int) (r b l : Nat) (t : List Int) (hlit : Lit hs x0 x1 x2 x5 x6 x7 x8 x9 r b l t) (y0 y1 y2 y5 y6 y7 y8 y9 : Int) (r2 b2 ly : Nat) (t2 : List Int) (hlit2 : Lit hs2 y0 y1 y2 y5 y6 y7 y8 y9 r2 b2 ly t2) (hbb : b = b2) (p1 : Option Addr) (l1 : List Nat) (c1 : Nat) (hl1 : l1.length ≤ 9223372036854775807) (w : World) (hT : Hl.Tab w) (hS : Po.Shorts p hs w) (hS2 : Po.Shorts p2 hs2 w) (hO : Tq.Octs p1 l1 w) :
    Calls Tryz.prog 8 #[.agg #[.int .i64 a0, .int .i64 a1, .int .i64 a2, .int .i64 a3, .int .i64 a4, .int .i64 a5, .int .i64 a6, .int .i64 a7, .int .i64 a8, .int .i64 a9, .slice q0 l0 d0, .bool ow, .slice p hs.length c], .agg #[.int .i64 a02, .int .i64 a12, .int .i64 a22, .int .i64 a32, .int .i64 a42, .int .i64 a52, .int .i64 a62, .int .i64 a72, .int .i64 a82, .int .i64 a92, .slice q02 l02 d02, .bool ow2, .slice p2 hs2.length c2], .slice p1 l1.length c1] w fun e w' => e = .returned (.bool true) ∧ Below w.heap.size w w' := by
  obtain ⟨n, hn⟩ : ∃ n, l1.length = n := ⟨_, rfl⟩
  have HNL := Lib.hid hn
  rw [hn] at hl1 ⊢
  clear hn
  obtain ⟨N, hN⟩ : ∃ N, w.heap.size = N := ⟨_, rfl⟩
  have HC0 : Hid (CellsAt N #[.int .i64 a0, .int .i64 a1, .int .i64 a2, .int .i64 a3, .int .i64 a4, .int .i64 a5, .int .i64 a6, .int .i64 a7, .int .i64 a8, .int .i64 a9, .slice q0 l0 d0, .bool ow, .slice p hs.length c] ((w.alloc (.cells #[.int .i64 a0, .int .i64 a1, .int .i64 a2, .int .i64 a3, .int .i64 a4, .int .i64 a5, .int .i64 a6, .int .i64 a7, .int .i64 a8, .int .i64 a9, .slice q0 l0 d0, .bool ow, .slice p hs.length c] 27)).alloc (.cells #[.int .i64 a02, .int .i64 a12, .int .i64 a22, .int .i64 a32, .int .i64 a42, .int .i64 a52, .int .i64 a62, .int .i64 a72, .int .i64 a82, .int .i64 a92, .slice q02 l02 d02, .bool ow2, .slice p2 hs2.length c2] 27))) := Lib.hid ((CellsAt.newAt _ _ _ _ hN.symm).past _)
  have HD0 : Hid (CellsAt (N + 1) #[.int .i64 a02, .int .i64 a12, .int .i64 a22, .int .i64 a32, .int .i64 a42, .int .i64 a52, .int .i64 a62, .int .i64 a72, .int .i64 a82, .int .i64 a92, .slice q02 l02 d02, .bool ow2, .slice p2 hs2.length c2] ((w.alloc (.cells #[.int .i64 a0, .int .i64 a1, .int .i64 a2, .int .i64 a3, .int .i64 a4, .int .i64 a5, .int .i64 a6, .int .i64 a7, .int .i64 a8, .int .i64 a9, .slice q0 l0 d0, .bool ow, .slice p hs.length c] 27)).alloc (.cells #[.int .i64 a02, .int .i64 a12, .int .i64 a22, .int .i64 a32, .int .i64 a42, .int .i64 a52, .int .i64 a62, .int .i64 a72, .int .i64 a82, .int .i64 a92, .slice q02 l02 d02, .bool ow2, .slice p2 hs2.length c2] 27))) := Lib.hid (CellsAt.newAt _ _ _ _ (by simp [hN]))
  have HB : Hid (Below w.heap.size w ((w.alloc (.cells #[.int .i64 a0, .int .i64 a1, .int .i64 a2, .int .i64 a3, .int .i64 a4, .int .i64 a5, .int .i64 a6, .int .i64 a7, .int .i64 a8, .int .i64 a9, .slice q0 l0 d0, .bool ow, .slice p hs.length c] 27)).alloc (.cells #[.int .i64 a02, .int .i64 a12, .int .i64 a22, .int .i64 a32, .int .i64 a42, .int .i64 a52, .int .i64 a62, .int .i64 a72, .int .i64 a82, .int .i64 a92, .slice q02 l02 d02, .bool ow2, .slice p2 hs2.length c2] 27))) := Lib.hid (((Below.refl _ _).alloc (Nat.le_refl _) _).alloc (by simp) _)
  have HS := Lib.hid hS
  have HS2 := Lib.hid hS2
  have HO := Lib.hid hO
  have HT := Lib.hid hT
  have HLI := Lib.hid hlit
  have HL2 := Lib.hid hlit2
  have HHL := Lib.hid hl
  have HHL2 := Lib.hid hl2
  have HBB := Lib.hid hbb
  have hle : w.heap.size ≤ N := Nat.le_of_eq hN
  clear hS hS2 hO hT hlit hlit2 hl hl2 hbb
  go_enter Tryz.func8, Tryz.ntmps8
  go_wp2_with fail
  refine (examples_any _ (HT.out.below HB.out)).mono ?_
  rintro e w2 ⟨rfl, hBx⟩
  replace HC0 := Lib.hid (HC0.out.below hBx)
  replace HD0 := Lib.hid (HD0.out.below hBx)
  replace HB := Lib.hid (HB.out.trans (hBx.mono HB.out.size))
  clear hBx
  have k11 := HC0.out.cell 11 _ rfl
  have f11 := HC0.out.fro 11 _ rfl
  have lN := HC0.out.lt
  have m11 := HD0.out.cell 11 _ rfl
  have g11 := HD0.out.fro 11 _ rfl
  have mN := HD0.out.lt
  simp only [List.getElem_toArray, List.getElem_cons_zero, List.getElem_cons_succ] at k11 m11
  have hM : Tq.Mov (fun j => j = N ∨ j = N + 1) w2 ((w2.setCell ⟨N, 11, none⟩ (.bool true)).setCell ⟨N + 1, 11, none⟩ (.bool true)) := Tq.Mov.set (S := fun j => j = N ∨ j = N + 1) (Tq.Mov.set (S := fun j => j = N ∨ j = N + 1) (Tq.Mov.refl _ _) (.inl rfl) 11 _) (.inr rfl) 11 _
  have hm1 : Tq.Mov (fun j => j = N + 1) (w2.setCell ⟨N, 11, none⟩ (.bool true)) ((w2.setCell ⟨N, 11, none⟩ (.bool true)).setCell ⟨N + 1, 11, none⟩ (.bool true)) := Tq.Mov.set (S := fun j => j = N + 1) (Tq.Mov.refl _ _) rfl 11 _
  have hm0 : Tq.Mov (fun j => j = N) w2 (w2.setCell ⟨N, 11, none⟩ (.bool true)) := Tq.Mov.set (S := fun j => j = N) (Tq.Mov.refl _ _) rfl 11 _
  have HC1 : Hid (CellsAt N #[.int .i64 a0, .int .i64 a1, .int .i64 a2, .int .i64 a3, .int .i64 a4, .int .i64 a5, .int .i64 a6, .int .i64 a7, .int .i64 a8, .int .i64 a9, .slice q0 l0 d0, .bool true, .slice p hs.length c] ((w2.setCell ⟨N, 11, none⟩ (.bool true)).setCell ⟨N + 1, 11, none⟩ (.bool true))) := Lib.hid (cells_mov (HC0.out.set 11 (.bool true) (by simp)) hm1 (by omega))
  have HD1 : Hid (CellsAt (N + 1) #[.int .i64 a02, .int .i64 a12, .int .i64 a22, .int .i64 a32, .int .i64 a42, .int .i64 a52, .int .i64 a62, .int .i64 a72, .int .i64 a82, .int .i64 a92, .slice q02 l02 d02, .bool true, .slice p2 hs2.length c2] ((w2.setCell ⟨N, 11, none⟩ (.bool true)).setCell ⟨N + 1, 11, none⟩ (.bool true))) := Lib.hid ((cells_mov HD0.out hm0 (by omega)).set 11 (.bool true) (by simp))
  replace HB := Lib.hid (HB.out.trans (hM.below (N := w.heap.size) (fun j h => by omega) HB.out.size))
  clear hM hm0 hm1 HC0 HD0
  go_upto_region 6 with fail
  clear k11 f11 lN m11 g11 mN hN
  generalize (w2.setCell ⟨N, 11, none⟩ (.bool true)).setCell ⟨N + 1, 11, none⟩ (.bool true) = W3 at *
  have k0 := HC1.out.cell 0 _ rfl
  have k1 := HC1.out.cell 1 _ rfl
  have k2 := HC1.out.cell 2 _ rfl
  have k3 := HC1.out.cell 3 _ rfl
  have k4 := HC1.out.cell 4 _ rfl
  have k5 := HC1.out.cell 5 _ rfl
  have k6 := HC1.out.cell 6 _ rfl
  have k7 := HC1.out.cell 7 _ rfl
  have k8 := HC1.out.cell 8 _ rfl
  have k9 := HC1.out.cell 9 _ rfl
  have k10 := HC1.out.cell 10 _ rfl
  have k11 := HC1.out.cell 11 _ rfl
  have k12 := HC1.out.cell 12 _ rfl
  have kl := HC1.out.lt
  simp only [List.getElem_toArray, List.getElem_cons_zero, List.getElem_cons_succ] at k0 k1 k2 k3 k4 k5 k6 k7 k8 k9 k10 k11 k12
  have hwi := HLI.out.wish a0 a1 a2 a3 a4 a5 a6 a7 a8 a9 q0 l0 d0 p c W3 HHL.out (HS.out.below HB.out)
  go_wp2_with fail
  refine hwi.mono ?_
  rintro e w4 ⟨q, d, rfl, hTr, hB1⟩
  clear hwi
  clear k0 k1 k2 k3 k4 k5 k6 k7 k8 k9 k10 k11 k12 kl
  obtain ⟨P, hP⟩ : ∃ P, w4.heap.size = P := ⟨_, rfl⟩
  have hBx : Below w4.heap.size w4 (w4.alloc (.cells #[.int .i64 x0, .int .i64 x1, .int .i64 x2, .int .i64 (r : Int), .int .i64 (b : Int), .int .i64 x5, .int .i64 x6, .int .i64 x7, .int .i64 x8, .int .i64 x9, .slice q l d] 24)) := (Below.refl _ _).alloc (Nat.le_refl _) _
  have HP : Hid (CellsAt P #[.int .i64 x0, .int .i64 x1, .int .i64 x2, .int .i64 (r : Int), .int .i64 (b : Int), .int .i64 x5, .int .i64 x6, .int .i64 x7, .int .i64 x8, .int .i64 x9, .slice q l d] (w4.alloc (.cells #[.int .i64 x0, .int .i64 x1, .int .i64 x2, .int .i64 (r : Int), .int .i64 (b : Int), .int .i64 x5, .int .i64 x6, .int .i64 x7, .int .i64 x8, .int .i64 x9, .slice q l d] 24))) := Lib.hid (CellsAt.newAt _ _ _ _ hP.symm)
  have HTr := Lib.hid (hTr.below hBx)
  have hBq := hB1.trans (hBx.mono hB1.size)
  replace HD1 := Lib.hid (HD1.out.below hBq)
  replace HB := Lib.hid (HB.out.trans (hBq.mono HB.out.size))
  clear hB1 hBx hTr HC1 hBq
  go_upto_region 7 with fail
  generalize w4.alloc (.cells #[.int .i64 x0, .int .i64 x1, .int .i64 x2, .int .i64 (r : Int), .int .i64 (b : Int), .int .i64 x5, .int .i64 x6, .int .i64 x7, .int .i64 x8, .int .i64 x9, .slice q l d] 24) = V0 at *
  clear hP
  have k0 := HD1.out.cell 0 _ rfl
  have k1 := HD1.out.cell 1 _ rfl
  have k2 := HD1.out.cell 2 _ rfl
  have k3 := HD1.out.cell 3 _ rfl
  have k4 := HD1.out.cell 4 _ rfl
  have k5 := HD1.out.cell 5 _ rfl
  have k6 := HD1.out.cell 6 _ rfl
  have k7 := HD1.out.cell 7 _ rfl
  have k8 := HD1.out.cell 8 _ rfl
  have k9 := HD1.out.cell 9 _ rfl
  have k10 := HD1.out.cell 10 _ rfl
  have k11 := HD1.out.cell 11 _ rfl
  have k12 := HD1.out.cell 12 _ rfl
  have kl := HD1.out.lt
  simp only [List.getElem_toArray, List.getElem_cons_zero, List.getElem_cons_succ] at k0 k1 k2 k3 k4 k5 k6 k7 k8 k9 k10 k11 k12
  have hwi := HL2.out.wish a02 a12 a22 a32 a42 a52 a62 a72 a82 a92 q02 l02 d02 p2 c2 V0 HHL2.out (HS2.out.below HB.out)
  go_wp2_with fail
  refine hwi.mono ?_
  rintro e w5 ⟨qy, dy, rfl, hTr2, hB1⟩
  clear hwi
  clear k0 k1 k2 k3 k4 k5 k6 k7 k8 k9 k10 k11 k12 kl
  obtain ⟨P2, hP2⟩ : ∃ P, w5.heap.size = P := ⟨_, rfl⟩
  have hBx : Below w5.heap.size w5 (w5.alloc (.cells #[.int .i64 y0, .int .i64 y1, .int .i64 y2, .int .i64 (r2 : Int), .int .i64 (b2 : Int), .int .i64 y5, .int .i64 y6, .int .i64 y7, .int .i64 y8, .int .i64 y9, .slice qy ly dy] 24)) := (Below.refl _ _).alloc (Nat.le_refl _) _
  have HP2 : Hid (CellsAt P2 #[.int .i64 y0, .int .i64 y1, .int .i64 y2, .int .i64 (r2 : Int), .int .i64 (b2 : Int), .int .i64 y5, .int .i64 y6, .int .i64 y7, .int .i64 y8, .int .i64 y9, .slice qy ly dy] (w5.alloc (.cells #[.int .i64 y0, .int .i64 y1, .int .i64 y2, .int .i64 (r2 : Int), .int .i64 (b2 : Int), .int .i64 y5, .int .i64 y6, .int .i64 y7, .int .i64 y8, .int .i64 y9, .slice qy ly dy] 24))) := Lib.hid (CellsAt.newAt _ _ _ _ hP2.symm)
  have HTr2 := Lib.hid (hTr2.below hBx)
  have hBq := hB1.trans (hBx.mono hB1.size)
  replace HTr := Lib.hid (HTr.out.below hBq)
  replace HP := Lib.hid (HP.out.below hBq)
  replace HB := Lib.hid (HB.out.trans (hBq.mono HB.out.size))
  clear hB1 hBx hTr2 HD1 hBq
  go_upto_region 8 with fail
  generalize w5.alloc (.cells #[.int .i64 y0, .int .i64 y1, .int .i64 y2, .int .i64 (r2 : Int), .int .i64 (b2 : Int), .int .i64 y5, .int .i64 y6, .int .i64 y7, .int .i64 y8, .int .i64 y9, .slice qy ly dy] 24) = V at *
  clear hP2
  have HTB : Hid (Hl.Tab V) := Lib.hid (HT.out.below HB.out)
  have HOV := Lib.hid (HO.out.below HB.out)
  clear HO HT HS HS2
  have k0 := HP.out.cell 0 _ rfl
  have k1 := HP.out.cell 1 _ rfl
  have k2 := HP.out.cell 2 _ rfl
  have k3 := HP.out.cell 3 _ rfl
  have k4 := HP.out.cell 4 _ rfl
  have k5 := HP.out.cell 5 _ rfl
  have k6 := HP.out.cell 6 _ rfl
  have k7 := HP.out.cell 7 _ rfl
  have k8 := HP.out.cell 8 _ rfl
  have k9 := HP.out.cell 9 _ rfl
  have k10 := HP.out.cell 10 _ rfl
  have kl := HP.out.lt
  simp only [List.getElem_toArray, List.getElem_cons_zero, List.getElem_cons_succ] at k0 k1 k2 k3 k4 k5 k6 k7 k8 k9 k10
  have hnw := new_in x0 x1 x2 x5 x6 x7 x8 x9 0 r b q l d t HLI.out.right (by decide) (by decide) V HTr.out
  go_wp2_with fail
  refine hnw.mono ?_
  rintro e W5 ⟨a, rfl, hQ, hB5⟩
  clear hnw
  clear k0 k1 k2 k3 k4 k5 k6 k7 k8 k9 k10 kl
  obtain ⟨VN, hVN⟩ : ∃ n, V.heap.size = n := ⟨_, rfl⟩
  rw [hVN] at hQ hB5
  have HVN := Lib.hid hVN
  have HPV : Hid (P < VN) := Lib.hid (by rw [← hVN]; exact HP.out.lt)
  have HPV2 : Hid (P2 < VN) := Lib.hid (by rw [← hVN]; exact HP2.out.lt)
  have HR0 : Hid (Run VN a ⟨0, false, min x1 x2, x2, b, zl b, zl b, r, []⟩ 0 b r (min x1 x2) x2 V W5) := Lib.hid ⟨hQ, hB5, rfl, rfl, rfl, rfl, rfl, rfl⟩
  clear hQ hB5 hVN hle
  go_wp2_with fail
  go_loopg [12] (min n 40) (fun g i wx => ∃ (k : Nat) (s : St) (v : Value), k + g = min n 40 ∧ i = .int .i64 (k : Int) ∧ Hid (Run VN ⟨a.B, a.N, a.P, a.T, v⟩ s 0 b r (min x1 x2) x2 V wx))
  case atStart => exact ⟨0, _, a.v, by omega, rfl, HR0⟩
  case round =>
    clear HR0
    obtain ⟨k, s, v, hkg, rfl, HR⟩ := hrel
    cases gk with
    | zero =>
      have hend : ¬ (k < n) ∨ (k < n ∧ ¬ (k < 40)) := by omega
      clear hkg
      have hlb := HLI.out.bounds
      have hlb2 := HL2.out.bounds
      obtain ⟨M, hM⟩ : ∃ c, many s = c := ⟨_, rfl⟩
      have HQ : Hid (Qo VN ⟨a.B, a.N, a.P, a.T, v⟩ s wr) := Lib.hid HR.out.q
      have HBW := Lib.hid HR.out.bel
      have HMM := Lib.hid hM
      have h2 : Calls Tryz.prog 24 #[.pointer (some ⟨a.B, 0, none⟩)] wr fun e w' => e = .returned (.int .u64 (M : Int)) ∧ Below wr.heap.size wr w' := by rw [← hM]; exact many_any (a := ⟨a.B, a.N, a.P, a.T, v⟩) HQ.out
      have hest : Hl.estOf s.b s.now = M := by
        rw [← hM]
        unfold many
        rw [HR.out.old, ← HR.out.bits, merge_lz HQ.out.now.len]
      have HEST := Lib.hid hest
      have HLB := Lib.hid hlb
      have HLB2 := Lib.hid hlb2
      have HWN : Hid (s.win = 0) := Lib.hid HR.out.eWin
      have HSB : Hid (s.b = b) := Lib.hid HR.out.bits
      clear hest hM hlb hlb2 HR
      rcases hend with hend | ⟨hend1, hend⟩
      all_goals
        go_wp2_with fail
        refine h2.mono ?_
        rintro e W7 ⟨rfl, hb⟩
        clear h2 hend
        have HQ7 := Lib.hid (HQ.out.below hb)
        have HB7 := Lib.hid (HBW.out.trans (hb.mono (by rw [← HVN.out]; exact HBW.out.size)))
        clear hb
        have HP7 : Hid (CellsAt P2 #[.int .i64 y0, .int .i64 y1, .int .i64 y2, .int .i64 (r2 : Int), .int .i64 (b2 : Int), .int .i64 y5, .int .i64 y6, .int .i64 y7, .int .i64 y8, .int .i64 y9, .slice qy ly dy] W7) := Lib.hid (CellsAt.belowAt HP2.out HB7.out HPV2.out)
        have k0 := HP7.out.cell 0 _ rfl
        have k1 := HP7.out.cell 1 _ rfl
        have k2 := HP7.out.cell 2 _ rfl
        have k3 := HP7.out.cell 3 _ rfl
        have k4 := HP7.out.cell 4 _ rfl
        have k5 := HP7.out.cell 5 _ rfl
        have k6 := HP7.out.cell 6 _ rfl
        have k7 := HP7.out.cell 7 _ rfl
        have k8 := HP7.out.cell 8 _ rfl
        have k9 := HP7.out.cell 9 _ rfl
        have k10 := HP7.out.cell 10 _ rfl
        have kl := HP7.out.lt
        simp only [List.getElem_toArray, List.getElem_cons_zero, List.getElem_cons_succ] at k0 k1 k2 k3 k4 k5 k6 k7 k8 k9 k10
        have hDx : Below W7.heap.size W7 (W7.alloc (.cells #[.int .i64 0, .int .i64 y1, .int .i64 y2, .int .i64 (r2 : Int), .int .i64 (b2 : Int), .int .i64 y5, .int .i64 y6, .int .i64 y7, .int .i64 y8, .int .i64 y9, .slice qy ly dy] 24)) := (Below.refl _ _).alloc (Nat.le_refl _) _
        have HDD := Lib.hid (CellsAt.new #[.int .i64 0, .int .i64 y1, .int .i64 y2, .int .i64 (r2 : Int), .int .i64 (b2 : Int), .int .i64 y5, .int .i64 y6, .int .i64 y7, .int .i64 y8, .int .i64 y9, .slice qy ly dy] 24 W7)
        replace HQ7 := Lib.hid (HQ7.out.below hDx)
        replace HP7 := Lib.hid (HP7.out.below hDx)
        replace HB7 := Lib.hid (HB7.out.trans (hDx.mono (by rw [← HVN.out]; exact HB7.out.size)))
        obtain ⟨D, hD⟩ : ∃ D, W7.heap.size = D := ⟨_, rfl⟩
        rw [hD] at HDD
        clear hDx
        go_upto_region 18 with fail
        clear k0 k1 k2 k3 k4 k5 k6 k7 k8 k9 k10 kl
        generalize W7.alloc (.cells #[.int .i64 0, .int .i64 y1, .int .i64 y2, .int .i64 (r2 : Int), .int .i64 (b2 : Int), .int .i64 y5, .int .i64 y6, .int .i64 y7, .int .i64 y8, .int .i64 y9, .slice qy ly dy] 24) = U at *
        clear hD
        have k0 := HDD.out.cell 0 _ rfl
        have k1 := HDD.out.cell 1 _ rfl
        have k2 := HDD.out.cell 2 _ rfl
        have k3 := HDD.out.cell 3 _ rfl
        have k4 := HDD.out.cell 4 _ rfl
        have k5 := HDD.out.cell 5 _ rfl
        have k6 := HDD.out.cell 6 _ rfl
        have k7 := HDD.out.cell 7 _ rfl
        have k8 := HDD.out.cell 8 _ rfl
        have k9 := HDD.out.cell 9 _ rfl
        have k10 := HDD.out.cell 10 _ rfl
        have kl := HDD.out.lt
        simp only [List.getElem_toArray, List.getElem_cons_zero, List.getElem_cons_succ] at k0 k1 k2 k3 k4 k5 k6 k7 k8 k9 k10
        have hro : Calls Tryz.prog 15 #[.pointer (some ⟨a.B, 0, none⟩), .int .i64 1, .agg #[.int .i64 0, .int .i64 y1, .int .i64 y2, .int .i64 (r2 : Int), .int .i64 (b2 : Int), .int .i64 y5, .int .i64 y6, .int .i64 y7, .int .i64 y8, .int .i64 y9, .slice qy ly dy]] U fun e w' => e = .returned (.int .i64 0) ∧ Below U.heap.size U w' := by
          have htr := HTr2.out.mov (M := fun k => VN ≤ k) ⟨HB7.out.os, HB7.out.tape, HB7.out.output, HB7.out.size, fun k hk hn => HB7.out.block k (by omega)⟩ (fun j h1 h2 => by rw [HVN.out] at h2; omega)
          exact roll_bad (a := ⟨a.B, a.N, a.P, a.T, v⟩) HQ7.out 0 y1 y2 (r2 : Int) (b2 : Int) y5 y6 y7 y8 y9 1 qy ly dy t2 (bad_right y1 y2 r2 b2 y5 y6 y7 y8 y9 t2) (fun x hx => by
            rcases List.mem_cons.1 hx with e | e
            · rw [e]; unfold In64; decide
            · exact Po.in64_of ((Po.right_in HL2.out.right).1 x (List.mem_cons_of_mem _ e))) (by rw [HWN.out]; decide) htr
        go_wp2_with fail
        refine hro.mono ?_
        rintro e U2 ⟨rfl, hb⟩
        clear hro
        clear k0 k1 k2 k3 k4 k5 k6 k7 k8 k9 k10 kl
        replace HQ7 := Lib.hid (HQ7.out.below hb)
        replace HB7 := Lib.hid (HB7.out.trans (hb.mono (by rw [← HVN.out]; exact HB7.out.size)))
        replace HP7 := Lib.hid (HP7.out.below hb)
        clear hb HDD
        have k0 := HP7.out.cell 0 _ rfl
        have k1 := HP7.out.cell 1 _ rfl
        have k2 := HP7.out.cell 2 _ rfl
        have k3 := HP7.out.cell 3 _ rfl
        have k4 := HP7.out.cell 4 _ rfl
        have k5 := HP7.out.cell 5 _ rfl
        have k6 := HP7.out.cell 6 _ rfl
        have k7 := HP7.out.cell 7 _ rfl
        have k8 := HP7.out.cell 8 _ rfl
        have k9 := HP7.out.cell 9 _ rfl
        have k10 := HP7.out.cell 10 _ rfl
        have kl := HP7.out.lt
        simp only [List.getElem_toArray, List.getElem_cons_zero, List.getElem_cons_succ] at k0 k1 k2 k3 k4 k5 k6 k7 k8 k9 k10
        have hro : Calls Tryz.prog 15 #[.pointer (some ⟨a.B, 0, none⟩), .int .i64 0, .agg #[.int .i64 y0, .int .i64 y1, .int .i64 y2, .int .i64 (r2 : Int), .int .i64 (b2 : Int), .int .i64 y5, .int .i64 y6, .int .i64 y7, .int .i64 y8, .int .i64 y9, .slice qy ly dy]] U2 fun e w' => e = .returned (.int .i64 0) ∧ Below U2.heap.size U2 w' := roll_old (a := ⟨a.B, a.N, a.P, a.T, v⟩) HQ7.out y0 y1 y2 (r2 : Int) (b2 : Int) y5 y6 y7 y8 y9 0 qy ly dy (by rw [HWN.out]; decide)
        go_wp2_with fail
        refine hro.mono ?_
        rintro e U3 ⟨rfl, hb⟩
        clear hro
        clear k0 k1 k2 k3 k4 k5 k6 k7 k8 k9 k10 kl
        replace HQ7 := Lib.hid (HQ7.out.below hb)
        replace HB7 := Lib.hid (HB7.out.trans (hb.mono (by rw [← HVN.out]; exact HB7.out.size)))
        replace HP7 := Lib.hid (HP7.out.below hb)
        clear hb
        have hmn : Calls Tryz.prog 24 #[.pointer (some ⟨a.B, 0, none⟩)] U3 fun e w' => e = .returned (.int .u64 (M : Int)) ∧ Below U3.heap.size U3 w' := by
          have h9 := many_any (a := ⟨a.B, a.N, a.P, a.T, v⟩) HQ7.out
          rwa [HMM.out] at h9
        go_wp2_with fail
        refine hmn.mono ?_
        rintro e U4 ⟨rfl, hb⟩
        clear hmn
        replace HQ7 := Lib.hid (HQ7.out.below hb)
        replace HB7 := Lib.hid (HB7.out.trans (hb.mono (by rw [← HVN.out]; exact HB7.out.size)))
        replace HP7 := Lib.hid (HP7.out.below hb)
        clear hb
        have k0 := HP7.out.cell 0 _ rfl
        have k1 := HP7.out.cell 1 _ rfl
        have k2 := HP7.out.cell 2 _ rfl
        have k3 := HP7.out.cell 3 _ rfl
        have k4 := HP7.out.cell 4 _ rfl
        have k5 := HP7.out.cell 5 _ rfl
        have k6 := HP7.out.cell 6 _ rfl
        have k7 := HP7.out.cell 7 _ rfl
        have k8 := HP7.out.cell 8 _ rfl
        have k9 := HP7.out.cell 9 _ rfl
        have k10 := HP7.out.cell 10 _ rfl
        have kl := HP7.out.lt
        simp only [List.getElem_toArray, List.getElem_cons_zero, List.getElem_cons_succ] at k0 k1 k2 k3 k4 k5 k6 k7 k8 k9 k10
        have hro : Calls Tryz.prog 15 #[.pointer (some ⟨a.B, 0, none⟩), .int .i64 1, .agg #[.int .i64 y0, .int .i64 y1, .int .i64 y2, .int .i64 (r2 : Int), .int .i64 (b2 : Int), .int .i64 y5, .int .i64 y6, .int .i64 y7, .int .i64 y8, .int .i64 y9, .slice qy ly dy]] U4 fun e w' => e = .returned (.int .i64 1) ∧ ∃ a' : Ad, a'.B = a.B ∧ Qo VN a' ⟨1, s.cl && decide (s.lo < ((Hl.estOf s.b s.now : Nat) : Int)), min y1 y2, y2, b2, zl b2, s.now, r2, []⟩ w' ∧ Below VN V w' := by
          have htr := HTr2.out.mov (M := fun k => VN ≤ k) ⟨HB7.out.os, HB7.out.tape, HB7.out.output, HB7.out.size, fun k hk hn => HB7.out.block k (by omega)⟩ (fun j h1 h2 => by rw [HVN.out] at h2; omega)
          refine (roll_nexta (a := ⟨a.B, a.N, a.P, a.T, v⟩) HQ7.out y0 y1 y2 y5 y6 y7 y8 y9 1 r2 b2 qy ly dy t2 HL2.out.right (by decide) (by decide) (by rw [HWN.out]; decide) (by rw [HWN.out]; rfl) htr (HSB.out.trans HBB.out)).mono ?_
          rintro e w' ⟨he, a', h1, h2, h3, -⟩
          exact ⟨he, a', h1, h2, HB7.out.trans (HQ7.out.out h3)⟩
        go_wp2_with fail
        refine hro.mono ?_
        rintro e W8 ⟨rfl, a2, hab, hq, hb⟩
        clear hro
        clear k0 k1 k2 k3 k4 k5 k6 k7 k8 k9 k10 kl
        have HQ8 := Lib.hid hq
        have HB8 := Lib.hid hb
        have HAB := Lib.hid hab
        clear hq hb hab HP7 HQ7 HB7
        obtain ⟨ST, hST⟩ : ∃ s' : St, ⟨1, s.cl && decide (s.lo < ((Hl.estOf s.b s.now : Nat) : Int)), min y1 y2, y2, b2, zl b2, s.now, r2, []⟩ = s' := ⟨⟨1, s.cl && decide (s.lo < ((Hl.estOf s.b s.now : Nat) : Int)), min y1 y2, y2, b2, zl b2, s.now, r2, []⟩, rfl⟩
        have HST := Lib.hid hST
        rw [hST] at HQ8
        clear hST
        obtain ⟨sn, hsn⟩ : ∃ v, Hl.tx ST.now = v := ⟨_, rfl⟩
        obtain ⟨so, hso⟩ : ∃ v, Hl.tx ST.old = v := ⟨_, rfl⟩
        have hz1 : (sn.size : Int) = (2 : Int) ^ b2 := by
          rw [← hsn, Hl.tx_size, HQ8.out.now.len, ← HST.out]
          simp
        have hz2 : (so.size : Int) = (2 : Int) ^ b2 := by
          rw [← hso, Hl.tx_size, HQ8.out.old.len, ← HST.out]
          simp
        have HZ := Lib.hid (And.intro hz1 hz2)
        clear hz1 hz2
        have hst : Calls Tryz.prog 20 #[.pointer (some ⟨a.B, 0, none⟩)] W8 fun e w' => ∃ v, e = .returned (.agg #[.int .i64 ST.win, .bool ST.cl, .string (Hl.tx ST.now), .string (Hl.tx ST.old), .int .u64 0, v]) ∧ (∃ p l c, v = .slice p l c) ∧ Below W8.heap.size W8 w' := by
          have h9 := state_any HQ8.out
          rw [HAB.out] at h9
          refine h9.mono ?_
          rintro e w' ⟨v, he, ⟨its, hI, hp, -⟩, hB⟩
          have e1 : ST.l = [] := by rw [← HST.out]
          rw [e1] at he
          obtain ⟨p9, c9, rfl, _, _⟩ := hI.cap
          exact ⟨_, he, ⟨_, _, _, rfl⟩, hB⟩
        obtain ⟨sw, hsw⟩ : ∃ v, ST.win = v := ⟨_, rfl⟩
        obtain ⟨sc, hsc⟩ : ∃ v, ST.cl = v := ⟨_, rfl⟩
        rw [hsw, hsc, hsn, hso] at hst
        clear hsw hsc hsn hso
        go_wp2_with fail
        refine hst.mono ?_
        rintro e W9 ⟨_, rfl, ⟨vi, li, ci, rfl⟩, hb⟩
        clear hst
        have hS : CellsAt W9.heap.size #[.int .i64 sw, .bool sc, .string sn, .string so, .int .u64 0, .slice vi li ci] (W9.alloc (.cells #[.int .i64 sw, .bool sc, .string sn, .string so, .int .u64 0, .slice vi li ci] 59)) := CellsAt.new _ _ _
        have hbx : Below W9.heap.size W9 (W9.alloc (.cells #[.int .i64 sw, .bool sc, .string sn, .string so, .int .u64 0, .slice vi li ci] 59)) := (Below.refl _ _).alloc (Nat.le_refl _) _
        have hbz := hb.trans (hbx.mono hb.size)
        replace HQ8 := Lib.hid (HQ8.out.below hbz)
        replace HB8 := Lib.hid (HB8.out.trans (hbz.mono (by rw [← HVN.out]; exact HB8.out.size)))
        have HSS := Lib.hid hS
        obtain ⟨S, hSe⟩ : ∃ S, W9.heap.size = S := ⟨_, rfl⟩
        rw [hSe] at HSS
        clear hb hS hbx hbz
        go_upto_region 23 with fail
        generalize W9.alloc (.cells #[.int .i64 sw, .bool sc, .string sn, .string so, .int .u64 0, .slice vi li ci] 59) = U9 at *
        clear hSe
        have hmz : many ST = M := by
          rw [← HST.out]
          unfold many
          rw [merge_zl (by have := HQ.out.now.len; rw [HSB.out, HBB.out] at this; exact this), ← HBB.out, ← HSB.out]
          exact HEST.out
        have HMZ := Lib.hid hmz
        clear hmz
        have hmn : Calls Tryz.prog 24 #[.pointer (some ⟨a.B, 0, none⟩)] U9 fun e w' => e = .returned (.int .u64 (M : Int)) ∧ Below U9.heap.size U9 w' := by
          have h9 := many_any HQ8.out
          rw [HAB.out, HMZ.out] at h9
          exact h9
        go_wp2_with fail
        refine hmn.mono ?_
        rintro e UA ⟨rfl, hb⟩
        clear hmn
        replace HQ8 := Lib.hid (HQ8.out.below hb)
        replace HB8 := Lib.hid (HB8.out.trans (hb.mono (by rw [← HVN.out]; exact HB8.out.size)))
        replace HSS := Lib.hid (HSS.out.below hb)
        clear hb
        have HPA : Hid (CellsAt P #[.int .i64 x0, .int .i64 x1, .int .i64 x2, .int .i64 (r : Int), .int .i64 (b : Int), .int .i64 x5, .int .i64 x6, .int .i64 x7, .int .i64 x8, .int .i64 x9, .slice q l d] UA) := Lib.hid (CellsAt.belowAt HP.out HB8.out HPV.out)
        have HPB : Hid (CellsAt P2 #[.int .i64 y0, .int .i64 y1, .int .i64 y2, .int .i64 (r2 : Int), .int .i64 (b2 : Int), .int .i64 y5, .int .i64 y6, .int .i64 y7, .int .i64 y8, .int .i64 y9, .slice qy ly dy] UA) := Lib.hid (CellsAt.belowAt HP2.out HB8.out HPV2.out)
        have i4 : UA.cell? ⟨P, 4, none⟩ = some (.int .i64 (b : Int)) := HPA.out.cell 4 _ rfl
        have j4 : UA.cell? ⟨P2, 4, none⟩ = some (.int .i64 (b2 : Int)) := HPB.out.cell 4 _ rfl
        have il := HPA.out.lt
        have jl := HPB.out.lt
        have hbe : (b2 : Int) = (b : Int) := by rw [HBB.out]
        rw [← hbe] at i4
        clear hbe
        have q2 := HSS.out.cell 2 _ rfl
        have q3 := HSS.out.cell 3 _ rfl
        have q4 := HSS.out.cell 4 _ rfl
        have ql := HSS.out.lt
        simp only [List.getElem_toArray, List.getElem_cons_zero, List.getElem_cons_succ] at q2 q3 q4
        have hb10 := HLB2.out.2.2.2.2.1
        obtain ⟨K, hK⟩ : ∃ K : Nat, 2 ^ b2 = K := ⟨_, rfl⟩
        have hK2 : (2 : Int) ^ b2 = (K : Int) := by rw [← hK]; simp
        have hK3 : K ≤ 1024 := by rw [← hK]; exact Nat.pow_le_pow_right (by decide) hb10
        have hsh : IntKind.i64.wrap ((2 : Int) ^ b2) = (K : Int) := by rw [hK2]; exact IntWalk.i64_in _ (by omega)
        have hz1 : (sn.size : Int) = (K : Int) := by rw [← hK2]; exact HZ.out.1
        have hz2 : (so.size : Int) = (K : Int) := by rw [← hK2]; exact HZ.out.2
        have hE := HB.out.trans (HB8.out.mono (by rw [← HVN.out]; exact HB.out.size))
        have HE := Lib.hid hE
        clear hE hK hK2
        go_upto_region 26 with fail
        go_quiet (fail)
        go_wp2
        go_ret
        exact ⟨rfl, HE.out.trans ⟨rfl, rfl, rfl, Nat.le_refl _, fun _ _ => rfl⟩⟩
    | succ g =>
      have hk1 : k < n := by omega
      have hk2 : k < 40 := by omega
      have hkl : k < l1.length := by rw [HNL.out]; exact hk1
      obtain ⟨C, off, rfl, hC, hcell, hz⟩ := HOV.out k hkl
      obtain ⟨z, hzz⟩ : ∃ z, l1[k]'hkl = z := ⟨_, rfl⟩
      rw [hzz] at hcell hz
      have hcell2 := (HR.out.bel.cell (p := ⟨C, off + k, none⟩) (by rw [← HVN.out]; exact hC)).trans hcell
      have hC2 : C < wr.heap.size := Nat.lt_of_lt_of_le hC HR.out.bel.size
      have hcv := Tq.letter_back z hz wr wr.heap.size rfl
      have hR2 := HR.out.below (wy := wr.alloc (.cells #[.int .u8 (z : Int)] 5)) ((Below.refl _ _).alloc (Nat.le_refl _) _) HVN.out.symm
      have had := hR2.admit HVN.out.symm HTB.out (Tq.nmC z) ⟨#[109]⟩ (by rw [Tq.nmC_size]; decide) (by decide) false true
      clear hcell hC hkl hzz hR2 hz
      go_wp2_with fail
      refine had.mono ?_
      rintro e Wa ⟨rfl, v', hr⟩
      have HR' := Lib.hid hr
      clear had hr hcv hcell2 hC2
      go_wp2
      go_roundg g
      case measure => omega
      case rel => exact ⟨k + 1, _, v', by omega, by go_num, HR'⟩
set_option maxRecDepth 100000 in
set_option maxHeartbeats 16000000 in
theorem policy_other (a0 a1 a2 a3 a4 a5 a6 a7 a8 a9 : Int) (q0 : Option Addr) (l0 d0 : Nat) (ow : Bool) (p : Option Addr) (hs : List Nat) (c : Nat) (hl : hs.length ≤ 9223372036854775807) (a02 a12 a22 a32 a42 a52 a62 a72 a82 a92 : Int) (q02 : Option Addr) (l02 d02 : Nat) (ow2 : Bool) (p2 : Option Addr) (hs2 : List Nat) (c2 : Nat) (hl2 : hs2.length ≤ 9223372036854775807) (x0 x1 x2 x5 x6 x7 x8 x9 : Int) (r b l : Nat) (t : List Int) (hlit : Lit hs x0 x1 x2 x5 x6 x7 x8 x9 r b l t) (y0 y1 y2 y5 y6 y7 y8 y9 : Int) (r2 b2 ly : Nat) (t2 : List Int) (hlit2 : Lit hs2 y0 y1 y2 y5 y6 y7 y8 y9 r2 b2 ly t2) (hbb : b ≠ b2) (p1 : Option Addr) (l1 : List Nat) (c1 : Nat) (hl1 : l1.length ≤ 9223372036854775807) (w : World) (hT : Hl.Tab w) (hS : Po.Shorts p hs w) (hS2 : Po.Shorts p2 hs2 w) (hO : Tq.Octs p1 l1 w) :
    Calls Tryz.prog 8 #[.agg #[.int .i64 a0, .int .i64 a1, .int .i64 a2, .int .i64 a3, .int .i64 a4, .int .i64 a5, .int .i64 a6, .int .i64 a7, .int .i64 a8, .int .i64 a9, .slice q0 l0 d0, .bool ow, .slice p hs.length c], .agg #[.int .i64 a02, .int .i64 a12, .int .i64 a22, .int .i64 a32, .int .i64 a42, .int .i64 a52, .int .i64 a62, .int .i64 a72, .int .i64 a82, .int .i64 a92, .slice q02 l02 d02, .bool ow2, .slice p2 hs2.length c2], .slice p1 l1.length c1] w fun e w' => e = .returned (.bool true) ∧ Below w.heap.size w w' := by
  obtain ⟨n, hn⟩ : ∃ n, l1.length = n := ⟨_, rfl⟩
  have HNL := Lib.hid hn
  rw [hn] at hl1 ⊢
  clear hn
  obtain ⟨N, hN⟩ : ∃ N, w.heap.size = N := ⟨_, rfl⟩
  have HC0 : Hid (CellsAt N #[.int .i64 a0, .int .i64 a1, .int .i64 a2, .int .i64 a3, .int .i64 a4, .int .i64 a5, .int .i64 a6, .int .i64 a7, .int .i64 a8, .int .i64 a9, .slice q0 l0 d0, .bool ow, .slice p hs.length c] ((w.alloc (.cells #[.int .i64 a0, .int .i64 a1, .int .i64 a2, .int .i64 a3, .int .i64 a4, .int .i64 a5, .int .i64 a6, .int .i64 a7, .int .i64 a8, .int .i64 a9, .slice q0 l0 d0, .bool ow, .slice p hs.length c] 27)).alloc (.cells #[.int .i64 a02, .int .i64 a12, .int .i64 a22, .int .i64 a32, .int .i64 a42, .int .i64 a52, .int .i64 a62, .int .i64 a72, .int .i64 a82, .int .i64 a92, .slice q02 l02 d02, .bool ow2, .slice p2 hs2.length c2] 27))) := Lib.hid ((CellsAt.newAt _ _ _ _ hN.symm).past _)
  have HD0 : Hid (CellsAt (N + 1) #[.int .i64 a02, .int .i64 a12, .int .i64 a22, .int .i64 a32, .int .i64 a42, .int .i64 a52, .int .i64 a62, .int .i64 a72, .int .i64 a82, .int .i64 a92, .slice q02 l02 d02, .bool ow2, .slice p2 hs2.length c2] ((w.alloc (.cells #[.int .i64 a0, .int .i64 a1, .int .i64 a2, .int .i64 a3, .int .i64 a4, .int .i64 a5, .int .i64 a6, .int .i64 a7, .int .i64 a8, .int .i64 a9, .slice q0 l0 d0, .bool ow, .slice p hs.length c] 27)).alloc (.cells #[.int .i64 a02, .int .i64 a12, .int .i64 a22, .int .i64 a32, .int .i64 a42, .int .i64 a52, .int .i64 a62, .int .i64 a72, .int .i64 a82, .int .i64 a92, .slice q02 l02 d02, .bool ow2, .slice p2 hs2.length c2] 27))) := Lib.hid (CellsAt.newAt _ _ _ _ (by simp [hN]))
  have HB : Hid (Below w.heap.size w ((w.alloc (.cells #[.int .i64 a0, .int .i64 a1, .int .i64 a2, .int .i64 a3, .int .i64 a4, .int .i64 a5, .int .i64 a6, .int .i64 a7, .int .i64 a8, .int .i64 a9, .slice q0 l0 d0, .bool ow, .slice p hs.length c] 27)).alloc (.cells #[.int .i64 a02, .int .i64 a12, .int .i64 a22, .int .i64 a32, .int .i64 a42, .int .i64 a52, .int .i64 a62, .int .i64 a72, .int .i64 a82, .int .i64 a92, .slice q02 l02 d02, .bool ow2, .slice p2 hs2.length c2] 27))) := Lib.hid (((Below.refl _ _).alloc (Nat.le_refl _) _).alloc (by simp) _)
  have HS := Lib.hid hS
  have HS2 := Lib.hid hS2
  have HO := Lib.hid hO
  have HT := Lib.hid hT
  have HLI := Lib.hid hlit
  have HL2 := Lib.hid hlit2
  have HHL := Lib.hid hl
  have HHL2 := Lib.hid hl2
  have HBB := Lib.hid hbb
  have hle : w.heap.size ≤ N := Nat.le_of_eq hN
  clear hS hS2 hO hT hlit hlit2 hl hl2 hbb
  go_enter Tryz.func8, Tryz.ntmps8
  go_wp2_with fail
  refine (examples_any _ (HT.out.below HB.out)).mono ?_
  rintro e w2 ⟨rfl, hBx⟩
  replace HC0 := Lib.hid (HC0.out.below hBx)
  replace HD0 := Lib.hid (HD0.out.below hBx)
  replace HB := Lib.hid (HB.out.trans (hBx.mono HB.out.size))
  clear hBx
  have k11 := HC0.out.cell 11 _ rfl
  have f11 := HC0.out.fro 11 _ rfl
  have lN := HC0.out.lt
  have m11 := HD0.out.cell 11 _ rfl
  have g11 := HD0.out.fro 11 _ rfl
  have mN := HD0.out.lt
  simp only [List.getElem_toArray, List.getElem_cons_zero, List.getElem_cons_succ] at k11 m11
  have hM : Tq.Mov (fun j => j = N ∨ j = N + 1) w2 ((w2.setCell ⟨N, 11, none⟩ (.bool true)).setCell ⟨N + 1, 11, none⟩ (.bool true)) := Tq.Mov.set (S := fun j => j = N ∨ j = N + 1) (Tq.Mov.set (S := fun j => j = N ∨ j = N + 1) (Tq.Mov.refl _ _) (.inl rfl) 11 _) (.inr rfl) 11 _
  have hm1 : Tq.Mov (fun j => j = N + 1) (w2.setCell ⟨N, 11, none⟩ (.bool true)) ((w2.setCell ⟨N, 11, none⟩ (.bool true)).setCell ⟨N + 1, 11, none⟩ (.bool true)) := Tq.Mov.set (S := fun j => j = N + 1) (Tq.Mov.refl _ _) rfl 11 _
  have hm0 : Tq.Mov (fun j => j = N) w2 (w2.setCell ⟨N, 11, none⟩ (.bool true)) := Tq.Mov.set (S := fun j => j = N) (Tq.Mov.refl _ _) rfl 11 _
  have HC1 : Hid (CellsAt N #[.int .i64 a0, .int .i64 a1, .int .i64 a2, .int .i64 a3, .int .i64 a4, .int .i64 a5, .int .i64 a6, .int .i64 a7, .int .i64 a8, .int .i64 a9, .slice q0 l0 d0, .bool true, .slice p hs.length c] ((w2.setCell ⟨N, 11, none⟩ (.bool true)).setCell ⟨N + 1, 11, none⟩ (.bool true))) := Lib.hid (cells_mov (HC0.out.set 11 (.bool true) (by simp)) hm1 (by omega))
  have HD1 : Hid (CellsAt (N + 1) #[.int .i64 a02, .int .i64 a12, .int .i64 a22, .int .i64 a32, .int .i64 a42, .int .i64 a52, .int .i64 a62, .int .i64 a72, .int .i64 a82, .int .i64 a92, .slice q02 l02 d02, .bool true, .slice p2 hs2.length c2] ((w2.setCell ⟨N, 11, none⟩ (.bool true)).setCell ⟨N + 1, 11, none⟩ (.bool true))) := Lib.hid ((cells_mov HD0.out hm0 (by omega)).set 11 (.bool true) (by simp))
  replace HB := Lib.hid (HB.out.trans (hM.below (N := w.heap.size) (fun j h => by omega) HB.out.size))
  clear hM hm0 hm1 HC0 HD0
  go_upto_region 6 with fail
  clear k11 f11 lN m11 g11 mN hN
  generalize (w2.setCell ⟨N, 11, none⟩ (.bool true)).setCell ⟨N + 1, 11, none⟩ (.bool true) = W3 at *
  have k0 := HC1.out.cell 0 _ rfl
  have k1 := HC1.out.cell 1 _ rfl
  have k2 := HC1.out.cell 2 _ rfl
  have k3 := HC1.out.cell 3 _ rfl
  have k4 := HC1.out.cell 4 _ rfl
  have k5 := HC1.out.cell 5 _ rfl
  have k6 := HC1.out.cell 6 _ rfl
  have k7 := HC1.out.cell 7 _ rfl
  have k8 := HC1.out.cell 8 _ rfl
  have k9 := HC1.out.cell 9 _ rfl
  have k10 := HC1.out.cell 10 _ rfl
  have k11 := HC1.out.cell 11 _ rfl
  have k12 := HC1.out.cell 12 _ rfl
  have kl := HC1.out.lt
  simp only [List.getElem_toArray, List.getElem_cons_zero, List.getElem_cons_succ] at k0 k1 k2 k3 k4 k5 k6 k7 k8 k9 k10 k11 k12
  have hwi := HLI.out.wish a0 a1 a2 a3 a4 a5 a6 a7 a8 a9 q0 l0 d0 p c W3 HHL.out (HS.out.below HB.out)
  go_wp2_with fail
  refine hwi.mono ?_
  rintro e w4 ⟨q, d, rfl, hTr, hB1⟩
  clear hwi
  clear k0 k1 k2 k3 k4 k5 k6 k7 k8 k9 k10 k11 k12 kl
  obtain ⟨P, hP⟩ : ∃ P, w4.heap.size = P := ⟨_, rfl⟩
  have hBx : Below w4.heap.size w4 (w4.alloc (.cells #[.int .i64 x0, .int .i64 x1, .int .i64 x2, .int .i64 (r : Int), .int .i64 (b : Int), .int .i64 x5, .int .i64 x6, .int .i64 x7, .int .i64 x8, .int .i64 x9, .slice q l d] 24)) := (Below.refl _ _).alloc (Nat.le_refl _) _
  have HP : Hid (CellsAt P #[.int .i64 x0, .int .i64 x1, .int .i64 x2, .int .i64 (r : Int), .int .i64 (b : Int), .int .i64 x5, .int .i64 x6, .int .i64 x7, .int .i64 x8, .int .i64 x9, .slice q l d] (w4.alloc (.cells #[.int .i64 x0, .int .i64 x1, .int .i64 x2, .int .i64 (r : Int), .int .i64 (b : Int), .int .i64 x5, .int .i64 x6, .int .i64 x7, .int .i64 x8, .int .i64 x9, .slice q l d] 24))) := Lib.hid (CellsAt.newAt _ _ _ _ hP.symm)
  have HTr := Lib.hid (hTr.below hBx)
  have hBq := hB1.trans (hBx.mono hB1.size)
  replace HD1 := Lib.hid (HD1.out.below hBq)
  replace HB := Lib.hid (HB.out.trans (hBq.mono HB.out.size))
  clear hB1 hBx hTr HC1 hBq
  go_upto_region 7 with fail
  generalize w4.alloc (.cells #[.int .i64 x0, .int .i64 x1, .int .i64 x2, .int .i64 (r : Int), .int .i64 (b : Int), .int .i64 x5, .int .i64 x6, .int .i64 x7, .int .i64 x8, .int .i64 x9, .slice q l d] 24) = V0 at *
  clear hP
  have k0 := HD1.out.cell 0 _ rfl
  have k1 := HD1.out.cell 1 _ rfl
  have k2 := HD1.out.cell 2 _ rfl
  have k3 := HD1.out.cell 3 _ rfl
  have k4 := HD1.out.cell 4 _ rfl
  have k5 := HD1.out.cell 5 _ rfl
  have k6 := HD1.out.cell 6 _ rfl
  have k7 := HD1.out.cell 7 _ rfl
  have k8 := HD1.out.cell 8 _ rfl
  have k9 := HD1.out.cell 9 _ rfl
  have k10 := HD1.out.cell 10 _ rfl
  have k11 := HD1.out.cell 11 _ rfl
  have k12 := HD1.out.cell 12 _ rfl
  have kl := HD1.out.lt
  simp only [List.getElem_toArray, List.getElem_cons_zero, List.getElem_cons_succ] at k0 k1 k2 k3 k4 k5 k6 k7 k8 k9 k10 k11 k12
  have hwi := HL2.out.wish a02 a12 a22 a32 a42 a52 a62 a72 a82 a92 q02 l02 d02 p2 c2 V0 HHL2.out (HS2.out.below HB.out)
  go_wp2_with fail
  refine hwi.mono ?_
  rintro e w5 ⟨qy, dy, rfl, hTr2, hB1⟩
  clear hwi
  clear k0 k1 k2 k3 k4 k5 k6 k7 k8 k9 k10 k11 k12 kl
  obtain ⟨P2, hP2⟩ : ∃ P, w5.heap.size = P := ⟨_, rfl⟩
  have hBx : Below w5.heap.size w5 (w5.alloc (.cells #[.int .i64 y0, .int .i64 y1, .int .i64 y2, .int .i64 (r2 : Int), .int .i64 (b2 : Int), .int .i64 y5, .int .i64 y6, .int .i64 y7, .int .i64 y8, .int .i64 y9, .slice qy ly dy] 24)) := (Below.refl _ _).alloc (Nat.le_refl _) _
  have HP2 : Hid (CellsAt P2 #[.int .i64 y0, .int .i64 y1, .int .i64 y2, .int .i64 (r2 : Int), .int .i64 (b2 : Int), .int .i64 y5, .int .i64 y6, .int .i64 y7, .int .i64 y8, .int .i64 y9, .slice qy ly dy] (w5.alloc (.cells #[.int .i64 y0, .int .i64 y1, .int .i64 y2, .int .i64 (r2 : Int), .int .i64 (b2 : Int), .int .i64 y5, .int .i64 y6, .int .i64 y7, .int .i64 y8, .int .i64 y9, .slice qy ly dy] 24))) := Lib.hid (CellsAt.newAt _ _ _ _ hP2.symm)
  have HTr2 := Lib.hid (hTr2.below hBx)
  have hBq := hB1.trans (hBx.mono hB1.size)
  replace HTr := Lib.hid (HTr.out.below hBq)
  replace HP := Lib.hid (HP.out.below hBq)
  replace HB := Lib.hid (HB.out.trans (hBq.mono HB.out.size))
  clear hB1 hBx hTr2 HD1 hBq
  go_upto_region 8 with fail
  generalize w5.alloc (.cells #[.int .i64 y0, .int .i64 y1, .int .i64 y2, .int .i64 (r2 : Int), .int .i64 (b2 : Int), .int .i64 y5, .int .i64 y6, .int .i64 y7, .int .i64 y8, .int .i64 y9, .slice qy ly dy] 24) = V at *
  clear hP2
  have HTB : Hid (Hl.Tab V) := Lib.hid (HT.out.below HB.out)
  have HOV := Lib.hid (HO.out.below HB.out)
  clear HO HT HS HS2
  have k0 := HP.out.cell 0 _ rfl
  have k1 := HP.out.cell 1 _ rfl
  have k2 := HP.out.cell 2 _ rfl
  have k3 := HP.out.cell 3 _ rfl
  have k4 := HP.out.cell 4 _ rfl
  have k5 := HP.out.cell 5 _ rfl
  have k6 := HP.out.cell 6 _ rfl
  have k7 := HP.out.cell 7 _ rfl
  have k8 := HP.out.cell 8 _ rfl
  have k9 := HP.out.cell 9 _ rfl
  have k10 := HP.out.cell 10 _ rfl
  have kl := HP.out.lt
  simp only [List.getElem_toArray, List.getElem_cons_zero, List.getElem_cons_succ] at k0 k1 k2 k3 k4 k5 k6 k7 k8 k9 k10
  have hnw := new_in x0 x1 x2 x5 x6 x7 x8 x9 0 r b q l d t HLI.out.right (by decide) (by decide) V HTr.out
  go_wp2_with fail
  refine hnw.mono ?_
  rintro e W5 ⟨a, rfl, hQ, hB5⟩
  clear hnw
  clear k0 k1 k2 k3 k4 k5 k6 k7 k8 k9 k10 kl
  obtain ⟨VN, hVN⟩ : ∃ n, V.heap.size = n := ⟨_, rfl⟩
  rw [hVN] at hQ hB5
  have HVN := Lib.hid hVN
  have HPV : Hid (P < VN) := Lib.hid (by rw [← hVN]; exact HP.out.lt)
  have HPV2 : Hid (P2 < VN) := Lib.hid (by rw [← hVN]; exact HP2.out.lt)
  have HR0 : Hid (Run VN a ⟨0, false, min x1 x2, x2, b, zl b, zl b, r, []⟩ 0 b r (min x1 x2) x2 V W5) := Lib.hid ⟨hQ, hB5, rfl, rfl, rfl, rfl, rfl, rfl⟩
  clear hQ hB5 hVN hle
  go_wp2_with fail
  go_loopg [12] (min n 40) (fun g i wx => ∃ (k : Nat) (s : St) (v : Value), k + g = min n 40 ∧ i = .int .i64 (k : Int) ∧ Hid (Run VN ⟨a.B, a.N, a.P, a.T, v⟩ s 0 b r (min x1 x2) x2 V wx))
  case atStart => exact ⟨0, _, a.v, by omega, rfl, HR0⟩
  case round =>
    clear HR0
    obtain ⟨k, s, v, hkg, rfl, HR⟩ := hrel
    cases gk with
    | zero =>
      have hend : ¬ (k < n) ∨ (k < n ∧ ¬ (k < 40)) := by omega
      clear hkg
      have hlb := HLI.out.bounds
      have hlb2 := HL2.out.bounds
      obtain ⟨M, hM⟩ : ∃ c, many s = c := ⟨_, rfl⟩
      have HQ : Hid (Qo VN ⟨a.B, a.N, a.P, a.T, v⟩ s wr) := Lib.hid HR.out.q
      have HBW := Lib.hid HR.out.bel
      have HMM := Lib.hid hM
      have h2 : Calls Tryz.prog 24 #[.pointer (some ⟨a.B, 0, none⟩)] wr fun e w' => e = .returned (.int .u64 (M : Int)) ∧ Below wr.heap.size wr w' := by rw [← hM]; exact many_any (a := ⟨a.B, a.N, a.P, a.T, v⟩) HQ.out
      have hest : Hl.estOf s.b s.now = M := by
        rw [← hM]
        unfold many
        rw [HR.out.old, ← HR.out.bits, merge_lz HQ.out.now.len]
      have HEST := Lib.hid hest
      have HLB := Lib.hid hlb
      have HLB2 := Lib.hid hlb2
      have HWN : Hid (s.win = 0) := Lib.hid HR.out.eWin
      have HSB : Hid (s.b = b) := Lib.hid HR.out.bits
      clear hest hM hlb hlb2 HR
      rcases hend with hend | ⟨hend1, hend⟩
      all_goals
        go_wp2_with fail
        refine h2.mono ?_
        rintro e W7 ⟨rfl, hb⟩
        clear h2 hend
        have HQ7 := Lib.hid (HQ.out.below hb)
        have HB7 := Lib.hid (HBW.out.trans (hb.mono (by rw [← HVN.out]; exact HBW.out.size)))
        clear hb
        have HP7 : Hid (CellsAt P2 #[.int .i64 y0, .int .i64 y1, .int .i64 y2, .int .i64 (r2 : Int), .int .i64 (b2 : Int), .int .i64 y5, .int .i64 y6, .int .i64 y7, .int .i64 y8, .int .i64 y9, .slice qy ly dy] W7) := Lib.hid (CellsAt.belowAt HP2.out HB7.out HPV2.out)
        have k0 := HP7.out.cell 0 _ rfl
        have k1 := HP7.out.cell 1 _ rfl
        have k2 := HP7.out.cell 2 _ rfl
        have k3 := HP7.out.cell 3 _ rfl
        have k4 := HP7.out.cell 4 _ rfl
        have k5 := HP7.out.cell 5 _ rfl
        have k6 := HP7.out.cell 6 _ rfl
        have k7 := HP7.out.cell 7 _ rfl
        have k8 := HP7.out.cell 8 _ rfl
        have k9 := HP7.out.cell 9 _ rfl
        have k10 := HP7.out.cell 10 _ rfl
        have kl := HP7.out.lt
        simp only [List.getElem_toArray, List.getElem_cons_zero, List.getElem_cons_succ] at k0 k1 k2 k3 k4 k5 k6 k7 k8 k9 k10
        have hDx : Below W7.heap.size W7 (W7.alloc (.cells #[.int .i64 0, .int .i64 y1, .int .i64 y2, .int .i64 (r2 : Int), .int .i64 (b2 : Int), .int .i64 y5, .int .i64 y6, .int .i64 y7, .int .i64 y8, .int .i64 y9, .slice qy ly dy] 24)) := (Below.refl _ _).alloc (Nat.le_refl _) _
        have HDD := Lib.hid (CellsAt.new #[.int .i64 0, .int .i64 y1, .int .i64 y2, .int .i64 (r2 : Int), .int .i64 (b2 : Int), .int .i64 y5, .int .i64 y6, .int .i64 y7, .int .i64 y8, .int .i64 y9, .slice qy ly dy] 24 W7)
        replace HQ7 := Lib.hid (HQ7.out.below hDx)
        replace HP7 := Lib.hid (HP7.out.below hDx)
        replace HB7 := Lib.hid (HB7.out.trans (hDx.mono (by rw [← HVN.out]; exact HB7.out.size)))
        obtain ⟨D, hD⟩ : ∃ D, W7.heap.size = D := ⟨_, rfl⟩
        rw [hD] at HDD
        clear hDx
        go_upto_region 18 with fail
        clear k0 k1 k2 k3 k4 k5 k6 k7 k8 k9 k10 kl
        generalize W7.alloc (.cells #[.int .i64 0, .int .i64 y1, .int .i64 y2, .int .i64 (r2 : Int), .int .i64 (b2 : Int), .int .i64 y5, .int .i64 y6, .int .i64 y7, .int .i64 y8, .int .i64 y9, .slice qy ly dy] 24) = U at *
        clear hD
        have k0 := HDD.out.cell 0 _ rfl
        have k1 := HDD.out.cell 1 _ rfl
        have k2 := HDD.out.cell 2 _ rfl
        have k3 := HDD.out.cell 3 _ rfl
        have k4 := HDD.out.cell 4 _ rfl
        have k5 := HDD.out.cell 5 _ rfl
        have k6 := HDD.out.cell 6 _ rfl
        have k7 := HDD.out.cell 7 _ rfl
        have k8 := HDD.out.cell 8 _ rfl
        have k9 := HDD.out.cell 9 _ rfl
        have k10 := HDD.out.cell 10 _ rfl
        have kl := HDD.out.lt
        simp only [List.getElem_toArray, List.getElem_cons_zero, List.getElem_cons_succ] at k0 k1 k2 k3 k4 k5 k6 k7 k8 k9 k10
        have hro : Calls Tryz.prog 15 #[.pointer (some ⟨a.B, 0, none⟩), .int .i64 1, .agg #[.int .i64 0, .int .i64 y1, .int .i64 y2, .int .i64 (r2 : Int), .int .i64 (b2 : Int), .int .i64 y5, .int .i64 y6, .int .i64 y7, .int .i64 y8, .int .i64 y9, .slice qy ly dy]] U fun e w' => e = .returned (.int .i64 0) ∧ Below U.heap.size U w' := by
          have htr := HTr2.out.mov (M := fun k => VN ≤ k) ⟨HB7.out.os, HB7.out.tape, HB7.out.output, HB7.out.size, fun k hk hn => HB7.out.block k (by omega)⟩ (fun j h1 h2 => by rw [HVN.out] at h2; omega)
          exact roll_bad (a := ⟨a.B, a.N, a.P, a.T, v⟩) HQ7.out 0 y1 y2 (r2 : Int) (b2 : Int) y5 y6 y7 y8 y9 1 qy ly dy t2 (bad_right y1 y2 r2 b2 y5 y6 y7 y8 y9 t2) (fun x hx => by
            rcases List.mem_cons.1 hx with e | e
            · rw [e]; unfold In64; decide
            · exact Po.in64_of ((Po.right_in HL2.out.right).1 x (List.mem_cons_of_mem _ e))) (by rw [HWN.out]; decide) htr
        go_wp2_with fail
        refine hro.mono ?_
        rintro e U2 ⟨rfl, hb⟩
        clear hro
        clear k0 k1 k2 k3 k4 k5 k6 k7 k8 k9 k10 kl
        replace HQ7 := Lib.hid (HQ7.out.below hb)
        replace HB7 := Lib.hid (HB7.out.trans (hb.mono (by rw [← HVN.out]; exact HB7.out.size)))
        replace HP7 := Lib.hid (HP7.out.below hb)
        clear hb HDD
        have k0 := HP7.out.cell 0 _ rfl
        have k1 := HP7.out.cell 1 _ rfl
        have k2 := HP7.out.cell 2 _ rfl
        have k3 := HP7.out.cell 3 _ rfl
        have k4 := HP7.out.cell 4 _ rfl
        have k5 := HP7.out.cell 5 _ rfl
        have k6 := HP7.out.cell 6 _ rfl
        have k7 := HP7.out.cell 7 _ rfl
        have k8 := HP7.out.cell 8 _ rfl
        have k9 := HP7.out.cell 9 _ rfl
        have k10 := HP7.out.cell 10 _ rfl
        have kl := HP7.out.lt
        simp only [List.getElem_toArray, List.getElem_cons_zero, List.getElem_cons_succ] at k0 k1 k2 k3 k4 k5 k6 k7 k8 k9 k10
        have hro : Calls Tryz.prog 15 #[.pointer (some ⟨a.B, 0, none⟩), .int .i64 0, .agg #[.int .i64 y0, .int .i64 y1, .int .i64 y2, .int .i64 (r2 : Int), .int .i64 (b2 : Int), .int .i64 y5, .int .i64 y6, .int .i64 y7, .int .i64 y8, .int .i64 y9, .slice qy ly dy]] U2 fun e w' => e = .returned (.int .i64 0) ∧ Below U2.heap.size U2 w' := roll_old (a := ⟨a.B, a.N, a.P, a.T, v⟩) HQ7.out y0 y1 y2 (r2 : Int) (b2 : Int) y5 y6 y7 y8 y9 0 qy ly dy (by rw [HWN.out]; decide)
        go_wp2_with fail
        refine hro.mono ?_
        rintro e U3 ⟨rfl, hb⟩
        clear hro
        clear k0 k1 k2 k3 k4 k5 k6 k7 k8 k9 k10 kl
        replace HQ7 := Lib.hid (HQ7.out.below hb)
        replace HB7 := Lib.hid (HB7.out.trans (hb.mono (by rw [← HVN.out]; exact HB7.out.size)))
        replace HP7 := Lib.hid (HP7.out.below hb)
        clear hb
        have hmn : Calls Tryz.prog 24 #[.pointer (some ⟨a.B, 0, none⟩)] U3 fun e w' => e = .returned (.int .u64 (M : Int)) ∧ Below U3.heap.size U3 w' := by
          have h9 := many_any (a := ⟨a.B, a.N, a.P, a.T, v⟩) HQ7.out
          rwa [HMM.out] at h9
        go_wp2_with fail
        refine hmn.mono ?_
        rintro e U4 ⟨rfl, hb⟩
        clear hmn
        replace HQ7 := Lib.hid (HQ7.out.below hb)
        replace HB7 := Lib.hid (HB7.out.trans (hb.mono (by rw [← HVN.out]; exact HB7.out.size)))
        replace HP7 := Lib.hid (HP7.out.below hb)
        clear hb
        have k0 := HP7.out.cell 0 _ rfl
        have k1 := HP7.out.cell 1 _ rfl
        have k2 := HP7.out.cell 2 _ rfl
        have k3 := HP7.out.cell 3 _ rfl
        have k4 := HP7.out.cell 4 _ rfl
        have k5 := HP7.out.cell 5 _ rfl
        have k6 := HP7.out.cell 6 _ rfl
        have k7 := HP7.out.cell 7 _ rfl
        have k8 := HP7.out.cell 8 _ rfl
        have k9 := HP7.out.cell 9 _ rfl
        have k10 := HP7.out.cell 10 _ rfl
        have kl := HP7.out.lt
        simp only [List.getElem_toArray, List.getElem_cons_zero, List.getElem_cons_succ] at k0 k1 k2 k3 k4 k5 k6 k7 k8 k9 k10
        have hro : Calls Tryz.prog 15 #[.pointer (some ⟨a.B, 0, none⟩), .int .i64 1, .agg #[.int .i64 y0, .int .i64 y1, .int .i64 y2, .int .i64 (r2 : Int), .int .i64 (b2 : Int), .int .i64 y5, .int .i64 y6, .int .i64 y7, .int .i64 y8, .int .i64 y9, .slice qy ly dy]] U4 fun e w' => e = .returned (.int .i64 1) ∧ ∃ a' : Ad, a'.B = a.B ∧ Qo VN a' ⟨1, s.cl && decide (s.lo < ((Hl.estOf s.b s.now : Nat) : Int)), min y1 y2, y2, b2, zl b2, zl b2, r2, []⟩ w' ∧ Below VN V w' := by
          have htr := HTr2.out.mov (M := fun k => VN ≤ k) ⟨HB7.out.os, HB7.out.tape, HB7.out.output, HB7.out.size, fun k hk hn => HB7.out.block k (by omega)⟩ (fun j h1 h2 => by rw [HVN.out] at h2; omega)
          refine (roll_nextb (a := ⟨a.B, a.N, a.P, a.T, v⟩) HQ7.out y0 y1 y2 y5 y6 y7 y8 y9 1 r2 b2 qy ly dy t2 HL2.out.right (by decide) (by decide) (by rw [HWN.out]; decide) (by rw [HWN.out]; rfl) htr (fun e => HBB.out (HSB.out.symm.trans e))).mono ?_
          rintro e w' ⟨he, a', h1, h2, h3, -⟩
          exact ⟨he, a', h1, h2, HB7.out.trans (HQ7.out.out h3)⟩
        go_wp2_with fail
        refine hro.mono ?_
        rintro e W8 ⟨rfl, a2, hab, hq, hb⟩
        clear hro
        clear k0 k1 k2 k3 k4 k5 k6 k7 k8 k9 k10 kl
        have HQ8 := Lib.hid hq
        have HB8 := Lib.hid hb
        have HAB := Lib.hid hab
        clear hq hb hab HP7 HQ7 HB7
        obtain ⟨ST, hST⟩ : ∃ s' : St, ⟨1, s.cl && decide (s.lo < ((Hl.estOf s.b s.now : Nat) : Int)), min y1 y2, y2, b2, zl b2, zl b2, r2, []⟩ = s' := ⟨⟨1, s.cl && decide (s.lo < ((Hl.estOf s.b s.now : Nat) : Int)), min y1 y2, y2, b2, zl b2, zl b2, r2, []⟩, rfl⟩
        have HST := Lib.hid hST
        rw [hST] at HQ8
        clear hST
        obtain ⟨sn, hsn⟩ : ∃ v, Hl.tx ST.now = v := ⟨_, rfl⟩
        obtain ⟨so, hso⟩ : ∃ v, Hl.tx ST.old = v := ⟨_, rfl⟩
        have hz1 : (sn.size : Int) = (2 : Int) ^ b2 := by
          rw [← hsn, Hl.tx_size, HQ8.out.now.len, ← HST.out]
          simp
        have hz2 : (so.size : Int) = (2 : Int) ^ b2 := by
          rw [← hso, Hl.tx_size, HQ8.out.old.len, ← HST.out]
          simp
        have HZ := Lib.hid (And.intro hz1 hz2)
        clear hz1 hz2
        have hst : Calls Tryz.prog 20 #[.pointer (some ⟨a.B, 0, none⟩)] W8 fun e w' => ∃ v, e = .returned (.agg #[.int .i64 ST.win, .bool ST.cl, .string (Hl.tx ST.now), .string (Hl.tx ST.old), .int .u64 0, v]) ∧ (∃ p l c, v = .slice p l c) ∧ Below W8.heap.size W8 w' := by
          have h9 := state_any HQ8.out
          rw [HAB.out] at h9
          refine h9.mono ?_
          rintro e w' ⟨v, he, ⟨its, hI, hp, -⟩, hB⟩
          have e1 : ST.l = [] := by rw [← HST.out]
          rw [e1] at he
          obtain ⟨p9, c9, rfl, _, _⟩ := hI.cap
          exact ⟨_, he, ⟨_, _, _, rfl⟩, hB⟩
        obtain ⟨sw, hsw⟩ : ∃ v, ST.win = v := ⟨_, rfl⟩
        obtain ⟨sc, hsc⟩ : ∃ v, ST.cl = v := ⟨_, rfl⟩
        rw [hsw, hsc, hsn, hso] at hst
        clear hsw hsc hsn hso
        go_wp2_with fail
        refine hst.mono ?_
        rintro e W9 ⟨_, rfl, ⟨vi, li, ci, rfl⟩, hb⟩
        clear hst
        have hS : CellsAt W9.heap.size #[.int .i64 sw, .bool sc, .string sn, .string so, .int .u64 0, .slice vi li ci] (W9.alloc (.cells #[.int .i64 sw, .bool sc, .string sn, .string so, .int .u64 0, .slice vi li ci] 59)) := CellsAt.new _ _ _
        have hbx : Below W9.heap.size W9 (W9.alloc (.cells #[.int .i64 sw, .bool sc, .string sn, .string so, .int .u64 0, .slice vi li ci] 59)) := (Below.refl _ _).alloc (Nat.le_refl _) _
        have hbz := hb.trans (hbx.mono hb.size)
        replace HQ8 := Lib.hid (HQ8.out.below hbz)
        replace HB8 := Lib.hid (HB8.out.trans (hbz.mono (by rw [← HVN.out]; exact HB8.out.size)))
        have HSS := Lib.hid hS
        obtain ⟨S, hSe⟩ : ∃ S, W9.heap.size = S := ⟨_, rfl⟩
        rw [hSe] at HSS
        clear hb hS hbx hbz
        go_upto_region 23 with fail
        generalize W9.alloc (.cells #[.int .i64 sw, .bool sc, .string sn, .string so, .int .u64 0, .slice vi li ci] 59) = U9 at *
        clear hSe
        have hmz : many ST = 0 := by
          rw [← HST.out]
          unfold many
          rw [merge_zl (zl_len b2)]
          exact est_zl b2 HLB2.out.2.2.2.1 HLB2.out.2.2.2.2.1
        have HMZ := Lib.hid hmz
        clear hmz
        have hmn : Calls Tryz.prog 24 #[.pointer (some ⟨a.B, 0, none⟩)] U9 fun e w' => e = .returned (.int .u64 0) ∧ Below U9.heap.size U9 w' := by
          have h9 := many_any HQ8.out
          rw [HAB.out, HMZ.out] at h9
          exact h9
        go_wp2_with fail
        refine hmn.mono ?_
        rintro e UA ⟨rfl, hb⟩
        clear hmn
        replace HQ8 := Lib.hid (HQ8.out.below hb)
        replace HB8 := Lib.hid (HB8.out.trans (hb.mono (by rw [← HVN.out]; exact HB8.out.size)))
        replace HSS := Lib.hid (HSS.out.below hb)
        clear hb
        have HPA : Hid (CellsAt P #[.int .i64 x0, .int .i64 x1, .int .i64 x2, .int .i64 (r : Int), .int .i64 (b : Int), .int .i64 x5, .int .i64 x6, .int .i64 x7, .int .i64 x8, .int .i64 x9, .slice q l d] UA) := Lib.hid (CellsAt.belowAt HP.out HB8.out HPV.out)
        have HPB : Hid (CellsAt P2 #[.int .i64 y0, .int .i64 y1, .int .i64 y2, .int .i64 (r2 : Int), .int .i64 (b2 : Int), .int .i64 y5, .int .i64 y6, .int .i64 y7, .int .i64 y8, .int .i64 y9, .slice qy ly dy] UA) := Lib.hid (CellsAt.belowAt HP2.out HB8.out HPV2.out)
        have i4 : UA.cell? ⟨P, 4, none⟩ = some (.int .i64 (b : Int)) := HPA.out.cell 4 _ rfl
        have j4 : UA.cell? ⟨P2, 4, none⟩ = some (.int .i64 (b2 : Int)) := HPB.out.cell 4 _ rfl
        have il := HPA.out.lt
        have jl := HPB.out.lt
        have hbe : ¬ (b2 : Int) = (b : Int) := fun e => HBB.out (by omega)
        go_wp2_with fail
        have hmn : Calls Tryz.prog 24 #[.pointer (some ⟨a.B, 0, none⟩)] UA fun e w' => e = .returned (.int .u64 0) ∧ Below UA.heap.size UA w' := by
          have h9 := many_any HQ8.out
          rw [HAB.out, HMZ.out] at h9
          exact h9
        refine hmn.mono ?_
        rintro e UB ⟨rfl, hb⟩
        clear hmn i4 j4 il jl hbe
        replace HQ8 := Lib.hid (HQ8.out.below hb)
        replace HB8 := Lib.hid (HB8.out.trans (hb.mono (by rw [← HVN.out]; exact HB8.out.size)))
        replace HSS := Lib.hid (HSS.out.below hb)
        have j4 : UB.cell? ⟨P2, 4, none⟩ = some (.int .i64 (b2 : Int)) := (HPB.out.below hb).cell 4 _ rfl
        have jl := (HPB.out.below hb).lt
        clear hb
        have q2 := HSS.out.cell 2 _ rfl
        have q3 := HSS.out.cell 3 _ rfl
        have q4 := HSS.out.cell 4 _ rfl
        have ql := HSS.out.lt
        simp only [List.getElem_toArray, List.getElem_cons_zero, List.getElem_cons_succ] at q2 q3 q4
        have hb10 := HLB2.out.2.2.2.2.1
        obtain ⟨K, hK⟩ : ∃ K : Nat, 2 ^ b2 = K := ⟨_, rfl⟩
        have hK2 : (2 : Int) ^ b2 = (K : Int) := by rw [← hK]; simp
        have hK3 : K ≤ 1024 := by rw [← hK]; exact Nat.pow_le_pow_right (by decide) hb10
        have hsh : IntKind.i64.wrap ((2 : Int) ^ b2) = (K : Int) := by rw [hK2]; exact IntWalk.i64_in _ (by omega)
        have hz1 : (sn.size : Int) = (K : Int) := by rw [← hK2]; exact HZ.out.1
        have hz2 : (so.size : Int) = (K : Int) := by rw [← hK2]; exact HZ.out.2
        have hE := HB.out.trans (HB8.out.mono (by rw [← HVN.out]; exact HB.out.size))
        have HE := Lib.hid hE
        clear hE hK hK2
        go_upto_region 26 with fail
        go_quiet (fail)
        go_wp2
        go_ret
        exact ⟨rfl, HE.out.trans ⟨rfl, rfl, rfl, Nat.le_refl _, fun _ _ => rfl⟩⟩
    | succ g =>
      have hk1 : k < n := by omega
      have hk2 : k < 40 := by omega
      have hkl : k < l1.length := by rw [HNL.out]; exact hk1
      obtain ⟨C, off, rfl, hC, hcell, hz⟩ := HOV.out k hkl
      obtain ⟨z, hzz⟩ : ∃ z, l1[k]'hkl = z := ⟨_, rfl⟩
      rw [hzz] at hcell hz
      have hcell2 := (HR.out.bel.cell (p := ⟨C, off + k, none⟩) (by rw [← HVN.out]; exact hC)).trans hcell
      have hC2 : C < wr.heap.size := Nat.lt_of_lt_of_le hC HR.out.bel.size
      have hcv := Tq.letter_back z hz wr wr.heap.size rfl
      have hR2 := HR.out.below (wy := wr.alloc (.cells #[.int .u8 (z : Int)] 5)) ((Below.refl _ _).alloc (Nat.le_refl _) _) HVN.out.symm
      have had := hR2.admit HVN.out.symm HTB.out (Tq.nmC z) ⟨#[109]⟩ (by rw [Tq.nmC_size]; decide) (by decide) false true
      clear hcell hC hkl hzz hR2 hz
      go_wp2_with fail
      refine had.mono ?_
      rintro e Wa ⟨rfl, v', hr⟩
      have HR' := Lib.hid hr
      clear had hr hcv hcell2 hC2
      go_wp2
      go_roundg g
      case measure => omega
      case rel => exact ⟨k + 1, _, v', by omega, by go_num, HR'⟩
theorem QuotaPolicy_walk (x : Po.WishV) (z : Po.WishV) (p1 : Option Addr) (l1 : List Nat) (c1 : Nat) (h1 : l1.length ≤ c1) (hm : c1 ≤ maxLen) (w : World) (hT : Hl.Tab w) (hx : x.fits w) (hz : z.fits w) (hO : Tq.Octs p1 l1 w) :
    Calls Tryz.prog 8 #[.agg x.vals, .agg z.vals, .slice p1 l1.length c1] w fun e w' => e = .returned (.bool true) ∧ Below w.heap.size w w' := by
  have hlen : l1.length ≤ 9223372036854775807 := by unfold maxLen at hm; omega
  obtain ⟨nx, q0, t0, d0, ow, p, hs, c⟩ := x
  obtain ⟨a0, a1, a2, a3, a4, a5, a6, a7, a8, a9, rfl⟩ := Po.ten_of hx.len
  obtain ⟨nz, q02, t02, d02, ow2, p2, hs2, c2⟩ := z
  obtain ⟨a02, a12, a22, a32, a42, a52, a62, a72, a82, a92, rfl⟩ := Po.ten_of hz.len
  obtain ⟨x0, x1, x2, x5, x6, x7, x8, x9, r, b, l, t, hlit⟩ := lit_of hs
  obtain ⟨y0, y1, y2, y5, y6, y7, y8, y9, r2, b2, ly, t2, hlit2⟩ := lit_of hs2
  by_cases h0 : b = b2
  · exact policy_same a0 a1 a2 a3 a4 a5 a6 a7 a8 a9 q0 t0.length d0 ow p hs c hx.hl a02 a12 a22 a32 a42 a52 a62 a72 a82 a92 q02 t02.length d02 ow2 p2 hs2 c2 hz.hl x0 x1 x2 x5 x6 x7 x8 x9 r b l t hlit y0 y1 y2 y5 y6 y7 y8 y9 r2 b2 ly t2 hlit2 h0 p1 l1 c1 hlen w hT hx.nums hz.nums hO
  · exact policy_other a0 a1 a2 a3 a4 a5 a6 a7 a8 a9 q0 t0.length d0 ow p hs c hx.hl a02 a12 a22 a32 a42 a52 a62 a72 a82 a92 q02 t02.length d02 ow2 p2 hs2 c2 hz.hl x0 x1 x2 x5 x6 x7 x8 x9 r b l t hlit y0 y1 y2 y5 y6 y7 y8 y9 r2 b2 ly t2 hlit2 h0 p1 l1 c1 hlen w hT hx.nums hz.nums hO
end Go.Proofs.YtcgkgdhbipbnfaaGreatDoor.Qu

