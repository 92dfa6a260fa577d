/- The law's wish walked. -/
import Derived.Test.YtcgkgdhbipbnfaaGreatDoorPoWk
namespace Go.Proofs.YtcgkgdhbipbnfaaGreatDoor.Po
open Go Go.RowKit

set_option maxRecDepth 100000 in
set_option maxHeartbeats 16000000 in
theorem wish_five (C0 : Code) (hC0 : Tryz.f10.body.bind (findG 5) = some C0) (Q : Exit → Act → World → Prop) (w W : World) (C : Nat) (p : Option Addr) (hs : List Nat) (c : Nat) (x0 m x3 x4 x5 x6 x7 x8 x9 : Int) (hl : hs.length ≤ 9223372036854775807) (hm0 : 0 ≤ m) (hm1 : m < 40)
    (hpB : ∀ a, p = some a → 0 < hs.length → a.block < C) (hWB : WB C p hs c W) (hP : PolAt (C + 2) [x0, 0, m, x3, x4, x5, x6, x7, x8, x9] (.slice none 0 0) W) (hZ : PolAt (C + 1) zeroN (.slice none 0 0) W) (hBe : Below C w W) (hCw : C ≤ w.heap.size) (s0 s5 s6 s7 s8 s9 s10 s11 s12 s13 s14 s15 s16 s17 s18 s19 s20 s21 s22 s23 s24 s25 s26 s27 s28 s29 s30 s31 s32 s33 s34 s35 s36 s37 s38 s39 s40 s41 s42 s43 s44 s45 s46 s47 s48 s49 s50 s51 s52 s53 s54 s55 s56 s57 s58 s59 s60 s61 s62 s63 s64 s65 s66 s67 s68 s69 s70 s71 s72 s73 s74 s75 s76 s77 s78 s79 s80 s81 s82 : Value)
    (hQ : ∀ (W' : World) (z45 z46 z47 z48 z49 z50 z51 : Value), WB C p hs c W' → PolAt (C + 2) [x0, (hA hs 9 : Int) % (m + 1), m, x3, x4, x5, x6, x7, x8, x9] (.slice none 0 0) W' → PolAt (C + 1) zeroN (.slice none 0 0) W' → Below C w W' → Q .normal { tmps := (s0 :: .pointer (some ⟨C, 0, none⟩) :: .pointer (some ⟨C + 1, 0, none⟩) :: .func (Fn.func 31) #[] #[.pointer (some ⟨C, 0, none⟩)] :: .pointer (some ⟨C + 2, 0, none⟩) :: s5 :: s6 :: s7 :: s8 :: s9 :: s10 :: s11 :: s12 :: s13 :: s14 :: s15 :: s16 :: s17 :: s18 :: s19 :: s20 :: s21 :: s22 :: s23 :: s24 :: s25 :: s26 :: s27 :: s28 :: s29 :: s30 :: s31 :: s32 :: s33 :: s34 :: s35 :: s36 :: s37 :: s38 :: s39 :: s40 :: s41 :: s42 :: s43 :: s44 :: z45 :: z46 :: z47 :: z48 :: z49 :: z50 :: z51 :: s52 :: s53 :: s54 :: s55 :: s56 :: s57 :: s58 :: s59 :: s60 :: s61 :: s62 :: s63 :: s64 :: s65 :: s66 :: s67 :: s68 :: s69 :: s70 :: s71 :: s72 :: s73 :: s74 :: s75 :: s76 :: s77 :: s78 :: s79 :: s80 :: s81 :: s82 :: []).toArray, defers := [] } W') :
    Code.wp Tryz.prog C0 Q { tmps := (s0 :: .pointer (some ⟨C, 0, none⟩) :: .pointer (some ⟨C + 1, 0, none⟩) :: .func (Fn.func 31) #[] #[.pointer (some ⟨C, 0, none⟩)] :: .pointer (some ⟨C + 2, 0, none⟩) :: s5 :: s6 :: s7 :: s8 :: s9 :: s10 :: s11 :: s12 :: s13 :: s14 :: s15 :: s16 :: s17 :: s18 :: s19 :: s20 :: s21 :: s22 :: s23 :: s24 :: s25 :: s26 :: s27 :: s28 :: s29 :: s30 :: s31 :: s32 :: s33 :: s34 :: s35 :: s36 :: s37 :: s38 :: s39 :: s40 :: s41 :: s42 :: s43 :: s44 :: s45 :: s46 :: s47 :: s48 :: s49 :: s50 :: s51 :: s52 :: s53 :: s54 :: s55 :: s56 :: s57 :: s58 :: s59 :: s60 :: s61 :: s62 :: s63 :: s64 :: s65 :: s66 :: s67 :: s68 :: s69 :: s70 :: s71 :: s72 :: s73 :: s74 :: s75 :: s76 :: s77 :: s78 :: s79 :: s80 :: s81 :: s82 :: []).toArray, defers := [] } W := by
  cases hC0
  have HW : Hid (∀ (i : Nat) (W : World), WB C p hs c W → Calls Tryz.prog 31 #[.int .i64 (i : Int), .pointer (some ⟨C, 0, none⟩)] W fun e w' => e = .returned (.int .i64 (hA hs i : Int)) ∧ w' = W) := Lib.hid (fun i W h => wish1_of i hl h)
  have hL9 := Lib.hid (hA_lt hWB.nums 9)
  obtain ⟨r, hr⟩ : ∃ r : Int, (hA hs 9 : Int) % (m + 1) = r := ⟨_, rfl⟩
  rw [hr] at hQ
  have HR1 := Lib.hid hr
  have HR2 : Hid ((hA hs 9 : Int).tmod (m + 1) = r) := Lib.hid (by rw [Int.tmod_eq_emod_of_nonneg (by omega)]; exact hr)
  have hr0 : 0 ≤ r ∧ r ≤ m := by
    have h1 := Int.emod_nonneg (hA hs 9 : Int) (show (m + 1) ≠ 0 by omega)
    have h2 := Int.emod_lt_of_pos (hA hs 9 : Int) (show 0 < (m + 1) by omega)
    omega
  have HR3 := Lib.hid hr0
  have HM1 : Hid (¬ m + 1 = 0) := Lib.hid (by omega)
  have HM2 : Hid (0 ≤ m ∧ m < 40) := Lib.hid ⟨hm0, hm1⟩
  replace hWB : WB C p hs c W.drew := hWB.drew
  have hPd : PolAt (C + 2) [x0, 0, m, x3, x4, x5, x6, x7, x8, x9] (.slice none 0 0) W.drew := CellsAt.drew hP
  have hZd : PolAt (C + 1) zeroN (.slice none 0 0) W.drew := CellsAt.drew hZ
  have hBd : Below C w W.drew := hBe.drew
  have HPB := Lib.hid hpB
  clear hP hZ hr hm0 hm1 hr0 hBe hpB
  refine Reg.wp_region_last2 (n := 83) 7 (WishPhi [.func (Fn.func 31) #[] #[.pointer (some ⟨C, 0, none⟩)], .int .i64 (hA hs 9 : Int), .pointer (some ⟨C + 2, 2, none⟩), .int .i64 m, .int .i64 (m + 1), .int .i64 r, .pointer (some ⟨C + 2, 1, none⟩)]) (by kernel_rfl) rfl (by kernel_rfl) (by kernel_rfl) rfl WishPhi.stays ?_ ?_
  · refine ⟨?_, ?_, ?_, ?_, ?_, ?_, ?_, ?_, trivial⟩
    · intro _ cx wc hB hp hq
      have g3 : cx.tmps[3]? = some (.func (Fn.func 31) #[] #[.pointer (some ⟨C, 0, none⟩)]) := (hq 3 (by kernel_rfl)).trans rfl
      refine Reg.ok_value Reg.Old.refl (v := .func (Fn.func 31) #[] #[.pointer (some ⟨C, 0, none⟩)]) (Reg.wanted_none rfl) ?_ rfl
      go_simp
    · intro _ cx wc hB hp hq
      have g45 : cx.tmps[45]? = some (.func (Fn.func 31) #[] #[.pointer (some ⟨C, 0, none⟩)]) := by obtain ⟨_, g, hv⟩ := Reg.pred hp 0 45 (by kernel_rfl) rfl rfl; exact g.trans (congrArg some hv)
      refine Reg.ok_call (f := 31) (args := #[.int .i64 9, .pointer (some ⟨C, 0, none⟩)]) (Reg.wanted_none rfl) (by go_simp) ((HW.out 9 wc (hWB.below hB)).mono ?_)
      rintro e w' ⟨rfl, rfl⟩
      exact ⟨_, rfl, Reg.Old.refl _, rfl⟩
    · intro _ cx wc hB hp hq
      have g4 : cx.tmps[4]? = some (.pointer (some ⟨C + 2, 0, none⟩)) := (hq 4 (by kernel_rfl)).trans rfl
      refine Reg.ok_value Reg.Old.refl (v := .pointer (some ⟨C + 2, 2, none⟩)) (Reg.wanted_none rfl) ?_ rfl
      go_simp
    · intro _ cx wc hB hp hq
      have g47 : cx.tmps[47]? = some (.pointer (some ⟨C + 2, 2, none⟩)) := by obtain ⟨_, g, hv⟩ := Reg.pred hp 2 47 (by kernel_rfl) rfl rfl; exact g.trans (congrArg some hv)
      have c2 := (CellsAt.below hPd hB).cell 2 (.int .i64 m) rfl
      refine Reg.ok_value Reg.Old.refl (v := .int .i64 m) (Reg.wanted_none rfl) ?_ rfl
      go_simp
    · intro _ cx wc hB hp hq
      have g48 : cx.tmps[48]? = some (.int .i64 m) := by obtain ⟨_, g, hv⟩ := Reg.pred hp 3 48 (by kernel_rfl) rfl rfl; exact g.trans (congrArg some hv)
      have e1 := HM1.out
      have e2 := HM2.out
      refine Reg.ok_value Reg.Old.refl (v := .int .i64 (m + 1)) (Reg.wanted_none rfl) ?_ rfl
      go_simp
      exact IntWalk.i64_in _ (by omega)
    · intro _ cx wc hB hp hq
      have g46 : cx.tmps[46]? = some (.int .i64 (hA hs 9 : Int)) := by obtain ⟨_, g, hv⟩ := Reg.pred hp 1 46 (by kernel_rfl) rfl rfl; exact g.trans (congrArg some hv)
      have g49 : cx.tmps[49]? = some (.int .i64 (m + 1)) := by obtain ⟨_, g, hv⟩ := Reg.pred hp 4 49 (by kernel_rfl) rfl rfl; exact g.trans (congrArg some hv)
      have e1 := HM1.out
      have e2 := HM2.out
      have e3 := HR1.out
      have e4 := HR2.out
      have e5 := HR3.out
      have e6 := hL9.out
      refine Reg.ok_value Reg.Old.refl (v := .int .i64 r) (Reg.wanted_none rfl) ?_ rfl
      go_simp
    · intro _ cx wc hB hp hq
      have g4 : cx.tmps[4]? = some (.pointer (some ⟨C + 2, 0, none⟩)) := (hq 4 (by kernel_rfl)).trans rfl
      refine Reg.ok_value Reg.Old.refl (v := .pointer (some ⟨C + 2, 1, none⟩)) (Reg.wanted_none rfl) ?_ rfl
      go_simp
    · exact fun h => absurd rfl h
  · intro cc wc hB hsz hdf hv ho
    have hfr := Reg.frame_eq [s0, .pointer (some ⟨C, 0, none⟩), .pointer (some ⟨C + 1, 0, none⟩), .func (Fn.func 31) #[] #[.pointer (some ⟨C, 0, none⟩)], .pointer (some ⟨C + 2, 0, none⟩), s5, s6, s7, s8, s9, s10, s11, s12, s13, s14, s15, s16, s17, s18, s19, s20, s21, s22, s23, s24, s25, s26, s27, s28, s29, s30, s31, s32, s33, s34, s35, s36, s37, s38, s39, s40, s41, s42, s43, s44, .func (Fn.func 31) #[] #[.pointer (some ⟨C, 0, none⟩)], .int .i64 (hA hs 9 : Int), .pointer (some ⟨C + 2, 2, none⟩), .int .i64 m, .int .i64 (m + 1), .int .i64 r, .pointer (some ⟨C + 2, 1, none⟩), s52, s53, s54, s55, s56, s57, s58, s59, s60, s61, s62, s63, s64, s65, s66, s67, s68, s69, s70, s71, s72, s73, s74, s75, s76, s77, s78, s79, s80, s81, s82] (by simpa using hsz) hdf ⟨((Reg.kept_but ho 0 (by kernel_rfl)).trans rfl), ((Reg.kept_but ho 1 (by kernel_rfl)).trans rfl), ((Reg.kept_but ho 2 (by kernel_rfl)).trans rfl), ((Reg.kept_but ho 3 (by kernel_rfl)).trans rfl), ((Reg.kept_but ho 4 (by kernel_rfl)).trans rfl), ((Reg.kept_but ho 5 (by kernel_rfl)).trans rfl), ((Reg.kept_but ho 6 (by kernel_rfl)).trans rfl), ((Reg.kept_but ho 7 (by kernel_rfl)).trans rfl), ((Reg.kept_but ho 8 (by kernel_rfl)).trans rfl), ((Reg.kept_but ho 9 (by kernel_rfl)).trans rfl), ((Reg.kept_but ho 10 (by kernel_rfl)).trans rfl), ((Reg.kept_but ho 11 (by kernel_rfl)).trans rfl), ((Reg.kept_but ho 12 (by kernel_rfl)).trans rfl), ((Reg.kept_but ho 13 (by kernel_rfl)).trans rfl), ((Reg.kept_but ho 14 (by kernel_rfl)).trans rfl), ((Reg.kept_but ho 15 (by kernel_rfl)).trans rfl), ((Reg.kept_but ho 16 (by kernel_rfl)).trans rfl), ((Reg.kept_but ho 17 (by kernel_rfl)).trans rfl), ((Reg.kept_but ho 18 (by kernel_rfl)).trans rfl), ((Reg.kept_but ho 19 (by kernel_rfl)).trans rfl), ((Reg.kept_but ho 20 (by kernel_rfl)).trans rfl), ((Reg.kept_but ho 21 (by kernel_rfl)).trans rfl), ((Reg.kept_but ho 22 (by kernel_rfl)).trans rfl), ((Reg.kept_but ho 23 (by kernel_rfl)).trans rfl), ((Reg.kept_but ho 24 (by kernel_rfl)).trans rfl), ((Reg.kept_but ho 25 (by kernel_rfl)).trans rfl), ((Reg.kept_but ho 26 (by kernel_rfl)).trans rfl), ((Reg.kept_but ho 27 (by kernel_rfl)).trans rfl), ((Reg.kept_but ho 28 (by kernel_rfl)).trans rfl), ((Reg.kept_but ho 29 (by kernel_rfl)).trans rfl), ((Reg.kept_but ho 30 (by kernel_rfl)).trans rfl), ((Reg.kept_but ho 31 (by kernel_rfl)).trans rfl), ((Reg.kept_but ho 32 (by kernel_rfl)).trans rfl), ((Reg.kept_but ho 33 (by kernel_rfl)).trans rfl), ((Reg.kept_but ho 34 (by kernel_rfl)).trans rfl), ((Reg.kept_but ho 35 (by kernel_rfl)).trans rfl), ((Reg.kept_but ho 36 (by kernel_rfl)).trans rfl), ((Reg.kept_but ho 37 (by kernel_rfl)).trans rfl), ((Reg.kept_but ho 38 (by kernel_rfl)).trans rfl), ((Reg.kept_but ho 39 (by kernel_rfl)).trans rfl), ((Reg.kept_but ho 40 (by kernel_rfl)).trans rfl), ((Reg.kept_but ho 41 (by kernel_rfl)).trans rfl), ((Reg.kept_but ho 42 (by kernel_rfl)).trans rfl), ((Reg.kept_but ho 43 (by kernel_rfl)).trans rfl), ((Reg.kept_but ho 44 (by kernel_rfl)).trans rfl), (by obtain ⟨_, g, hx⟩ := hv 0 _ 45 (by decide) rfl rfl; exact g.trans (congrArg some hx)), (by obtain ⟨_, g, hx⟩ := hv 1 _ 46 (by decide) rfl rfl; exact g.trans (congrArg some hx)), (by obtain ⟨_, g, hx⟩ := hv 2 _ 47 (by decide) rfl rfl; exact g.trans (congrArg some hx)), (by obtain ⟨_, g, hx⟩ := hv 3 _ 48 (by decide) rfl rfl; exact g.trans (congrArg some hx)), (by obtain ⟨_, g, hx⟩ := hv 4 _ 49 (by decide) rfl rfl; exact g.trans (congrArg some hx)), (by obtain ⟨_, g, hx⟩ := hv 5 _ 50 (by decide) rfl rfl; exact g.trans (congrArg some hx)), (by obtain ⟨_, g, hx⟩ := hv 6 _ 51 (by decide) rfl rfl; exact g.trans (congrArg some hx)), ((Reg.kept_but ho 52 (by kernel_rfl)).trans rfl), ((Reg.kept_but ho 53 (by kernel_rfl)).trans rfl), ((Reg.kept_but ho 54 (by kernel_rfl)).trans rfl), ((Reg.kept_but ho 55 (by kernel_rfl)).trans rfl), ((Reg.kept_but ho 56 (by kernel_rfl)).trans rfl), ((Reg.kept_but ho 57 (by kernel_rfl)).trans rfl), ((Reg.kept_but ho 58 (by kernel_rfl)).trans rfl), ((Reg.kept_but ho 59 (by kernel_rfl)).trans rfl), ((Reg.kept_but ho 60 (by kernel_rfl)).trans rfl), ((Reg.kept_but ho 61 (by kernel_rfl)).trans rfl), ((Reg.kept_but ho 62 (by kernel_rfl)).trans rfl), ((Reg.kept_but ho 63 (by kernel_rfl)).trans rfl), ((Reg.kept_but ho 64 (by kernel_rfl)).trans rfl), ((Reg.kept_but ho 65 (by kernel_rfl)).trans rfl), ((Reg.kept_but ho 66 (by kernel_rfl)).trans rfl), ((Reg.kept_but ho 67 (by kernel_rfl)).trans rfl), ((Reg.kept_but ho 68 (by kernel_rfl)).trans rfl), ((Reg.kept_but ho 69 (by kernel_rfl)).trans rfl), ((Reg.kept_but ho 70 (by kernel_rfl)).trans rfl), ((Reg.kept_but ho 71 (by kernel_rfl)).trans rfl), ((Reg.kept_but ho 72 (by kernel_rfl)).trans rfl), ((Reg.kept_but ho 73 (by kernel_rfl)).trans rfl), ((Reg.kept_but ho 74 (by kernel_rfl)).trans rfl), ((Reg.kept_but ho 75 (by kernel_rfl)).trans rfl), ((Reg.kept_but ho 76 (by kernel_rfl)).trans rfl), ((Reg.kept_but ho 77 (by kernel_rfl)).trans rfl), ((Reg.kept_but ho 78 (by kernel_rfl)).trans rfl), ((Reg.kept_but ho 79 (by kernel_rfl)).trans rfl), ((Reg.kept_but ho 80 (by kernel_rfl)).trans rfl), ((Reg.kept_but ho 81 (by kernel_rfl)).trans rfl), ((Reg.kept_but ho 82 (by kernel_rfl)).trans rfl), trivial⟩
    subst hfr
    have hPc := CellsAt.below hPd hB
    have hZc := CellsAt.below hZd hB
    have hWc := hWB.below hB
    have hBc := hBd.trans (Below.mono hB (Nat.le_trans hCw hBd.size))
    have hM : Mov (fun k => k = C + 2) wc (wc.setCell ⟨C + 2, 1, none⟩ (.int .i64 r)) := Mov.set (S := fun k => k = C + 2) (Mov.refl _ _) rfl 1 _
    have HP2 : Hid (PolAt (C + 2) [x0, r, m, x3, x4, x5, x6, x7, x8, x9] (.slice none 0 0) (wc.setCell ⟨C + 2, 1, none⟩ (.int .i64 r))) := Lib.hid (hPc.set 1 (.int .i64 r) (by simp [valsP]))
    have HZ2 := Lib.hid (cells_mov hZc hM (by omega))
    have HW2 := Lib.hid (hWc.mov hM (by omega) (fun a ha h0 e => by have := HPB.out a ha h0; omega))
    have HB2 := Lib.hid (hBc.trans (hM.below (N := C) (fun k hk => by omega) (by have := hZc.lt; omega)))
    have k1 : wc.cell? ⟨C + 2, 1, none⟩ = some (.int .i64 0) := hPc.cell 1 _ rfl
    have f1 : wc.frozen? ⟨C + 2, 1, none⟩ = false := hPc.fro 1 (.int .i64 0) rfl
    have lA := hPc.lt
    refine Reg.store_then (w2 := wc.setCell ⟨C + 2, 1, none⟩ (.int .i64 r)) ?_ rfl ?_
    · clear hPc hZc hWc hBc hM HP2 HZ2 HW2 HB2 hv ho hB
      go_simp
    exact hQ _ _ _ _ _ _ _ _ HW2.out HP2.out HZ2.out HB2.out
set_option maxRecDepth 100000 in
set_option maxHeartbeats 16000000 in
theorem wish_any (a0 a1 a2 a3 a4 a5 a6 a7 a8 a9 : Int) (q : Option Addr) (l d : Nat) (p : Option Addr) (hs : List Nat) (c : Nat) (w : World) (hl : hs.length ≤ 9223372036854775807) (hS : Shorts p hs w) :
    Calls Tryz.prog 10 #[.agg #[.int .i64 a0, .int .i64 a1, .int .i64 a2, .int .i64 a3, .int .i64 a4, .int .i64 a5, .int .i64 a6, .int .i64 a7, .int .i64 a8, .int .i64 a9, .slice q l d, .bool true, .slice p hs.length c]] w fun e w' => ∃ v, e = .returned (.agg (valsP (wishN hs) v)) ∧ Tr (fun _ => False) v (wishT hs (hA hs 11 % 3)) w' ∧ Below w.heap.size w w' := by
  obtain ⟨C, hC⟩ : ∃ C, w.heap.size = C := ⟨_, rfl⟩
  have hb0 := hA_lt hS 0
  have hb1 := hA_lt hS 1
  have hb2 := hA_lt hS 2
  have hb3 := hA_lt hS 3
  have hb4 := hA_lt hS 4
  have hb5 := hA_lt hS 5
  have hb6 := hA_lt hS 6
  have hb7 := hA_lt hS 7
  have hb8 := hA_lt hS 8
  have HPW : Hid (∀ a, p = some a → 0 < hs.length → a.block < C) := Lib.hid (fun a ha h0 => hC ▸ hS.blk a ha h0)
  have hB1 : Below w.heap.size w ((w.alloc (.cells #[.int .i64 a0, .int .i64 a1, .int .i64 a2, .int .i64 a3, .int .i64 a4, .int .i64 a5, .int .i64 a6, .int .i64 a7, .int .i64 a8, .int .i64 a9, .slice q l d, .bool true, .slice p hs.length c] 27)).alloc (.cells #[.int .i64 0, .int .i64 0, .int .i64 0, .int .i64 0, .int .i64 0, .int .i64 0, .int .i64 0, .int .i64 0, .int .i64 0, .int .i64 0, .slice none 0 0] 24)) := ((Below.refl _ _).alloc (Nat.le_refl _) _).alloc (by simp) _
  have hC1 : CellsAt C #[.int .i64 a0, .int .i64 a1, .int .i64 a2, .int .i64 a3, .int .i64 a4, .int .i64 a5, .int .i64 a6, .int .i64 a7, .int .i64 a8, .int .i64 a9, .slice q l d, .bool true, .slice p hs.length c] ((w.alloc (.cells #[.int .i64 a0, .int .i64 a1, .int .i64 a2, .int .i64 a3, .int .i64 a4, .int .i64 a5, .int .i64 a6, .int .i64 a7, .int .i64 a8, .int .i64 a9, .slice q l d, .bool true, .slice p hs.length c] 27)).alloc (.cells #[.int .i64 0, .int .i64 0, .int .i64 0, .int .i64 0, .int .i64 0, .int .i64 0, .int .i64 0, .int .i64 0, .int .i64 0, .int .i64 0, .slice none 0 0] 24)) := (CellsAt.newAt #[.int .i64 a0, .int .i64 a1, .int .i64 a2, .int .i64 a3, .int .i64 a4, .int .i64 a5, .int .i64 a6, .int .i64 a7, .int .i64 a8, .int .i64 a9, .slice q l d, .bool true, .slice p hs.length c] 27 w C hC.symm).past _
  have hZ1 : PolAt (C + 1) zeroN (.slice none 0 0) ((w.alloc (.cells #[.int .i64 a0, .int .i64 a1, .int .i64 a2, .int .i64 a3, .int .i64 a4, .int .i64 a5, .int .i64 a6, .int .i64 a7, .int .i64 a8, .int .i64 a9, .slice q l d, .bool true, .slice p hs.length c] 27)).alloc (.cells #[.int .i64 0, .int .i64 0, .int .i64 0, .int .i64 0, .int .i64 0, .int .i64 0, .int .i64 0, .int .i64 0, .int .i64 0, .int .i64 0, .slice none 0 0] 24)) := CellsAt.newAt #[.int .i64 0, .int .i64 0, .int .i64 0, .int .i64 0, .int .i64 0, .int .i64 0, .int .i64 0, .int .i64 0, .int .i64 0, .int .i64 0, .slice none 0 0] 24 _ _ (by simp [hC])
  have hS1 := hS.below hB1
  have hs1 : ((w.alloc (.cells #[.int .i64 a0, .int .i64 a1, .int .i64 a2, .int .i64 a3, .int .i64 a4, .int .i64 a5, .int .i64 a6, .int .i64 a7, .int .i64 a8, .int .i64 a9, .slice q l d, .bool true, .slice p hs.length c] 27)).alloc (.cells #[.int .i64 0, .int .i64 0, .int .i64 0, .int .i64 0, .int .i64 0, .int .i64 0, .int .i64 0, .int .i64 0, .int .i64 0, .int .i64 0, .slice none 0 0] 24)).heap.size = C + 2 := by simp [hC]
  have hWB1 : WB C p hs c ((w.alloc (.cells #[.int .i64 a0, .int .i64 a1, .int .i64 a2, .int .i64 a3, .int .i64 a4, .int .i64 a5, .int .i64 a6, .int .i64 a7, .int .i64 a8, .int .i64 a9, .slice q l d, .bool true, .slice p hs.length c] 27)).alloc (.cells #[.int .i64 0, .int .i64 0, .int .i64 0, .int .i64 0, .int .i64 0, .int .i64 0, .int .i64 0, .int .i64 0, .int .i64 0, .int .i64 0, .slice none 0 0] 24)) := ⟨hC1.lt, hC1.cell 12 _ rfl, hS1⟩
  have c0 : Calls Tryz.prog 31 #[.int .i64 0, .pointer (some ⟨C, 0, none⟩)] ((w.alloc (.cells #[.int .i64 a0, .int .i64 a1, .int .i64 a2, .int .i64 a3, .int .i64 a4, .int .i64 a5, .int .i64 a6, .int .i64 a7, .int .i64 a8, .int .i64 a9, .slice q l d, .bool true, .slice p hs.length c] 27)).alloc (.cells #[.int .i64 0, .int .i64 0, .int .i64 0, .int .i64 0, .int .i64 0, .int .i64 0, .int .i64 0, .int .i64 0, .int .i64 0, .int .i64 0, .slice none 0 0] 24)) fun e w' => e = .returned (.int .i64 (hA hs 0 : Int)) ∧ w' = ((w.alloc (.cells #[.int .i64 a0, .int .i64 a1, .int .i64 a2, .int .i64 a3, .int .i64 a4, .int .i64 a5, .int .i64 a6, .int .i64 a7, .int .i64 a8, .int .i64 a9, .slice q l d, .bool true, .slice p hs.length c] 27)).alloc (.cells #[.int .i64 0, .int .i64 0, .int .i64 0, .int .i64 0, .int .i64 0, .int .i64 0, .int .i64 0, .int .i64 0, .int .i64 0, .int .i64 0, .slice none 0 0] 24)) := wish1_of 0 hl hWB1
  have c1 : Calls Tryz.prog 31 #[.int .i64 1, .pointer (some ⟨C, 0, none⟩)] ((w.alloc (.cells #[.int .i64 a0, .int .i64 a1, .int .i64 a2, .int .i64 a3, .int .i64 a4, .int .i64 a5, .int .i64 a6, .int .i64 a7, .int .i64 a8, .int .i64 a9, .slice q l d, .bool true, .slice p hs.length c] 27)).alloc (.cells #[.int .i64 0, .int .i64 0, .int .i64 0, .int .i64 0, .int .i64 0, .int .i64 0, .int .i64 0, .int .i64 0, .int .i64 0, .int .i64 0, .slice none 0 0] 24)) fun e w' => e = .returned (.int .i64 (hA hs 1 : Int)) ∧ w' = ((w.alloc (.cells #[.int .i64 a0, .int .i64 a1, .int .i64 a2, .int .i64 a3, .int .i64 a4, .int .i64 a5, .int .i64 a6, .int .i64 a7, .int .i64 a8, .int .i64 a9, .slice q l d, .bool true, .slice p hs.length c] 27)).alloc (.cells #[.int .i64 0, .int .i64 0, .int .i64 0, .int .i64 0, .int .i64 0, .int .i64 0, .int .i64 0, .int .i64 0, .int .i64 0, .int .i64 0, .slice none 0 0] 24)) := wish1_of 1 hl hWB1
  have c2 : Calls Tryz.prog 31 #[.int .i64 2, .pointer (some ⟨C, 0, none⟩)] ((w.alloc (.cells #[.int .i64 a0, .int .i64 a1, .int .i64 a2, .int .i64 a3, .int .i64 a4, .int .i64 a5, .int .i64 a6, .int .i64 a7, .int .i64 a8, .int .i64 a9, .slice q l d, .bool true, .slice p hs.length c] 27)).alloc (.cells #[.int .i64 0, .int .i64 0, .int .i64 0, .int .i64 0, .int .i64 0, .int .i64 0, .int .i64 0, .int .i64 0, .int .i64 0, .int .i64 0, .slice none 0 0] 24)) fun e w' => e = .returned (.int .i64 (hA hs 2 : Int)) ∧ w' = ((w.alloc (.cells #[.int .i64 a0, .int .i64 a1, .int .i64 a2, .int .i64 a3, .int .i64 a4, .int .i64 a5, .int .i64 a6, .int .i64 a7, .int .i64 a8, .int .i64 a9, .slice q l d, .bool true, .slice p hs.length c] 27)).alloc (.cells #[.int .i64 0, .int .i64 0, .int .i64 0, .int .i64 0, .int .i64 0, .int .i64 0, .int .i64 0, .int .i64 0, .int .i64 0, .int .i64 0, .slice none 0 0] 24)) := wish1_of 2 hl hWB1
  have c3 : Calls Tryz.prog 31 #[.int .i64 3, .pointer (some ⟨C, 0, none⟩)] ((w.alloc (.cells #[.int .i64 a0, .int .i64 a1, .int .i64 a2, .int .i64 a3, .int .i64 a4, .int .i64 a5, .int .i64 a6, .int .i64 a7, .int .i64 a8, .int .i64 a9, .slice q l d, .bool true, .slice p hs.length c] 27)).alloc (.cells #[.int .i64 0, .int .i64 0, .int .i64 0, .int .i64 0, .int .i64 0, .int .i64 0, .int .i64 0, .int .i64 0, .int .i64 0, .int .i64 0, .slice none 0 0] 24)) fun e w' => e = .returned (.int .i64 (hA hs 3 : Int)) ∧ w' = ((w.alloc (.cells #[.int .i64 a0, .int .i64 a1, .int .i64 a2, .int .i64 a3, .int .i64 a4, .int .i64 a5, .int .i64 a6, .int .i64 a7, .int .i64 a8, .int .i64 a9, .slice q l d, .bool true, .slice p hs.length c] 27)).alloc (.cells #[.int .i64 0, .int .i64 0, .int .i64 0, .int .i64 0, .int .i64 0, .int .i64 0, .int .i64 0, .int .i64 0, .int .i64 0, .int .i64 0, .slice none 0 0] 24)) := wish1_of 3 hl hWB1
  have c4 : Calls Tryz.prog 31 #[.int .i64 4, .pointer (some ⟨C, 0, none⟩)] ((w.alloc (.cells #[.int .i64 a0, .int .i64 a1, .int .i64 a2, .int .i64 a3, .int .i64 a4, .int .i64 a5, .int .i64 a6, .int .i64 a7, .int .i64 a8, .int .i64 a9, .slice q l d, .bool true, .slice p hs.length c] 27)).alloc (.cells #[.int .i64 0, .int .i64 0, .int .i64 0, .int .i64 0, .int .i64 0, .int .i64 0, .int .i64 0, .int .i64 0, .int .i64 0, .int .i64 0, .slice none 0 0] 24)) fun e w' => e = .returned (.int .i64 (hA hs 4 : Int)) ∧ w' = ((w.alloc (.cells #[.int .i64 a0, .int .i64 a1, .int .i64 a2, .int .i64 a3, .int .i64 a4, .int .i64 a5, .int .i64 a6, .int .i64 a7, .int .i64 a8, .int .i64 a9, .slice q l d, .bool true, .slice p hs.length c] 27)).alloc (.cells #[.int .i64 0, .int .i64 0, .int .i64 0, .int .i64 0, .int .i64 0, .int .i64 0, .int .i64 0, .int .i64 0, .int .i64 0, .int .i64 0, .slice none 0 0] 24)) := wish1_of 4 hl hWB1
  have c5 : Calls Tryz.prog 31 #[.int .i64 5, .pointer (some ⟨C, 0, none⟩)] ((w.alloc (.cells #[.int .i64 a0, .int .i64 a1, .int .i64 a2, .int .i64 a3, .int .i64 a4, .int .i64 a5, .int .i64 a6, .int .i64 a7, .int .i64 a8, .int .i64 a9, .slice q l d, .bool true, .slice p hs.length c] 27)).alloc (.cells #[.int .i64 0, .int .i64 0, .int .i64 0, .int .i64 0, .int .i64 0, .int .i64 0, .int .i64 0, .int .i64 0, .int .i64 0, .int .i64 0, .slice none 0 0] 24)) fun e w' => e = .returned (.int .i64 (hA hs 5 : Int)) ∧ w' = ((w.alloc (.cells #[.int .i64 a0, .int .i64 a1, .int .i64 a2, .int .i64 a3, .int .i64 a4, .int .i64 a5, .int .i64 a6, .int .i64 a7, .int .i64 a8, .int .i64 a9, .slice q l d, .bool true, .slice p hs.length c] 27)).alloc (.cells #[.int .i64 0, .int .i64 0, .int .i64 0, .int .i64 0, .int .i64 0, .int .i64 0, .int .i64 0, .int .i64 0, .int .i64 0, .int .i64 0, .slice none 0 0] 24)) := wish1_of 5 hl hWB1
  have c6 : Calls Tryz.prog 31 #[.int .i64 6, .pointer (some ⟨C, 0, none⟩)] ((w.alloc (.cells #[.int .i64 a0, .int .i64 a1, .int .i64 a2, .int .i64 a3, .int .i64 a4, .int .i64 a5, .int .i64 a6, .int .i64 a7, .int .i64 a8, .int .i64 a9, .slice q l d, .bool true, .slice p hs.length c] 27)).alloc (.cells #[.int .i64 0, .int .i64 0, .int .i64 0, .int .i64 0, .int .i64 0, .int .i64 0, .int .i64 0, .int .i64 0, .int .i64 0, .int .i64 0, .slice none 0 0] 24)) fun e w' => e = .returned (.int .i64 (hA hs 6 : Int)) ∧ w' = ((w.alloc (.cells #[.int .i64 a0, .int .i64 a1, .int .i64 a2, .int .i64 a3, .int .i64 a4, .int .i64 a5, .int .i64 a6, .int .i64 a7, .int .i64 a8, .int .i64 a9, .slice q l d, .bool true, .slice p hs.length c] 27)).alloc (.cells #[.int .i64 0, .int .i64 0, .int .i64 0, .int .i64 0, .int .i64 0, .int .i64 0, .int .i64 0, .int .i64 0, .int .i64 0, .int .i64 0, .slice none 0 0] 24)) := wish1_of 6 hl hWB1
  have c7 : Calls Tryz.prog 31 #[.int .i64 7, .pointer (some ⟨C, 0, none⟩)] ((w.alloc (.cells #[.int .i64 a0, .int .i64 a1, .int .i64 a2, .int .i64 a3, .int .i64 a4, .int .i64 a5, .int .i64 a6, .int .i64 a7, .int .i64 a8, .int .i64 a9, .slice q l d, .bool true, .slice p hs.length c] 27)).alloc (.cells #[.int .i64 0, .int .i64 0, .int .i64 0, .int .i64 0, .int .i64 0, .int .i64 0, .int .i64 0, .int .i64 0, .int .i64 0, .int .i64 0, .slice none 0 0] 24)) fun e w' => e = .returned (.int .i64 (hA hs 7 : Int)) ∧ w' = ((w.alloc (.cells #[.int .i64 a0, .int .i64 a1, .int .i64 a2, .int .i64 a3, .int .i64 a4, .int .i64 a5, .int .i64 a6, .int .i64 a7, .int .i64 a8, .int .i64 a9, .slice q l d, .bool true, .slice p hs.length c] 27)).alloc (.cells #[.int .i64 0, .int .i64 0, .int .i64 0, .int .i64 0, .int .i64 0, .int .i64 0, .int .i64 0, .int .i64 0, .int .i64 0, .int .i64 0, .slice none 0 0] 24)) := wish1_of 7 hl hWB1
  have c8 : Calls Tryz.prog 31 #[.int .i64 8, .pointer (some ⟨C, 0, none⟩)] ((w.alloc (.cells #[.int .i64 a0, .int .i64 a1, .int .i64 a2, .int .i64 a3, .int .i64 a4, .int .i64 a5, .int .i64 a6, .int .i64 a7, .int .i64 a8, .int .i64 a9, .slice q l d, .bool true, .slice p hs.length c] 27)).alloc (.cells #[.int .i64 0, .int .i64 0, .int .i64 0, .int .i64 0, .int .i64 0, .int .i64 0, .int .i64 0, .int .i64 0, .int .i64 0, .int .i64 0, .slice none 0 0] 24)) fun e w' => e = .returned (.int .i64 (hA hs 8 : Int)) ∧ w' = ((w.alloc (.cells #[.int .i64 a0, .int .i64 a1, .int .i64 a2, .int .i64 a3, .int .i64 a4, .int .i64 a5, .int .i64 a6, .int .i64 a7, .int .i64 a8, .int .i64 a9, .slice q l d, .bool true, .slice p hs.length c] 27)).alloc (.cells #[.int .i64 0, .int .i64 0, .int .i64 0, .int .i64 0, .int .i64 0, .int .i64 0, .int .i64 0, .int .i64 0, .int .i64 0, .int .i64 0, .slice none 0 0] 24)) := wish1_of 8 hl hWB1
  have HB1 := Lib.hid hB1
  have HW1 := Lib.hid hWB1
  have HZ1 := Lib.hid hZ1
  clear hB1 hC1 hS1 hS hWB1 hZ1
  rw [hC]
  go_enter Tryz.func10, Tryz.ntmps10
  go_wp2_with fail
  refine c0.mono ?_
  rintro e w2 ⟨rfl, rfl⟩
  clear c0
  go_wp2_with fail
  refine c1.mono ?_
  rintro e w3 ⟨rfl, rfl⟩
  clear c1
  go_wp2_with fail
  refine c2.mono ?_
  rintro e w4 ⟨rfl, rfl⟩
  clear c2
  go_wp2_with fail
  refine c3.mono ?_
  rintro e w5 ⟨rfl, rfl⟩
  clear c3
  go_wp2_with fail
  refine c4.mono ?_
  rintro e w6 ⟨rfl, rfl⟩
  clear c4
  go_wp2_with fail
  refine c5.mono ?_
  rintro e w7 ⟨rfl, rfl⟩
  clear c5
  go_wp2_with fail
  refine c6.mono ?_
  rintro e w8 ⟨rfl, rfl⟩
  clear c6
  go_wp2_with fail
  refine c7.mono ?_
  rintro e w9 ⟨rfl, rfl⟩
  clear c7
  go_wp2_with fail
  refine c8.mono ?_
  rintro e w10 ⟨rfl, rfl⟩
  clear c8
  go_upto_region 5 with fail
  have hA3 : Below (C + 2) ((w.alloc (.cells #[.int .i64 a0, .int .i64 a1, .int .i64 a2, .int .i64 a3, .int .i64 a4, .int .i64 a5, .int .i64 a6, .int .i64 a7, .int .i64 a8, .int .i64 a9, .slice q l d, .bool true, .slice p hs.length c] 27)).alloc (.cells #[.int .i64 0, .int .i64 0, .int .i64 0, .int .i64 0, .int .i64 0, .int .i64 0, .int .i64 0, .int .i64 0, .int .i64 0, .int .i64 0, .slice none 0 0] 24)) (((w.alloc (.cells #[.int .i64 a0, .int .i64 a1, .int .i64 a2, .int .i64 a3, .int .i64 a4, .int .i64 a5, .int .i64 a6, .int .i64 a7, .int .i64 a8, .int .i64 a9, .slice q l d, .bool true, .slice p hs.length c] 27)).alloc (.cells #[.int .i64 0, .int .i64 0, .int .i64 0, .int .i64 0, .int .i64 0, .int .i64 0, .int .i64 0, .int .i64 0, .int .i64 0, .int .i64 0, .slice none 0 0] 24)).alloc (.cells #[.int .i64 (1 + (hA hs 0 : Int) % 20), .int .i64 0, .int .i64 ((hA hs 1 : Int) % 40), .int .i64 (1 + (hA hs 2 : Int) % 16), .int .i64 (4 + (hA hs 3 : Int) % 7), .int .i64 ((hA hs 4 : Int) % 5), .int .i64 (1 + (hA hs 5 : Int) % 4), .int .i64 (1 + (hA hs 6 : Int) % 40), .int .i64 ((hA hs 7 : Int) % 30), .int .i64 ((hA hs 8 : Int) % 10), .slice none 0 0] 24)) := (Below.refl _ _).alloc (by rw [hs1]; exact Nat.le_refl _) _
  have HB3 : Hid (Below C w (((w.alloc (.cells #[.int .i64 a0, .int .i64 a1, .int .i64 a2, .int .i64 a3, .int .i64 a4, .int .i64 a5, .int .i64 a6, .int .i64 a7, .int .i64 a8, .int .i64 a9, .slice q l d, .bool true, .slice p hs.length c] 27)).alloc (.cells #[.int .i64 0, .int .i64 0, .int .i64 0, .int .i64 0, .int .i64 0, .int .i64 0, .int .i64 0, .int .i64 0, .int .i64 0, .int .i64 0, .slice none 0 0] 24)).alloc (.cells #[.int .i64 (1 + (hA hs 0 : Int) % 20), .int .i64 0, .int .i64 ((hA hs 1 : Int) % 40), .int .i64 (1 + (hA hs 2 : Int) % 16), .int .i64 (4 + (hA hs 3 : Int) % 7), .int .i64 ((hA hs 4 : Int) % 5), .int .i64 (1 + (hA hs 5 : Int) % 4), .int .i64 (1 + (hA hs 6 : Int) % 40), .int .i64 ((hA hs 7 : Int) % 30), .int .i64 ((hA hs 8 : Int) % 10), .slice none 0 0] 24))) := Lib.hid (by have := HB1.out.trans (hA3.mono (by omega)); rwa [hC] at this)
  have HW3 := Lib.hid (HW1.out.below (hA3.mono (by rw [hs1]; exact Nat.le_refl _)))
  have HZ3 := Lib.hid (CellsAt.belowAt HZ1.out hA3 (by omega))
  have HD3 : Hid (PolAt (C + 2) [1 + (hA hs 0 : Int) % 20, 0, (hA hs 1 : Int) % 40, 1 + (hA hs 2 : Int) % 16, 4 + (hA hs 3 : Int) % 7, (hA hs 4 : Int) % 5, 1 + (hA hs 5 : Int) % 4, 1 + (hA hs 6 : Int) % 40, (hA hs 7 : Int) % 30, (hA hs 8 : Int) % 10] (.slice none 0 0) (((w.alloc (.cells #[.int .i64 a0, .int .i64 a1, .int .i64 a2, .int .i64 a3, .int .i64 a4, .int .i64 a5, .int .i64 a6, .int .i64 a7, .int .i64 a8, .int .i64 a9, .slice q l d, .bool true, .slice p hs.length c] 27)).alloc (.cells #[.int .i64 0, .int .i64 0, .int .i64 0, .int .i64 0, .int .i64 0, .int .i64 0, .int .i64 0, .int .i64 0, .int .i64 0, .int .i64 0, .slice none 0 0] 24)).alloc (.cells #[.int .i64 (1 + (hA hs 0 : Int) % 20), .int .i64 0, .int .i64 ((hA hs 1 : Int) % 40), .int .i64 (1 + (hA hs 2 : Int) % 16), .int .i64 (4 + (hA hs 3 : Int) % 7), .int .i64 ((hA hs 4 : Int) % 5), .int .i64 (1 + (hA hs 5 : Int) % 4), .int .i64 (1 + (hA hs 6 : Int) % 40), .int .i64 ((hA hs 7 : Int) % 30), .int .i64 ((hA hs 8 : Int) % 10), .slice none 0 0] 24))) := Lib.hid (CellsAt.newAt #[.int .i64 (1 + (hA hs 0 : Int) % 20), .int .i64 0, .int .i64 ((hA hs 1 : Int) % 40), .int .i64 (1 + (hA hs 2 : Int) % 16), .int .i64 (4 + (hA hs 3 : Int) % 7), .int .i64 ((hA hs 4 : Int) % 5), .int .i64 (1 + (hA hs 5 : Int) % 4), .int .i64 (1 + (hA hs 6 : Int) % 40), .int .i64 ((hA hs 7 : Int) % 30), .int .i64 ((hA hs 8 : Int) % 10), .slice none 0 0] 24 _ _ hs1.symm)
  clear hA3 hs1 HB1 HW1 HZ1
  generalize ((w.alloc (.cells #[.int .i64 a0, .int .i64 a1, .int .i64 a2, .int .i64 a3, .int .i64 a4, .int .i64 a5, .int .i64 a6, .int .i64 a7, .int .i64 a8, .int .i64 a9, .slice q l d, .bool true, .slice p hs.length c] 27)).alloc (.cells #[.int .i64 0, .int .i64 0, .int .i64 0, .int .i64 0, .int .i64 0, .int .i64 0, .int .i64 0, .int .i64 0, .int .i64 0, .int .i64 0, .slice none 0 0] 24)).alloc (.cells #[.int .i64 (1 + (hA hs 0 : Int) % 20), .int .i64 0, .int .i64 ((hA hs 1 : Int) % 40), .int .i64 (1 + (hA hs 2 : Int) % 16), .int .i64 (4 + (hA hs 3 : Int) % 7), .int .i64 ((hA hs 4 : Int) % 5), .int .i64 (1 + (hA hs 5 : Int) % 4), .int .i64 (1 + (hA hs 6 : Int) % 40), .int .i64 ((hA hs 7 : Int) % 30), .int .i64 ((hA hs 8 : Int) % 10), .slice none 0 0] 24) = wx at *
  refine wish_five _ (by kernel_rfl) _ w wx C p hs c (1 + (hA hs 0 : Int) % 20) ((hA hs 1 : Int) % 40) (1 + (hA hs 2 : Int) % 16) (4 + (hA hs 3 : Int) % 7) ((hA hs 4 : Int) % 5) (1 + (hA hs 5 : Int) % 4) (1 + (hA hs 6 : Int) % 40) ((hA hs 7 : Int) % 30) ((hA hs 8 : Int) % 10) hl (by omega) (by omega) HPW.out HW3.out HD3.out HZ3.out HB3.out (by omega) _ _ _ _ _ _ _ _ _ _ _ _ _ _ _ _ _ _ _ _ _ _ _ _ _ _ _ _ _ _ _ _ _ _ _ _ _ _ _ _ _ _ _ _ _ _ _ _ _ _ _ _ _ _ _ _ _ _ _ _ _ _ _ _ _ _ _ _ _ _ _ _ _ _ _ _ _ _ _ ?_
  intro W' z45 z46 z47 z48 z49 z50 z51 g1 g2 g3 g4
  rename_i K hK
  refine hK _ _ ?_
  clear hK
  exact wish_six _ (by kernel_rfl) w W' C p hs c (1 + (hA hs 0 : Int) % 20) ((hA hs 9 : Int) % ((hA hs 1 : Int) % 40 + 1)) ((hA hs 1 : Int) % 40) (1 + (hA hs 2 : Int) % 16) (4 + (hA hs 3 : Int) % 7) ((hA hs 4 : Int) % 5) (1 + (hA hs 5 : Int) % 4) (1 + (hA hs 6 : Int) % 40) ((hA hs 7 : Int) % 30) ((hA hs 8 : Int) % 10) hl HPW.out g1 g2 g3 g4 (by omega) _ _ _ _ _ _ _ _ _ _ _ _ _ _ _ _ _ _ _ _ _ _ _ _ _ _ _ _ _ _ _ _ _ _ _ _ _ _ _ _ _ _ _ _ _ _ _ _ _ _ _ _ _ _ _ _ _ _ _ _ _ _ _ _ _ _ _ _ _ _ _ _ _ _ _ _ _ _ _
end Go.Proofs.YtcgkgdhbipbnfaaGreatDoor.Po

