/- A quota rolls: its gate. A quota rolls. A quota rolls. -/
import Derived.Test.YtcgkgdhbipbnfaaGreatDoorQuN
import Derived.Test.YtcgkgdhbipbnfaaGreatDoorQuE
import Derived.Test.YtcgkgdhbipbnfaaGreatDoorReg4
import Derived.Test.YtcgkgdhbipbnfaaGreatDoorPoWk
namespace Go.Proofs.YtcgkgdhbipbnfaaGreatDoor.Qu
open Go Go.RowKit

/-- What each operation yields. -/
def RoPhi (B _ E M r b : Nat) (cl : Bool) (lo hi x0 x1 x2 x5 x6 x7 x8 x9 : Int) (q : Option Addr) (l d : Nat) : Nat → Value → World → Prop
  | i, v, _ => v = ([.pointer (some ⟨B, 0, none⟩), .pointer (some ⟨B, 0, none⟩), .pointer (some ⟨B, 0, none⟩), .pointer (some ⟨B, 1, none⟩), .agg #[.bool cl, .int .u64 lo, .int .u64 hi], .pointer (some ⟨E, 0, none⟩), .int .u64 ((M : Int)), .agg #[.bool (cl && decide (lo < (M : Int))), .int .u64 lo, .int .u64 hi], .agg #[.int .i64 x0, .int .i64 x1, .int .i64 x2, .int .i64 (r : Int), .int .i64 (b : Int), .int .i64 x5, .int .i64 x6, .int .i64 x7, .int .i64 x8, .int .i64 x9, .slice q l d], .tuple #[.int .u64 x1, .int .u64 x2], .int .u64 x1, .int .u64 x2, .agg #[.bool (cl && decide (lo < (M : Int))), .int .u64 (min x1 x2), .int .u64 x2], .pointer (some ⟨B, 0, none⟩), .pointer (some ⟨B, 1, none⟩), undef] : List Value).getD i undef
theorem RoPhi.stays {B X E M r b : Nat} {cl : Bool} {lo hi x0 x1 x2 x5 x6 x7 x8 x9 : Int} {q : Option Addr} {l d : Nat} : ∀ i v w w', RoPhi B X E M r b cl lo hi x0 x1 x2 x5 x6 x7 x8 x9 q l d i v w → Reg.Old w w' → RoPhi B X E M r b cl lo hi x0 x1 x2 x5 x6 x7 x8 x9 q l d i v w' := fun _ _ _ _ h _ => h
set_option maxRecDepth 100000 in
set_option maxHeartbeats 16000000 in
theorem roll_6 (C0 : Code) (hC0 : Tryz.f15.body.bind (Po.findG 6) = some C0) (Q : Exit → Act → World → Prop) {base : Nat} {a : Ad} {s : St} (w3 : World) (h : Qo base a s w3) (X E be : Nat) (le : List UInt8) (x0 x1 x2 x5 x6 x7 x8 x9 : Int) (r b M : Nat) (q : Option Addr) (l d : Nat) (hP : CellsAt X #[.int .i64 x0, .int .i64 x1, .int .i64 x2, .int .i64 (r : Int), .int .i64 (b : Int), .int .i64 x5, .int .i64 x6, .int .i64 x7, .int .i64 x8, .int .i64 x9, .slice q l d] w3) (hXB : X ≠ a.B) (h1 : 0 ≤ x1 ∧ x1 ≤ 1000000000) (h2 : 0 ≤ x2 ∧ x2 ≤ 1000000000)
    (hE : Hl.Sk E be le w3) (hL : Hl.Low le) (hMe : Hl.estOf be le = M) (s1 s2 s3 s4 s6 s7 s9 s10 s11 s12 s13 s14 s15 s16 s17 s18 s19 s20 s21 s22 s23 s24 s25 s26 s27 s28 s29 s30 s31 s32 s33 s34 s35 s36 s37 s38 s39 s40 s41 s42 s43 s44 s45 s46 s47 s48 s49 s50 s51 s52 s53 s54 s55 s56 s57 s58 s59 s60 s61 s62 s63 s64 s65 s66 s67 s68 s69 s70 s71 s72 s73 s74 s75 s76 s77 : Value)
    (hQ : ∀ (W' : World) (z34 z35 z36 z37 z38 z39 z40 z41 z42 z43 z44 z45 z46 z47 z48 : Value), Qo base a ⟨s.win, s.cl && decide (s.lo < (M : Int)), min x1 x2, x2, s.b, s.now, s.old, s.room, s.l⟩ W' → Tq.Mov (fun k => k = a.B) w3 W' → CellsAt X #[.int .i64 x0, .int .i64 x1, .int .i64 x2, .int .i64 (r : Int), .int .i64 (b : Int), .int .i64 x5, .int .i64 x6, .int .i64 x7, .int .i64 x8, .int .i64 x9, .slice q l d] W' → Q .normal { tmps := (.pointer (some ⟨a.B, 0, none⟩) :: s1 :: s2 :: s3 :: s4 :: .pointer (some ⟨X, 0, none⟩) :: s6 :: s7 :: .pointer (some ⟨E, 0, none⟩) :: s9 :: s10 :: s11 :: s12 :: s13 :: s14 :: s15 :: s16 :: s17 :: s18 :: s19 :: s20 :: s21 :: s22 :: s23 :: s24 :: s25 :: s26 :: s27 :: s28 :: s29 :: s30 :: s31 :: s32 :: s33 :: z34 :: z35 :: z36 :: z37 :: z38 :: z39 :: z40 :: z41 :: z42 :: z43 :: z44 :: z45 :: z46 :: z47 :: z48 :: s49 :: s50 :: s51 :: s52 :: s53 :: s54 :: s55 :: s56 :: s57 :: s58 :: s59 :: s60 :: s61 :: s62 :: s63 :: s64 :: s65 :: s66 :: s67 :: s68 :: s69 :: s70 :: s71 :: s72 :: s73 :: s74 :: s75 :: s76 :: s77 :: []).toArray, defers := [] } W') :
    Code.wp Tryz.prog C0 Q { tmps := (.pointer (some ⟨a.B, 0, none⟩) :: s1 :: s2 :: s3 :: s4 :: .pointer (some ⟨X, 0, none⟩) :: s6 :: s7 :: .pointer (some ⟨E, 0, none⟩) :: s9 :: s10 :: s11 :: s12 :: s13 :: s14 :: s15 :: s16 :: s17 :: s18 :: s19 :: s20 :: s21 :: s22 :: s23 :: s24 :: s25 :: s26 :: s27 :: s28 :: s29 :: s30 :: s31 :: s32 :: s33 :: s34 :: s35 :: s36 :: s37 :: s38 :: s39 :: s40 :: s41 :: s42 :: s43 :: s44 :: s45 :: s46 :: s47 :: s48 :: s49 :: s50 :: s51 :: s52 :: s53 :: s54 :: s55 :: s56 :: s57 :: s58 :: s59 :: s60 :: s61 :: s62 :: s63 :: s64 :: s65 :: s66 :: s67 :: s68 :: s69 :: s70 :: s71 :: s72 :: s73 :: s74 :: s75 :: s76 :: s77 :: []).toArray, defers := [] } w3 := by
  cases hC0
  have HQ := Lib.hid h
  have HP := Lib.hid hP
  have HX1 := Lib.hid h1
  have HX2 := Lib.hid h2
  have HXB := Lib.hid hXB
  obtain ⟨B, nN, nP, nT, v0⟩ := a
  obtain ⟨win, cl, lo, hi, sb, now, old, room, li⟩ := s
  have HC : Hid (CellsAt B #[.int .i64 win, .bool cl, .int .u64 lo, .int .u64 hi, .pointer (some ⟨nN, 0, none⟩), .pointer (some ⟨nP, 0, none⟩), .pointer (some ⟨nT, 0, none⟩)] w3) := Lib.hid h.c
  have HES : Hid (∀ wc, Reg.Old w3.drew wc → Calls Tryz.prog 40 #[.pointer (some ⟨E, 0, none⟩)] wc fun e w' => e = .returned (.int .u64 (M : Int)) ∧ Below wc.heap.size wc w') := Lib.hid (fun wc hB => by rw [← hMe]; exact Hl.est_any (hE.drew.below hB) hL)
  have HTU : Hid (∀ W, Calls Tryz.prog 39 #[.agg #[.bool cl, .int .u64 lo, .int .u64 hi], .int .u64 (M : Int)] W fun e w' => e = .returned (.agg #[.bool (cl && decide (lo < (M : Int))), .int .u64 lo, .int .u64 hi]) ∧ Below W.heap.size W w') := Lib.hid (fun W => Ga.gturn cl lo hi (M : Int) W)
  have HBO : Hid (∀ W, Calls Tryz.prog 42 #[.agg #[.int .i64 x0, .int .i64 x1, .int .i64 x2, .int .i64 (r : Int), .int .i64 (b : Int), .int .i64 x5, .int .i64 x6, .int .i64 x7, .int .i64 x8, .int .i64 x9, .slice q l d]] W fun e w' => e = .returned (.tuple #[.int .u64 x1, .int .u64 x2]) ∧ Below W.heap.size W w') := Lib.hid (fun W => (bounds_any x0 x1 x2 (r : Int) (b : Int) x5 x6 x7 x8 x9 q l d h1 h2 W).mono (fun e w' h => ⟨h.1, h.2.1⟩))
  have HSE : Hid (∀ W, Calls Tryz.prog 41 #[.agg #[.bool (cl && decide (lo < (M : Int))), .int .u64 lo, .int .u64 hi], .int .u64 x1, .int .u64 x2] W fun e w' => e = .returned (.agg #[.bool (cl && decide (lo < (M : Int))), .int .u64 (min x1 x2), .int .u64 x2]) ∧ Below W.heap.size W w') := Lib.hid (fun W => Ga.gset (cl && decide (lo < (M : Int))) lo hi x1 x2 W)
  clear h hP h1 h2 hXB hE hL hMe
  refine Reg.wp_region_last2 (n := 78) 15 (RoPhi B X E M r b cl lo hi x0 x1 x2 x5 x6 x7 x8 x9 q l d) (by kernel_rfl) rfl (by kernel_rfl) (by kernel_rfl) rfl RoPhi.stays ?_ ?_
  · refine ⟨?_, ?_, ?_, ?_, ?_, ?_, ?_, ?_, ?_, ?_, ?_, ?_, ?_, ?_, ?_, ?_, trivial⟩
    · intro _ cx wc hB hp hs
      have g0 : cx.tmps[0]? = some (.pointer (some ⟨B, 0, none⟩)) := (hs 0 (by kernel_rfl)).trans rfl
      refine Reg.ok_value Reg.Old.refl (v := .pointer (some ⟨B, 0, none⟩)) (Reg.wanted_none rfl) ?_ rfl
      go_simp
    · intro _ cx wc hB hp hs
      have g0 : cx.tmps[0]? = some (.pointer (some ⟨B, 0, none⟩)) := (hs 0 (by kernel_rfl)).trans rfl
      refine Reg.ok_value Reg.Old.refl (v := .pointer (some ⟨B, 0, none⟩)) (Reg.wanted_none rfl) ?_ rfl
      go_simp
    · intro _ cx wc hB hp hs
      have g35 : cx.tmps[35]? = some (.pointer (some ⟨B, 0, none⟩)) := by obtain ⟨_, g, hv⟩ := Reg.pred hp 1 35 (by kernel_rfl) rfl rfl; exact g.trans (congrArg some hv)
      refine Reg.ok_value Reg.Old.refl (v := .pointer (some ⟨B, 0, none⟩)) (Reg.wanted_none rfl) ?_ rfl
      go_simp
    · intro _ cx wc hB hp hs
      have g36 : cx.tmps[36]? = some (.pointer (some ⟨B, 0, none⟩)) := by obtain ⟨_, g, hv⟩ := Reg.pred hp 2 36 (by kernel_rfl) rfl rfl; exact g.trans (congrArg some hv)
      refine Reg.ok_value Reg.Old.refl (v := .pointer (some ⟨B, 1, none⟩)) (Reg.wanted_none rfl) ?_ rfl
      go_simp
    · intro _ cx wc hB hp hs
      have g37 : cx.tmps[37]? = some (.pointer (some ⟨B, 1, none⟩)) := by obtain ⟨_, g, hv⟩ := Reg.pred hp 3 37 (by kernel_rfl) rfl rfl; exact g.trans (congrArg some hv)
      have k1 := (HC.out.drew.below hB).cell 1 _ rfl
      have k2 := (HC.out.drew.below hB).cell 2 _ rfl
      have k3 := (HC.out.drew.below hB).cell 3 _ rfl
      simp only [List.getElem_toArray, List.getElem_cons_zero, List.getElem_cons_succ] at k1 k2 k3
      refine Reg.ok_value Reg.Old.refl (v := .agg #[.bool cl, .int .u64 lo, .int .u64 hi]) (Reg.wanted_none rfl) ?_ rfl
      go_simp
    · intro _ cx wc hB hp hs
      have g8 : cx.tmps[8]? = some (.pointer (some ⟨E, 0, none⟩)) := (hs 8 (by kernel_rfl)).trans rfl
      refine Reg.ok_value Reg.Old.refl (v := .pointer (some ⟨E, 0, none⟩)) (Reg.wanted_none rfl) ?_ rfl
      go_simp
    · intro _ cx wc hB hp hs
      have g39 : cx.tmps[39]? = some (.pointer (some ⟨E, 0, none⟩)) := by obtain ⟨_, g, hv⟩ := Reg.pred hp 5 39 (by kernel_rfl) rfl rfl; exact g.trans (congrArg some hv)
      refine Reg.ok_call (f := 40) (args := #[.pointer (some ⟨E, 0, none⟩)]) (Reg.wanted_none rfl) (by go_simp) ((HES.out wc hB).mono ?_)
      rintro e w' ⟨rfl, hB2⟩
      exact ⟨_, rfl, hB2, rfl⟩
    · intro _ cx wc hB hp hs
      have g38 : cx.tmps[38]? = some (.agg #[.bool cl, .int .u64 lo, .int .u64 hi]) := by obtain ⟨_, g, hv⟩ := Reg.pred hp 4 38 (by kernel_rfl) rfl rfl; exact g.trans (congrArg some hv)
      have g40 : cx.tmps[40]? = some (.int .u64 ((M : Int))) := by obtain ⟨_, g, hv⟩ := Reg.pred hp 6 40 (by kernel_rfl) rfl rfl; exact g.trans (congrArg some hv)
      refine Reg.ok_call (f := 39) (args := #[.agg #[.bool cl, .int .u64 lo, .int .u64 hi], .int .u64 ((M : Int))]) (Reg.wanted_none rfl) (by go_simp) ((HTU.out wc).mono ?_)
      rintro e w' ⟨rfl, hB2⟩
      exact ⟨_, rfl, hB2, rfl⟩
    · intro _ cx wc hB hp hs
      have g5 : cx.tmps[5]? = some (.pointer (some ⟨X, 0, none⟩)) := (hs 5 (by kernel_rfl)).trans rfl
      have k0 := (HP.out.drew.below hB).cell 0 _ rfl
      have k1 := (HP.out.drew.below hB).cell 1 _ rfl
      have k2 := (HP.out.drew.below hB).cell 2 _ rfl
      have k3 := (HP.out.drew.below hB).cell 3 _ rfl
      have k4 := (HP.out.drew.below hB).cell 4 _ rfl
      have k5 := (HP.out.drew.below hB).cell 5 _ rfl
      have k6 := (HP.out.drew.below hB).cell 6 _ rfl
      have k7 := (HP.out.drew.below hB).cell 7 _ rfl
      have k8 := (HP.out.drew.below hB).cell 8 _ rfl
      have k9 := (HP.out.drew.below hB).cell 9 _ rfl
      have k10 := (HP.out.drew.below hB).cell 10 _ rfl
      simp only [List.getElem_toArray, List.getElem_cons_zero, List.getElem_cons_succ] at k0 k1 k2 k3 k4 k5 k6 k7 k8 k9 k10
      refine Reg.ok_value Reg.Old.refl (v := .agg #[.int .i64 x0, .int .i64 x1, .int .i64 x2, .int .i64 (r : Int), .int .i64 (b : Int), .int .i64 x5, .int .i64 x6, .int .i64 x7, .int .i64 x8, .int .i64 x9, .slice q l d]) (Reg.wanted_none rfl) ?_ rfl
      go_simp
    · intro _ cx wc hB hp hs
      have g42 : cx.tmps[42]? = some (.agg #[.int .i64 x0, .int .i64 x1, .int .i64 x2, .int .i64 (r : Int), .int .i64 (b : Int), .int .i64 x5, .int .i64 x6, .int .i64 x7, .int .i64 x8, .int .i64 x9, .slice q l d]) := by obtain ⟨_, g, hv⟩ := Reg.pred hp 8 42 (by kernel_rfl) rfl rfl; exact g.trans (congrArg some hv)
      refine Reg.ok_call (f := 42) (args := #[.agg #[.int .i64 x0, .int .i64 x1, .int .i64 x2, .int .i64 (r : Int), .int .i64 (b : Int), .int .i64 x5, .int .i64 x6, .int .i64 x7, .int .i64 x8, .int .i64 x9, .slice q l d]]) (Reg.wanted_none rfl) (by go_simp) ((HBO.out wc).mono ?_)
      rintro e w' ⟨rfl, hB2⟩
      exact ⟨_, rfl, hB2, rfl⟩
    · intro _ cx wc hB hp hs
      have g43 : cx.tmps[43]? = some (.tuple #[.int .u64 x1, .int .u64 x2]) := by obtain ⟨_, g, hv⟩ := Reg.pred hp 9 43 (by kernel_rfl) rfl rfl; exact g.trans (congrArg some hv)
      refine Reg.ok_value Reg.Old.refl (v := .int .u64 x1) (Reg.wanted_none rfl) ?_ rfl
      go_simp
    · intro _ cx wc hB hp hs
      have g43 : cx.tmps[43]? = some (.tuple #[.int .u64 x1, .int .u64 x2]) := by obtain ⟨_, g, hv⟩ := Reg.pred hp 9 43 (by kernel_rfl) rfl rfl; exact g.trans (congrArg some hv)
      refine Reg.ok_value Reg.Old.refl (v := .int .u64 x2) (Reg.wanted_none rfl) ?_ rfl
      go_simp
    · intro _ cx wc hB hp hs
      have g41 : cx.tmps[41]? = some (.agg #[.bool (cl && decide (lo < (M : Int))), .int .u64 lo, .int .u64 hi]) := by obtain ⟨_, g, hv⟩ := Reg.pred hp 7 41 (by kernel_rfl) rfl rfl; exact g.trans (congrArg some hv)
      have g44 : cx.tmps[44]? = some (.int .u64 x1) := by obtain ⟨_, g, hv⟩ := Reg.pred hp 10 44 (by kernel_rfl) rfl rfl; exact g.trans (congrArg some hv)
      have g45 : cx.tmps[45]? = some (.int .u64 x2) := by obtain ⟨_, g, hv⟩ := Reg.pred hp 11 45 (by kernel_rfl) rfl rfl; exact g.trans (congrArg some hv)
      refine Reg.ok_call (f := 41) (args := #[.agg #[.bool (cl && decide (lo < (M : Int))), .int .u64 lo, .int .u64 hi], .int .u64 x1, .int .u64 x2]) (Reg.wanted_none rfl) (by go_simp) ((HSE.out wc).mono ?_)
      rintro e w' ⟨rfl, hB2⟩
      exact ⟨_, rfl, hB2, rfl⟩
    · intro _ cx wc hB hp hs
      have g34 : cx.tmps[34]? = some (.pointer (some ⟨B, 0, none⟩)) := by obtain ⟨_, g, hv⟩ := Reg.pred hp 0 34 (by kernel_rfl) rfl rfl; exact g.trans (congrArg some hv)
      refine Reg.ok_value Reg.Old.refl (v := .pointer (some ⟨B, 0, none⟩)) (Reg.wanted_none rfl) ?_ rfl
      go_simp
    · intro _ cx wc hB hp hs
      have g47 : cx.tmps[47]? = some (.pointer (some ⟨B, 0, none⟩)) := by obtain ⟨_, g, hv⟩ := Reg.pred hp 13 47 (by kernel_rfl) rfl rfl; exact g.trans (congrArg some hv)
      refine Reg.ok_value Reg.Old.refl (v := .pointer (some ⟨B, 1, none⟩)) (Reg.wanted_none rfl) ?_ rfl
      go_simp
    · exact fun h => absurd rfl h
  · intro cc wc hB hsz hdf hv ho
    have hfr := Reg.frame_eq [_, _, _, _, _, _, _, _, _, _, _, _, _, _, _, _, _, _, _, _, _, _, _, _, _, _, _, _, _, _, _, _, _, _, .pointer (some ⟨B, 0, none⟩), .pointer (some ⟨B, 0, none⟩), .pointer (some ⟨B, 0, none⟩), .pointer (some ⟨B, 1, none⟩), .agg #[.bool cl, .int .u64 lo, .int .u64 hi], .pointer (some ⟨E, 0, none⟩), .int .u64 ((M : Int)), .agg #[.bool (cl && decide (lo < (M : Int))), .int .u64 lo, .int .u64 hi], .agg #[.int .i64 x0, .int .i64 x1, .int .i64 x2, .int .i64 (r : Int), .int .i64 (b : Int), .int .i64 x5, .int .i64 x6, .int .i64 x7, .int .i64 x8, .int .i64 x9, .slice q l d], .tuple #[.int .u64 x1, .int .u64 x2], .int .u64 x1, .int .u64 x2, .agg #[.bool (cl && decide (lo < (M : Int))), .int .u64 (min x1 x2), .int .u64 x2], .pointer (some ⟨B, 0, none⟩), .pointer (some ⟨B, 1, none⟩), _, _, _, _, _, _, _, _, _, _, _, _, _, _, _, _, _, _, _, _, _, _, _, _, _, _, _, _, _] (by simpa using hsz) hdf ⟨((Reg.kept_but ho 0 (by kernel_rfl)).trans rfl), ((Reg.kept_but ho 1 (by kernel_rfl)).trans rfl), ((Reg.kept_but ho 2 (by kernel_rfl)).trans rfl), ((Reg.kept_but ho 3 (by kernel_rfl)).trans rfl), ((Reg.kept_but ho 4 (by kernel_rfl)).trans rfl), ((Reg.kept_but ho 5 (by kernel_rfl)).trans rfl), ((Reg.kept_but ho 6 (by kernel_rfl)).trans rfl), ((Reg.kept_but ho 7 (by kernel_rfl)).trans rfl), ((Reg.kept_but ho 8 (by kernel_rfl)).trans rfl), ((Reg.kept_but ho 9 (by kernel_rfl)).trans rfl), ((Reg.kept_but ho 10 (by kernel_rfl)).trans rfl), ((Reg.kept_but ho 11 (by kernel_rfl)).trans rfl), ((Reg.kept_but ho 12 (by kernel_rfl)).trans rfl), ((Reg.kept_but ho 13 (by kernel_rfl)).trans rfl), ((Reg.kept_but ho 14 (by kernel_rfl)).trans rfl), ((Reg.kept_but ho 15 (by kernel_rfl)).trans rfl), ((Reg.kept_but ho 16 (by kernel_rfl)).trans rfl), ((Reg.kept_but ho 17 (by kernel_rfl)).trans rfl), ((Reg.kept_but ho 18 (by kernel_rfl)).trans rfl), ((Reg.kept_but ho 19 (by kernel_rfl)).trans rfl), ((Reg.kept_but ho 20 (by kernel_rfl)).trans rfl), ((Reg.kept_but ho 21 (by kernel_rfl)).trans rfl), ((Reg.kept_but ho 22 (by kernel_rfl)).trans rfl), ((Reg.kept_but ho 23 (by kernel_rfl)).trans rfl), ((Reg.kept_but ho 24 (by kernel_rfl)).trans rfl), ((Reg.kept_but ho 25 (by kernel_rfl)).trans rfl), ((Reg.kept_but ho 26 (by kernel_rfl)).trans rfl), ((Reg.kept_but ho 27 (by kernel_rfl)).trans rfl), ((Reg.kept_but ho 28 (by kernel_rfl)).trans rfl), ((Reg.kept_but ho 29 (by kernel_rfl)).trans rfl), ((Reg.kept_but ho 30 (by kernel_rfl)).trans rfl), ((Reg.kept_but ho 31 (by kernel_rfl)).trans rfl), ((Reg.kept_but ho 32 (by kernel_rfl)).trans rfl), ((Reg.kept_but ho 33 (by kernel_rfl)).trans rfl), (by obtain ⟨_, g, hx⟩ := hv 0 _ 34 (by decide) rfl rfl; exact g.trans (congrArg some hx)), (by obtain ⟨_, g, hx⟩ := hv 1 _ 35 (by decide) rfl rfl; exact g.trans (congrArg some hx)), (by obtain ⟨_, g, hx⟩ := hv 2 _ 36 (by decide) rfl rfl; exact g.trans (congrArg some hx)), (by obtain ⟨_, g, hx⟩ := hv 3 _ 37 (by decide) rfl rfl; exact g.trans (congrArg some hx)), (by obtain ⟨_, g, hx⟩ := hv 4 _ 38 (by decide) rfl rfl; exact g.trans (congrArg some hx)), (by obtain ⟨_, g, hx⟩ := hv 5 _ 39 (by decide) rfl rfl; exact g.trans (congrArg some hx)), (by obtain ⟨_, g, hx⟩ := hv 6 _ 40 (by decide) rfl rfl; exact g.trans (congrArg some hx)), (by obtain ⟨_, g, hx⟩ := hv 7 _ 41 (by decide) rfl rfl; exact g.trans (congrArg some hx)), (by obtain ⟨_, g, hx⟩ := hv 8 _ 42 (by decide) rfl rfl; exact g.trans (congrArg some hx)), (by obtain ⟨_, g, hx⟩ := hv 9 _ 43 (by decide) rfl rfl; exact g.trans (congrArg some hx)), (by obtain ⟨_, g, hx⟩ := hv 10 _ 44 (by decide) rfl rfl; exact g.trans (congrArg some hx)), (by obtain ⟨_, g, hx⟩ := hv 11 _ 45 (by decide) rfl rfl; exact g.trans (congrArg some hx)), (by obtain ⟨_, g, hx⟩ := hv 12 _ 46 (by decide) rfl rfl; exact g.trans (congrArg some hx)), (by obtain ⟨_, g, hx⟩ := hv 13 _ 47 (by decide) rfl rfl; exact g.trans (congrArg some hx)), (by obtain ⟨_, g, hx⟩ := hv 14 _ 48 (by decide) rfl rfl; exact g.trans (congrArg some hx)), ((Reg.kept_but ho 49 (by kernel_rfl)).trans rfl), ((Reg.kept_but ho 50 (by kernel_rfl)).trans rfl), ((Reg.kept_but ho 51 (by kernel_rfl)).trans rfl), ((Reg.kept_but ho 52 (by kernel_rfl)).trans rfl), ((Reg.kept_but ho 53 (by kernel_rfl)).trans rfl), ((Reg.kept_but ho 54 (by kernel_rfl)).trans rfl), ((Reg.kept_but ho 55 (by kernel_rfl)).trans rfl), ((Reg.kept_but ho 56 (by kernel_rfl)).trans rfl), ((Reg.kept_but ho 57 (by kernel_rfl)).trans rfl), ((Reg.kept_but ho 58 (by kernel_rfl)).trans rfl), ((Reg.kept_but ho 59 (by kernel_rfl)).trans rfl), ((Reg.kept_but ho 60 (by kernel_rfl)).trans rfl), ((Reg.kept_but ho 61 (by kernel_rfl)).trans rfl), ((Reg.kept_but ho 62 (by kernel_rfl)).trans rfl), ((Reg.kept_but ho 63 (by kernel_rfl)).trans rfl), ((Reg.kept_but ho 64 (by kernel_rfl)).trans rfl), ((Reg.kept_but ho 65 (by kernel_rfl)).trans rfl), ((Reg.kept_but ho 66 (by kernel_rfl)).trans rfl), ((Reg.kept_but ho 67 (by kernel_rfl)).trans rfl), ((Reg.kept_but ho 68 (by kernel_rfl)).trans rfl), ((Reg.kept_but ho 69 (by kernel_rfl)).trans rfl), ((Reg.kept_but ho 70 (by kernel_rfl)).trans rfl), ((Reg.kept_but ho 71 (by kernel_rfl)).trans rfl), ((Reg.kept_but ho 72 (by kernel_rfl)).trans rfl), ((Reg.kept_but ho 73 (by kernel_rfl)).trans rfl), ((Reg.kept_but ho 74 (by kernel_rfl)).trans rfl), ((Reg.kept_but ho 75 (by kernel_rfl)).trans rfl), ((Reg.kept_but ho 76 (by kernel_rfl)).trans rfl), ((Reg.kept_but ho 77 (by kernel_rfl)).trans rfl), trivial⟩
    subst hfr
    have hBw : Below w3.heap.size w3 wc := (Below.refl _ _).drew.trans hB
    have hq := HQ.out.below hBw
    have k1 := (HC.out.below hBw).cell 1 _ rfl
    have k2 := (HC.out.below hBw).cell 2 _ rfl
    have k3 := (HC.out.below hBw).cell 3 _ rfl
    have f1 := (HC.out.below hBw).fro 1 _ rfl
    have f2 := (HC.out.below hBw).fro 2 _ rfl
    have f3 := (HC.out.below hBw).fro 3 _ rfl
    have zl := (HC.out.below hBw).lt
    simp only [List.getElem_toArray, List.getElem_cons_zero, List.getElem_cons_succ] at k1 k2 k3
    have hm : Tq.Mov (fun k => k = B) w3 (((wc.setCell ⟨B, 1, none⟩ (.bool (cl && decide (lo < (M : Int))))).setCell ⟨B, 2, none⟩ (.int .u64 (min x1 x2))).setCell ⟨B, 3, none⟩ (.int .u64 x2)) := (Tq.Mov.ofB (S := fun k => k = B) hBw).trans (mov_gate B wc _ _ _) (fun _ _ h => h)
    have e1 := HX1.out
    have e2 := HX2.out
    have hz := hq.setGate (cl && decide (lo < (M : Int))) (min x1 x2) x2 (by omega) (by omega)
    have hp := cells_mov HP.out hm HXB.out
    refine Reg.store_then (w2 := (((wc.setCell ⟨B, 1, none⟩ (.bool (cl && decide (lo < (M : Int))))).setCell ⟨B, 2, none⟩ (.int .u64 (min x1 x2))).setCell ⟨B, 3, none⟩ (.int .u64 x2))) ?_ rfl ?_
    · clear hm hz hp hq hBw hv ho hB hQ
      go_simp
    exact hQ _ _ _ _ _ _ _ _ _ _ _ _ _ _ _ _ hz hm hp
end Go.Proofs.YtcgkgdhbipbnfaaGreatDoor.Qu

namespace Go.Proofs.YtcgkgdhbipbnfaaGreatDoor.Qu
open Go Go.RowKit

set_option maxRecDepth 100000 in
set_option maxHeartbeats 16000000 in
theorem roll_7a (C0 : Code) (hC0 : Tryz.f15.body.bind (Po.findR 7) = some C0) {base : Nat} {a : Ad} {s : St} {w : World} (W6 : World) (h : Qo base a s W6) (X E : Nat) (le : List UInt8) (x0 x1 x2 x5 x6 x7 x8 x9 win told : Int) (r b : Nat) (q : Option Addr) (l d : Nat) (hP : CellsAt X #[.int .i64 x0, .int .i64 x1, .int .i64 x2, .int .i64 (r : Int), .int .i64 (b : Int), .int .i64 x5, .int .i64 x6, .int .i64 x7, .int .i64 x8, .int .i64 x9, .slice q l d] W6) (hXB : X ≠ a.B) (hE : Hl.Sk E b le W6) (hLe : Hl.Low le) (hEB : E ≠ a.B) (hEo : a.own E ∨ w.heap.size ≤ E) (hEb : base ≤ E) (hM : Tq.Mov a.own w W6) (hbw : base ≤ w.heap.size) (hb1 : 4 ≤ b) (hb2 : b ≤ 10) (hr1 : 1 ≤ r) (hr2 : r ≤ 16) (hw0 : 0 ≤ win) (hw1 : win ≤ 9223372036854775807) (s2 s3 s4 s6 s9 s10 s11 s12 s13 s14 s15 s16 s17 s18 s19 s20 s21 s22 s23 s24 s25 s26 s27 s28 s29 s30 s31 s32 s33 s34 s35 s36 s37 s38 s39 s40 s41 s42 s43 s44 s45 s46 s47 s48 s49 s50 s51 s52 s53 s54 s55 s56 s57 s58 s59 s60 s61 s62 s63 s64 s65 s66 s67 s68 s69 s70 s71 s72 s73 s74 s75 s76 s77 : Value) :
    Code.wp Tryz.prog C0 (bodyPost Tryz.prog Tryz.f15 fun e w' => e = .returned (.int .i64 told) ∧ ∃ a' : Ad, a'.B = a.B ∧ Qo base a' ⟨win, s.cl, s.lo, s.hi, b, zl b, le, r, []⟩ w' ∧ Tq.Mov a.own w w' ∧ ∀ k, a'.own k → a.own k ∨ w.heap.size ≤ k) { tmps := (.pointer (some ⟨a.B, 0, none⟩) :: .int .i64 win :: s2 :: s3 :: s4 :: .pointer (some ⟨X, 0, none⟩) :: s6 :: .int .i64 told :: .pointer (some ⟨E, 0, none⟩) :: s9 :: s10 :: s11 :: s12 :: s13 :: s14 :: s15 :: s16 :: s17 :: s18 :: s19 :: s20 :: s21 :: s22 :: s23 :: s24 :: s25 :: s26 :: s27 :: s28 :: s29 :: s30 :: s31 :: s32 :: s33 :: s34 :: s35 :: s36 :: s37 :: s38 :: s39 :: s40 :: s41 :: s42 :: s43 :: s44 :: s45 :: s46 :: s47 :: s48 :: s49 :: s50 :: s51 :: s52 :: s53 :: s54 :: s55 :: s56 :: s57 :: s58 :: s59 :: s60 :: s61 :: s62 :: s63 :: s64 :: s65 :: s66 :: s67 :: s68 :: s69 :: s70 :: s71 :: s72 :: s73 :: s74 :: s75 :: s76 :: s77 :: []).toArray, defers := [] } W6 := by
  cases hC0
  have HQ := Lib.hid h
  have HP := Lib.hid hP
  have HE := Lib.hid hE
  have HM := Lib.hid hM
  have HXB := Lib.hid hXB
  have HEB := Lib.hid hEB
  have HF : Hid (Hl.Low le ∧ (a.own E ∨ w.heap.size ≤ E) ∧ base ≤ E ∧ base ≤ w.heap.size) := Lib.hid ⟨hLe, hEo, hEb, hbw⟩
  have HW := Lib.hid (And.intro hw0 hw1)
  have HBM : Hid (base ≤ a.B ∧ a.B < w.heap.size + 0 ∨ True) := Lib.hid (.inr trivial)
  have HNO := Lib.hid (fun W => nothing_any b hb1 hb2 W)
  have HNB := Lib.hid (fun W => nobody_any r hr1 hr2 W)
  have p4 : W6.cell? ⟨X, 4, none⟩ = some (.int .i64 (b : Int)) := HP.out.cell 4 _ rfl
  have pl := HP.out.lt
  have e0 := HE.out.bits
  have el := HE.out.lt
  have hbi : ∀ n, Calls Tryz.prog 43 #[.pointer (some ⟨E, 0, none⟩)] (W6.drewN n) fun e w' => e = .returned (.int .i64 (b : Int)) ∧ W6.drewN n = w' := fun n => Hl.bits_any E (b : Int) (W6.drewN n) e0
  have HBI := Lib.hid hbi
  clear hbi
  clear h hP hXB hE hLe hEB hEo hEb hM hbw hb1 hb2 hr1 hr2 hw0 hw1
  go_wp2_with fail
  go_quiet (exact Calls.quiet_of_same ((HBI.out _).mono fun _ _ h => ⟨h.1, h.2.symm⟩))
  have hM7 : Tq.Mov (fun _ => False) W6 (W6.drewN nq) := ⟨rfl, rfl, rfl, Nat.le_refl _, fun _ _ _ => rfl⟩
  replace HQ := Lib.hid (HQ.out.mov hM7 (fun _ _ h => h))
  replace HP := Lib.hid (cells_mov HP.out hM7 (fun h => h))
  replace HE := Lib.hid (sk_mov HE.out hM7 (fun h => h))
  replace HM := Lib.hid (HM.out.trans hM7 (fun _ _ h => h.elim))
  have p4' : (W6.drewN nq).cell? ⟨X, 4, none⟩ = some (.int .i64 (b : Int)) := p4
  have pl' : X < (W6.drewN nq).heap.size := pl
  clear p4 pl e0 el HBI hM7
  generalize W6.drewN nq = W7 at *
  go_wp2_with fail
  refine (HNO.out _).mono ?_
  rintro e w9 ⟨rfl, hB9, hS9, -⟩
  clear p4' pl' HNO
  have HVS := Lib.hid HM.out.size
  have HBV : Hid (a.B < W7.heap.size) := Lib.hid HQ.out.c.lt
  have HEV : Hid (E < W7.heap.size) := Lib.hid HE.out.lt
  replace HQ := Lib.hid (HQ.out.below hB9)
  replace HP := Lib.hid (HP.out.below hB9)
  replace HE := Lib.hid (HE.out.below hB9)
  replace HM := Lib.hid (HM.out.trans (Tq.Mov.ofB (S := a.own) hB9) (fun _ _ h => h))
  have HN := Lib.hid hS9
  have k4 := HQ.out.c.cell 4 _ rfl
  have k5 := HQ.out.c.cell 5 _ rfl
  have f4 := HQ.out.c.fro 4 _ rfl
  have f5 := HQ.out.c.fro 5 _ rfl
  have kl := HQ.out.c.lt
  have p3 : w9.cell? ⟨X, 3, none⟩ = some (.int .i64 (r : Int)) := HP.out.cell 3 _ rfl
  have pl := HP.out.lt
  have hxb : ¬ (X = a.B) := HXB.out
  have hxb2 : ¬ (a.B = X) := fun e => HXB.out e.symm
  simp only [cellsQ, List.getElem_toArray, List.getElem_cons_zero, List.getElem_cons_succ] at k4 k5
  have hm1 : Tq.Mov (fun k => k = a.B) w9 ((w9.setCell ⟨a.B, 5, none⟩ (.pointer (some ⟨E, 0, none⟩))).setCell ⟨a.B, 4, none⟩ (.pointer (some ⟨W7.heap.size, 0, none⟩))) := ((Tq.Mov.refl (fun k => k = a.B) w9).set rfl 5 _).set rfl 4 _
  have hc1 := (HQ.out.c.set 5 (.pointer (some ⟨E, 0, none⟩)) (by simp [cellsQ])).set 4 (.pointer (some ⟨W7.heap.size, 0, none⟩)) (by simp [cellsQ])
  have HM1 := Lib.hid hm1
  have HC1 := Lib.hid hc1
  clear hB9 hS9 hm1 hc1
  go_wp2_with fail
  have hsz : ((w9.setCell ⟨a.B, 5, none⟩ (.pointer (some ⟨E, 0, none⟩))).setCell ⟨a.B, 4, none⟩ (.pointer (some ⟨W7.heap.size, 0, none⟩))).heap.size = w9.heap.size := by simp
  have hnbx := HNB.out ((w9.setCell ⟨a.B, 5, none⟩ (.pointer (some ⟨E, 0, none⟩))).setCell ⟨a.B, 4, none⟩ (.pointer (some ⟨W7.heap.size, 0, none⟩)))
  refine hnbx.mono ?_
  rintro e w10 ⟨rfl, hB10, hT10, -⟩
  clear k4 k5 f4 f5 kl p3 pl hxb hxb2 hnbx HNB
  have HC2 := Lib.hid (CellsAt.below HC1.out hB10)
  have HM2 := Lib.hid (HM1.out.trans (Tq.Mov.ofB (S := fun k => k = a.B) hB10) (fun _ _ h => h))
  generalize hTe : ((w9.setCell ⟨a.B, 5, none⟩ (.pointer (some ⟨E, 0, none⟩))).setCell ⟨a.B, 4, none⟩ (.pointer (some ⟨W7.heap.size, 0, none⟩))).heap.size = T at *
  have HTE : Hid (w9.heap.size = T) := Lib.hid hsz.symm
  have HT := Lib.hid hT10
  have k6 := HC2.out.cell 6 _ rfl
  have k0 := HC2.out.cell 0 _ rfl
  have f6 := HC2.out.fro 6 _ rfl
  have f0 := HC2.out.fro 0 _ rfl
  have kl := HC2.out.lt
  clear hsz hB10 hT10 HC1 HM1 HP
  generalize ((w9.setCell ⟨a.B, 5, none⟩ (.pointer (some ⟨E, 0, none⟩))).setCell ⟨a.B, 4, none⟩ (.pointer (some ⟨W7.heap.size, 0, none⟩))) = V9 at *
  clear hTe
  simp [cellsQ] at k0 k6
  have hm3 : Tq.Mov (fun k => k = a.B) w10 ((w10.setCell ⟨a.B, 6, none⟩ (.pointer (some ⟨T, 0, none⟩))).setCell ⟨a.B, 0, none⟩ (.int .i64 win)) := ((Tq.Mov.refl (fun k => k = a.B) w10).set rfl 6 _).set rfl 0 _
  have hc3 := (HC2.out.set 6 (.pointer (some ⟨T, 0, none⟩)) (by simp [cellsQ])).set 0 (.int .i64 win) (by simp [cellsQ])
  have HM3 := Lib.hid hm3
  have HC3 := Lib.hid hc3
  clear hm3 hc3
  go_wp2
  go_ret
  have hmt : Tq.Mov (fun k => k = a.B) w9 ((w10.setCell ⟨a.B, 6, none⟩ (.pointer (some ⟨T, 0, none⟩))).setCell ⟨a.B, 0, none⟩ (.int .i64 win)) := HM2.out.trans HM3.out (fun _ _ h => h)
  have hvs := HVS.out
  have hbv := HBV.out
  have hev := HEV.out
  have hte := HTE.out
  have hns : W7.heap.size < w9.heap.size := HN.out.lt
  have hq := HQ.out
  have hf := HF.out
  refine ⟨rfl, ⟨a.B, W7.heap.size, E, T, .slice none 0 0⟩, rfl, ⟨hq.lo, Nat.le_trans hf.2.2.2 hvs, HF.out.2.2.1, ?_, ?_, sk_mov HN.out hmt (by show ¬ W7.heap.size = a.B; omega), sk_mov HE.out hmt HEB.out, Hl.Low.zero _, HF.out.1, ?_, HW.out, hq.glo, hq.ghi⟩, HM.out.trans hmt (fun i _ e => e ▸ own_B), ?_⟩
  · exact ⟨by show a.B ≠ W7.heap.size; omega, fun e => HEB.out e.symm, by show a.B ≠ T; omega, by show W7.heap.size ≠ E; omega, by show W7.heap.size ≠ T; omega, by show E ≠ T; omega, by simp [Value.ownBlock], by simp [Value.ownBlock], by simp [Value.ownBlock]⟩
  · have := HC3.out
    simpa [cellsQ] using this
  · exact (HT.out.mono (Nat.le_trans hf.2.2.2 (by omega))).mov HM3.out (by show ¬ T = a.B; omega) (fun g hg => by simp [Value.ownBlock] at hg)
  · rintro k (e | e | e | e | e)
    · exact .inl (.inl e)
    · exact .inr (by rw [e]; exact hvs)
    · rw [e]; exact HF.out.2.1
    · exact .inr (by rw [e]; show _ ≤ T; omega)
    · simp [Value.ownBlock] at e
set_option maxRecDepth 100000 in
set_option maxHeartbeats 16000000 in
theorem roll_7b (C0 : Code) (hC0 : Tryz.f15.body.bind (Po.findR 7) = some C0) {base : Nat} {a : Ad} {s : St} {w : World} (W6 : World) (h : Qo base a s W6) (X E be : Nat) (le : List UInt8) (x0 x1 x2 x5 x6 x7 x8 x9 win told : Int) (r b : Nat) (q : Option Addr) (l d : Nat) (hP : CellsAt X #[.int .i64 x0, .int .i64 x1, .int .i64 x2, .int .i64 (r : Int), .int .i64 (b : Int), .int .i64 x5, .int .i64 x6, .int .i64 x7, .int .i64 x8, .int .i64 x9, .slice q l d] W6) (hXB : X ≠ a.B) (hE : Hl.Sk E be le W6) (hLe : Hl.Low le) (hEB : E ≠ a.B) (hEo : a.own E ∨ w.heap.size ≤ E) (hEb : base ≤ E) (hM : Tq.Mov a.own w W6) (hbw : base ≤ w.heap.size) (hb1 : 4 ≤ b) (hb2 : b ≤ 10) (hr1 : 1 ≤ r) (hr2 : r ≤ 16) (hw0 : 0 ≤ win) (hw1 : win ≤ 9223372036854775807) (hbe : be ≠ b) (s2 s3 s4 s6 s9 s10 s11 s12 s13 s14 s15 s16 s17 s18 s19 s20 s21 s22 s23 s24 s25 s26 s27 s28 s29 s30 s31 s32 s33 s34 s35 s36 s37 s38 s39 s40 s41 s42 s43 s44 s45 s46 s47 s48 s49 s50 s51 s52 s53 s54 s55 s56 s57 s58 s59 s60 s61 s62 s63 s64 s65 s66 s67 s68 s69 s70 s71 s72 s73 s74 s75 s76 s77 : Value) :
    Code.wp Tryz.prog C0 (bodyPost Tryz.prog Tryz.f15 fun e w' => e = .returned (.int .i64 told) ∧ ∃ a' : Ad, a'.B = a.B ∧ Qo base a' ⟨win, s.cl, s.lo, s.hi, b, zl b, zl b, r, []⟩ w' ∧ Tq.Mov a.own w w' ∧ ∀ k, a'.own k → a.own k ∨ w.heap.size ≤ k) { tmps := (.pointer (some ⟨a.B, 0, none⟩) :: .int .i64 win :: s2 :: s3 :: s4 :: .pointer (some ⟨X, 0, none⟩) :: s6 :: .int .i64 told :: .pointer (some ⟨E, 0, none⟩) :: s9 :: s10 :: s11 :: s12 :: s13 :: s14 :: s15 :: s16 :: s17 :: s18 :: s19 :: s20 :: s21 :: s22 :: s23 :: s24 :: s25 :: s26 :: s27 :: s28 :: s29 :: s30 :: s31 :: s32 :: s33 :: s34 :: s35 :: s36 :: s37 :: s38 :: s39 :: s40 :: s41 :: s42 :: s43 :: s44 :: s45 :: s46 :: s47 :: s48 :: s49 :: s50 :: s51 :: s52 :: s53 :: s54 :: s55 :: s56 :: s57 :: s58 :: s59 :: s60 :: s61 :: s62 :: s63 :: s64 :: s65 :: s66 :: s67 :: s68 :: s69 :: s70 :: s71 :: s72 :: s73 :: s74 :: s75 :: s76 :: s77 :: []).toArray, defers := [] } W6 := by
  cases hC0
  have HQ := Lib.hid h
  have HP := Lib.hid hP
  have HE := Lib.hid hE
  have HM := Lib.hid hM
  have HXB := Lib.hid hXB
  have HEB := Lib.hid hEB
  have HF : Hid (Hl.Low le ∧ (a.own E ∨ w.heap.size ≤ E) ∧ base ≤ E ∧ base ≤ w.heap.size) := Lib.hid ⟨hLe, hEo, hEb, hbw⟩
  have HW := Lib.hid (And.intro hw0 hw1)
  have HBM : Hid (base ≤ a.B ∧ a.B < w.heap.size + 0 ∨ True) := Lib.hid (.inr trivial)
  have HNO := Lib.hid (fun W => nothing_any b hb1 hb2 W)
  have HNB := Lib.hid (fun W => nobody_any r hr1 hr2 W)
  have p4 : W6.cell? ⟨X, 4, none⟩ = some (.int .i64 (b : Int)) := HP.out.cell 4 _ rfl
  have pl := HP.out.lt
  have e0 := HE.out.bits
  have el := HE.out.lt
  have hbi : ∀ n, Calls Tryz.prog 43 #[.pointer (some ⟨E, 0, none⟩)] (W6.drewN n) fun e w' => e = .returned (.int .i64 (be : Int)) ∧ W6.drewN n = w' := fun n => Hl.bits_any E (be : Int) (W6.drewN n) e0
  have HBI := Lib.hid hbi
  clear hbi
  clear h hP hXB hE hLe hEB hEo hEb hM hbw hb1 hb2 hr1 hr2 hw0 hw1
  have hbi2 : ¬ (be : Int) = (b : Int) := by omega
  clear hbe
  go_wp2_with fail
  go_quiet (exact Calls.quiet_of_same ((HBI.out _).mono fun _ _ h => ⟨h.1, h.2.symm⟩))
  have hM7 : Tq.Mov (fun _ => False) W6 (W6.drewN nq) := ⟨rfl, rfl, rfl, Nat.le_refl _, fun _ _ _ => rfl⟩
  replace HQ := Lib.hid (HQ.out.mov hM7 (fun _ _ h => h))
  replace HP := Lib.hid (cells_mov HP.out hM7 (fun h => h))
  replace HE := Lib.hid (sk_mov HE.out hM7 (fun h => h))
  replace HM := Lib.hid (HM.out.trans hM7 (fun _ _ h => h.elim))
  have p4' : (W6.drewN nq).cell? ⟨X, 4, none⟩ = some (.int .i64 (b : Int)) := p4
  have pl' : X < (W6.drewN nq).heap.size := pl
  clear p4 pl e0 el HBI hM7
  generalize W6.drewN nq = W7 at *
  go_wp2_with fail
  have HBW7 : Hid (a.B < W7.heap.size) := Lib.hid HQ.out.c.lt
  refine (HNO.out _).mono ?_
  rintro e w8 ⟨rfl, hB8, hS8, -⟩
  clear p4' pl'
  have HS7 := Lib.hid HM.out.size
  replace HQ := Lib.hid (HQ.out.below hB8)
  replace HP := Lib.hid (HP.out.below hB8)
  replace HM := Lib.hid (HM.out.trans (Tq.Mov.ofB (S := a.own) hB8) (fun _ _ h => h))
  have HEB' : Hid (W7.heap.size ≠ a.B) := Lib.hid (by have h9 := HBW7.out; omega)
  replace HE := Lib.hid hS8
  have p4' : w8.cell? ⟨X, 4, none⟩ = some (.int .i64 (b : Int)) := HP.out.cell 4 _ rfl
  have pl' := HP.out.lt
  clear hB8 hS8
  go_wp2_with fail
  refine (HNO.out _).mono ?_
  rintro e w9 ⟨rfl, hB9, hS9, -⟩
  clear p4' pl' HNO
  have HVS := Lib.hid HM.out.size
  have HBV : Hid (a.B < w8.heap.size) := Lib.hid HQ.out.c.lt
  have HEV : Hid (W7.heap.size < w8.heap.size) := Lib.hid HE.out.lt
  replace HQ := Lib.hid (HQ.out.below hB9)
  replace HP := Lib.hid (HP.out.below hB9)
  replace HE := Lib.hid (HE.out.below hB9)
  replace HM := Lib.hid (HM.out.trans (Tq.Mov.ofB (S := a.own) hB9) (fun _ _ h => h))
  have HN := Lib.hid hS9
  have k4 := HQ.out.c.cell 4 _ rfl
  have k5 := HQ.out.c.cell 5 _ rfl
  have f4 := HQ.out.c.fro 4 _ rfl
  have f5 := HQ.out.c.fro 5 _ rfl
  have kl := HQ.out.c.lt
  have p3 : w9.cell? ⟨X, 3, none⟩ = some (.int .i64 (r : Int)) := HP.out.cell 3 _ rfl
  have pl := HP.out.lt
  have hxb : ¬ (X = a.B) := HXB.out
  have hxb2 : ¬ (a.B = X) := fun e => HXB.out e.symm
  simp only [cellsQ, List.getElem_toArray, List.getElem_cons_zero, List.getElem_cons_succ] at k4 k5
  have hm1 : Tq.Mov (fun k => k = a.B) w9 ((w9.setCell ⟨a.B, 5, none⟩ (.pointer (some ⟨W7.heap.size, 0, none⟩))).setCell ⟨a.B, 4, none⟩ (.pointer (some ⟨w8.heap.size, 0, none⟩))) := ((Tq.Mov.refl (fun k => k = a.B) w9).set rfl 5 _).set rfl 4 _
  have hc1 := (HQ.out.c.set 5 (.pointer (some ⟨W7.heap.size, 0, none⟩)) (by simp [cellsQ])).set 4 (.pointer (some ⟨w8.heap.size, 0, none⟩)) (by simp [cellsQ])
  have HM1 := Lib.hid hm1
  have HC1 := Lib.hid hc1
  clear hB9 hS9 hm1 hc1
  go_wp2_with fail
  have hsz : ((w9.setCell ⟨a.B, 5, none⟩ (.pointer (some ⟨W7.heap.size, 0, none⟩))).setCell ⟨a.B, 4, none⟩ (.pointer (some ⟨w8.heap.size, 0, none⟩))).heap.size = w9.heap.size := by simp
  have hnbx := HNB.out ((w9.setCell ⟨a.B, 5, none⟩ (.pointer (some ⟨W7.heap.size, 0, none⟩))).setCell ⟨a.B, 4, none⟩ (.pointer (some ⟨w8.heap.size, 0, none⟩)))
  refine hnbx.mono ?_
  rintro e w10 ⟨rfl, hB10, hT10, -⟩
  clear k4 k5 f4 f5 kl p3 pl hxb hxb2 hnbx HNB
  have HC2 := Lib.hid (CellsAt.below HC1.out hB10)
  have HM2 := Lib.hid (HM1.out.trans (Tq.Mov.ofB (S := fun k => k = a.B) hB10) (fun _ _ h => h))
  generalize hTe : ((w9.setCell ⟨a.B, 5, none⟩ (.pointer (some ⟨W7.heap.size, 0, none⟩))).setCell ⟨a.B, 4, none⟩ (.pointer (some ⟨w8.heap.size, 0, none⟩))).heap.size = T at *
  have HTE : Hid (w9.heap.size = T) := Lib.hid hsz.symm
  have HT := Lib.hid hT10
  have k6 := HC2.out.cell 6 _ rfl
  have k0 := HC2.out.cell 0 _ rfl
  have f6 := HC2.out.fro 6 _ rfl
  have f0 := HC2.out.fro 0 _ rfl
  have kl := HC2.out.lt
  clear hsz hB10 hT10 HC1 HM1 HP
  generalize ((w9.setCell ⟨a.B, 5, none⟩ (.pointer (some ⟨W7.heap.size, 0, none⟩))).setCell ⟨a.B, 4, none⟩ (.pointer (some ⟨w8.heap.size, 0, none⟩))) = V9 at *
  clear hTe
  simp [cellsQ] at k0 k6
  have hm3 : Tq.Mov (fun k => k = a.B) w10 ((w10.setCell ⟨a.B, 6, none⟩ (.pointer (some ⟨T, 0, none⟩))).setCell ⟨a.B, 0, none⟩ (.int .i64 win)) := ((Tq.Mov.refl (fun k => k = a.B) w10).set rfl 6 _).set rfl 0 _
  have hc3 := (HC2.out.set 6 (.pointer (some ⟨T, 0, none⟩)) (by simp [cellsQ])).set 0 (.int .i64 win) (by simp [cellsQ])
  have HM3 := Lib.hid hm3
  have HC3 := Lib.hid hc3
  clear hm3 hc3
  go_wp2
  go_ret
  have hmt : Tq.Mov (fun k => k = a.B) w9 ((w10.setCell ⟨a.B, 6, none⟩ (.pointer (some ⟨T, 0, none⟩))).setCell ⟨a.B, 0, none⟩ (.int .i64 win)) := HM2.out.trans HM3.out (fun _ _ h => h)
  have hvs := HVS.out
  have hbv := HBV.out
  have hev := HEV.out
  have hte := HTE.out
  have hns : w8.heap.size < w9.heap.size := HN.out.lt
  have hq := HQ.out
  have hf := HF.out
  refine ⟨rfl, ⟨a.B, w8.heap.size, W7.heap.size, T, .slice none 0 0⟩, rfl, ⟨hq.lo, Nat.le_trans hf.2.2.2 hvs, Nat.le_trans HF.out.2.2.2 HS7.out, ?_, ?_, sk_mov HN.out hmt (by show ¬ w8.heap.size = a.B; omega), sk_mov HE.out hmt HEB'.out, Hl.Low.zero _, Hl.Low.zero _, ?_, HW.out, hq.glo, hq.ghi⟩, HM.out.trans hmt (fun i _ e => e ▸ own_B), ?_⟩
  · exact ⟨by show a.B ≠ w8.heap.size; omega, fun e => HEB'.out e.symm, by show a.B ≠ T; omega, by show w8.heap.size ≠ W7.heap.size; omega, by show w8.heap.size ≠ T; omega, by show W7.heap.size ≠ T; omega, by simp [Value.ownBlock], by simp [Value.ownBlock], by simp [Value.ownBlock]⟩
  · have := HC3.out
    simpa [cellsQ] using this
  · exact (HT.out.mono (Nat.le_trans hf.2.2.2 (by omega))).mov HM3.out (by show ¬ T = a.B; omega) (fun g hg => by simp [Value.ownBlock] at hg)
  · rintro k (e | e | e | e | e)
    · exact .inl (.inl e)
    · exact .inr (by rw [e]; exact hvs)
    · rw [e]; exact .inr HS7.out
    · exact .inr (by rw [e]; show _ ≤ T; omega)
    · simp [Value.ownBlock] at e
end Go.Proofs.YtcgkgdhbipbnfaaGreatDoor.Qu

namespace Go.Proofs.YtcgkgdhbipbnfaaGreatDoor.Qu
open Go Go.RowKit

set_option maxRecDepth 100000 in
set_option maxHeartbeats 16000000 in
theorem roll_nexta {base : Nat} {a : Ad} {s : St} {w : World} (h : Qo base a s w) (x0 x1 x2 x5 x6 x7 x8 x9 win : Int) (r b : Nat) (q : Option Addr) (l d : Nat) (t : List Int) (hr : Po.rightZ [x0, x1, x2, (r : Int), (b : Int), x5, x6, x7, x8, x9] t = true) (hw0 : 0 ≤ win) (hw1 : win ≤ 9223372036854775807) (_ : s.win < win) (hdi : win - s.win = 1) (hT : Po.Tr (fun _ => False) (.slice q l d) t w) (hsb : s.b = b) :
    Calls Tryz.prog 15 #[.pointer (some ⟨a.B, 0, none⟩), .int .i64 win, .agg #[.int .i64 x0, .int .i64 x1, .int .i64 x2, .int .i64 (r : Int), .int .i64 (b : Int), .int .i64 x5, .int .i64 x6, .int .i64 x7, .int .i64 x8, .int .i64 x9, .slice q l d]] w fun e w' => e = .returned (.int .i64 1) ∧
      ∃ a' : Ad, a'.B = a.B ∧ Qo base a' ⟨win, s.cl && decide (s.lo < ((Hl.estOf s.b s.now : Nat) : Int)), min x1 x2, x2, b, zl b, s.now, r, []⟩ w' ∧ Tq.Mov a.own w w' ∧ ∀ k, a'.own k → a.own k ∨ w.heap.size ≤ k := by
  have HAP := Lib.hid h.ap
  have HAB : Hid (a.B < w.heap.size ∧ base ≤ w.heap.size ∧ base ≤ a.N) := Lib.hid ⟨h.c.lt, Nat.le_trans h.lo (Nat.le_of_lt h.c.lt), h.lN⟩
  have hr0 := hr
  obtain ⟨hn1, hn2, hn3, hn4, hbd⟩ := Po.right_in hr
  have hin : ∀ x ∈ [x0, x1, x2, (r : Int), (b : Int), x5, x6, x7, x8, x9], In64 x := fun x hx => Po.in64_of (hn1 x hx)
  have hx1 := hn1 x1 (by simp)
  have hx2 := hn1 x2 (by simp)
  obtain ⟨hb1, hb2, hr1, hr2⟩ : 4 ≤ b ∧ b ≤ 10 ∧ 1 ≤ r ∧ r ≤ 16 := by
    have h := hbd
    simp [Po.boundZ, Po.inZ] at h
    omega
  have HX1 := Lib.hid hx1
  have HX2 := Lib.hid hx2
  have HB1 := Lib.hid hb1
  have HB2 := Lib.hid hb2
  have HR1 := Lib.hid hr1
  have HR2 := Lib.hid hr2
  have hBx : Below w.heap.size w (w.alloc (.cells #[.int .i64 x0, .int .i64 x1, .int .i64 x2, .int .i64 (r : Int), .int .i64 (b : Int), .int .i64 x5, .int .i64 x6, .int .i64 x7, .int .i64 x8, .int .i64 x9, .slice q l d] 24)) := (Below.refl _ _).alloc (Nat.le_refl _) _
  have HP0 := Lib.hid (CellsAt.new #[.int .i64 x0, .int .i64 x1, .int .i64 x2, .int .i64 (r : Int), .int .i64 (b : Int), .int .i64 x5, .int .i64 x6, .int .i64 x7, .int .i64 x8, .int .i64 x9, .slice q l d] 24 w)
  have hri := Po.right_any (fun _ => False) [x0, x1, x2, (r : Int), (b : Int), x5, x6, x7, x8, x9] t (.slice q l d) (w.alloc (.cells #[.int .i64 x0, .int .i64 x1, .int .i64 x2, .int .i64 (r : Int), .int .i64 (b : Int), .int .i64 x5, .int .i64 x6, .int .i64 x7, .int .i64 x8, .int .i64 x9, .slice q l d] 24)) rfl hin (hT.below hBx)
  rw [Po.right_same _ _ rfl, hr] at hri
  have HBX := Lib.hid hBx
  have H := Lib.hid h
  have k0 := h.c.cell 0 _ rfl
  have hl := h.c.lt
  simp only [cellsQ, List.getElem_toArray, List.getElem_cons_zero] at k0
  obtain ⟨sw, hsw⟩ : ∃ v, s.win = v := ⟨_, rfl⟩
  rw [hsw] at k0 hdi
  have hw2 : ¬ win ≤ sw := by omega
  have HSW := Lib.hid hsw
  have HW := Lib.hid (And.intro hw0 hw1)
  have HSWB : Hid (0 ≤ sw ∧ sw ≤ 9223372036854775807) := Lib.hid (by rw [← hsw]; exact h.win)
  clear h hn1 hn2 hn3 hn4 hbd hin hx1 hx2 hb1 hb2 hr1 hr2 hBx hT hr hr0 hsw
  go_enter Tryz.func15, Tryz.ntmps15
  go_wp2_with fail
  refine hri.mono ?_
  rintro e w1 ⟨rfl, hB1⟩
  have HP := Lib.hid (HP0.out.below hB1)
  have hBw := HBX.out.trans (hB1.mono HBX.out.size)
  have HQ := Lib.hid (H.out.below hBw)
  have HB := Lib.hid hBw
  obtain ⟨X, hXe⟩ : ∃ X, w.heap.size = X := ⟨_, rfl⟩
  rw [hXe] at HP
  have HXE := Lib.hid hXe
  have p4 : w1.cell? ⟨X, 4, none⟩ = some (.int .i64 (b : Int)) := HP.out.cell 4 _ rfl
  have pl := HP.out.lt
  have hno := fun W => nothing_any b HB1.out HB2.out W
  clear hB1 hri HBX HP0 hBw k0 hl
  go_wp2_with fail
  refine (hno _).mono ?_
  rintro e w2 ⟨rfl, hB2, hS2, -⟩
  have HE : Hid (Hl.Sk w1.heap.size b (zl b) w2) := Lib.hid hS2
  have HQ2 := Lib.hid (HQ.out.below hB2)
  have HP2 := Lib.hid (HP.out.below hB2)
  have HBB := Lib.hid (HB.out.trans (hB2.mono HB.out.size))
  have HES := Lib.hid HB.out.size
  have hEX : X < w1.heap.size := HP.out.lt
  have HEX := Lib.hid hEX
  clear hB2 hS2 p4 pl HQ HP HB hEX
  have k0 : w2.cell? ⟨a.B, 0, none⟩ = some (.int .i64 s.win) := HQ2.out.c.cell 0 _ rfl
  have k4 : w2.cell? ⟨a.B, 4, none⟩ = some (.pointer (some ⟨a.N, 0, none⟩)) := HQ2.out.c.cell 4 _ rfl
  have hl := HQ2.out.c.lt
  rw [HSW.out] at k0
  have hd1 : IntKind.i64.wrap (win - sw) = 1 := by rw [hdi]; rfl
  clear hno
  go_wp2_with fail
  go_quiet (fail)
  clear k0 k4 hl hd1
  go_wp2_with fail
  have hM3 : Tq.Mov (fun _ => False) w2 (w2.drewN nq) := ⟨rfl, rfl, rfl, Nat.le_refl _, fun _ _ _ => rfl⟩
  have HQ3 := Lib.hid (HQ2.out.mov hM3 (fun _ _ h => h))
  have HP3 := Lib.hid (cells_mov HP2.out hM3 (fun h => h))
  have HBB3 : Hid (Below w.heap.size w (w2.drewN nq)) := Lib.hid (HBB.out.trans ⟨rfl, rfl, rfl, Nat.le_refl _, fun _ _ => rfl⟩)
  generalize w2.drewN nq = w3 at *
  clear hM3 HQ2 HP2 HBB HE
  have hxb : X ≠ a.B := by have h1 := HAB.out.1; have h2 := HXE.out; omega
  refine roll_6 _ (by kernel_rfl) _ w3 HQ3.out X a.N s.b s.now x0 x1 x2 x5 x6 x7 x8 x9 r b (Hl.estOf s.b s.now) q l d HP3.out hxb HX1.out HX2.out HQ3.out.now HQ3.out.nl rfl _ _ _ _ _ _ _ _ _ _ _ _ _ _ _ _ _ _ _ _ _ _ _ _ _ _ _ _ _ _ _ _ _ _ _ _ _ _ _ _ _ _ _ _ _ _ _ _ _ _ _ _ _ _ _ _ _ _ _ _ _ _ _ _ _ _ _ _ _ _ _ _ _ _ _ ?_
  intro W' z34 z35 z36 z37 z38 z39 z40 z41 z42 z43 z44 z45 z46 z47 z48 hQ' hM' hP'
  rename_i K hK
  refine hK _ _ ?_
  clear hK
  exact roll_7a _ (by kernel_rfl) W' hQ' X a.N s.now x0 x1 x2 x5 x6 x7 x8 x9 win 1 r b q l d hP' hxb (hsb ▸ hQ'.now) hQ'.nl (fun e => HAP.out.BN e.symm) (.inl own_N) HAB.out.2.2 ((Tq.Mov.ofB (S := a.own) HBB3.out).trans (mov_one (S := a.own) hM' own_B) (fun _ _ h => h)) HAB.out.2.1 HB1.out HB2.out HR1.out HR2.out HW.out.1 HW.out.2 _ _ _ _ _ _ _ _ _ _ _ _ _ _ _ _ _ _ _ _ _ _ _ _ _ _ _ _ _ _ _ _ _ _ _ _ _ _ _ _ _ _ _ _ _ _ _ _ _ _ _ _ _ _ _ _ _ _ _ _ _ _ _ _ _ _ _ _ _ _ _ _ _
set_option maxRecDepth 100000 in
set_option maxHeartbeats 16000000 in
theorem roll_nextb {base : Nat} {a : Ad} {s : St} {w : World} (h : Qo base a s w) (x0 x1 x2 x5 x6 x7 x8 x9 win : Int) (r b : Nat) (q : Option Addr) (l d : Nat) (t : List Int) (hr : Po.rightZ [x0, x1, x2, (r : Int), (b : Int), x5, x6, x7, x8, x9] t = true) (hw0 : 0 ≤ win) (hw1 : win ≤ 9223372036854775807) (_ : s.win < win) (hdi : win - s.win = 1) (hT : Po.Tr (fun _ => False) (.slice q l d) t w) (hsb : s.b ≠ b) :
    Calls Tryz.prog 15 #[.pointer (some ⟨a.B, 0, none⟩), .int .i64 win, .agg #[.int .i64 x0, .int .i64 x1, .int .i64 x2, .int .i64 (r : Int), .int .i64 (b : Int), .int .i64 x5, .int .i64 x6, .int .i64 x7, .int .i64 x8, .int .i64 x9, .slice q l d]] w fun e w' => e = .returned (.int .i64 1) ∧
      ∃ a' : Ad, a'.B = a.B ∧ Qo base a' ⟨win, s.cl && decide (s.lo < ((Hl.estOf s.b s.now : Nat) : Int)), min x1 x2, x2, b, zl b, zl b, r, []⟩ w' ∧ Tq.Mov a.own w w' ∧ ∀ k, a'.own k → a.own k ∨ w.heap.size ≤ k := by
  have HAP := Lib.hid h.ap
  have HAB : Hid (a.B < w.heap.size ∧ base ≤ w.heap.size ∧ base ≤ a.N) := Lib.hid ⟨h.c.lt, Nat.le_trans h.lo (Nat.le_of_lt h.c.lt), h.lN⟩
  have hr0 := hr
  obtain ⟨hn1, hn2, hn3, hn4, hbd⟩ := Po.right_in hr
  have hin : ∀ x ∈ [x0, x1, x2, (r : Int), (b : Int), x5, x6, x7, x8, x9], In64 x := fun x hx => Po.in64_of (hn1 x hx)
  have hx1 := hn1 x1 (by simp)
  have hx2 := hn1 x2 (by simp)
  obtain ⟨hb1, hb2, hr1, hr2⟩ : 4 ≤ b ∧ b ≤ 10 ∧ 1 ≤ r ∧ r ≤ 16 := by
    have h := hbd
    simp [Po.boundZ, Po.inZ] at h
    omega
  have HX1 := Lib.hid hx1
  have HX2 := Lib.hid hx2
  have HB1 := Lib.hid hb1
  have HB2 := Lib.hid hb2
  have HR1 := Lib.hid hr1
  have HR2 := Lib.hid hr2
  have hBx : Below w.heap.size w (w.alloc (.cells #[.int .i64 x0, .int .i64 x1, .int .i64 x2, .int .i64 (r : Int), .int .i64 (b : Int), .int .i64 x5, .int .i64 x6, .int .i64 x7, .int .i64 x8, .int .i64 x9, .slice q l d] 24)) := (Below.refl _ _).alloc (Nat.le_refl _) _
  have HP0 := Lib.hid (CellsAt.new #[.int .i64 x0, .int .i64 x1, .int .i64 x2, .int .i64 (r : Int), .int .i64 (b : Int), .int .i64 x5, .int .i64 x6, .int .i64 x7, .int .i64 x8, .int .i64 x9, .slice q l d] 24 w)
  have hri := Po.right_any (fun _ => False) [x0, x1, x2, (r : Int), (b : Int), x5, x6, x7, x8, x9] t (.slice q l d) (w.alloc (.cells #[.int .i64 x0, .int .i64 x1, .int .i64 x2, .int .i64 (r : Int), .int .i64 (b : Int), .int .i64 x5, .int .i64 x6, .int .i64 x7, .int .i64 x8, .int .i64 x9, .slice q l d] 24)) rfl hin (hT.below hBx)
  rw [Po.right_same _ _ rfl, hr] at hri
  have HBX := Lib.hid hBx
  have H := Lib.hid h
  have k0 := h.c.cell 0 _ rfl
  have hl := h.c.lt
  simp only [cellsQ, List.getElem_toArray, List.getElem_cons_zero] at k0
  obtain ⟨sw, hsw⟩ : ∃ v, s.win = v := ⟨_, rfl⟩
  rw [hsw] at k0 hdi
  have hw2 : ¬ win ≤ sw := by omega
  have HSW := Lib.hid hsw
  have HW := Lib.hid (And.intro hw0 hw1)
  have HSWB : Hid (0 ≤ sw ∧ sw ≤ 9223372036854775807) := Lib.hid (by rw [← hsw]; exact h.win)
  clear h hn1 hn2 hn3 hn4 hbd hin hx1 hx2 hb1 hb2 hr1 hr2 hBx hT hr hr0 hsw
  go_enter Tryz.func15, Tryz.ntmps15
  go_wp2_with fail
  refine hri.mono ?_
  rintro e w1 ⟨rfl, hB1⟩
  have HP := Lib.hid (HP0.out.below hB1)
  have hBw := HBX.out.trans (hB1.mono HBX.out.size)
  have HQ := Lib.hid (H.out.below hBw)
  have HB := Lib.hid hBw
  obtain ⟨X, hXe⟩ : ∃ X, w.heap.size = X := ⟨_, rfl⟩
  rw [hXe] at HP
  have HXE := Lib.hid hXe
  have p4 : w1.cell? ⟨X, 4, none⟩ = some (.int .i64 (b : Int)) := HP.out.cell 4 _ rfl
  have pl := HP.out.lt
  have hno := fun W => nothing_any b HB1.out HB2.out W
  clear hB1 hri HBX HP0 hBw k0 hl
  go_wp2_with fail
  refine (hno _).mono ?_
  rintro e w2 ⟨rfl, hB2, hS2, -⟩
  have HE : Hid (Hl.Sk w1.heap.size b (zl b) w2) := Lib.hid hS2
  have HQ2 := Lib.hid (HQ.out.below hB2)
  have HP2 := Lib.hid (HP.out.below hB2)
  have HBB := Lib.hid (HB.out.trans (hB2.mono HB.out.size))
  have HES := Lib.hid HB.out.size
  have hEX : X < w1.heap.size := HP.out.lt
  have HEX := Lib.hid hEX
  clear hB2 hS2 p4 pl HQ HP HB hEX
  have k0 : w2.cell? ⟨a.B, 0, none⟩ = some (.int .i64 s.win) := HQ2.out.c.cell 0 _ rfl
  have k4 : w2.cell? ⟨a.B, 4, none⟩ = some (.pointer (some ⟨a.N, 0, none⟩)) := HQ2.out.c.cell 4 _ rfl
  have hl := HQ2.out.c.lt
  rw [HSW.out] at k0
  have hd1 : IntKind.i64.wrap (win - sw) = 1 := by rw [hdi]; rfl
  clear hno
  go_wp2_with fail
  go_quiet (fail)
  clear k0 k4 hl hd1
  go_wp2_with fail
  have hM3 : Tq.Mov (fun _ => False) w2 (w2.drewN nq) := ⟨rfl, rfl, rfl, Nat.le_refl _, fun _ _ _ => rfl⟩
  have HQ3 := Lib.hid (HQ2.out.mov hM3 (fun _ _ h => h))
  have HP3 := Lib.hid (cells_mov HP2.out hM3 (fun h => h))
  have HBB3 : Hid (Below w.heap.size w (w2.drewN nq)) := Lib.hid (HBB.out.trans ⟨rfl, rfl, rfl, Nat.le_refl _, fun _ _ => rfl⟩)
  generalize w2.drewN nq = w3 at *
  clear hM3 HQ2 HP2 HBB HE
  have hxb : X ≠ a.B := by have h1 := HAB.out.1; have h2 := HXE.out; omega
  refine roll_6 _ (by kernel_rfl) _ w3 HQ3.out X a.N s.b s.now x0 x1 x2 x5 x6 x7 x8 x9 r b (Hl.estOf s.b s.now) q l d HP3.out hxb HX1.out HX2.out HQ3.out.now HQ3.out.nl rfl _ _ _ _ _ _ _ _ _ _ _ _ _ _ _ _ _ _ _ _ _ _ _ _ _ _ _ _ _ _ _ _ _ _ _ _ _ _ _ _ _ _ _ _ _ _ _ _ _ _ _ _ _ _ _ _ _ _ _ _ _ _ _ _ _ _ _ _ _ _ _ _ _ _ _ ?_
  intro W' z34 z35 z36 z37 z38 z39 z40 z41 z42 z43 z44 z45 z46 z47 z48 hQ' hM' hP'
  rename_i K hK
  refine hK _ _ ?_
  clear hK
  exact roll_7b _ (by kernel_rfl) W' hQ' X a.N s.b s.now x0 x1 x2 x5 x6 x7 x8 x9 win 1 r b q l d hP' hxb hQ'.now hQ'.nl (fun e => HAP.out.BN e.symm) (.inl own_N) HAB.out.2.2 ((Tq.Mov.ofB (S := a.own) HBB3.out).trans (mov_one (S := a.own) hM' own_B) (fun _ _ h => h)) HAB.out.2.1 HB1.out HB2.out HR1.out HR2.out HW.out.1 HW.out.2 hsb _ _ _ _ _ _ _ _ _ _ _ _ _ _ _ _ _ _ _ _ _ _ _ _ _ _ _ _ _ _ _ _ _ _ _ _ _ _ _ _ _ _ _ _ _ _ _ _ _ _ _ _ _ _ _ _ _ _ _ _ _ _ _ _ _ _ _ _ _ _ _ _ _
set_option maxRecDepth 100000 in
set_option maxHeartbeats 16000000 in
theorem roll_later {base : Nat} {a : Ad} {s : St} {w : World} (h : Qo base a s w) (x0 x1 x2 x5 x6 x7 x8 x9 win : Int) (r b : Nat) (q : Option Addr) (l d : Nat) (t : List Int) (hr : Po.rightZ [x0, x1, x2, (r : Int), (b : Int), x5, x6, x7, x8, x9] t = true) (hw0 : 0 ≤ win) (hw1 : win ≤ 9223372036854775807) (hw : s.win < win) (hdi : win - s.win ≠ 1) (hT : Po.Tr (fun _ => False) (.slice q l d) t w) :
    Calls Tryz.prog 15 #[.pointer (some ⟨a.B, 0, none⟩), .int .i64 win, .agg #[.int .i64 x0, .int .i64 x1, .int .i64 x2, .int .i64 (r : Int), .int .i64 (b : Int), .int .i64 x5, .int .i64 x6, .int .i64 x7, .int .i64 x8, .int .i64 x9, .slice q l d]] w fun e w' => e = .returned (.int .i64 2) ∧
      ∃ a' : Ad, a'.B = a.B ∧ Qo base a' ⟨win, s.cl && decide (s.lo < ((0 : Nat) : Int)), min x1 x2, x2, b, zl b, zl b, r, []⟩ w' ∧ Tq.Mov a.own w w' ∧ ∀ k, a'.own k → a.own k ∨ w.heap.size ≤ k := by
  have HAP := Lib.hid h.ap
  have HAB : Hid (a.B < w.heap.size ∧ base ≤ w.heap.size ∧ base ≤ a.N) := Lib.hid ⟨h.c.lt, Nat.le_trans h.lo (Nat.le_of_lt h.c.lt), h.lN⟩
  have hr0 := hr
  obtain ⟨hn1, hn2, hn3, hn4, hbd⟩ := Po.right_in hr
  have hin : ∀ x ∈ [x0, x1, x2, (r : Int), (b : Int), x5, x6, x7, x8, x9], In64 x := fun x hx => Po.in64_of (hn1 x hx)
  have hx1 := hn1 x1 (by simp)
  have hx2 := hn1 x2 (by simp)
  obtain ⟨hb1, hb2, hr1, hr2⟩ : 4 ≤ b ∧ b ≤ 10 ∧ 1 ≤ r ∧ r ≤ 16 := by
    have h := hbd
    simp [Po.boundZ, Po.inZ] at h
    omega
  have HX1 := Lib.hid hx1
  have HX2 := Lib.hid hx2
  have HB1 := Lib.hid hb1
  have HB2 := Lib.hid hb2
  have HR1 := Lib.hid hr1
  have HR2 := Lib.hid hr2
  have hBx : Below w.heap.size w (w.alloc (.cells #[.int .i64 x0, .int .i64 x1, .int .i64 x2, .int .i64 (r : Int), .int .i64 (b : Int), .int .i64 x5, .int .i64 x6, .int .i64 x7, .int .i64 x8, .int .i64 x9, .slice q l d] 24)) := (Below.refl _ _).alloc (Nat.le_refl _) _
  have HP0 := Lib.hid (CellsAt.new #[.int .i64 x0, .int .i64 x1, .int .i64 x2, .int .i64 (r : Int), .int .i64 (b : Int), .int .i64 x5, .int .i64 x6, .int .i64 x7, .int .i64 x8, .int .i64 x9, .slice q l d] 24 w)
  have hri := Po.right_any (fun _ => False) [x0, x1, x2, (r : Int), (b : Int), x5, x6, x7, x8, x9] t (.slice q l d) (w.alloc (.cells #[.int .i64 x0, .int .i64 x1, .int .i64 x2, .int .i64 (r : Int), .int .i64 (b : Int), .int .i64 x5, .int .i64 x6, .int .i64 x7, .int .i64 x8, .int .i64 x9, .slice q l d] 24)) rfl hin (hT.below hBx)
  rw [Po.right_same _ _ rfl, hr] at hri
  have HBX := Lib.hid hBx
  have H := Lib.hid h
  have k0 := h.c.cell 0 _ rfl
  have hl := h.c.lt
  simp only [cellsQ, List.getElem_toArray, List.getElem_cons_zero] at k0
  obtain ⟨sw, hsw⟩ : ∃ v, s.win = v := ⟨_, rfl⟩
  rw [hsw] at k0 hw hdi
  have hw2 : ¬ win ≤ sw := by omega
  have HSW := Lib.hid hsw
  have HW := Lib.hid (And.intro hw0 hw1)
  have HSWB : Hid (0 ≤ sw ∧ sw ≤ 9223372036854775807) := Lib.hid (by rw [← hsw]; exact h.win)
  clear h hn1 hn2 hn3 hn4 hbd hin hx1 hx2 hb1 hb2 hr1 hr2 hBx hT hr hr0 hsw
  go_enter Tryz.func15, Tryz.ntmps15
  go_wp2_with fail
  refine hri.mono ?_
  rintro e w1 ⟨rfl, hB1⟩
  have HP := Lib.hid (HP0.out.below hB1)
  have hBw := HBX.out.trans (hB1.mono HBX.out.size)
  have HQ := Lib.hid (H.out.below hBw)
  have HB := Lib.hid hBw
  obtain ⟨X, hXe⟩ : ∃ X, w.heap.size = X := ⟨_, rfl⟩
  rw [hXe] at HP
  have HXE := Lib.hid hXe
  have p4 : w1.cell? ⟨X, 4, none⟩ = some (.int .i64 (b : Int)) := HP.out.cell 4 _ rfl
  have pl := HP.out.lt
  have hno := fun W => nothing_any b HB1.out HB2.out W
  clear hB1 hri HBX HP0 hBw k0 hl hw
  go_wp2_with fail
  refine (hno _).mono ?_
  rintro e w2 ⟨rfl, hB2, hS2, -⟩
  have HE : Hid (Hl.Sk w1.heap.size b (zl b) w2) := Lib.hid hS2
  have HQ2 := Lib.hid (HQ.out.below hB2)
  have HP2 := Lib.hid (HP.out.below hB2)
  have HBB := Lib.hid (HB.out.trans (hB2.mono HB.out.size))
  have HES := Lib.hid HB.out.size
  have hEX : X < w1.heap.size := HP.out.lt
  have HEX := Lib.hid hEX
  clear hB2 hS2 p4 pl HQ HP HB hEX
  have k0 : w2.cell? ⟨a.B, 0, none⟩ = some (.int .i64 s.win) := HQ2.out.c.cell 0 _ rfl
  have k4 : w2.cell? ⟨a.B, 4, none⟩ = some (.pointer (some ⟨a.N, 0, none⟩)) := HQ2.out.c.cell 4 _ rfl
  have hl := HQ2.out.c.lt
  rw [HSW.out] at k0
  have hw9 := HW.out
  have hs9 := HSWB.out
  have hd1 : IntKind.i64.wrap (win - sw) = win - sw := IntWalk.i64_in _ (by omega)
  have hd2 : ¬ win - sw = 1 := hdi
  clear hno hw9 hs9
  go_wp2_with fail
  clear k0 k4 hl hd1 hd2
  have hxb : X ≠ a.B := by have h1 := HAB.out.1; have h2 := HXE.out; omega
  refine roll_6 _ (by kernel_rfl) _ w2 HQ2.out X w1.heap.size b (zl b) x0 x1 x2 x5 x6 x7 x8 x9 r b (0) q l d HP2.out hxb HX1.out HX2.out HE.out (Hl.Low.zero _) (est_zl b HB1.out HB2.out) _ _ _ _ _ _ _ _ _ _ _ _ _ _ _ _ _ _ _ _ _ _ _ _ _ _ _ _ _ _ _ _ _ _ _ _ _ _ _ _ _ _ _ _ _ _ _ _ _ _ _ _ _ _ _ _ _ _ _ _ _ _ _ _ _ _ _ _ _ _ _ _ _ _ _ ?_
  intro W' z34 z35 z36 z37 z38 z39 z40 z41 z42 z43 z44 z45 z46 z47 z48 hQ' hM' hP'
  rename_i K hK
  refine hK _ _ ?_
  clear hK
  exact roll_7a _ (by kernel_rfl) W' hQ' X w1.heap.size (zl b) x0 x1 x2 x5 x6 x7 x8 x9 win 2 r b q l d hP' hxb (sk_mov HE.out hM' (by show ¬ w1.heap.size = a.B; have h1 := HAB.out.1; have h2 := HES.out; omega)) (Hl.Low.zero _) (by have h1 := HAB.out.1; have h2 := HES.out; omega) (.inr HES.out) (Nat.le_trans HAB.out.2.1 HES.out) ((Tq.Mov.ofB (S := a.own) HBB.out).trans (mov_one (S := a.own) hM' own_B) (fun _ _ h => h)) HAB.out.2.1 HB1.out HB2.out HR1.out HR2.out HW.out.1 HW.out.2 _ _ _ _ _ _ _ _ _ _ _ _ _ _ _ _ _ _ _ _ _ _ _ _ _ _ _ _ _ _ _ _ _ _ _ _ _ _ _ _ _ _ _ _ _ _ _ _ _ _ _ _ _ _ _ _ _ _ _ _ _ _ _ _ _ _ _ _ _ _ _ _ _
end Go.Proofs.YtcgkgdhbipbnfaaGreatDoor.Qu

