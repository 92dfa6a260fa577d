/- What is told of a quota. -/
import Derived.Test.YtcgkgdhbipbnfaaGreatDoorQuE
import Derived.Test.YtcgkgdhbipbnfaaGreatDoorReg4
namespace Go.Proofs.YtcgkgdhbipbnfaaGreatDoor.Qu
open Go Go.RowKit

/-- Items as they are told. -/
def ItAt (S0 : Nat) (l : List Tq.Itm) (v : Value) (w : World) : Prop := ∃ its, Tq.Its S0 79 v its w ∧ its.Perm l ∧ Tq.Told its
theorem ItAt.below {S0 : Nat} {l : List Tq.Itm} {v : Value} {w w' : World} (h : ItAt S0 l v w) (hB : Below w.heap.size w w') : ItAt S0 l v w' := by
  obtain ⟨its, h1, h2, h3⟩ := h
  exact ⟨its, h1.below hB, h2, h3⟩
/-- What each operation yields. -/
def StPhi (S0 B nN nP nT se : Nat) (win _ _ : Int) (cl : Bool) (sn so : ByteArray) (l : List Tq.Itm) : Nat → Value → World → Prop
  | 28, v, w => ItAt S0 l v w
  | 29, v, w => ∃ u, v = .agg #[.int .i64 win, .bool cl, .string sn, .string so, .int .u64 (se : Int), u] ∧ ItAt S0 l u w
  | i, v, _ => v = ([.pointer (some ⟨B, 0, none⟩), .pointer (some ⟨B, 0, none⟩), .pointer (some ⟨B, 0, none⟩), .int .i64 win, .pointer (some ⟨B, 0, none⟩), .pointer (some ⟨B, 0, none⟩), .pointer (some ⟨B, 1, none⟩), .pointer (some ⟨B, 1, none⟩), .bool cl, .pointer (some ⟨B, 0, none⟩), .pointer (some ⟨B, 0, none⟩), .pointer (some ⟨B, 4, none⟩), .pointer (some ⟨nN, 0, none⟩), .string sn, .pointer (some ⟨B, 0, none⟩), .pointer (some ⟨B, 0, none⟩), .pointer (some ⟨B, 5, none⟩), .pointer (some ⟨nP, 0, none⟩), .string so, .pointer (some ⟨B, 0, none⟩), .pointer (some ⟨B, 0, none⟩), .pointer (some ⟨B, 6, none⟩), .pointer (some ⟨nT, 0, none⟩), .int .u64 ((se : Int)), .pointer (some ⟨B, 0, none⟩), .pointer (some ⟨B, 0, none⟩), .pointer (some ⟨B, 6, none⟩), .pointer (some ⟨nT, 0, none⟩), undef, undef, undef] : List Value).getD i undef
theorem StPhi.stays {S0 B nN nP nT se : Nat} {win lo hi : Int} {cl : Bool} {sn so : ByteArray} {l : List Tq.Itm} : ∀ i v w w', StPhi S0 B nN nP nT se win lo hi cl sn so l i v w → Reg.Old w w' → StPhi S0 B nN nP nT se win lo hi cl sn so l i v w' := by
  intro i v w w' hv hB
  unfold StPhi at *
  split at hv
  · exact hv.below hB
  · obtain ⟨u, h1, h2⟩ := hv
    exact ⟨u, h1, h2.below hB⟩
  · exact hv
theorem load_state {P : Nat} {a b c d e f : Value} {w : World} (_ : CellsAt P #[a, b, c, d, e, f] w) (_ : a.cells.toList = [a]) (_ : b.cells.toList = [b]) (_ : c.cells.toList = [c]) (_ : d.cells.toList = [d]) (_ : e.cells.toList = [e]) (_ : f.cells.toList = [f]) : True := trivial
set_option maxRecDepth 100000 in
set_option maxHeartbeats 16000000 in
theorem state_any {base : Nat} {a : Ad} {s : St} {w : World} (h : Qo base a s w) :
    Calls Tryz.prog 20 #[.pointer (some ⟨a.B, 0, none⟩)] w fun e w' => ∃ v, e = .returned (.agg #[.int .i64 s.win, .bool s.cl, .string (Hl.tx s.now), .string (Hl.tx s.old), .int .u64 (Tq.seen s.l : Nat), v]) ∧ ItAt w.heap.size s.l v w' ∧ Below w.heap.size w w' := by
  obtain ⟨B, nN, nP, nT, v0⟩ := a
  obtain ⟨win, cl, lo, hi, b, now, old, room, l⟩ := s
  obtain ⟨sn, hsn⟩ : ∃ t, Hl.tx now = t := ⟨_, rfl⟩
  obtain ⟨so, hso⟩ : ∃ t, Hl.tx old = t := ⟨_, rfl⟩
  obtain ⟨se, hse⟩ : ∃ t, Tq.seen l = t := ⟨_, rfl⟩
  show Calls _ _ _ _ fun e w' => ∃ v, e = .returned (.agg #[.int .i64 win, .bool cl, .string (Hl.tx now), .string (Hl.tx old), .int .u64 (Tq.seen l : Nat), v]) ∧ ItAt w.heap.size l v w' ∧ Below w.heap.size w w'
  rw [hsn, hso, hse]
  obtain ⟨R, hR⟩ : ∃ R, w.heap.size = R := ⟨_, rfl⟩
  have hBx : Below w.heap.size w (w.alloc (.cells #[.int .i64 0, .bool false, .string ⟨#[]⟩, .string ⟨#[]⟩, .int .u64 0, .slice none 0 0] 59)) := (Below.refl _ _).alloc (Nat.le_refl _) _
  have HQ := Lib.hid (h.below hBx)
  have HZ : Hid (CellsAt R #[.int .i64 0, .bool false, .string ⟨#[]⟩, .string ⟨#[]⟩, .int .u64 0, .slice none 0 0] (w.alloc (.cells #[.int .i64 0, .bool false, .string ⟨#[]⟩, .string ⟨#[]⟩, .int .u64 0, .slice none 0 0] 59))) := Lib.hid (CellsAt.newAt #[.int .i64 0, .bool false, .string ⟨#[]⟩, .string ⟨#[]⟩, .int .u64 0, .slice none 0 0] 59 w R hR.symm)
  have HBX := Lib.hid hBx
  have HRS := Lib.hid hR
  clear hBx h
  go_enter Tryz.func20, Tryz.ntmps20
  go_wp2_with fail
  generalize hWe : w.alloc (.cells #[.int .i64 0, .bool false, .string ⟨#[]⟩, .string ⟨#[]⟩, .int .u64 0, .slice none 0 0] 59) = W at *
  obtain ⟨S0, hS0⟩ : ∃ S, W.heap.size = S := ⟨_, rfl⟩
  have HS0 := Lib.hid hS0
  have hRS : R < S0 := by rw [← hS0]; exact HZ.out.lt
  have HRS0 := Lib.hid hRS
  clear hWe hR hS0 hRS
  have HC : Hid (CellsAt B #[.int .i64 win, .bool cl, .int .u64 lo, .int .u64 hi, .pointer (some ⟨nN, 0, none⟩), .pointer (some ⟨nP, 0, none⟩), .pointer (some ⟨nT, 0, none⟩)] W) := Lib.hid HQ.out.c
  have HRN : Hid (∀ wc, Reg.Old W.drew wc → Calls Tryz.prog 51 #[.pointer (some ⟨nN, 0, none⟩)] wc fun e w' => e = .returned (.string sn) ∧ wc = w') := Lib.hid (fun wc hB => by rw [← hsn]; exact Hl.registers_any (HQ.out.now.drew.below hB))
  have HRO : Hid (∀ wc, Reg.Old W.drew wc → Calls Tryz.prog 51 #[.pointer (some ⟨nP, 0, none⟩)] wc fun e w' => e = .returned (.string so) ∧ wc = w') := Lib.hid (fun wc hB => by rw [← hso]; exact Hl.registers_any (HQ.out.old.drew.below hB))
  have HSE : Hid (∀ wc, Reg.Old W.drew wc → Calls Tryz.prog 52 #[.pointer (some ⟨nT, 0, none⟩)] wc fun e w' => e = .returned (.int .u64 (se : Int)) ∧ Below wc.heap.size wc w') := Lib.hid (fun wc hB => by rw [← hse]; exact Tq.seen_walk (HQ.out.top.drew.below hB))
  have HIT : Hid (∀ wc, Reg.Old W.drew wc → Calls Tryz.prog 53 #[.pointer (some ⟨nT, 0, none⟩)] wc (Tq.ItemsOf l wc)) := Lib.hid (fun wc hB => Tq.items_any (HQ.out.top.drew.below hB))
  clear HQ
  clear hsn hso hse
  go_wp2_with fail
  refine Reg.wp_region_last2 (n := 33) 30 (StPhi S0 B nN nP nT se win lo hi cl sn so l) (by kernel_rfl) rfl (by kernel_rfl) (by kernel_rfl) rfl StPhi.stays ?_ ?_
  · refine ⟨?_, ?_, ?_, ?_, ?_, ?_, ?_, ?_, ?_, ?_, ?_, ?_, ?_, ?_, ?_, ?_, ?_, ?_, ?_, ?_, ?_, ?_, ?_, ?_, ?_, ?_, ?_, ?_, ?_, ?_, ?_, trivial⟩
    · intro _ cx wc hB hp hs
      have g0 : cx.tmps[0]? = some (.pointer (some ⟨B, 0, none⟩)) := (hs 0 (by kernel_rfl)).trans rfl
      refine Reg.ok_value Reg.Old.refl (v := .pointer (some ⟨B, 0, none⟩)) (Reg.wanted_none rfl) ?_ rfl
      go_simp
    · intro _ cx wc hB hp hs
      have g3 : cx.tmps[3]? = some (.pointer (some ⟨B, 0, none⟩)) := by obtain ⟨_, g, hv⟩ := Reg.pred hp 0 3 (by kernel_rfl) rfl rfl; exact g.trans (congrArg some hv)
      refine Reg.ok_value Reg.Old.refl (v := .pointer (some ⟨B, 0, none⟩)) (Reg.wanted_none rfl) ?_ rfl
      go_simp
    · intro _ cx wc hB hp hs
      have g4 : cx.tmps[4]? = some (.pointer (some ⟨B, 0, none⟩)) := by obtain ⟨_, g, hv⟩ := Reg.pred hp 1 4 (by kernel_rfl) rfl rfl; exact g.trans (congrArg some hv)
      refine Reg.ok_value Reg.Old.refl (v := .pointer (some ⟨B, 0, none⟩)) (Reg.wanted_none rfl) ?_ rfl
      go_simp
    · intro _ cx wc hB hp hs
      have g5 : cx.tmps[5]? = some (.pointer (some ⟨B, 0, none⟩)) := by obtain ⟨_, g, hv⟩ := Reg.pred hp 2 5 (by kernel_rfl) rfl rfl; exact g.trans (congrArg some hv)
      have k0 := (HC.out.drew.below hB).cell 0 _ rfl
      refine Reg.ok_value Reg.Old.refl (v := .int .i64 win) (Reg.wanted_none rfl) ?_ rfl
      go_simp
    · intro _ cx wc hB hp hs
      have g0 : cx.tmps[0]? = some (.pointer (some ⟨B, 0, none⟩)) := (hs 0 (by kernel_rfl)).trans rfl
      refine Reg.ok_value Reg.Old.refl (v := .pointer (some ⟨B, 0, none⟩)) (Reg.wanted_none rfl) ?_ rfl
      go_simp
    · intro _ cx wc hB hp hs
      have g7 : cx.tmps[7]? = some (.pointer (some ⟨B, 0, none⟩)) := by obtain ⟨_, g, hv⟩ := Reg.pred hp 4 7 (by kernel_rfl) rfl rfl; exact g.trans (congrArg some hv)
      refine Reg.ok_value Reg.Old.refl (v := .pointer (some ⟨B, 0, none⟩)) (Reg.wanted_none rfl) ?_ rfl
      go_simp
    · intro _ cx wc hB hp hs
      have g8 : cx.tmps[8]? = some (.pointer (some ⟨B, 0, none⟩)) := by obtain ⟨_, g, hv⟩ := Reg.pred hp 5 8 (by kernel_rfl) rfl rfl; exact g.trans (congrArg some hv)
      refine Reg.ok_value Reg.Old.refl (v := .pointer (some ⟨B, 1, none⟩)) (Reg.wanted_none rfl) ?_ rfl
      go_simp
    · intro _ cx wc hB hp hs
      have g9 : cx.tmps[9]? = some (.pointer (some ⟨B, 1, none⟩)) := by obtain ⟨_, g, hv⟩ := Reg.pred hp 6 9 (by kernel_rfl) rfl rfl; exact g.trans (congrArg some hv)
      refine Reg.ok_value Reg.Old.refl (v := .pointer (some ⟨B, 1, none⟩)) (Reg.wanted_none rfl) ?_ rfl
      go_simp
    · intro _ cx wc hB hp hs
      have g10 : cx.tmps[10]? = some (.pointer (some ⟨B, 1, none⟩)) := by obtain ⟨_, g, hv⟩ := Reg.pred hp 7 10 (by kernel_rfl) rfl rfl; exact g.trans (congrArg some hv)
      have k1 := (HC.out.drew.below hB).cell 1 _ rfl
      refine Reg.ok_value Reg.Old.refl (v := .bool cl) (Reg.wanted_none rfl) ?_ rfl
      go_simp
    · intro _ cx wc hB hp hs
      have g0 : cx.tmps[0]? = some (.pointer (some ⟨B, 0, none⟩)) := (hs 0 (by kernel_rfl)).trans rfl
      refine Reg.ok_value Reg.Old.refl (v := .pointer (some ⟨B, 0, none⟩)) (Reg.wanted_none rfl) ?_ rfl
      go_simp
    · intro _ cx wc hB hp hs
      have g12 : cx.tmps[12]? = some (.pointer (some ⟨B, 0, none⟩)) := by obtain ⟨_, g, hv⟩ := Reg.pred hp 9 12 (by kernel_rfl) rfl rfl; exact g.trans (congrArg some hv)
      refine Reg.ok_value Reg.Old.refl (v := .pointer (some ⟨B, 0, none⟩)) (Reg.wanted_none rfl) ?_ rfl
      go_simp
    · intro _ cx wc hB hp hs
      have g13 : cx.tmps[13]? = some (.pointer (some ⟨B, 0, none⟩)) := by obtain ⟨_, g, hv⟩ := Reg.pred hp 10 13 (by kernel_rfl) rfl rfl; exact g.trans (congrArg some hv)
      refine Reg.ok_value Reg.Old.refl (v := .pointer (some ⟨B, 4, none⟩)) (Reg.wanted_none rfl) ?_ rfl
      go_simp
    · intro _ cx wc hB hp hs
      have g14 : cx.tmps[14]? = some (.pointer (some ⟨B, 4, none⟩)) := by obtain ⟨_, g, hv⟩ := Reg.pred hp 11 14 (by kernel_rfl) rfl rfl; exact g.trans (congrArg some hv)
      have k4 := (HC.out.drew.below hB).cell 4 _ rfl
      refine Reg.ok_value Reg.Old.refl (v := .pointer (some ⟨nN, 0, none⟩)) (Reg.wanted_none rfl) ?_ rfl
      go_simp
    · intro _ cx wc hB hp hs
      have g15 : cx.tmps[15]? = some (.pointer (some ⟨nN, 0, none⟩)) := by obtain ⟨_, g, hv⟩ := Reg.pred hp 12 15 (by kernel_rfl) rfl rfl; exact g.trans (congrArg some hv)
      refine Reg.ok_call (f := 51) (args := #[.pointer (some ⟨nN, 0, none⟩)]) (Reg.wanted_none rfl) (by go_simp) ((HRN.out wc hB).mono ?_)
      rintro e w' ⟨rfl, rfl⟩
      exact ⟨_, rfl, Reg.Old.refl _, rfl⟩
    · intro _ cx wc hB hp hs
      have g0 : cx.tmps[0]? = some (.pointer (some ⟨B, 0, none⟩)) := (hs 0 (by kernel_rfl)).trans rfl
      refine Reg.ok_value Reg.Old.refl (v := .pointer (some ⟨B, 0, none⟩)) (Reg.wanted_none rfl) ?_ rfl
      go_simp
    · intro _ cx wc hB hp hs
      have g17 : cx.tmps[17]? = some (.pointer (some ⟨B, 0, none⟩)) := by obtain ⟨_, g, hv⟩ := Reg.pred hp 14 17 (by kernel_rfl) rfl rfl; exact g.trans (congrArg some hv)
      refine Reg.ok_value Reg.Old.refl (v := .pointer (some ⟨B, 0, none⟩)) (Reg.wanted_none rfl) ?_ rfl
      go_simp
    · intro _ cx wc hB hp hs
      have g18 : cx.tmps[18]? = some (.pointer (some ⟨B, 0, none⟩)) := by obtain ⟨_, g, hv⟩ := Reg.pred hp 15 18 (by kernel_rfl) rfl rfl; exact g.trans (congrArg some hv)
      refine Reg.ok_value Reg.Old.refl (v := .pointer (some ⟨B, 5, none⟩)) (Reg.wanted_none rfl) ?_ rfl
      go_simp
    · intro _ cx wc hB hp hs
      have g19 : cx.tmps[19]? = some (.pointer (some ⟨B, 5, none⟩)) := by obtain ⟨_, g, hv⟩ := Reg.pred hp 16 19 (by kernel_rfl) rfl rfl; exact g.trans (congrArg some hv)
      have k5 := (HC.out.drew.below hB).cell 5 _ rfl
      refine Reg.ok_value Reg.Old.refl (v := .pointer (some ⟨nP, 0, none⟩)) (Reg.wanted_none rfl) ?_ rfl
      go_simp
    · intro _ cx wc hB hp hs
      have g20 : cx.tmps[20]? = some (.pointer (some ⟨nP, 0, none⟩)) := by obtain ⟨_, g, hv⟩ := Reg.pred hp 17 20 (by kernel_rfl) rfl rfl; exact g.trans (congrArg some hv)
      refine Reg.ok_call (f := 51) (args := #[.pointer (some ⟨nP, 0, none⟩)]) (Reg.wanted_none rfl) (by go_simp) ((HRO.out wc hB).mono ?_)
      rintro e w' ⟨rfl, rfl⟩
      exact ⟨_, rfl, Reg.Old.refl _, rfl⟩
    · intro _ cx wc hB hp hs
      have g0 : cx.tmps[0]? = some (.pointer (some ⟨B, 0, none⟩)) := (hs 0 (by kernel_rfl)).trans rfl
      refine Reg.ok_value Reg.Old.refl (v := .pointer (some ⟨B, 0, none⟩)) (Reg.wanted_none rfl) ?_ rfl
      go_simp
    · intro _ cx wc hB hp hs
      have g22 : cx.tmps[22]? = some (.pointer (some ⟨B, 0, none⟩)) := by obtain ⟨_, g, hv⟩ := Reg.pred hp 19 22 (by kernel_rfl) rfl rfl; exact g.trans (congrArg some hv)
      refine Reg.ok_value Reg.Old.refl (v := .pointer (some ⟨B, 0, none⟩)) (Reg.wanted_none rfl) ?_ rfl
      go_simp
    · intro _ cx wc hB hp hs
      have g23 : cx.tmps[23]? = some (.pointer (some ⟨B, 0, none⟩)) := by obtain ⟨_, g, hv⟩ := Reg.pred hp 20 23 (by kernel_rfl) rfl rfl; exact g.trans (congrArg some hv)
      refine Reg.ok_value Reg.Old.refl (v := .pointer (some ⟨B, 6, none⟩)) (Reg.wanted_none rfl) ?_ rfl
      go_simp
    · intro _ cx wc hB hp hs
      have g24 : cx.tmps[24]? = some (.pointer (some ⟨B, 6, none⟩)) := by obtain ⟨_, g, hv⟩ := Reg.pred hp 21 24 (by kernel_rfl) rfl rfl; exact g.trans (congrArg some hv)
      have k6 := (HC.out.drew.below hB).cell 6 _ rfl
      refine Reg.ok_value Reg.Old.refl (v := .pointer (some ⟨nT, 0, none⟩)) (Reg.wanted_none rfl) ?_ rfl
      go_simp
    · intro _ cx wc hB hp hs
      have g25 : cx.tmps[25]? = some (.pointer (some ⟨nT, 0, none⟩)) := by obtain ⟨_, g, hv⟩ := Reg.pred hp 22 25 (by kernel_rfl) rfl rfl; exact g.trans (congrArg some hv)
      refine Reg.ok_call (f := 52) (args := #[.pointer (some ⟨nT, 0, none⟩)]) (Reg.wanted_none rfl) (by go_simp) ((HSE.out wc hB).mono ?_)
      rintro e w' ⟨rfl, hB2⟩
      exact ⟨_, rfl, hB2, rfl⟩
    · intro _ cx wc hB hp hs
      have g0 : cx.tmps[0]? = some (.pointer (some ⟨B, 0, none⟩)) := (hs 0 (by kernel_rfl)).trans rfl
      refine Reg.ok_value Reg.Old.refl (v := .pointer (some ⟨B, 0, none⟩)) (Reg.wanted_none rfl) ?_ rfl
      go_simp
    · intro _ cx wc hB hp hs
      have g27 : cx.tmps[27]? = some (.pointer (some ⟨B, 0, none⟩)) := by obtain ⟨_, g, hv⟩ := Reg.pred hp 24 27 (by kernel_rfl) rfl rfl; exact g.trans (congrArg some hv)
      refine Reg.ok_value Reg.Old.refl (v := .pointer (some ⟨B, 0, none⟩)) (Reg.wanted_none rfl) ?_ rfl
      go_simp
    · intro _ cx wc hB hp hs
      have g28 : cx.tmps[28]? = some (.pointer (some ⟨B, 0, none⟩)) := by obtain ⟨_, g, hv⟩ := Reg.pred hp 25 28 (by kernel_rfl) rfl rfl; exact g.trans (congrArg some hv)
      refine Reg.ok_value Reg.Old.refl (v := .pointer (some ⟨B, 6, none⟩)) (Reg.wanted_none rfl) ?_ rfl
      go_simp
    · intro _ cx wc hB hp hs
      have g29 : cx.tmps[29]? = some (.pointer (some ⟨B, 6, none⟩)) := by obtain ⟨_, g, hv⟩ := Reg.pred hp 26 29 (by kernel_rfl) rfl rfl; exact g.trans (congrArg some hv)
      have k6 := (HC.out.drew.below hB).cell 6 _ rfl
      refine Reg.ok_value Reg.Old.refl (v := .pointer (some ⟨nT, 0, none⟩)) (Reg.wanted_none rfl) ?_ rfl
      go_simp
    · intro _ cx wc hB hp hs
      have g30 : cx.tmps[30]? = some (.pointer (some ⟨nT, 0, none⟩)) := by obtain ⟨_, g, hv⟩ := Reg.pred hp 27 30 (by kernel_rfl) rfl rfl; exact g.trans (congrArg some hv)
      refine Reg.ok_call (f := 53) (args := #[.pointer (some ⟨nT, 0, none⟩)]) (Reg.wanted_none rfl) (by go_simp) ((HIT.out wc hB).mono ?_)
      rintro e w' ⟨v, its, rfl, hI, hp2, ht, hB2⟩
      exact ⟨v, rfl, hB2, its, hI.mono (show S0 ≤ wc.heap.size by have := Below.size hB; rw [← HS0.out]; exact this), hp2, ht⟩
    · intro _ cx wc hB hp hs
      have g6 : cx.tmps[6]? = some (.int .i64 win) := by obtain ⟨_, g, hv⟩ := Reg.pred hp 3 6 (by kernel_rfl) rfl rfl; exact g.trans (congrArg some hv)
      have g11 : cx.tmps[11]? = some (.bool cl) := by obtain ⟨_, g, hv⟩ := Reg.pred hp 8 11 (by kernel_rfl) rfl rfl; exact g.trans (congrArg some hv)
      have g16 : cx.tmps[16]? = some (.string sn) := by obtain ⟨_, g, hv⟩ := Reg.pred hp 13 16 (by kernel_rfl) rfl rfl; exact g.trans (congrArg some hv)
      have g21 : cx.tmps[21]? = some (.string so) := by obtain ⟨_, g, hv⟩ := Reg.pred hp 18 21 (by kernel_rfl) rfl rfl; exact g.trans (congrArg some hv)
      have g26 : cx.tmps[26]? = some (.int .u64 ((se : Int))) := by obtain ⟨_, g, hv⟩ := Reg.pred hp 23 26 (by kernel_rfl) rfl rfl; exact g.trans (congrArg some hv)
      obtain ⟨u, g31, hit⟩ := Reg.pred hp 28 31 (by kernel_rfl) rfl rfl
      obtain ⟨its, hI, hp9, ht9⟩ := hit
      obtain ⟨p9, c9, rfl, _, _⟩ := hI.cap
      refine Reg.ok_value Reg.Old.refl (v := .agg #[.int .i64 win, .bool cl, .string sn, .string so, .int .u64 (se : Int), .slice p9 its.length c9]) (Reg.wanted_none rfl) ?_ ⟨.slice p9 its.length c9, rfl, its, hI, hp9, ht9⟩
      go_simp
    · exact fun h => absurd rfl h
  · intro cc wc hB hsz hdf hv ho
    obtain ⟨R31, h31, _⟩ := hv 28 _ 31 (by decide) rfl rfl
    obtain ⟨_, h32, u, rfl, hit⟩ := hv 29 _ 32 (by decide) rfl rfl
    obtain ⟨its, hI, hp9, ht9⟩ := hit
    obtain ⟨p9, c9, rfl, _, _⟩ := hI.cap
    have hfr := Reg.frame_eq [_, _, _, .pointer (some ⟨B, 0, none⟩), .pointer (some ⟨B, 0, none⟩), .pointer (some ⟨B, 0, none⟩), .int .i64 win, .pointer (some ⟨B, 0, none⟩), .pointer (some ⟨B, 0, none⟩), .pointer (some ⟨B, 1, none⟩), .pointer (some ⟨B, 1, none⟩), .bool cl, .pointer (some ⟨B, 0, none⟩), .pointer (some ⟨B, 0, none⟩), .pointer (some ⟨B, 4, none⟩), .pointer (some ⟨nN, 0, none⟩), .string sn, .pointer (some ⟨B, 0, none⟩), .pointer (some ⟨B, 0, none⟩), .pointer (some ⟨B, 5, none⟩), .pointer (some ⟨nP, 0, none⟩), .string so, .pointer (some ⟨B, 0, none⟩), .pointer (some ⟨B, 0, none⟩), .pointer (some ⟨B, 6, none⟩), .pointer (some ⟨nT, 0, none⟩), .int .u64 ((se : Int)), .pointer (some ⟨B, 0, none⟩), .pointer (some ⟨B, 0, none⟩), .pointer (some ⟨B, 6, none⟩), .pointer (some ⟨nT, 0, none⟩), R31, .agg #[.int .i64 win, .bool cl, .string sn, .string so, .int .u64 (se : Int), .slice p9 its.length c9]] (by simpa using hsz) hdf ⟨((Reg.kept_but ho 0 (by kernel_rfl)).trans rfl), ((Reg.kept_but ho 1 (by kernel_rfl)).trans rfl), ((Reg.kept_but ho 2 (by kernel_rfl)).trans rfl), (by obtain ⟨_, g, hx⟩ := hv 0 _ 3 (by decide) rfl rfl; exact g.trans (congrArg some hx)), (by obtain ⟨_, g, hx⟩ := hv 1 _ 4 (by decide) rfl rfl; exact g.trans (congrArg some hx)), (by obtain ⟨_, g, hx⟩ := hv 2 _ 5 (by decide) rfl rfl; exact g.trans (congrArg some hx)), (by obtain ⟨_, g, hx⟩ := hv 3 _ 6 (by decide) rfl rfl; exact g.trans (congrArg some hx)), (by obtain ⟨_, g, hx⟩ := hv 4 _ 7 (by decide) rfl rfl; exact g.trans (congrArg some hx)), (by obtain ⟨_, g, hx⟩ := hv 5 _ 8 (by decide) rfl rfl; exact g.trans (congrArg some hx)), (by obtain ⟨_, g, hx⟩ := hv 6 _ 9 (by decide) rfl rfl; exact g.trans (congrArg some hx)), (by obtain ⟨_, g, hx⟩ := hv 7 _ 10 (by decide) rfl rfl; exact g.trans (congrArg some hx)), (by obtain ⟨_, g, hx⟩ := hv 8 _ 11 (by decide) rfl rfl; exact g.trans (congrArg some hx)), (by obtain ⟨_, g, hx⟩ := hv 9 _ 12 (by decide) rfl rfl; exact g.trans (congrArg some hx)), (by obtain ⟨_, g, hx⟩ := hv 10 _ 13 (by decide) rfl rfl; exact g.trans (congrArg some hx)), (by obtain ⟨_, g, hx⟩ := hv 11 _ 14 (by decide) rfl rfl; exact g.trans (congrArg some hx)), (by obtain ⟨_, g, hx⟩ := hv 12 _ 15 (by decide) rfl rfl; exact g.trans (congrArg some hx)), (by obtain ⟨_, g, hx⟩ := hv 13 _ 16 (by decide) rfl rfl; exact g.trans (congrArg some hx)), (by obtain ⟨_, g, hx⟩ := hv 14 _ 17 (by decide) rfl rfl; exact g.trans (congrArg some hx)), (by obtain ⟨_, g, hx⟩ := hv 15 _ 18 (by decide) rfl rfl; exact g.trans (congrArg some hx)), (by obtain ⟨_, g, hx⟩ := hv 16 _ 19 (by decide) rfl rfl; exact g.trans (congrArg some hx)), (by obtain ⟨_, g, hx⟩ := hv 17 _ 20 (by decide) rfl rfl; exact g.trans (congrArg some hx)), (by obtain ⟨_, g, hx⟩ := hv 18 _ 21 (by decide) rfl rfl; exact g.trans (congrArg some hx)), (by obtain ⟨_, g, hx⟩ := hv 19 _ 22 (by decide) rfl rfl; exact g.trans (congrArg some hx)), (by obtain ⟨_, g, hx⟩ := hv 20 _ 23 (by decide) rfl rfl; exact g.trans (congrArg some hx)), (by obtain ⟨_, g, hx⟩ := hv 21 _ 24 (by decide) rfl rfl; exact g.trans (congrArg some hx)), (by obtain ⟨_, g, hx⟩ := hv 22 _ 25 (by decide) rfl rfl; exact g.trans (congrArg some hx)), (by obtain ⟨_, g, hx⟩ := hv 23 _ 26 (by decide) rfl rfl; exact g.trans (congrArg some hx)), (by obtain ⟨_, g, hx⟩ := hv 24 _ 27 (by decide) rfl rfl; exact g.trans (congrArg some hx)), (by obtain ⟨_, g, hx⟩ := hv 25 _ 28 (by decide) rfl rfl; exact g.trans (congrArg some hx)), (by obtain ⟨_, g, hx⟩ := hv 26 _ 29 (by decide) rfl rfl; exact g.trans (congrArg some hx)), (by obtain ⟨_, g, hx⟩ := hv 27 _ 30 (by decide) rfl rfl; exact g.trans (congrArg some hx)), h31, h32, trivial⟩
    subst hfr
    have hBw : Below W.heap.size W wc := (Below.refl _ _).drew.trans hB
    have hZ := HZ.out.below hBw
    have k0 := hZ.cell 0 _ rfl
    have k1 := hZ.cell 1 _ rfl
    have k2 := hZ.cell 2 _ rfl
    have k3 := hZ.cell 3 _ rfl
    have k4 := hZ.cell 4 _ rfl
    have k5 := hZ.cell 5 _ rfl
    have f0 := hZ.fro 0 _ rfl
    have f1 := hZ.fro 1 _ rfl
    have f2 := hZ.fro 2 _ rfl
    have f3 := hZ.fro 3 _ rfl
    have f4 := hZ.fro 4 _ rfl
    have f5 := hZ.fro 5 _ rfl
    have zl := hZ.lt
    simp only [List.getElem_toArray, List.getElem_cons_zero, List.getElem_cons_succ] at k0 k1 k2 k3 k4 k5
    have hM : Tq.Mov (fun k => k = R) wc ((((((wc.setCell ⟨R, 0, none⟩ (.int .i64 win)).setCell ⟨R, 1, none⟩ (.bool cl)).setCell ⟨R, 2, none⟩ (.string sn)).setCell ⟨R, 3, none⟩ (.string so)).setCell ⟨R, 4, none⟩ (.int .u64 (se : Int))).setCell ⟨R, 5, none⟩ (.slice p9 its.length c9)) :=
      ((((((Tq.Mov.refl (fun k => k = R) wc).set rfl 0 _).set rfl 1 _).set rfl 2 _).set rfl 3 _).set rfl 4 _).set rfl 5 _
    have hcells := (((((hZ.set 0 (.int .i64 win) (by simp)).set 1 (.bool cl) (by simp)).set 2 (.string sn) (by simp)).set 3 (.string so) (by simp)).set 4 (.int .u64 (se : Int)) (by simp)).set 5 (.slice p9 its.length c9) (by simp)
    have hlr : R < S0 := HRS0.out
    have HI2 := Lib.hid (hI.mov hM (fun g hg e => by have := (hI.lt hg).1; omega))
    have HM := Lib.hid hM
    have HCL := Lib.hid hcells
    have HBW := Lib.hid hBw
    refine Reg.store_then (w2 := ((((((wc.setCell ⟨R, 0, none⟩ (.int .i64 win)).setCell ⟨R, 1, none⟩ (.bool cl)).setCell ⟨R, 2, none⟩ (.string sn)).setCell ⟨R, 3, none⟩ (.string so)).setCell ⟨R, 4, none⟩ (.int .u64 (se : Int))).setCell ⟨R, 5, none⟩ (.slice p9 its.length c9))) ?_ rfl ?_
    · clear HI2 HM HCL HBW hM hcells hBw hI hp9 ht9 hv ho hB hZ
      go_simp
    clear hM hcells hBw hI hv ho hB hZ k0 k1 k2 k3 k4 k5 f0 f1 f2 f3 f4 f5 zl h31 h32
    generalize ((((((wc.setCell ⟨R, 0, none⟩ (.int .i64 win)).setCell ⟨R, 1, none⟩ (.bool cl)).setCell ⟨R, 2, none⟩ (.string sn)).setCell ⟨R, 3, none⟩ (.string so)).setCell ⟨R, 4, none⟩ (.int .u64 (se : Int))).setCell ⟨R, 5, none⟩ (.slice p9 its.length c9)) = W9 at *
    have q0 := HCL.out.cell 0 _ rfl
    have q1 := HCL.out.cell 1 _ rfl
    have q2 := HCL.out.cell 2 _ rfl
    have q3 := HCL.out.cell 3 _ rfl
    have q4 := HCL.out.cell 4 _ rfl
    have q5 := HCL.out.cell 5 _ rfl
    simp at q0 q1 q2 q3 q4 q5
    go_wp2
    refine bodyPost_ret (Ga.result_cell rfl rfl (v := .agg #[.int .i64 win, .bool cl, .string sn, .string so, .int .u64 (se : Int), .slice p9 its.length c9]) ?_) rfl ?_
    · simp [loadVar, go_sem, q0, q1, q2, q3, q4, q5]
    · refine ⟨.slice p9 its.length c9, rfl, ⟨its, HI2.out.mono ?_, hp9, ht9⟩, ?_⟩
      · rw [HRS.out]; omega
      · exact (HBX.out.trans (HBW.out.mono HBX.out.size)).trans (HM.out.below (fun k e => by rw [e, HRS.out]; exact Nat.le_refl _) (Nat.le_trans HBX.out.size HBW.out.size))
end Go.Proofs.YtcgkgdhbipbnfaaGreatDoor.Qu

