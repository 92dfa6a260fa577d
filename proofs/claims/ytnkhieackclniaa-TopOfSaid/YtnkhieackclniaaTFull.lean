/- A name comes to a top that is full: one goes for it. -/
import Derived.Test.YtnkhieackclniaaTAdd
import Derived.Deep.RegionWith
namespace Go.Proofs.Ytnkhieackclniaa
open Go Go.RowKit

set_option maxRecDepth 100000 in
set_option maxHeartbeats 8000000 in
theorem add_full {base B room : Nat} {v : Value} {l : List Itm} {w : World} (h : Tp base B room v l w) (name : ByteArray) (b : Nat) (hn : name.size ≤ 64) (hb : 0 < b) (hok : seen l + b ≤ 4611686018427387904) (hp : plc name l = none) (hr : ¬ l.length < room) :
    Calls Try.prog 12 #[.pointer (some ⟨B, 0, none⟩), .string name, .int .u64 b] w (Added base B room v (addL room name b l) 0 w) := by
  have hinv := inv_add h.inv hn hb hok
  rw [addL_full hp hr] at hinv ⊢
  have hpi : plcI name l = -1 := by unfold plcI; rw [hp]
  have hl16 : l.length ≤ 16 := Nat.le_trans h.inv.len h.inv.hi
  have hpos : 0 < l.length := by have := h.inv.lo; omega
  have hwl := worst_lt hpos
  have hms := many_le_seen (mem_at hwl)
  have hBox := (Below.refl w.heap.size w).alloc (Nat.le_refl _) (.cells #[.string name] 9)
  have hse := seen_walk (h.below hBox)
  have hN := CellsAt.new #[.string name] 9 w
  obtain ⟨g, cap, rfl, _⟩ := h.row.form_pos hpos
  have H := Lib.hid h
  have HB := Lib.hid hBox
  have HN := Lib.hid hN
  have HI := Lib.hid hinv
  clear h hBox hN hinv hp
  have h0 : ((b : Int) == 0) = false := by simp; omega
  have hd : decide (64 < (name.size : Int)) = false := by simp; omega
  have h1 : ¬ ((4611686018427387904 : Int) - (seen l : Int)) < b := by omega
  have hs2 : (seen l : Int) ≤ 4611686018427387904 := by omega
  go_enter Try.func12, Try.ntmps12
  go_wp2_with fail
  refine hse.mono ?_
  rintro e W1 ⟨rfl, hB1⟩
  have hBW := HB.out.trans (hB1.mono (by simp))
  have HT1 := Lib.hid (H.out.below hBW)
  have HN1 := Lib.hid (HN.out.below hB1)
  have k1 := HT1.out.c1
  have hix := index_any name HT1.out.row hl16 HN1.out.lt (HN1.out.cell 0 _ rfl)
  rw [hpi] at hix
  have HBW := Lib.hid hBW
  clear hse hB1 hpi hBW
  go_wp2_with fail
  refine hix.mono ?_
  rintro e W2 ⟨rfl, hB2⟩
  have hBW := HBW.out.trans (hB2.mono HBW.out.size)
  have HT2 := Lib.hid (HT1.out.below hB2)
  have HN2 := Lib.hid (HN1.out.below hB2)
  have n2 := HN2.out.cell 0 _ rfl
  have hcn := clone_name name hn W2
  have HBW := Lib.hid hBW
  clear hix hB2 hBW k1
  go_wp2_with fail
  refine hcn.mono ?_
  rintro e W3 ⟨rfl, hB3⟩
  have hBW := HBW.out.trans (hB3.mono HBW.out.size)
  have HT3 := Lib.hid (HT2.out.below hB3)
  have HBW := Lib.hid hBW
  clear hcn hB3 hBW n2
  have hX := CellsAt.new #[.string name, .int .u64 b, .int .u64 0] 51 W3
  have hBX := (Below.refl W3.heap.size W3).alloc (Nat.le_refl _) (.cells #[.string name, .int .u64 b, .int .u64 0] 51)
  have hhr := hasroom_any (HT3.out.below hBX)
  rw [show decide (l.length < room) = false from decide_eq_false hr] at hhr
  have HX := Lib.hid hX
  have HBX := Lib.hid hBX
  clear hX hBX
  go_wp2_with fail
  refine hhr.mono ?_
  rintro e W4 ⟨rfl, nq, rfl⟩
  have HT4 := Lib.hid ((HT3.out.below HBX.out).drewN nq)
  have hBW := below_drewN (HBW.out.trans (HBX.out.mono HBW.out.size)) nq
  have HX4 : Hid (CellsAt W3.heap.size #[.string name, .int .u64 b, .int .u64 0] ((W3.alloc (.cells #[.string name, .int .u64 b, .int .u64 0] 51)).drewN nq)) := Lib.hid ⟨HX.out.lt, HX.out.cell, HX.out.fro⟩
  have HXL : Hid (w.heap.size ≤ W3.heap.size) := Lib.hid HBW.out.size
  have hgX := (HT3.out.row.lt (g := g) rfl).2
  have hBX3 := HT3.out.lt
  generalize hW4 : (W3.alloc (.cells #[.string name, .int .u64 b, .int .u64 0] 51)).drewN nq = W4 at *
  clear hW4 hhr
  have HBW := Lib.hid hBW
  clear hBW
  have hBlt := HT4.out.lt
  have k1 := HT4.out.c1
  generalize W3.heap.size = X at *
  have hlp := least_place (HT4.out.drew) hpos
  have hi2 : (worst l : Int) < (l.length : Int) := by omega
  obtain ⟨m, hm⟩ : ∃ m, m = worst l := ⟨_, rfl⟩
  obtain ⟨y, hy⟩ : ∃ y, y = l[worst l]!.many := ⟨_, rfl⟩
  rw [← hm] at hlp hwl hi2
  rw [← hy] at hms
  have HM := Lib.hid hm
  have HY := Lib.hid hy
  clear hm hy
  go_wp2
  go_region_with (refine hlp.mono ?_; rintro e W5 ⟨rfl, hB5⟩; have z1 := (hB5.cell (p := ⟨B, 1, none⟩) hBlt).trans k1)
  all_goals
    have hB4 : Below W4.heap.size W4 W5 := (Below.refl W4.heap.size W4).drew.trans hB5
    have hT5 := HT4.out.below hB4
    have hX5 := HX4.out.below hB4
    have hBW5 := HBW.out.trans (hB4.mono HBW.out.size)
    obtain ⟨g', cap', hv, _, hgl, _, _, hcell, hfro⟩ := hT5.row.form_pos hpos
    simp only [Value.slice.injEq, Option.some.injEq, Addr.mk.injEq, and_true, true_and] at hv
    obtain ⟨rfl, rfl⟩ := hv
    obtain ⟨d0, d1, d2⟩ := hcell m hwl
    rw [HM.out, ← HY.out, ← HM.out] at d1
    have hXl := hX5.lt
    have x2 := hX5.cell 2 (.int .u64 0) rfl
    have f2 := hX5.fro 2 (.int .u64 0) rfl
    have hM6 : Mov (OwnT B (.slice (some ⟨g, 0, none⟩) l.length cap)) w (W5.setCell ⟨X, 2, none⟩ (.int .u64 y)) := (Mov.ofB hBW5).trans (((Mov.refl (fun k => k = X) W5)).set rfl 2 (.int .u64 y)) (fun i hi e => by have := HXL.out; omega)
    have hT6 : Tp base B room (.slice (some ⟨g, 0, none⟩) l.length cap) l (W5.setCell ⟨X, 2, none⟩ (.int .u64 y)) := hT5.mov ((Mov.refl (fun k => k = X) W5).set rfl _ _) (by omega) (fun g' hg' => by simp [Value.ownBlock] at hg'; omega)
    have hX6 : CellsAt X #[.string name, .int .u64 b, .int .u64 y] (W5.setCell ⟨X, 2, none⟩ (.int .u64 y)) := hX5.set 2 _ (by simp)
    have e1 : (W5.setCell ⟨X, 2, none⟩ (.int .u64 y)).cell? ⟨g, m * 3 + 1, none⟩ = some (.int .u64 y) := by rw [World.cell?_setCell_other (h := by intro e; have := congrArg Addr.block e; simp at this; omega)]; exact d1
    have HT6 := Lib.hid hT6
    have HX6 := Lib.hid hX6
    have HM6 := Lib.hid hM6
    clear hB5 hB4 hT5 hX5 hBW5 hcell hT6 hX6 hM6 z1 k1
    go_wp2
    generalize W5.setCell ⟨X, 2, none⟩ (.int .u64 y) = W6 at *
    have x60 := HX6.out.cell 0 (.string name) rfl
    have x61 := HX6.out.cell 1 (.int .u64 b) rfl
    have x62 := HX6.out.cell 2 (.int .u64 y) rfl
    have xf := HX6.out.fro 1 (.int .u64 b) rfl
    obtain ⟨g', cap', hv, _, hgl6, _, _, hcell, hfro6⟩ := HT6.out.row.form_pos hpos
    simp only [Value.slice.injEq, Option.some.injEq, Addr.mk.injEq, and_true, true_and] at hv
    obtain ⟨rfl, rfl⟩ := hv
    obtain ⟨d60, d61, d62⟩ := hcell m hwl
    have f60 := hfro6 (m * 3)
    have f61 := hfro6 (m * 3 + 1)
    have f62 := hfro6 (m * 3 + 2)
    have hne1 : ¬ (g = X) := by omega
    have hne2 : ¬ (X = g) := by omega
    have hby : (b : Int) + y ≤ 4611686018427387904 := by omega
    clear hcell hfro hfro6 d0 d1 d2 x2 f2 hgl d61
    go_region
    all_goals
      go_wp2
      go_ret
      have hc : ((b : Int) + (y : Int)) = ((y + b : Nat) : Int) := by omega
      rw [hc]
      have hMX := (Mov.refl (fun k => k = X) W6).set rfl 1 (.int .u64 (y + b : Nat))
      have hT7 := HT6.out.mov hMX (by omega) (fun g' hg' => by simp [Value.ownBlock] at hg'; omega)
      have hM7 := HM6.out.trans hMX (fun i hi e => by have := HXL.out; omega)
      generalize W6.setCell ⟨X, 1, none⟩ (.int .u64 (y + b : Nat)) = W7 at *
      have hr8 := hT7.row.store3 rfl m hwl ⟨name, y + b, y⟩
      have hS := (((Mov.refl (fun k => (Value.slice (some ⟨g, 0, none⟩) l.length cap).ownBlock = some k) W7).set rfl (m * 3) (.string name)).set rfl (m * 3 + 1) (.int .u64 (y + b : Nat))).set rfl (m * 3 + 2) (.int .u64 y)
      have hm := HM.out
      have hy := HY.out
      subst hm hy
      exact ⟨rfl, _, (hT7.rebuild hS HI.out hr8).drew, (hM7.trans hS (fun _ _ hk => .inr hk)).drew, fun _ hg => .inl hg⟩
end Go.Proofs.Ytnkhieackclniaa
