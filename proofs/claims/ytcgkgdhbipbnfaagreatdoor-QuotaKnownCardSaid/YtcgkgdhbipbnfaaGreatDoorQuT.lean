/- The window, and whether it is closed; a policy that is not right, a window below 0. -/
import Derived.Test.YtcgkgdhbipbnfaaGreatDoorQuS
import Derived.Test.YtcgkgdhbipbnfaaGreatDoorQuN
namespace Go.Proofs.YtcgkgdhbipbnfaaGreatDoor.Qu
open Go Go.RowKit

theorem closed_any {base : Nat} {a : Ad} {s : St} {w : World} (h : Qo base a s w) :
    Calls Tryz.prog 28 #[.pointer (some ⟨a.B, 0, none⟩)] w fun e w' => e = .returned (.bool s.cl) ∧ w = w' := by
  have k1 : w.cell? ⟨a.B, 1, none⟩ = some (.bool s.cl) := h.c.cell 1 _ rfl
  have hl := h.c.lt
  clear h
  generalize s.cl = c at *
  go_enter Tryz.func28, Tryz.ntmps28
  go_wp2
  go_ret
  exact ⟨rfl, rfl⟩
theorem window_any {base : Nat} {a : Ad} {s : St} {w : World} (h : Qo base a s w) :
    Calls Tryz.prog 14 #[.pointer (some ⟨a.B, 0, none⟩)] w fun e w' => e = .returned (.int .i64 s.win) ∧ w = w' := by
  have k1 : w.cell? ⟨a.B, 0, none⟩ = some (.int .i64 s.win) := h.c.cell 0 _ rfl
  have hl := h.c.lt
  clear h
  generalize s.win = c at *
  go_enter Tryz.func14, Tryz.ntmps14
  go_wp2
  go_ret
  exact ⟨rfl, rfl⟩
theorem new_neg (x0 x1 x2 x3 x4 x5 x6 x7 x8 x9 : Int) (win : Int) (q : Option Addr) (l d : Nat) (t : List Int) (hr : Po.rightZ [x0, x1, x2, x3, x4, x5, x6, x7, x8, x9] t = true) (hw0 : win < 0) (w : World) (hT : Po.Tr (fun _ => False) (.slice q l d) t w) :
    Calls Tryz.prog 11 #[.agg #[.int .i64 x0, .int .i64 x1, .int .i64 x2, .int .i64 x3, .int .i64 x4, .int .i64 x5, .int .i64 x6, .int .i64 x7, .int .i64 x8, .int .i64 x9, .slice q l d], .int .i64 win] w fun e w' => e = .returned (.tuple #[.pointer none, .int .i64 1]) ∧ Below w.heap.size w w' := by
  have hin : ∀ x ∈ [x0, x1, x2, x3, x4, x5, x6, x7, x8, x9], In64 x := fun x hx => Po.in64_of ((Po.right_in hr).1 x hx)
  have hBx : Below w.heap.size w (w.alloc (.cells #[.int .i64 x0, .int .i64 x1, .int .i64 x2, .int .i64 x3, .int .i64 x4, .int .i64 x5, .int .i64 x6, .int .i64 x7, .int .i64 x8, .int .i64 x9, .slice q l d] 24)) := (Below.refl _ _).alloc (Nat.le_refl _) _
  have HX0 := Lib.hid (CellsAt.new #[.int .i64 x0, .int .i64 x1, .int .i64 x2, .int .i64 x3, .int .i64 x4, .int .i64 x5, .int .i64 x6, .int .i64 x7, .int .i64 x8, .int .i64 x9, .slice q l d] 24 w)
  have hri := Po.right_any (fun _ => False) [x0, x1, x2, x3, x4, x5, x6, x7, x8, x9] t (.slice q l d) (w.alloc (.cells #[.int .i64 x0, .int .i64 x1, .int .i64 x2, .int .i64 x3, .int .i64 x4, .int .i64 x5, .int .i64 x6, .int .i64 x7, .int .i64 x8, .int .i64 x9, .slice q l d] 24)) rfl hin (hT.below hBx)
  rw [Po.right_same _ _ rfl, hr] at hri
  have HBX := Lib.hid hBx
  clear hin hBx hT hr
  go_enter Tryz.func11, Tryz.ntmps11
  go_wp2_with fail
  refine hri.mono ?_
  rintro e w1 ⟨rfl, hB1⟩
  have HB := Lib.hid (HBX.out.trans (hB1.mono HBX.out.size))
  clear hB1 hri HBX HX0
  go_wp2
  go_ret2
  exact ⟨rfl, HB.out⟩
theorem roll_bad {base : Nat} {a : Ad} {s : St} {w : World} (h : Qo base a s w) (x0 x1 x2 x3 x4 x5 x6 x7 x8 x9 : Int) (win : Int) (q : Option Addr) (l d : Nat) (t : List Int) (hr : Po.rightZ [x0, x1, x2, x3, x4, x5, x6, x7, x8, x9] t = false) (hin : ∀ x ∈ [x0, x1, x2, x3, x4, x5, x6, x7, x8, x9], In64 x) (hw : s.win < win) (hT : Po.Tr (fun _ => False) (.slice q l d) t w) :
    Calls Tryz.prog 15 #[.pointer (some ⟨a.B, 0, none⟩), .int .i64 win, .agg #[.int .i64 x0, .int .i64 x1, .int .i64 x2, .int .i64 x3, .int .i64 x4, .int .i64 x5, .int .i64 x6, .int .i64 x7, .int .i64 x8, .int .i64 x9, .slice q l d]] w fun e w' => e = .returned (.int .i64 0) ∧ Below w.heap.size w w' := by
  have k0 : w.cell? ⟨a.B, 0, none⟩ = some (.int .i64 s.win) := h.c.cell 0 _ rfl
  have hl := h.c.lt
  have hBx : Below w.heap.size w (w.alloc (.cells #[.int .i64 x0, .int .i64 x1, .int .i64 x2, .int .i64 x3, .int .i64 x4, .int .i64 x5, .int .i64 x6, .int .i64 x7, .int .i64 x8, .int .i64 x9, .slice q l d] 24)) := (Below.refl _ _).alloc (Nat.le_refl _) _
  have hri := Po.right_any (fun _ => False) [x0, x1, x2, x3, x4, x5, x6, x7, x8, x9] t (.slice q l d) (w.alloc (.cells #[.int .i64 x0, .int .i64 x1, .int .i64 x2, .int .i64 x3, .int .i64 x4, .int .i64 x5, .int .i64 x6, .int .i64 x7, .int .i64 x8, .int .i64 x9, .slice q l d] 24)) rfl hin (hT.below hBx)
  rw [Po.right_same _ _ rfl, hr] at hri
  have HBX := Lib.hid hBx
  generalize s.win = v at k0 hw
  have hw2 : ¬ win ≤ v := by omega
  clear hin hBx hT hr h hw
  go_enter Tryz.func15, Tryz.ntmps15
  go_wp2_with fail
  refine hri.mono ?_
  rintro e w1 ⟨rfl, hB1⟩
  have HB := Lib.hid (HBX.out.trans (hB1.mono HBX.out.size))
  clear hB1 hri HBX
  go_wp2
  go_ret
  exact ⟨rfl, HB.out⟩
theorem roll_old {base : Nat} {a : Ad} {s : St} {w : World} (h : Qo base a s w) (x0 x1 x2 x3 x4 x5 x6 x7 x8 x9 : Int) (win : Int) (q : Option Addr) (l d : Nat) (hw : win ≤ s.win) :
    Calls Tryz.prog 15 #[.pointer (some ⟨a.B, 0, none⟩), .int .i64 win, .agg #[.int .i64 x0, .int .i64 x1, .int .i64 x2, .int .i64 x3, .int .i64 x4, .int .i64 x5, .int .i64 x6, .int .i64 x7, .int .i64 x8, .int .i64 x9, .slice q l d]] w fun e w' => e = .returned (.int .i64 0) ∧ Below w.heap.size w w' := by
  have k0 : w.cell? ⟨a.B, 0, none⟩ = some (.int .i64 s.win) := h.c.cell 0 _ rfl
  have hl := h.c.lt
  have HB := Lib.hid ((Below.refl w.heap.size w).alloc (Nat.le_refl _) (.cells #[.int .i64 x0, .int .i64 x1, .int .i64 x2, .int .i64 x3, .int .i64 x4, .int .i64 x5, .int .i64 x6, .int .i64 x7, .int .i64 x8, .int .i64 x9, .slice q l d] 24))
  generalize s.win = v at k0 hw
  clear h
  go_enter Tryz.func15, Tryz.ntmps15
  go_wp2
  go_ret
  exact ⟨rfl, HB.out⟩
end Go.Proofs.YtcgkgdhbipbnfaaGreatDoor.Qu

