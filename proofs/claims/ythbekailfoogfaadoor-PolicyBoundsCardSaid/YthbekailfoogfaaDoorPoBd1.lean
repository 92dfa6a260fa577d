/- PolicyBounds walked. -/
import Derived.Test.YthbekailfoogfaaDoorPoBe
import Derived.Deep.Cut
namespace Go.Proofs.YthbekailfoogfaaDoor.Po
open Go Go.RowKit

set_option maxRecDepth 100000 in
set_option maxHeartbeats 16000000 in
theorem bounds_2_false (x : Nat) (hx : x < 256) (hki : (x : Int) % 10 = 2) (w : World) (hX : Tens w) :
    Calls Tryd.prog 8 #[.int .u8 (x : Int), .bool false] w fun e w' => e = .returned (.bool true) ∧ Below w.heap.size w w' := by
  have hex := examples_any w hX
  have HR1 : Hid (∀ (W : World) (p : Option Addr) (c : Nat), Tr (fun _ => False) (.slice p 2 c) [10, 60] W → Calls Tryd.prog 15 #[.agg #[.int .i64 64, .int .i64 0, .int .i64 0, .int .i64 8, .int .i64 6, .int .i64 2, .int .i64 2, .int .i64 60, .int .i64 30, .int .i64 5, .slice p 2 c]] W fun e w' => e = .returned (.bool true) ∧ Below W.heap.size W w') := Lib.hid (fun W p c h => right_lit [64, 0, 0, 8, 6, 2, 2, 60, 30, 5] true (by decide +kernel) rfl (by decide) W p c h)
  have HR2 : Hid (∀ (W : World) (p : Option Addr) (c : Nat), Tr (fun _ => False) (.slice p 2 c) [10, 60] W → Calls Tryd.prog 15 #[.agg #[.int .i64 64, .int .i64 0, .int .i64 (-1), .int .i64 8, .int .i64 6, .int .i64 2, .int .i64 2, .int .i64 60, .int .i64 30, .int .i64 5, .slice p 2 c]] W fun e w' => e = .returned (.bool false) ∧ Below W.heap.size W w') := Lib.hid (fun W p c h => right_lit [64, 0, -1, 8, 6, 2, 2, 60, 30, 5] false (by decide +kernel) rfl (by decide) W p c h)
  clear hX
  go_enter Tryd.func8, Tryd.ntmps8
  go_wp2_with fail
  refine hex.mono ?_
  rintro e w1 ⟨rfl, hB1⟩
  have HB1 := Lib.hid hB1
  clear hex hB1
  go_wp2_with fail
  refine (base_lit _).mono ?_
  rintro e w2 ⟨p, c, rfl, hT2, hB2⟩
  have HB2 := Lib.hid (HB1.out.trans (hB2.mono HB1.out.size))
  have HT2 := Lib.hid hT2
  clear HB1 hB2 hT2
  go_wp2
  have hA0 : CellsAt w2.heap.size #[.int .i64 64, .int .i64 0, .int .i64 64, .int .i64 8, .int .i64 6, .int .i64 2, .int .i64 2, .int .i64 60, .int .i64 30, .int .i64 5, .slice p 2 c] (((((w2.alloc (.cells #[.int .i64 64, .int .i64 0, .int .i64 64, .int .i64 8, .int .i64 6, .int .i64 2, .int .i64 2, .int .i64 60, .int .i64 30, .int .i64 5, .slice p 2 c] 24))).alloc (.cells #[.int .i64 1, .int .i64 0, .int .i64 0, .int .i64 1, .int .i64 4, .int .i64 0, .int .i64 1, .int .i64 1, .int .i64 0, .int .i64 0] 2)).alloc (.cells #[.int .i64 256, .int .i64 64, .int .i64 1000000, .int .i64 16, .int .i64 10, .int .i64 4, .int .i64 100, .int .i64 1000000000, .int .i64 1000000000, .int .i64 1000000000] 2)).alloc (.cells #[.int .i64 64, .int .i64 0, .int .i64 64, .int .i64 8, .int .i64 6, .int .i64 2, .int .i64 2, .int .i64 60, .int .i64 30, .int .i64 5, .slice p 2 c] 24)) := (((CellsAt.new #[.int .i64 64, .int .i64 0, .int .i64 64, .int .i64 8, .int .i64 6, .int .i64 2, .int .i64 2, .int .i64 60, .int .i64 30, .int .i64 5, .slice p 2 c] 24 w2).past _).past _).past _
  have hD0 : CellsAt (w2.heap.size + 1 + 1 + 1) #[.int .i64 64, .int .i64 0, .int .i64 64, .int .i64 8, .int .i64 6, .int .i64 2, .int .i64 2, .int .i64 60, .int .i64 30, .int .i64 5, .slice p 2 c] (((((w2.alloc (.cells #[.int .i64 64, .int .i64 0, .int .i64 64, .int .i64 8, .int .i64 6, .int .i64 2, .int .i64 2, .int .i64 60, .int .i64 30, .int .i64 5, .slice p 2 c] 24))).alloc (.cells #[.int .i64 1, .int .i64 0, .int .i64 0, .int .i64 1, .int .i64 4, .int .i64 0, .int .i64 1, .int .i64 1, .int .i64 0, .int .i64 0] 2)).alloc (.cells #[.int .i64 256, .int .i64 64, .int .i64 1000000, .int .i64 16, .int .i64 10, .int .i64 4, .int .i64 100, .int .i64 1000000000, .int .i64 1000000000, .int .i64 1000000000] 2)).alloc (.cells #[.int .i64 64, .int .i64 0, .int .i64 64, .int .i64 8, .int .i64 6, .int .i64 2, .int .i64 2, .int .i64 60, .int .i64 30, .int .i64 5, .slice p 2 c] 24)) := CellsAt.newAt #[.int .i64 64, .int .i64 0, .int .i64 64, .int .i64 8, .int .i64 6, .int .i64 2, .int .i64 2, .int .i64 60, .int .i64 30, .int .i64 5, .slice p 2 c] 24 _ _ (by simp)
  have hB0 : Below w2.heap.size w2 (((((w2.alloc (.cells #[.int .i64 64, .int .i64 0, .int .i64 64, .int .i64 8, .int .i64 6, .int .i64 2, .int .i64 2, .int .i64 60, .int .i64 30, .int .i64 5, .slice p 2 c] 24))).alloc (.cells #[.int .i64 1, .int .i64 0, .int .i64 0, .int .i64 1, .int .i64 4, .int .i64 0, .int .i64 1, .int .i64 1, .int .i64 0, .int .i64 0] 2)).alloc (.cells #[.int .i64 256, .int .i64 64, .int .i64 1000000, .int .i64 16, .int .i64 10, .int .i64 4, .int .i64 100, .int .i64 1000000000, .int .i64 1000000000, .int .i64 1000000000] 2)).alloc (.cells #[.int .i64 64, .int .i64 0, .int .i64 64, .int .i64 8, .int .i64 6, .int .i64 2, .int .i64 2, .int .i64 60, .int .i64 30, .int .i64 5, .slice p 2 c] 24)) := ((((Below.refl _ _).alloc (Nat.le_refl _) _).alloc (by simp) _).alloc (by simp; omega) _).alloc (by simp; omega) _
  have HT0 := Lib.hid ((HT2.out.weak (S' := fun j => w2.heap.size ≤ j) (fun j h hl => by omega)).below hB0)
  have HB0 := Lib.hid (HB2.out.trans (hB0.mono HB2.out.size))
  have hlo : w.heap.size ≤ w2.heap.size := HB2.out.size
  have HA0 := Lib.hid hA0
  have HD0 := Lib.hid hD0
  clear hA0 hD0 hB0 HT2 HB2
  generalize ((((w2.alloc (.cells #[.int .i64 64, .int .i64 0, .int .i64 64, .int .i64 8, .int .i64 6, .int .i64 2, .int .i64 2, .int .i64 60, .int .i64 30, .int .i64 5, .slice p 2 c] 24))).alloc (.cells #[.int .i64 1, .int .i64 0, .int .i64 0, .int .i64 1, .int .i64 4, .int .i64 0, .int .i64 1, .int .i64 1, .int .i64 0, .int .i64 0] 2)).alloc (.cells #[.int .i64 256, .int .i64 64, .int .i64 1000000, .int .i64 16, .int .i64 10, .int .i64 4, .int .i64 100, .int .i64 1000000000, .int .i64 1000000000, .int .i64 1000000000] 2)).alloc (.cells #[.int .i64 64, .int .i64 0, .int .i64 64, .int .i64 8, .int .i64 6, .int .i64 2, .int .i64 2, .int .i64 60, .int .i64 30, .int .i64 5, .slice p 2 c] 24) = W0 at *
  generalize w2.heap.size = A at *
  obtain ⟨D, hD⟩ : ∃ D, A + 1 + 1 + 1 = D := ⟨_, rfl⟩
  rw [hD] at HD0 ⊢
  have hAD : A < D := by omega
  clear hD
  rw [hki]
  clear hki
  go_loopg [10, 13] 2 (fun g s10 s13 wx => Hid (Tr (fun j => A ≤ j) (.slice p 2 c) [10, 60] wx) ∧ Hid (Below w.heap.size w wx) ∧
    ((g = 2 ∧ s13 = .int .i64 0 ∧ s10 = .int .i64 0 ∧ Hid (CellsAt A #[.int .i64 64, .int .i64 0, .int .i64 64, .int .i64 8, .int .i64 6, .int .i64 2, .int .i64 2, .int .i64 60, .int .i64 30, .int .i64 5, .slice p 2 c] wx) ∧ Hid (CellsAt D #[.int .i64 64, .int .i64 0, .int .i64 64, .int .i64 8, .int .i64 6, .int .i64 2, .int .i64 2, .int .i64 60, .int .i64 30, .int .i64 5, .slice p 2 c] wx)) ∨
     (g = 1 ∧ s13 = .int .i64 1 ∧ s10 = .int .i64 (-1) ∧ Hid (CellsAt A #[.int .i64 64, .int .i64 0, .int .i64 0, .int .i64 8, .int .i64 6, .int .i64 2, .int .i64 2, .int .i64 60, .int .i64 30, .int .i64 5, .slice p 2 c] wx) ∧ Hid (CellsAt D #[.int .i64 64, .int .i64 0, .int .i64 0, .int .i64 8, .int .i64 6, .int .i64 2, .int .i64 2, .int .i64 60, .int .i64 30, .int .i64 5, .slice p 2 c] wx)) ∨
     (g = 0 ∧ s13 = .int .i64 2 ∧ s10 = .int .i64 (-1) ∧ Hid (CellsAt A #[.int .i64 64, .int .i64 0, .int .i64 (-1), .int .i64 8, .int .i64 6, .int .i64 2, .int .i64 2, .int .i64 60, .int .i64 30, .int .i64 5, .slice p 2 c] wx) ∧ Hid (CellsAt D #[.int .i64 64, .int .i64 0, .int .i64 0, .int .i64 8, .int .i64 6, .int .i64 2, .int .i64 2, .int .i64 60, .int .i64 30, .int .i64 5, .slice p 2 c] wx))))
  case atStart => exact ⟨HT0, HB0, .inl ⟨rfl, rfl, rfl, HA0, HD0⟩⟩
  case round =>
    clear HA0 HD0 HT0 HB0
    obtain ⟨HT, HB, ⟨rfl, rfl, rfl, HA, HD⟩ | ⟨rfl, rfl, rfl, HA, HD⟩ | ⟨rfl, rfl, rfl, HA, HD⟩⟩ := hrel
    · have HD1 : Hid (CellsAt D #[.int .i64 64, .int .i64 0, .int .i64 64, .int .i64 8, .int .i64 6, .int .i64 2, .int .i64 2, .int .i64 60, .int .i64 30, .int .i64 5, .slice p 2 c] (wr.setCell ⟨A, 2, none⟩ (.int .i64 0))) := Lib.hid (cells_mov HD.out ((Mov.refl (fun j => j = A) wr).set rfl 2 _) (by omega))
      have HA1 : Hid (CellsAt A #[.int .i64 64, .int .i64 0, .int .i64 0, .int .i64 8, .int .i64 6, .int .i64 2, .int .i64 2, .int .i64 60, .int .i64 30, .int .i64 5, .slice p 2 c] (wr.setCell ⟨A, 2, none⟩ (.int .i64 0))) := Lib.hid (HA.out.set 2 (.int .i64 0) (by simp))
      have hM : Mov (fun j => A ≤ j) wr ((wr.setCell ⟨A, 2, none⟩ (.int .i64 0)).setCells D 0 (#[.int .i64 64, .int .i64 0, .int .i64 0, .int .i64 8, .int .i64 6, .int .i64 2, .int .i64 2, .int .i64 60, .int .i64 30, .int .i64 5, .slice p 2 c] : Array Value).toList) := Mov.sets (S := fun j => A ≤ j) (Nat.le_of_lt hAD) _ 0 _ ((Mov.refl (fun j => A ≤ j) wr).set (Nat.le_refl A) 2 _)
      have HT1 := Lib.hid (HT.out.mov hM (fun j h _ => h))
      have HB1 := Lib.hid (HB.out.trans (hM.below (N := w.heap.size) (fun j h => Nat.le_trans hlo h) HB.out.size))
      have HA2 := Lib.hid (cells_mov HA1.out (Mov.sets (S := fun j => j = D) rfl (#[.int .i64 64, .int .i64 0, .int .i64 0, .int .i64 8, .int .i64 6, .int .i64 2, .int .i64 2, .int .i64 60, .int .i64 30, .int .i64 5, .slice p 2 c] : Array Value).toList 0 _ (Mov.refl _ _)) (by omega))
      have HD2 : Hid (CellsAt D #[.int .i64 64, .int .i64 0, .int .i64 0, .int .i64 8, .int .i64 6, .int .i64 2, .int .i64 2, .int .i64 60, .int .i64 30, .int .i64 5, .slice p 2 c] ((wr.setCell ⟨A, 2, none⟩ (.int .i64 0)).setCells D 0 (#[.int .i64 64, .int .i64 0, .int .i64 0, .int .i64 8, .int .i64 6, .int .i64 2, .int .i64 2, .int .i64 60, .int .i64 30, .int .i64 5, .slice p 2 c] : Array Value).toList)) := Lib.hid (pol_put (n0 := [64, 0, 64, 8, 6, 2, 2, 60, 30, 5]) (n := [64, 0, 0, 8, 6, 2, 2, 60, 30, 5]) (v0 := .slice p 2 c) (v := .slice p 2 c) HD1.out rfl rfl)
      have k0 : wr.cell? ⟨A, 2, none⟩ = some (.int .i64 64) := HA.out.cell 2 _ rfl
      have hf : wr.frozen? ⟨A, 2, none⟩ = false := HA.out.fro 2 _ rfl
      have hl := HA.out.lt
      clear HT HB HA HD hM
      go_upto_region 40 with fail
      clear k0 hf hl
      generalize wr.setCell ⟨A, 2, none⟩ (.int .i64 0) = W1 at *
      have HL1 : Hid ((loadVar 24 ⟨A, 0, none⟩).run Tryd.prog W1 = .ok (.agg #[.int .i64 64, .int .i64 0, .int .i64 0, .int .i64 8, .int .i64 6, .int .i64 2, .int .i64 2, .int .i64 60, .int .i64 30, .int .i64 5, .slice p 2 c]) W1) := Lib.hid (load_pol (n := [64, 0, 0, 8, 6, 2, 2, 60, 30, 5]) (v := .slice p 2 c) HA1.out rfl)
      clear HA1
      go_wp2_with (refine wpList_load_run rfl 24 (.tmp 6) rfl ⟨A, 0, none⟩ (.agg #[.int .i64 64, .int .i64 0, .int .i64 0, .int .i64 8, .int .i64 6, .int .i64 2, .int .i64 2, .int .i64 60, .int .i64 30, .int .i64 5, .slice p 2 c]) ?_ ?_ ?_; exact rfl; exact HL1.out; refine wpList_store_cells rfl 24 (.tmp 12) (.tmp 81) rfl D #[.int .i64 64, .int .i64 0, .int .i64 0, .int .i64 8, .int .i64 6, .int .i64 2, .int .i64 2, .int .i64 60, .int .i64 30, .int .i64 5, .slice p 2 c] #[.int .i64 64, .int .i64 0, .int .i64 64, .int .i64 8, .int .i64 6, .int .i64 2, .int .i64 2, .int .i64 60, .int .i64 30, .int .i64 5, .slice p 2 c] ?_ ?_ ?_ ?_ ?_ ?_ ?_; exact rfl; exact rfl; exact HD1.out; exact (show _ = some 11 by kernel_rfl); exact rfl; simp [Value.oneCell'])
      go_roundg 1
      case measure => omega
      case rel => exact ⟨HT1, HB1, .inr (.inl ⟨rfl, by go_num, by go_num, HA2, HD2⟩)⟩
    · have hM : Mov (fun j => j = A) wr (wr.setCell ⟨A, 2, none⟩ (.int .i64 (-1))) := (Mov.refl (fun j => j = A) wr).set rfl 2 _
      have HD1 := Lib.hid (cells_mov HD.out hM (by omega))
      have HA1 : Hid (CellsAt A #[.int .i64 64, .int .i64 0, .int .i64 (-1), .int .i64 8, .int .i64 6, .int .i64 2, .int .i64 2, .int .i64 60, .int .i64 30, .int .i64 5, .slice p 2 c] (wr.setCell ⟨A, 2, none⟩ (.int .i64 (-1)))) := Lib.hid (HA.out.set 2 (.int .i64 (-1)) (by simp))
      have HT1 := Lib.hid (HT.out.mov hM (fun j h _ => by omega))
      have HB1 := Lib.hid (HB.out.trans (hM.below (N := w.heap.size) (fun j h => by omega) HB.out.size))
      have k0 : wr.cell? ⟨A, 2, none⟩ = some (.int .i64 0) := HA.out.cell 2 _ rfl
      have hf : wr.frozen? ⟨A, 2, none⟩ = false := HA.out.fro 2 _ rfl
      have hl := HA.out.lt
      clear HT HB HA HD hM
      go_wp2
      go_roundg 0
      case measure => omega
      case rel => exact ⟨HT1, HB1, .inr (.inr ⟨rfl, by go_num, by go_num, HA1, HD1⟩)⟩
    · have HTx := Lib.hid (HT.out.weak (S' := fun _ => False) (fun _ h _ => h.elim))
      have k0 : wr.cell? ⟨D, 0, none⟩ = some (.int .i64 64) := HD.out.cell 0 _ rfl
      have k1 : wr.cell? ⟨D, 1, none⟩ = some (.int .i64 0) := HD.out.cell 1 _ rfl
      have k2 : wr.cell? ⟨D, 2, none⟩ = some (.int .i64 0) := HD.out.cell 2 _ rfl
      have k3 : wr.cell? ⟨D, 3, none⟩ = some (.int .i64 8) := HD.out.cell 3 _ rfl
      have k4 : wr.cell? ⟨D, 4, none⟩ = some (.int .i64 6) := HD.out.cell 4 _ rfl
      have k5 : wr.cell? ⟨D, 5, none⟩ = some (.int .i64 2) := HD.out.cell 5 _ rfl
      have k6 : wr.cell? ⟨D, 6, none⟩ = some (.int .i64 2) := HD.out.cell 6 _ rfl
      have k7 : wr.cell? ⟨D, 7, none⟩ = some (.int .i64 60) := HD.out.cell 7 _ rfl
      have k8 : wr.cell? ⟨D, 8, none⟩ = some (.int .i64 30) := HD.out.cell 8 _ rfl
      have k9 : wr.cell? ⟨D, 9, none⟩ = some (.int .i64 5) := HD.out.cell 9 _ rfl
      have k10 : wr.cell? ⟨D, 10, none⟩ = some (.slice p 2 c) := HD.out.cell 10 _ rfl
      have hl := HD.out.lt
      clear HD HT
      go_wp2_with fail
      refine (HR1.out _ _ _ HTx.out).mono ?_
      rintro e w4 ⟨rfl, hB4⟩
      have hA4 := HA.out.below hB4
      have HT4 := Lib.hid (HTx.out.below hB4)
      have HB4 := Lib.hid (HB.out.trans (hB4.mono HB.out.size))
      clear k0 k1 k2 k3 k4 k5 k6 k7 k8 k9 k10 hl
      have k0 : w4.cell? ⟨A, 0, none⟩ = some (.int .i64 64) := hA4.cell 0 _ rfl
      have k1 : w4.cell? ⟨A, 1, none⟩ = some (.int .i64 0) := hA4.cell 1 _ rfl
      have k2 : w4.cell? ⟨A, 2, none⟩ = some (.int .i64 (-1)) := hA4.cell 2 _ rfl
      have k3 : w4.cell? ⟨A, 3, none⟩ = some (.int .i64 8) := hA4.cell 3 _ rfl
      have k4 : w4.cell? ⟨A, 4, none⟩ = some (.int .i64 6) := hA4.cell 4 _ rfl
      have k5 : w4.cell? ⟨A, 5, none⟩ = some (.int .i64 2) := hA4.cell 5 _ rfl
      have k6 : w4.cell? ⟨A, 6, none⟩ = some (.int .i64 2) := hA4.cell 6 _ rfl
      have k7 : w4.cell? ⟨A, 7, none⟩ = some (.int .i64 60) := hA4.cell 7 _ rfl
      have k8 : w4.cell? ⟨A, 8, none⟩ = some (.int .i64 30) := hA4.cell 8 _ rfl
      have k9 : w4.cell? ⟨A, 9, none⟩ = some (.int .i64 5) := hA4.cell 9 _ rfl
      have k10 : w4.cell? ⟨A, 10, none⟩ = some (.slice p 2 c) := hA4.cell 10 _ rfl
      have hl := hA4.lt
      clear HTx HR1 HB HA hA4 hB4
      go_wp2_with fail
      refine (HR2.out _ _ _ HT4.out).mono ?_
      rintro e w5 ⟨rfl, hB5⟩
      have HB5 := Lib.hid (HB4.out.trans (hB5.mono HB4.out.size))
      clear HB4 hB5
      go_wp2
      go_ret
      exact ⟨rfl, HB5.out⟩

set_option maxRecDepth 100000 in
set_option maxHeartbeats 16000000 in
theorem bounds_2_true (x : Nat) (hx : x < 256) (hki : (x : Int) % 10 = 2) (w : World) (hX : Tens w) :
    Calls Tryd.prog 8 #[.int .u8 (x : Int), .bool true] w fun e w' => e = .returned (.bool true) ∧ Below w.heap.size w w' := by
  have hex := examples_any w hX
  have HR1 : Hid (∀ (W : World) (p : Option Addr) (c : Nat), Tr (fun _ => False) (.slice p 2 c) [10, 60] W → Calls Tryd.prog 15 #[.agg #[.int .i64 64, .int .i64 0, .int .i64 1000000, .int .i64 8, .int .i64 6, .int .i64 2, .int .i64 2, .int .i64 60, .int .i64 30, .int .i64 5, .slice p 2 c]] W fun e w' => e = .returned (.bool true) ∧ Below W.heap.size W w') := Lib.hid (fun W p c h => right_lit [64, 0, 1000000, 8, 6, 2, 2, 60, 30, 5] true (by decide +kernel) rfl (by decide) W p c h)
  have HR2 : Hid (∀ (W : World) (p : Option Addr) (c : Nat), Tr (fun _ => False) (.slice p 2 c) [10, 60] W → Calls Tryd.prog 15 #[.agg #[.int .i64 64, .int .i64 0, .int .i64 1000001, .int .i64 8, .int .i64 6, .int .i64 2, .int .i64 2, .int .i64 60, .int .i64 30, .int .i64 5, .slice p 2 c]] W fun e w' => e = .returned (.bool false) ∧ Below W.heap.size W w') := Lib.hid (fun W p c h => right_lit [64, 0, 1000001, 8, 6, 2, 2, 60, 30, 5] false (by decide +kernel) rfl (by decide) W p c h)
  clear hX
  go_enter Tryd.func8, Tryd.ntmps8
  go_wp2_with fail
  refine hex.mono ?_
  rintro e w1 ⟨rfl, hB1⟩
  have HB1 := Lib.hid hB1
  clear hex hB1
  go_wp2_with fail
  refine (base_lit _).mono ?_
  rintro e w2 ⟨p, c, rfl, hT2, hB2⟩
  have HB2 := Lib.hid (HB1.out.trans (hB2.mono HB1.out.size))
  have HT2 := Lib.hid hT2
  clear HB1 hB2 hT2
  go_wp2
  have hA0 : CellsAt w2.heap.size #[.int .i64 64, .int .i64 0, .int .i64 64, .int .i64 8, .int .i64 6, .int .i64 2, .int .i64 2, .int .i64 60, .int .i64 30, .int .i64 5, .slice p 2 c] (((((w2.alloc (.cells #[.int .i64 64, .int .i64 0, .int .i64 64, .int .i64 8, .int .i64 6, .int .i64 2, .int .i64 2, .int .i64 60, .int .i64 30, .int .i64 5, .slice p 2 c] 24))).alloc (.cells #[.int .i64 1, .int .i64 0, .int .i64 0, .int .i64 1, .int .i64 4, .int .i64 0, .int .i64 1, .int .i64 1, .int .i64 0, .int .i64 0] 2)).alloc (.cells #[.int .i64 256, .int .i64 64, .int .i64 1000000, .int .i64 16, .int .i64 10, .int .i64 4, .int .i64 100, .int .i64 1000000000, .int .i64 1000000000, .int .i64 1000000000] 2)).alloc (.cells #[.int .i64 64, .int .i64 0, .int .i64 64, .int .i64 8, .int .i64 6, .int .i64 2, .int .i64 2, .int .i64 60, .int .i64 30, .int .i64 5, .slice p 2 c] 24)) := (((CellsAt.new #[.int .i64 64, .int .i64 0, .int .i64 64, .int .i64 8, .int .i64 6, .int .i64 2, .int .i64 2, .int .i64 60, .int .i64 30, .int .i64 5, .slice p 2 c] 24 w2).past _).past _).past _
  have hD0 : CellsAt (w2.heap.size + 1 + 1 + 1) #[.int .i64 64, .int .i64 0, .int .i64 64, .int .i64 8, .int .i64 6, .int .i64 2, .int .i64 2, .int .i64 60, .int .i64 30, .int .i64 5, .slice p 2 c] (((((w2.alloc (.cells #[.int .i64 64, .int .i64 0, .int .i64 64, .int .i64 8, .int .i64 6, .int .i64 2, .int .i64 2, .int .i64 60, .int .i64 30, .int .i64 5, .slice p 2 c] 24))).alloc (.cells #[.int .i64 1, .int .i64 0, .int .i64 0, .int .i64 1, .int .i64 4, .int .i64 0, .int .i64 1, .int .i64 1, .int .i64 0, .int .i64 0] 2)).alloc (.cells #[.int .i64 256, .int .i64 64, .int .i64 1000000, .int .i64 16, .int .i64 10, .int .i64 4, .int .i64 100, .int .i64 1000000000, .int .i64 1000000000, .int .i64 1000000000] 2)).alloc (.cells #[.int .i64 64, .int .i64 0, .int .i64 64, .int .i64 8, .int .i64 6, .int .i64 2, .int .i64 2, .int .i64 60, .int .i64 30, .int .i64 5, .slice p 2 c] 24)) := CellsAt.newAt #[.int .i64 64, .int .i64 0, .int .i64 64, .int .i64 8, .int .i64 6, .int .i64 2, .int .i64 2, .int .i64 60, .int .i64 30, .int .i64 5, .slice p 2 c] 24 _ _ (by simp)
  have hB0 : Below w2.heap.size w2 (((((w2.alloc (.cells #[.int .i64 64, .int .i64 0, .int .i64 64, .int .i64 8, .int .i64 6, .int .i64 2, .int .i64 2, .int .i64 60, .int .i64 30, .int .i64 5, .slice p 2 c] 24))).alloc (.cells #[.int .i64 1, .int .i64 0, .int .i64 0, .int .i64 1, .int .i64 4, .int .i64 0, .int .i64 1, .int .i64 1, .int .i64 0, .int .i64 0] 2)).alloc (.cells #[.int .i64 256, .int .i64 64, .int .i64 1000000, .int .i64 16, .int .i64 10, .int .i64 4, .int .i64 100, .int .i64 1000000000, .int .i64 1000000000, .int .i64 1000000000] 2)).alloc (.cells #[.int .i64 64, .int .i64 0, .int .i64 64, .int .i64 8, .int .i64 6, .int .i64 2, .int .i64 2, .int .i64 60, .int .i64 30, .int .i64 5, .slice p 2 c] 24)) := ((((Below.refl _ _).alloc (Nat.le_refl _) _).alloc (by simp) _).alloc (by simp; omega) _).alloc (by simp; omega) _
  have HT0 := Lib.hid ((HT2.out.weak (S' := fun j => w2.heap.size ≤ j) (fun j h hl => by omega)).below hB0)
  have HB0 := Lib.hid (HB2.out.trans (hB0.mono HB2.out.size))
  have hlo : w.heap.size ≤ w2.heap.size := HB2.out.size
  have HA0 := Lib.hid hA0
  have HD0 := Lib.hid hD0
  clear hA0 hD0 hB0 HT2 HB2
  generalize ((((w2.alloc (.cells #[.int .i64 64, .int .i64 0, .int .i64 64, .int .i64 8, .int .i64 6, .int .i64 2, .int .i64 2, .int .i64 60, .int .i64 30, .int .i64 5, .slice p 2 c] 24))).alloc (.cells #[.int .i64 1, .int .i64 0, .int .i64 0, .int .i64 1, .int .i64 4, .int .i64 0, .int .i64 1, .int .i64 1, .int .i64 0, .int .i64 0] 2)).alloc (.cells #[.int .i64 256, .int .i64 64, .int .i64 1000000, .int .i64 16, .int .i64 10, .int .i64 4, .int .i64 100, .int .i64 1000000000, .int .i64 1000000000, .int .i64 1000000000] 2)).alloc (.cells #[.int .i64 64, .int .i64 0, .int .i64 64, .int .i64 8, .int .i64 6, .int .i64 2, .int .i64 2, .int .i64 60, .int .i64 30, .int .i64 5, .slice p 2 c] 24) = W0 at *
  generalize w2.heap.size = A at *
  obtain ⟨D, hD⟩ : ∃ D, A + 1 + 1 + 1 = D := ⟨_, rfl⟩
  rw [hD] at HD0 ⊢
  have hAD : A < D := by omega
  clear hD
  rw [hki]
  clear hki
  go_loopg [10, 13] 2 (fun g s10 s13 wx => Hid (Tr (fun j => A ≤ j) (.slice p 2 c) [10, 60] wx) ∧ Hid (Below w.heap.size w wx) ∧
    ((g = 2 ∧ s13 = .int .i64 0 ∧ s10 = .int .i64 1000000 ∧ Hid (CellsAt A #[.int .i64 64, .int .i64 0, .int .i64 64, .int .i64 8, .int .i64 6, .int .i64 2, .int .i64 2, .int .i64 60, .int .i64 30, .int .i64 5, .slice p 2 c] wx) ∧ Hid (CellsAt D #[.int .i64 64, .int .i64 0, .int .i64 64, .int .i64 8, .int .i64 6, .int .i64 2, .int .i64 2, .int .i64 60, .int .i64 30, .int .i64 5, .slice p 2 c] wx)) ∨
     (g = 1 ∧ s13 = .int .i64 1 ∧ s10 = .int .i64 1000001 ∧ Hid (CellsAt A #[.int .i64 64, .int .i64 0, .int .i64 1000000, .int .i64 8, .int .i64 6, .int .i64 2, .int .i64 2, .int .i64 60, .int .i64 30, .int .i64 5, .slice p 2 c] wx) ∧ Hid (CellsAt D #[.int .i64 64, .int .i64 0, .int .i64 1000000, .int .i64 8, .int .i64 6, .int .i64 2, .int .i64 2, .int .i64 60, .int .i64 30, .int .i64 5, .slice p 2 c] wx)) ∨
     (g = 0 ∧ s13 = .int .i64 2 ∧ s10 = .int .i64 1000001 ∧ Hid (CellsAt A #[.int .i64 64, .int .i64 0, .int .i64 1000001, .int .i64 8, .int .i64 6, .int .i64 2, .int .i64 2, .int .i64 60, .int .i64 30, .int .i64 5, .slice p 2 c] wx) ∧ Hid (CellsAt D #[.int .i64 64, .int .i64 0, .int .i64 1000000, .int .i64 8, .int .i64 6, .int .i64 2, .int .i64 2, .int .i64 60, .int .i64 30, .int .i64 5, .slice p 2 c] wx))))
  case atStart => exact ⟨HT0, HB0, .inl ⟨rfl, rfl, rfl, HA0, HD0⟩⟩
  case round =>
    clear HA0 HD0 HT0 HB0
    obtain ⟨HT, HB, ⟨rfl, rfl, rfl, HA, HD⟩ | ⟨rfl, rfl, rfl, HA, HD⟩ | ⟨rfl, rfl, rfl, HA, HD⟩⟩ := hrel
    · have HD1 : Hid (CellsAt D #[.int .i64 64, .int .i64 0, .int .i64 64, .int .i64 8, .int .i64 6, .int .i64 2, .int .i64 2, .int .i64 60, .int .i64 30, .int .i64 5, .slice p 2 c] (wr.setCell ⟨A, 2, none⟩ (.int .i64 1000000))) := Lib.hid (cells_mov HD.out ((Mov.refl (fun j => j = A) wr).set rfl 2 _) (by omega))
      have HA1 : Hid (CellsAt A #[.int .i64 64, .int .i64 0, .int .i64 1000000, .int .i64 8, .int .i64 6, .int .i64 2, .int .i64 2, .int .i64 60, .int .i64 30, .int .i64 5, .slice p 2 c] (wr.setCell ⟨A, 2, none⟩ (.int .i64 1000000))) := Lib.hid (HA.out.set 2 (.int .i64 1000000) (by simp))
      have hM : Mov (fun j => A ≤ j) wr ((wr.setCell ⟨A, 2, none⟩ (.int .i64 1000000)).setCells D 0 (#[.int .i64 64, .int .i64 0, .int .i64 1000000, .int .i64 8, .int .i64 6, .int .i64 2, .int .i64 2, .int .i64 60, .int .i64 30, .int .i64 5, .slice p 2 c] : Array Value).toList) := Mov.sets (S := fun j => A ≤ j) (Nat.le_of_lt hAD) _ 0 _ ((Mov.refl (fun j => A ≤ j) wr).set (Nat.le_refl A) 2 _)
      have HT1 := Lib.hid (HT.out.mov hM (fun j h _ => h))
      have HB1 := Lib.hid (HB.out.trans (hM.below (N := w.heap.size) (fun j h => Nat.le_trans hlo h) HB.out.size))
      have HA2 := Lib.hid (cells_mov HA1.out (Mov.sets (S := fun j => j = D) rfl (#[.int .i64 64, .int .i64 0, .int .i64 1000000, .int .i64 8, .int .i64 6, .int .i64 2, .int .i64 2, .int .i64 60, .int .i64 30, .int .i64 5, .slice p 2 c] : Array Value).toList 0 _ (Mov.refl _ _)) (by omega))
      have HD2 : Hid (CellsAt D #[.int .i64 64, .int .i64 0, .int .i64 1000000, .int .i64 8, .int .i64 6, .int .i64 2, .int .i64 2, .int .i64 60, .int .i64 30, .int .i64 5, .slice p 2 c] ((wr.setCell ⟨A, 2, none⟩ (.int .i64 1000000)).setCells D 0 (#[.int .i64 64, .int .i64 0, .int .i64 1000000, .int .i64 8, .int .i64 6, .int .i64 2, .int .i64 2, .int .i64 60, .int .i64 30, .int .i64 5, .slice p 2 c] : Array Value).toList)) := Lib.hid (pol_put (n0 := [64, 0, 64, 8, 6, 2, 2, 60, 30, 5]) (n := [64, 0, 1000000, 8, 6, 2, 2, 60, 30, 5]) (v0 := .slice p 2 c) (v := .slice p 2 c) HD1.out rfl rfl)
      have k0 : wr.cell? ⟨A, 2, none⟩ = some (.int .i64 64) := HA.out.cell 2 _ rfl
      have hf : wr.frozen? ⟨A, 2, none⟩ = false := HA.out.fro 2 _ rfl
      have hl := HA.out.lt
      clear HT HB HA HD hM
      go_upto_region 40 with fail
      clear k0 hf hl
      generalize wr.setCell ⟨A, 2, none⟩ (.int .i64 1000000) = W1 at *
      have HL1 : Hid ((loadVar 24 ⟨A, 0, none⟩).run Tryd.prog W1 = .ok (.agg #[.int .i64 64, .int .i64 0, .int .i64 1000000, .int .i64 8, .int .i64 6, .int .i64 2, .int .i64 2, .int .i64 60, .int .i64 30, .int .i64 5, .slice p 2 c]) W1) := Lib.hid (load_pol (n := [64, 0, 1000000, 8, 6, 2, 2, 60, 30, 5]) (v := .slice p 2 c) HA1.out rfl)
      clear HA1
      go_wp2_with (refine wpList_load_run rfl 24 (.tmp 6) rfl ⟨A, 0, none⟩ (.agg #[.int .i64 64, .int .i64 0, .int .i64 1000000, .int .i64 8, .int .i64 6, .int .i64 2, .int .i64 2, .int .i64 60, .int .i64 30, .int .i64 5, .slice p 2 c]) ?_ ?_ ?_; exact rfl; exact HL1.out; refine wpList_store_cells rfl 24 (.tmp 12) (.tmp 81) rfl D #[.int .i64 64, .int .i64 0, .int .i64 1000000, .int .i64 8, .int .i64 6, .int .i64 2, .int .i64 2, .int .i64 60, .int .i64 30, .int .i64 5, .slice p 2 c] #[.int .i64 64, .int .i64 0, .int .i64 64, .int .i64 8, .int .i64 6, .int .i64 2, .int .i64 2, .int .i64 60, .int .i64 30, .int .i64 5, .slice p 2 c] ?_ ?_ ?_ ?_ ?_ ?_ ?_; exact rfl; exact rfl; exact HD1.out; exact (show _ = some 11 by kernel_rfl); exact rfl; simp [Value.oneCell'])
      go_roundg 1
      case measure => omega
      case rel => exact ⟨HT1, HB1, .inr (.inl ⟨rfl, by go_num, by go_num, HA2, HD2⟩)⟩
    · have hM : Mov (fun j => j = A) wr (wr.setCell ⟨A, 2, none⟩ (.int .i64 1000001)) := (Mov.refl (fun j => j = A) wr).set rfl 2 _
      have HD1 := Lib.hid (cells_mov HD.out hM (by omega))
      have HA1 : Hid (CellsAt A #[.int .i64 64, .int .i64 0, .int .i64 1000001, .int .i64 8, .int .i64 6, .int .i64 2, .int .i64 2, .int .i64 60, .int .i64 30, .int .i64 5, .slice p 2 c] (wr.setCell ⟨A, 2, none⟩ (.int .i64 1000001))) := Lib.hid (HA.out.set 2 (.int .i64 1000001) (by simp))
      have HT1 := Lib.hid (HT.out.mov hM (fun j h _ => by omega))
      have HB1 := Lib.hid (HB.out.trans (hM.below (N := w.heap.size) (fun j h => by omega) HB.out.size))
      have k0 : wr.cell? ⟨A, 2, none⟩ = some (.int .i64 1000000) := HA.out.cell 2 _ rfl
      have hf : wr.frozen? ⟨A, 2, none⟩ = false := HA.out.fro 2 _ rfl
      have hl := HA.out.lt
      clear HT HB HA HD hM
      go_wp2
      go_roundg 0
      case measure => omega
      case rel => exact ⟨HT1, HB1, .inr (.inr ⟨rfl, by go_num, by go_num, HA1, HD1⟩)⟩
    · have HTx := Lib.hid (HT.out.weak (S' := fun _ => False) (fun _ h _ => h.elim))
      have k0 : wr.cell? ⟨D, 0, none⟩ = some (.int .i64 64) := HD.out.cell 0 _ rfl
      have k1 : wr.cell? ⟨D, 1, none⟩ = some (.int .i64 0) := HD.out.cell 1 _ rfl
      have k2 : wr.cell? ⟨D, 2, none⟩ = some (.int .i64 1000000) := HD.out.cell 2 _ rfl
      have k3 : wr.cell? ⟨D, 3, none⟩ = some (.int .i64 8) := HD.out.cell 3 _ rfl
      have k4 : wr.cell? ⟨D, 4, none⟩ = some (.int .i64 6) := HD.out.cell 4 _ rfl
      have k5 : wr.cell? ⟨D, 5, none⟩ = some (.int .i64 2) := HD.out.cell 5 _ rfl
      have k6 : wr.cell? ⟨D, 6, none⟩ = some (.int .i64 2) := HD.out.cell 6 _ rfl
      have k7 : wr.cell? ⟨D, 7, none⟩ = some (.int .i64 60) := HD.out.cell 7 _ rfl
      have k8 : wr.cell? ⟨D, 8, none⟩ = some (.int .i64 30) := HD.out.cell 8 _ rfl
      have k9 : wr.cell? ⟨D, 9, none⟩ = some (.int .i64 5) := HD.out.cell 9 _ rfl
      have k10 : wr.cell? ⟨D, 10, none⟩ = some (.slice p 2 c) := HD.out.cell 10 _ rfl
      have hl := HD.out.lt
      clear HD HT
      go_wp2_with fail
      refine (HR1.out _ _ _ HTx.out).mono ?_
      rintro e w4 ⟨rfl, hB4⟩
      have hA4 := HA.out.below hB4
      have HT4 := Lib.hid (HTx.out.below hB4)
      have HB4 := Lib.hid (HB.out.trans (hB4.mono HB.out.size))
      clear k0 k1 k2 k3 k4 k5 k6 k7 k8 k9 k10 hl
      have k0 : w4.cell? ⟨A, 0, none⟩ = some (.int .i64 64) := hA4.cell 0 _ rfl
      have k1 : w4.cell? ⟨A, 1, none⟩ = some (.int .i64 0) := hA4.cell 1 _ rfl
      have k2 : w4.cell? ⟨A, 2, none⟩ = some (.int .i64 1000001) := hA4.cell 2 _ rfl
      have k3 : w4.cell? ⟨A, 3, none⟩ = some (.int .i64 8) := hA4.cell 3 _ rfl
      have k4 : w4.cell? ⟨A, 4, none⟩ = some (.int .i64 6) := hA4.cell 4 _ rfl
      have k5 : w4.cell? ⟨A, 5, none⟩ = some (.int .i64 2) := hA4.cell 5 _ rfl
      have k6 : w4.cell? ⟨A, 6, none⟩ = some (.int .i64 2) := hA4.cell 6 _ rfl
      have k7 : w4.cell? ⟨A, 7, none⟩ = some (.int .i64 60) := hA4.cell 7 _ rfl
      have k8 : w4.cell? ⟨A, 8, none⟩ = some (.int .i64 30) := hA4.cell 8 _ rfl
      have k9 : w4.cell? ⟨A, 9, none⟩ = some (.int .i64 5) := hA4.cell 9 _ rfl
      have k10 : w4.cell? ⟨A, 10, none⟩ = some (.slice p 2 c) := hA4.cell 10 _ rfl
      have hl := hA4.lt
      clear HTx HR1 HB HA hA4 hB4
      go_wp2_with fail
      refine (HR2.out _ _ _ HT4.out).mono ?_
      rintro e w5 ⟨rfl, hB5⟩
      have HB5 := Lib.hid (HB4.out.trans (hB5.mono HB4.out.size))
      clear HB4 hB5
      go_wp2
      go_ret
      exact ⟨rfl, HB5.out⟩

set_option maxRecDepth 100000 in
set_option maxHeartbeats 16000000 in
theorem bounds_3_false (x : Nat) (hx : x < 256) (hki : (x : Int) % 10 = 3) (w : World) (hX : Tens w) :
    Calls Tryd.prog 8 #[.int .u8 (x : Int), .bool false] w fun e w' => e = .returned (.bool true) ∧ Below w.heap.size w w' := by
  have hex := examples_any w hX
  have HR1 : Hid (∀ (W : World) (p : Option Addr) (c : Nat), Tr (fun _ => False) (.slice p 2 c) [10, 60] W → Calls Tryd.prog 15 #[.agg #[.int .i64 64, .int .i64 0, .int .i64 64, .int .i64 1, .int .i64 6, .int .i64 2, .int .i64 2, .int .i64 60, .int .i64 30, .int .i64 5, .slice p 2 c]] W fun e w' => e = .returned (.bool true) ∧ Below W.heap.size W w') := Lib.hid (fun W p c h => right_lit [64, 0, 64, 1, 6, 2, 2, 60, 30, 5] true (by decide +kernel) rfl (by decide) W p c h)
  have HR2 : Hid (∀ (W : World) (p : Option Addr) (c : Nat), Tr (fun _ => False) (.slice p 2 c) [10, 60] W → Calls Tryd.prog 15 #[.agg #[.int .i64 64, .int .i64 0, .int .i64 64, .int .i64 0, .int .i64 6, .int .i64 2, .int .i64 2, .int .i64 60, .int .i64 30, .int .i64 5, .slice p 2 c]] W fun e w' => e = .returned (.bool false) ∧ Below W.heap.size W w') := Lib.hid (fun W p c h => right_lit [64, 0, 64, 0, 6, 2, 2, 60, 30, 5] false (by decide +kernel) rfl (by decide) W p c h)
  clear hX
  go_enter Tryd.func8, Tryd.ntmps8
  go_wp2_with fail
  refine hex.mono ?_
  rintro e w1 ⟨rfl, hB1⟩
  have HB1 := Lib.hid hB1
  clear hex hB1
  go_wp2_with fail
  refine (base_lit _).mono ?_
  rintro e w2 ⟨p, c, rfl, hT2, hB2⟩
  have HB2 := Lib.hid (HB1.out.trans (hB2.mono HB1.out.size))
  have HT2 := Lib.hid hT2
  clear HB1 hB2 hT2
  go_wp2
  have hA0 : CellsAt w2.heap.size #[.int .i64 64, .int .i64 0, .int .i64 64, .int .i64 8, .int .i64 6, .int .i64 2, .int .i64 2, .int .i64 60, .int .i64 30, .int .i64 5, .slice p 2 c] (((((w2.alloc (.cells #[.int .i64 64, .int .i64 0, .int .i64 64, .int .i64 8, .int .i64 6, .int .i64 2, .int .i64 2, .int .i64 60, .int .i64 30, .int .i64 5, .slice p 2 c] 24))).alloc (.cells #[.int .i64 1, .int .i64 0, .int .i64 0, .int .i64 1, .int .i64 4, .int .i64 0, .int .i64 1, .int .i64 1, .int .i64 0, .int .i64 0] 2)).alloc (.cells #[.int .i64 256, .int .i64 64, .int .i64 1000000, .int .i64 16, .int .i64 10, .int .i64 4, .int .i64 100, .int .i64 1000000000, .int .i64 1000000000, .int .i64 1000000000] 2)).alloc (.cells #[.int .i64 64, .int .i64 0, .int .i64 64, .int .i64 8, .int .i64 6, .int .i64 2, .int .i64 2, .int .i64 60, .int .i64 30, .int .i64 5, .slice p 2 c] 24)) := (((CellsAt.new #[.int .i64 64, .int .i64 0, .int .i64 64, .int .i64 8, .int .i64 6, .int .i64 2, .int .i64 2, .int .i64 60, .int .i64 30, .int .i64 5, .slice p 2 c] 24 w2).past _).past _).past _
  have hD0 : CellsAt (w2.heap.size + 1 + 1 + 1) #[.int .i64 64, .int .i64 0, .int .i64 64, .int .i64 8, .int .i64 6, .int .i64 2, .int .i64 2, .int .i64 60, .int .i64 30, .int .i64 5, .slice p 2 c] (((((w2.alloc (.cells #[.int .i64 64, .int .i64 0, .int .i64 64, .int .i64 8, .int .i64 6, .int .i64 2, .int .i64 2, .int .i64 60, .int .i64 30, .int .i64 5, .slice p 2 c] 24))).alloc (.cells #[.int .i64 1, .int .i64 0, .int .i64 0, .int .i64 1, .int .i64 4, .int .i64 0, .int .i64 1, .int .i64 1, .int .i64 0, .int .i64 0] 2)).alloc (.cells #[.int .i64 256, .int .i64 64, .int .i64 1000000, .int .i64 16, .int .i64 10, .int .i64 4, .int .i64 100, .int .i64 1000000000, .int .i64 1000000000, .int .i64 1000000000] 2)).alloc (.cells #[.int .i64 64, .int .i64 0, .int .i64 64, .int .i64 8, .int .i64 6, .int .i64 2, .int .i64 2, .int .i64 60, .int .i64 30, .int .i64 5, .slice p 2 c] 24)) := CellsAt.newAt #[.int .i64 64, .int .i64 0, .int .i64 64, .int .i64 8, .int .i64 6, .int .i64 2, .int .i64 2, .int .i64 60, .int .i64 30, .int .i64 5, .slice p 2 c] 24 _ _ (by simp)
  have hB0 : Below w2.heap.size w2 (((((w2.alloc (.cells #[.int .i64 64, .int .i64 0, .int .i64 64, .int .i64 8, .int .i64 6, .int .i64 2, .int .i64 2, .int .i64 60, .int .i64 30, .int .i64 5, .slice p 2 c] 24))).alloc (.cells #[.int .i64 1, .int .i64 0, .int .i64 0, .int .i64 1, .int .i64 4, .int .i64 0, .int .i64 1, .int .i64 1, .int .i64 0, .int .i64 0] 2)).alloc (.cells #[.int .i64 256, .int .i64 64, .int .i64 1000000, .int .i64 16, .int .i64 10, .int .i64 4, .int .i64 100, .int .i64 1000000000, .int .i64 1000000000, .int .i64 1000000000] 2)).alloc (.cells #[.int .i64 64, .int .i64 0, .int .i64 64, .int .i64 8, .int .i64 6, .int .i64 2, .int .i64 2, .int .i64 60, .int .i64 30, .int .i64 5, .slice p 2 c] 24)) := ((((Below.refl _ _).alloc (Nat.le_refl _) _).alloc (by simp) _).alloc (by simp; omega) _).alloc (by simp; omega) _
  have HT0 := Lib.hid ((HT2.out.weak (S' := fun j => w2.heap.size ≤ j) (fun j h hl => by omega)).below hB0)
  have HB0 := Lib.hid (HB2.out.trans (hB0.mono HB2.out.size))
  have hlo : w.heap.size ≤ w2.heap.size := HB2.out.size
  have HA0 := Lib.hid hA0
  have HD0 := Lib.hid hD0
  clear hA0 hD0 hB0 HT2 HB2
  generalize ((((w2.alloc (.cells #[.int .i64 64, .int .i64 0, .int .i64 64, .int .i64 8, .int .i64 6, .int .i64 2, .int .i64 2, .int .i64 60, .int .i64 30, .int .i64 5, .slice p 2 c] 24))).alloc (.cells #[.int .i64 1, .int .i64 0, .int .i64 0, .int .i64 1, .int .i64 4, .int .i64 0, .int .i64 1, .int .i64 1, .int .i64 0, .int .i64 0] 2)).alloc (.cells #[.int .i64 256, .int .i64 64, .int .i64 1000000, .int .i64 16, .int .i64 10, .int .i64 4, .int .i64 100, .int .i64 1000000000, .int .i64 1000000000, .int .i64 1000000000] 2)).alloc (.cells #[.int .i64 64, .int .i64 0, .int .i64 64, .int .i64 8, .int .i64 6, .int .i64 2, .int .i64 2, .int .i64 60, .int .i64 30, .int .i64 5, .slice p 2 c] 24) = W0 at *
  generalize w2.heap.size = A at *
  obtain ⟨D, hD⟩ : ∃ D, A + 1 + 1 + 1 = D := ⟨_, rfl⟩
  rw [hD] at HD0 ⊢
  have hAD : A < D := by omega
  clear hD
  rw [hki]
  clear hki
  go_loopg [10, 13] 2 (fun g s10 s13 wx => Hid (Tr (fun j => A ≤ j) (.slice p 2 c) [10, 60] wx) ∧ Hid (Below w.heap.size w wx) ∧
    ((g = 2 ∧ s13 = .int .i64 0 ∧ s10 = .int .i64 1 ∧ Hid (CellsAt A #[.int .i64 64, .int .i64 0, .int .i64 64, .int .i64 8, .int .i64 6, .int .i64 2, .int .i64 2, .int .i64 60, .int .i64 30, .int .i64 5, .slice p 2 c] wx) ∧ Hid (CellsAt D #[.int .i64 64, .int .i64 0, .int .i64 64, .int .i64 8, .int .i64 6, .int .i64 2, .int .i64 2, .int .i64 60, .int .i64 30, .int .i64 5, .slice p 2 c] wx)) ∨
     (g = 1 ∧ s13 = .int .i64 1 ∧ s10 = .int .i64 0 ∧ Hid (CellsAt A #[.int .i64 64, .int .i64 0, .int .i64 64, .int .i64 1, .int .i64 6, .int .i64 2, .int .i64 2, .int .i64 60, .int .i64 30, .int .i64 5, .slice p 2 c] wx) ∧ Hid (CellsAt D #[.int .i64 64, .int .i64 0, .int .i64 64, .int .i64 1, .int .i64 6, .int .i64 2, .int .i64 2, .int .i64 60, .int .i64 30, .int .i64 5, .slice p 2 c] wx)) ∨
     (g = 0 ∧ s13 = .int .i64 2 ∧ s10 = .int .i64 0 ∧ Hid (CellsAt A #[.int .i64 64, .int .i64 0, .int .i64 64, .int .i64 0, .int .i64 6, .int .i64 2, .int .i64 2, .int .i64 60, .int .i64 30, .int .i64 5, .slice p 2 c] wx) ∧ Hid (CellsAt D #[.int .i64 64, .int .i64 0, .int .i64 64, .int .i64 1, .int .i64 6, .int .i64 2, .int .i64 2, .int .i64 60, .int .i64 30, .int .i64 5, .slice p 2 c] wx))))
  case atStart => exact ⟨HT0, HB0, .inl ⟨rfl, rfl, rfl, HA0, HD0⟩⟩
  case round =>
    clear HA0 HD0 HT0 HB0
    obtain ⟨HT, HB, ⟨rfl, rfl, rfl, HA, HD⟩ | ⟨rfl, rfl, rfl, HA, HD⟩ | ⟨rfl, rfl, rfl, HA, HD⟩⟩ := hrel
    · have HD1 : Hid (CellsAt D #[.int .i64 64, .int .i64 0, .int .i64 64, .int .i64 8, .int .i64 6, .int .i64 2, .int .i64 2, .int .i64 60, .int .i64 30, .int .i64 5, .slice p 2 c] (wr.setCell ⟨A, 3, none⟩ (.int .i64 1))) := Lib.hid (cells_mov HD.out ((Mov.refl (fun j => j = A) wr).set rfl 3 _) (by omega))
      have HA1 : Hid (CellsAt A #[.int .i64 64, .int .i64 0, .int .i64 64, .int .i64 1, .int .i64 6, .int .i64 2, .int .i64 2, .int .i64 60, .int .i64 30, .int .i64 5, .slice p 2 c] (wr.setCell ⟨A, 3, none⟩ (.int .i64 1))) := Lib.hid (HA.out.set 3 (.int .i64 1) (by simp))
      have hM : Mov (fun j => A ≤ j) wr ((wr.setCell ⟨A, 3, none⟩ (.int .i64 1)).setCells D 0 (#[.int .i64 64, .int .i64 0, .int .i64 64, .int .i64 1, .int .i64 6, .int .i64 2, .int .i64 2, .int .i64 60, .int .i64 30, .int .i64 5, .slice p 2 c] : Array Value).toList) := Mov.sets (S := fun j => A ≤ j) (Nat.le_of_lt hAD) _ 0 _ ((Mov.refl (fun j => A ≤ j) wr).set (Nat.le_refl A) 3 _)
      have HT1 := Lib.hid (HT.out.mov hM (fun j h _ => h))
      have HB1 := Lib.hid (HB.out.trans (hM.below (N := w.heap.size) (fun j h => Nat.le_trans hlo h) HB.out.size))
      have HA2 := Lib.hid (cells_mov HA1.out (Mov.sets (S := fun j => j = D) rfl (#[.int .i64 64, .int .i64 0, .int .i64 64, .int .i64 1, .int .i64 6, .int .i64 2, .int .i64 2, .int .i64 60, .int .i64 30, .int .i64 5, .slice p 2 c] : Array Value).toList 0 _ (Mov.refl _ _)) (by omega))
      have HD2 : Hid (CellsAt D #[.int .i64 64, .int .i64 0, .int .i64 64, .int .i64 1, .int .i64 6, .int .i64 2, .int .i64 2, .int .i64 60, .int .i64 30, .int .i64 5, .slice p 2 c] ((wr.setCell ⟨A, 3, none⟩ (.int .i64 1)).setCells D 0 (#[.int .i64 64, .int .i64 0, .int .i64 64, .int .i64 1, .int .i64 6, .int .i64 2, .int .i64 2, .int .i64 60, .int .i64 30, .int .i64 5, .slice p 2 c] : Array Value).toList)) := Lib.hid (pol_put (n0 := [64, 0, 64, 8, 6, 2, 2, 60, 30, 5]) (n := [64, 0, 64, 1, 6, 2, 2, 60, 30, 5]) (v0 := .slice p 2 c) (v := .slice p 2 c) HD1.out rfl rfl)
      have k0 : wr.cell? ⟨A, 3, none⟩ = some (.int .i64 8) := HA.out.cell 3 _ rfl
      have hf : wr.frozen? ⟨A, 3, none⟩ = false := HA.out.fro 3 _ rfl
      have hl := HA.out.lt
      clear HT HB HA HD hM
      go_upto_region 40 with fail
      clear k0 hf hl
      generalize wr.setCell ⟨A, 3, none⟩ (.int .i64 1) = W1 at *
      have HL1 : Hid ((loadVar 24 ⟨A, 0, none⟩).run Tryd.prog W1 = .ok (.agg #[.int .i64 64, .int .i64 0, .int .i64 64, .int .i64 1, .int .i64 6, .int .i64 2, .int .i64 2, .int .i64 60, .int .i64 30, .int .i64 5, .slice p 2 c]) W1) := Lib.hid (load_pol (n := [64, 0, 64, 1, 6, 2, 2, 60, 30, 5]) (v := .slice p 2 c) HA1.out rfl)
      clear HA1
      go_wp2_with (refine wpList_load_run rfl 24 (.tmp 6) rfl ⟨A, 0, none⟩ (.agg #[.int .i64 64, .int .i64 0, .int .i64 64, .int .i64 1, .int .i64 6, .int .i64 2, .int .i64 2, .int .i64 60, .int .i64 30, .int .i64 5, .slice p 2 c]) ?_ ?_ ?_; exact rfl; exact HL1.out; refine wpList_store_cells rfl 24 (.tmp 12) (.tmp 81) rfl D #[.int .i64 64, .int .i64 0, .int .i64 64, .int .i64 1, .int .i64 6, .int .i64 2, .int .i64 2, .int .i64 60, .int .i64 30, .int .i64 5, .slice p 2 c] #[.int .i64 64, .int .i64 0, .int .i64 64, .int .i64 8, .int .i64 6, .int .i64 2, .int .i64 2, .int .i64 60, .int .i64 30, .int .i64 5, .slice p 2 c] ?_ ?_ ?_ ?_ ?_ ?_ ?_; exact rfl; exact rfl; exact HD1.out; exact (show _ = some 11 by kernel_rfl); exact rfl; simp [Value.oneCell'])
      go_roundg 1
      case measure => omega
      case rel => exact ⟨HT1, HB1, .inr (.inl ⟨rfl, by go_num, by go_num, HA2, HD2⟩)⟩
    · have hM : Mov (fun j => j = A) wr (wr.setCell ⟨A, 3, none⟩ (.int .i64 0)) := (Mov.refl (fun j => j = A) wr).set rfl 3 _
      have HD1 := Lib.hid (cells_mov HD.out hM (by omega))
      have HA1 : Hid (CellsAt A #[.int .i64 64, .int .i64 0, .int .i64 64, .int .i64 0, .int .i64 6, .int .i64 2, .int .i64 2, .int .i64 60, .int .i64 30, .int .i64 5, .slice p 2 c] (wr.setCell ⟨A, 3, none⟩ (.int .i64 0))) := Lib.hid (HA.out.set 3 (.int .i64 0) (by simp))
      have HT1 := Lib.hid (HT.out.mov hM (fun j h _ => by omega))
      have HB1 := Lib.hid (HB.out.trans (hM.below (N := w.heap.size) (fun j h => by omega) HB.out.size))
      have k0 : wr.cell? ⟨A, 3, none⟩ = some (.int .i64 1) := HA.out.cell 3 _ rfl
      have hf : wr.frozen? ⟨A, 3, none⟩ = false := HA.out.fro 3 _ rfl
      have hl := HA.out.lt
      clear HT HB HA HD hM
      go_wp2
      go_roundg 0
      case measure => omega
      case rel => exact ⟨HT1, HB1, .inr (.inr ⟨rfl, by go_num, by go_num, HA1, HD1⟩)⟩
    · have HTx := Lib.hid (HT.out.weak (S' := fun _ => False) (fun _ h _ => h.elim))
      have k0 : wr.cell? ⟨D, 0, none⟩ = some (.int .i64 64) := HD.out.cell 0 _ rfl
      have k1 : wr.cell? ⟨D, 1, none⟩ = some (.int .i64 0) := HD.out.cell 1 _ rfl
      have k2 : wr.cell? ⟨D, 2, none⟩ = some (.int .i64 64) := HD.out.cell 2 _ rfl
      have k3 : wr.cell? ⟨D, 3, none⟩ = some (.int .i64 1) := HD.out.cell 3 _ rfl
      have k4 : wr.cell? ⟨D, 4, none⟩ = some (.int .i64 6) := HD.out.cell 4 _ rfl
      have k5 : wr.cell? ⟨D, 5, none⟩ = some (.int .i64 2) := HD.out.cell 5 _ rfl
      have k6 : wr.cell? ⟨D, 6, none⟩ = some (.int .i64 2) := HD.out.cell 6 _ rfl
      have k7 : wr.cell? ⟨D, 7, none⟩ = some (.int .i64 60) := HD.out.cell 7 _ rfl
      have k8 : wr.cell? ⟨D, 8, none⟩ = some (.int .i64 30) := HD.out.cell 8 _ rfl
      have k9 : wr.cell? ⟨D, 9, none⟩ = some (.int .i64 5) := HD.out.cell 9 _ rfl
      have k10 : wr.cell? ⟨D, 10, none⟩ = some (.slice p 2 c) := HD.out.cell 10 _ rfl
      have hl := HD.out.lt
      clear HD HT
      go_wp2_with fail
      refine (HR1.out _ _ _ HTx.out).mono ?_
      rintro e w4 ⟨rfl, hB4⟩
      have hA4 := HA.out.below hB4
      have HT4 := Lib.hid (HTx.out.below hB4)
      have HB4 := Lib.hid (HB.out.trans (hB4.mono HB.out.size))
      clear k0 k1 k2 k3 k4 k5 k6 k7 k8 k9 k10 hl
      have k0 : w4.cell? ⟨A, 0, none⟩ = some (.int .i64 64) := hA4.cell 0 _ rfl
      have k1 : w4.cell? ⟨A, 1, none⟩ = some (.int .i64 0) := hA4.cell 1 _ rfl
      have k2 : w4.cell? ⟨A, 2, none⟩ = some (.int .i64 64) := hA4.cell 2 _ rfl
      have k3 : w4.cell? ⟨A, 3, none⟩ = some (.int .i64 0) := hA4.cell 3 _ rfl
      have k4 : w4.cell? ⟨A, 4, none⟩ = some (.int .i64 6) := hA4.cell 4 _ rfl
      have k5 : w4.cell? ⟨A, 5, none⟩ = some (.int .i64 2) := hA4.cell 5 _ rfl
      have k6 : w4.cell? ⟨A, 6, none⟩ = some (.int .i64 2) := hA4.cell 6 _ rfl
      have k7 : w4.cell? ⟨A, 7, none⟩ = some (.int .i64 60) := hA4.cell 7 _ rfl
      have k8 : w4.cell? ⟨A, 8, none⟩ = some (.int .i64 30) := hA4.cell 8 _ rfl
      have k9 : w4.cell? ⟨A, 9, none⟩ = some (.int .i64 5) := hA4.cell 9 _ rfl
      have k10 : w4.cell? ⟨A, 10, none⟩ = some (.slice p 2 c) := hA4.cell 10 _ rfl
      have hl := hA4.lt
      clear HTx HR1 HB HA hA4 hB4
      go_wp2_with fail
      refine (HR2.out _ _ _ HT4.out).mono ?_
      rintro e w5 ⟨rfl, hB5⟩
      have HB5 := Lib.hid (HB4.out.trans (hB5.mono HB4.out.size))
      clear HB4 hB5
      go_wp2
      go_ret
      exact ⟨rfl, HB5.out⟩

set_option maxRecDepth 100000 in
set_option maxHeartbeats 16000000 in
theorem bounds_3_true (x : Nat) (hx : x < 256) (hki : (x : Int) % 10 = 3) (w : World) (hX : Tens w) :
    Calls Tryd.prog 8 #[.int .u8 (x : Int), .bool true] w fun e w' => e = .returned (.bool true) ∧ Below w.heap.size w w' := by
  have hex := examples_any w hX
  have HR1 : Hid (∀ (W : World) (p : Option Addr) (c : Nat), Tr (fun _ => False) (.slice p 2 c) [10, 60] W → Calls Tryd.prog 15 #[.agg #[.int .i64 64, .int .i64 0, .int .i64 64, .int .i64 16, .int .i64 6, .int .i64 2, .int .i64 2, .int .i64 60, .int .i64 30, .int .i64 5, .slice p 2 c]] W fun e w' => e = .returned (.bool true) ∧ Below W.heap.size W w') := Lib.hid (fun W p c h => right_lit [64, 0, 64, 16, 6, 2, 2, 60, 30, 5] true (by decide +kernel) rfl (by decide) W p c h)
  have HR2 : Hid (∀ (W : World) (p : Option Addr) (c : Nat), Tr (fun _ => False) (.slice p 2 c) [10, 60] W → Calls Tryd.prog 15 #[.agg #[.int .i64 64, .int .i64 0, .int .i64 64, .int .i64 17, .int .i64 6, .int .i64 2, .int .i64 2, .int .i64 60, .int .i64 30, .int .i64 5, .slice p 2 c]] W fun e w' => e = .returned (.bool false) ∧ Below W.heap.size W w') := Lib.hid (fun W p c h => right_lit [64, 0, 64, 17, 6, 2, 2, 60, 30, 5] false (by decide +kernel) rfl (by decide) W p c h)
  clear hX
  go_enter Tryd.func8, Tryd.ntmps8
  go_wp2_with fail
  refine hex.mono ?_
  rintro e w1 ⟨rfl, hB1⟩
  have HB1 := Lib.hid hB1
  clear hex hB1
  go_wp2_with fail
  refine (base_lit _).mono ?_
  rintro e w2 ⟨p, c, rfl, hT2, hB2⟩
  have HB2 := Lib.hid (HB1.out.trans (hB2.mono HB1.out.size))
  have HT2 := Lib.hid hT2
  clear HB1 hB2 hT2
  go_wp2
  have hA0 : CellsAt w2.heap.size #[.int .i64 64, .int .i64 0, .int .i64 64, .int .i64 8, .int .i64 6, .int .i64 2, .int .i64 2, .int .i64 60, .int .i64 30, .int .i64 5, .slice p 2 c] (((((w2.alloc (.cells #[.int .i64 64, .int .i64 0, .int .i64 64, .int .i64 8, .int .i64 6, .int .i64 2, .int .i64 2, .int .i64 60, .int .i64 30, .int .i64 5, .slice p 2 c] 24))).alloc (.cells #[.int .i64 1, .int .i64 0, .int .i64 0, .int .i64 1, .int .i64 4, .int .i64 0, .int .i64 1, .int .i64 1, .int .i64 0, .int .i64 0] 2)).alloc (.cells #[.int .i64 256, .int .i64 64, .int .i64 1000000, .int .i64 16, .int .i64 10, .int .i64 4, .int .i64 100, .int .i64 1000000000, .int .i64 1000000000, .int .i64 1000000000] 2)).alloc (.cells #[.int .i64 64, .int .i64 0, .int .i64 64, .int .i64 8, .int .i64 6, .int .i64 2, .int .i64 2, .int .i64 60, .int .i64 30, .int .i64 5, .slice p 2 c] 24)) := (((CellsAt.new #[.int .i64 64, .int .i64 0, .int .i64 64, .int .i64 8, .int .i64 6, .int .i64 2, .int .i64 2, .int .i64 60, .int .i64 30, .int .i64 5, .slice p 2 c] 24 w2).past _).past _).past _
  have hD0 : CellsAt (w2.heap.size + 1 + 1 + 1) #[.int .i64 64, .int .i64 0, .int .i64 64, .int .i64 8, .int .i64 6, .int .i64 2, .int .i64 2, .int .i64 60, .int .i64 30, .int .i64 5, .slice p 2 c] (((((w2.alloc (.cells #[.int .i64 64, .int .i64 0, .int .i64 64, .int .i64 8, .int .i64 6, .int .i64 2, .int .i64 2, .int .i64 60, .int .i64 30, .int .i64 5, .slice p 2 c] 24))).alloc (.cells #[.int .i64 1, .int .i64 0, .int .i64 0, .int .i64 1, .int .i64 4, .int .i64 0, .int .i64 1, .int .i64 1, .int .i64 0, .int .i64 0] 2)).alloc (.cells #[.int .i64 256, .int .i64 64, .int .i64 1000000, .int .i64 16, .int .i64 10, .int .i64 4, .int .i64 100, .int .i64 1000000000, .int .i64 1000000000, .int .i64 1000000000] 2)).alloc (.cells #[.int .i64 64, .int .i64 0, .int .i64 64, .int .i64 8, .int .i64 6, .int .i64 2, .int .i64 2, .int .i64 60, .int .i64 30, .int .i64 5, .slice p 2 c] 24)) := CellsAt.newAt #[.int .i64 64, .int .i64 0, .int .i64 64, .int .i64 8, .int .i64 6, .int .i64 2, .int .i64 2, .int .i64 60, .int .i64 30, .int .i64 5, .slice p 2 c] 24 _ _ (by simp)
  have hB0 : Below w2.heap.size w2 (((((w2.alloc (.cells #[.int .i64 64, .int .i64 0, .int .i64 64, .int .i64 8, .int .i64 6, .int .i64 2, .int .i64 2, .int .i64 60, .int .i64 30, .int .i64 5, .slice p 2 c] 24))).alloc (.cells #[.int .i64 1, .int .i64 0, .int .i64 0, .int .i64 1, .int .i64 4, .int .i64 0, .int .i64 1, .int .i64 1, .int .i64 0, .int .i64 0] 2)).alloc (.cells #[.int .i64 256, .int .i64 64, .int .i64 1000000, .int .i64 16, .int .i64 10, .int .i64 4, .int .i64 100, .int .i64 1000000000, .int .i64 1000000000, .int .i64 1000000000] 2)).alloc (.cells #[.int .i64 64, .int .i64 0, .int .i64 64, .int .i64 8, .int .i64 6, .int .i64 2, .int .i64 2, .int .i64 60, .int .i64 30, .int .i64 5, .slice p 2 c] 24)) := ((((Below.refl _ _).alloc (Nat.le_refl _) _).alloc (by simp) _).alloc (by simp; omega) _).alloc (by simp; omega) _
  have HT0 := Lib.hid ((HT2.out.weak (S' := fun j => w2.heap.size ≤ j) (fun j h hl => by omega)).below hB0)
  have HB0 := Lib.hid (HB2.out.trans (hB0.mono HB2.out.size))
  have hlo : w.heap.size ≤ w2.heap.size := HB2.out.size
  have HA0 := Lib.hid hA0
  have HD0 := Lib.hid hD0
  clear hA0 hD0 hB0 HT2 HB2
  generalize ((((w2.alloc (.cells #[.int .i64 64, .int .i64 0, .int .i64 64, .int .i64 8, .int .i64 6, .int .i64 2, .int .i64 2, .int .i64 60, .int .i64 30, .int .i64 5, .slice p 2 c] 24))).alloc (.cells #[.int .i64 1, .int .i64 0, .int .i64 0, .int .i64 1, .int .i64 4, .int .i64 0, .int .i64 1, .int .i64 1, .int .i64 0, .int .i64 0] 2)).alloc (.cells #[.int .i64 256, .int .i64 64, .int .i64 1000000, .int .i64 16, .int .i64 10, .int .i64 4, .int .i64 100, .int .i64 1000000000, .int .i64 1000000000, .int .i64 1000000000] 2)).alloc (.cells #[.int .i64 64, .int .i64 0, .int .i64 64, .int .i64 8, .int .i64 6, .int .i64 2, .int .i64 2, .int .i64 60, .int .i64 30, .int .i64 5, .slice p 2 c] 24) = W0 at *
  generalize w2.heap.size = A at *
  obtain ⟨D, hD⟩ : ∃ D, A + 1 + 1 + 1 = D := ⟨_, rfl⟩
  rw [hD] at HD0 ⊢
  have hAD : A < D := by omega
  clear hD
  rw [hki]
  clear hki
  go_loopg [10, 13] 2 (fun g s10 s13 wx => Hid (Tr (fun j => A ≤ j) (.slice p 2 c) [10, 60] wx) ∧ Hid (Below w.heap.size w wx) ∧
    ((g = 2 ∧ s13 = .int .i64 0 ∧ s10 = .int .i64 16 ∧ Hid (CellsAt A #[.int .i64 64, .int .i64 0, .int .i64 64, .int .i64 8, .int .i64 6, .int .i64 2, .int .i64 2, .int .i64 60, .int .i64 30, .int .i64 5, .slice p 2 c] wx) ∧ Hid (CellsAt D #[.int .i64 64, .int .i64 0, .int .i64 64, .int .i64 8, .int .i64 6, .int .i64 2, .int .i64 2, .int .i64 60, .int .i64 30, .int .i64 5, .slice p 2 c] wx)) ∨
     (g = 1 ∧ s13 = .int .i64 1 ∧ s10 = .int .i64 17 ∧ Hid (CellsAt A #[.int .i64 64, .int .i64 0, .int .i64 64, .int .i64 16, .int .i64 6, .int .i64 2, .int .i64 2, .int .i64 60, .int .i64 30, .int .i64 5, .slice p 2 c] wx) ∧ Hid (CellsAt D #[.int .i64 64, .int .i64 0, .int .i64 64, .int .i64 16, .int .i64 6, .int .i64 2, .int .i64 2, .int .i64 60, .int .i64 30, .int .i64 5, .slice p 2 c] wx)) ∨
     (g = 0 ∧ s13 = .int .i64 2 ∧ s10 = .int .i64 17 ∧ Hid (CellsAt A #[.int .i64 64, .int .i64 0, .int .i64 64, .int .i64 17, .int .i64 6, .int .i64 2, .int .i64 2, .int .i64 60, .int .i64 30, .int .i64 5, .slice p 2 c] wx) ∧ Hid (CellsAt D #[.int .i64 64, .int .i64 0, .int .i64 64, .int .i64 16, .int .i64 6, .int .i64 2, .int .i64 2, .int .i64 60, .int .i64 30, .int .i64 5, .slice p 2 c] wx))))
  case atStart => exact ⟨HT0, HB0, .inl ⟨rfl, rfl, rfl, HA0, HD0⟩⟩
  case round =>
    clear HA0 HD0 HT0 HB0
    obtain ⟨HT, HB, ⟨rfl, rfl, rfl, HA, HD⟩ | ⟨rfl, rfl, rfl, HA, HD⟩ | ⟨rfl, rfl, rfl, HA, HD⟩⟩ := hrel
    · have HD1 : Hid (CellsAt D #[.int .i64 64, .int .i64 0, .int .i64 64, .int .i64 8, .int .i64 6, .int .i64 2, .int .i64 2, .int .i64 60, .int .i64 30, .int .i64 5, .slice p 2 c] (wr.setCell ⟨A, 3, none⟩ (.int .i64 16))) := Lib.hid (cells_mov HD.out ((Mov.refl (fun j => j = A) wr).set rfl 3 _) (by omega))
      have HA1 : Hid (CellsAt A #[.int .i64 64, .int .i64 0, .int .i64 64, .int .i64 16, .int .i64 6, .int .i64 2, .int .i64 2, .int .i64 60, .int .i64 30, .int .i64 5, .slice p 2 c] (wr.setCell ⟨A, 3, none⟩ (.int .i64 16))) := Lib.hid (HA.out.set 3 (.int .i64 16) (by simp))
      have hM : Mov (fun j => A ≤ j) wr ((wr.setCell ⟨A, 3, none⟩ (.int .i64 16)).setCells D 0 (#[.int .i64 64, .int .i64 0, .int .i64 64, .int .i64 16, .int .i64 6, .int .i64 2, .int .i64 2, .int .i64 60, .int .i64 30, .int .i64 5, .slice p 2 c] : Array Value).toList) := Mov.sets (S := fun j => A ≤ j) (Nat.le_of_lt hAD) _ 0 _ ((Mov.refl (fun j => A ≤ j) wr).set (Nat.le_refl A) 3 _)
      have HT1 := Lib.hid (HT.out.mov hM (fun j h _ => h))
      have HB1 := Lib.hid (HB.out.trans (hM.below (N := w.heap.size) (fun j h => Nat.le_trans hlo h) HB.out.size))
      have HA2 := Lib.hid (cells_mov HA1.out (Mov.sets (S := fun j => j = D) rfl (#[.int .i64 64, .int .i64 0, .int .i64 64, .int .i64 16, .int .i64 6, .int .i64 2, .int .i64 2, .int .i64 60, .int .i64 30, .int .i64 5, .slice p 2 c] : Array Value).toList 0 _ (Mov.refl _ _)) (by omega))
      have HD2 : Hid (CellsAt D #[.int .i64 64, .int .i64 0, .int .i64 64, .int .i64 16, .int .i64 6, .int .i64 2, .int .i64 2, .int .i64 60, .int .i64 30, .int .i64 5, .slice p 2 c] ((wr.setCell ⟨A, 3, none⟩ (.int .i64 16)).setCells D 0 (#[.int .i64 64, .int .i64 0, .int .i64 64, .int .i64 16, .int .i64 6, .int .i64 2, .int .i64 2, .int .i64 60, .int .i64 30, .int .i64 5, .slice p 2 c] : Array Value).toList)) := Lib.hid (pol_put (n0 := [64, 0, 64, 8, 6, 2, 2, 60, 30, 5]) (n := [64, 0, 64, 16, 6, 2, 2, 60, 30, 5]) (v0 := .slice p 2 c) (v := .slice p 2 c) HD1.out rfl rfl)
      have k0 : wr.cell? ⟨A, 3, none⟩ = some (.int .i64 8) := HA.out.cell 3 _ rfl
      have hf : wr.frozen? ⟨A, 3, none⟩ = false := HA.out.fro 3 _ rfl
      have hl := HA.out.lt
      clear HT HB HA HD hM
      go_upto_region 40 with fail
      clear k0 hf hl
      generalize wr.setCell ⟨A, 3, none⟩ (.int .i64 16) = W1 at *
      have HL1 : Hid ((loadVar 24 ⟨A, 0, none⟩).run Tryd.prog W1 = .ok (.agg #[.int .i64 64, .int .i64 0, .int .i64 64, .int .i64 16, .int .i64 6, .int .i64 2, .int .i64 2, .int .i64 60, .int .i64 30, .int .i64 5, .slice p 2 c]) W1) := Lib.hid (load_pol (n := [64, 0, 64, 16, 6, 2, 2, 60, 30, 5]) (v := .slice p 2 c) HA1.out rfl)
      clear HA1
      go_wp2_with (refine wpList_load_run rfl 24 (.tmp 6) rfl ⟨A, 0, none⟩ (.agg #[.int .i64 64, .int .i64 0, .int .i64 64, .int .i64 16, .int .i64 6, .int .i64 2, .int .i64 2, .int .i64 60, .int .i64 30, .int .i64 5, .slice p 2 c]) ?_ ?_ ?_; exact rfl; exact HL1.out; refine wpList_store_cells rfl 24 (.tmp 12) (.tmp 81) rfl D #[.int .i64 64, .int .i64 0, .int .i64 64, .int .i64 16, .int .i64 6, .int .i64 2, .int .i64 2, .int .i64 60, .int .i64 30, .int .i64 5, .slice p 2 c] #[.int .i64 64, .int .i64 0, .int .i64 64, .int .i64 8, .int .i64 6, .int .i64 2, .int .i64 2, .int .i64 60, .int .i64 30, .int .i64 5, .slice p 2 c] ?_ ?_ ?_ ?_ ?_ ?_ ?_; exact rfl; exact rfl; exact HD1.out; exact (show _ = some 11 by kernel_rfl); exact rfl; simp [Value.oneCell'])
      go_roundg 1
      case measure => omega
      case rel => exact ⟨HT1, HB1, .inr (.inl ⟨rfl, by go_num, by go_num, HA2, HD2⟩)⟩
    · have hM : Mov (fun j => j = A) wr (wr.setCell ⟨A, 3, none⟩ (.int .i64 17)) := (Mov.refl (fun j => j = A) wr).set rfl 3 _
      have HD1 := Lib.hid (cells_mov HD.out hM (by omega))
      have HA1 : Hid (CellsAt A #[.int .i64 64, .int .i64 0, .int .i64 64, .int .i64 17, .int .i64 6, .int .i64 2, .int .i64 2, .int .i64 60, .int .i64 30, .int .i64 5, .slice p 2 c] (wr.setCell ⟨A, 3, none⟩ (.int .i64 17))) := Lib.hid (HA.out.set 3 (.int .i64 17) (by simp))
      have HT1 := Lib.hid (HT.out.mov hM (fun j h _ => by omega))
      have HB1 := Lib.hid (HB.out.trans (hM.below (N := w.heap.size) (fun j h => by omega) HB.out.size))
      have k0 : wr.cell? ⟨A, 3, none⟩ = some (.int .i64 16) := HA.out.cell 3 _ rfl
      have hf : wr.frozen? ⟨A, 3, none⟩ = false := HA.out.fro 3 _ rfl
      have hl := HA.out.lt
      clear HT HB HA HD hM
      go_wp2
      go_roundg 0
      case measure => omega
      case rel => exact ⟨HT1, HB1, .inr (.inr ⟨rfl, by go_num, by go_num, HA1, HD1⟩)⟩
    · have HTx := Lib.hid (HT.out.weak (S' := fun _ => False) (fun _ h _ => h.elim))
      have k0 : wr.cell? ⟨D, 0, none⟩ = some (.int .i64 64) := HD.out.cell 0 _ rfl
      have k1 : wr.cell? ⟨D, 1, none⟩ = some (.int .i64 0) := HD.out.cell 1 _ rfl
      have k2 : wr.cell? ⟨D, 2, none⟩ = some (.int .i64 64) := HD.out.cell 2 _ rfl
      have k3 : wr.cell? ⟨D, 3, none⟩ = some (.int .i64 16) := HD.out.cell 3 _ rfl
      have k4 : wr.cell? ⟨D, 4, none⟩ = some (.int .i64 6) := HD.out.cell 4 _ rfl
      have k5 : wr.cell? ⟨D, 5, none⟩ = some (.int .i64 2) := HD.out.cell 5 _ rfl
      have k6 : wr.cell? ⟨D, 6, none⟩ = some (.int .i64 2) := HD.out.cell 6 _ rfl
      have k7 : wr.cell? ⟨D, 7, none⟩ = some (.int .i64 60) := HD.out.cell 7 _ rfl
      have k8 : wr.cell? ⟨D, 8, none⟩ = some (.int .i64 30) := HD.out.cell 8 _ rfl
      have k9 : wr.cell? ⟨D, 9, none⟩ = some (.int .i64 5) := HD.out.cell 9 _ rfl
      have k10 : wr.cell? ⟨D, 10, none⟩ = some (.slice p 2 c) := HD.out.cell 10 _ rfl
      have hl := HD.out.lt
      clear HD HT
      go_wp2_with fail
      refine (HR1.out _ _ _ HTx.out).mono ?_
      rintro e w4 ⟨rfl, hB4⟩
      have hA4 := HA.out.below hB4
      have HT4 := Lib.hid (HTx.out.below hB4)
      have HB4 := Lib.hid (HB.out.trans (hB4.mono HB.out.size))
      clear k0 k1 k2 k3 k4 k5 k6 k7 k8 k9 k10 hl
      have k0 : w4.cell? ⟨A, 0, none⟩ = some (.int .i64 64) := hA4.cell 0 _ rfl
      have k1 : w4.cell? ⟨A, 1, none⟩ = some (.int .i64 0) := hA4.cell 1 _ rfl
      have k2 : w4.cell? ⟨A, 2, none⟩ = some (.int .i64 64) := hA4.cell 2 _ rfl
      have k3 : w4.cell? ⟨A, 3, none⟩ = some (.int .i64 17) := hA4.cell 3 _ rfl
      have k4 : w4.cell? ⟨A, 4, none⟩ = some (.int .i64 6) := hA4.cell 4 _ rfl
      have k5 : w4.cell? ⟨A, 5, none⟩ = some (.int .i64 2) := hA4.cell 5 _ rfl
      have k6 : w4.cell? ⟨A, 6, none⟩ = some (.int .i64 2) := hA4.cell 6 _ rfl
      have k7 : w4.cell? ⟨A, 7, none⟩ = some (.int .i64 60) := hA4.cell 7 _ rfl
      have k8 : w4.cell? ⟨A, 8, none⟩ = some (.int .i64 30) := hA4.cell 8 _ rfl
      have k9 : w4.cell? ⟨A, 9, none⟩ = some (.int .i64 5) := hA4.cell 9 _ rfl
      have k10 : w4.cell? ⟨A, 10, none⟩ = some (.slice p 2 c) := hA4.cell 10 _ rfl
      have hl := hA4.lt
      clear HTx HR1 HB HA hA4 hB4
      go_wp2_with fail
      refine (HR2.out _ _ _ HT4.out).mono ?_
      rintro e w5 ⟨rfl, hB5⟩
      have HB5 := Lib.hid (HB4.out.trans (hB5.mono HB4.out.size))
      clear HB4 hB5
      go_wp2
      go_ret
      exact ⟨rfl, HB5.out⟩
end Go.Proofs.YthbekailfoogfaaDoor.Po
