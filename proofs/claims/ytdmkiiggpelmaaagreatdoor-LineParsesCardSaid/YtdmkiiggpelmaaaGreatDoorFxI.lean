/- What is thrown is caught. -/
import Derived.Test.YtdmkiiggpelmaaaGreatDoorFxH
import Derived.Tactics2
import Derived.Defers
import Derived.Recover
import Derived.Laws.Pointers
namespace Go.Proofs.YtdmkiiggpelmaaaGreatDoor
open Go Go.RowKit

theorem assert_yes (k : Int) (w : World) : (Sem.run Tryz.prog (Instr.typeAssert (Value.iface 37 (Value.int IntKind.i64 k)) 20 37 true) w) = .ok (.tuple #[.int .i64 k, .bool true]) w := by
  kernel_rfl
theorem assert_no (w : World) : (Sem.run Tryz.prog (Instr.typeAssert Value.nilIface 20 37 true) w) = .ok (.tuple #[.int .i64 0, .bool false]) w := by
  kernel_rfl
set_option maxRecDepth 100000 in
theorem catch_thrown (p : Addr) (x k : Int) (older : List PanicEntry) (w : World) (hc : w.cell? p = some (.int .i64 x)) (hz : w.frozen? p = false) :
    CallsD Tryz.prog 68 #[.pointer (some p)] (.panicking ({ v := .iface 37 (.int .i64 k), recovered := false } :: older)) w fun e u' w' =>
      e = .returned (.tuple #[]) ∧ u' = .panicking ({ v := .iface 37 (.int .i64 k), recovered := true } :: older) ∧ w' = w.setCell p (.int .i64 k) := by

  refine callsD_of_wpS Tryz.func68 rfl fun c₀ cs hu => ?_
  apply wpS_seq
  apply wpS_region
  simp [wpOpsS, go_sem, recoverD, hu, Tryz.ntmps68, Exit.thenS, assert_yes]
  apply wpS_seq
  apply wpS_region
  simp [wpOpsS, go_sem, Exit.thenS]
  refine wpS_cond (t := true) (by simp [Act.eval, Array.replicate]) ?_
  simp only [if_true]
  apply wpS_region
  simp [wpOpsS, go_sem, hc, hz, bodyPostS, results, Tryz.results68]

set_option maxRecDepth 100000 in
theorem catch_none (p : Addr) (w : World) :
    CallsD Tryz.prog 68 #[.pointer (some p)] .returning w fun e u' w' => e = .returned (.tuple #[]) ∧ u' = .returning ∧ w' = w := by
  refine callsD_of_wpS Tryz.func68 rfl fun c₀ cs hu => ?_
  apply wpS_seq
  apply wpS_region
  simp [wpOpsS, go_sem, recoverD, hu, Tryz.ntmps68, Exit.thenS, assert_no]
  apply wpS_seq
  apply wpS_region
  simp [wpOpsS, go_sem, Exit.thenS]
  refine wpS_cond (t := false) (by simp [Act.eval, Array.replicate]) ?_
  simp only [Bool.false_eq_true, if_false]
  refine wpS_of_wp (wp_skip ?_)
  cases c₀
  simp_all [bodyPostS, results, Tryz.results68]

theorem frozen_new (W : World) (xs : Array Value) (T : TypeId) (i : Nat) : (W.alloc (.cells xs T)).frozen? ⟨W.heap.size, i, none⟩ = false := World.frozen?_alloc_new _ _ _ _
set_option maxHeartbeats 4000000 in
theorem caughtRead (A : Nat) (r : Int × Int) (hr : r.2 ≠ 0 → r.1 = 0) (w : World)
    (hw : ∀ W, Below w.heap.size w W → Calls Tryz.prog 48 #[.pointer (some ⟨A, 0, none⟩)] W fun e w' => e = EndOf r ∧ Below W.heap.size W w') :
    Calls Tryz.prog 47 #[.func (.func 48) #[] #[.pointer (some ⟨A, 0, none⟩)]] w fun e w' => e = .returned (.tuple #[.int .i64 r.1, .int .i64 r.2]) ∧ Below w.heap.size w w' := by
  have hmf : ∀ (fn : Fn) (first cap : Array Value) (w : World), (Instr.makeFunc fn first cap).run Tryz.prog w = .ok (.func fn first cap) w := fun _ _ _ _ => rfl
  have h1 := hw _ (((Below.refl _ _).alloc (Nat.le_refl _) (.cells #[.int .i64 0] 37)))
  have hC := CellsAt.new #[.int .i64 0] 37 w
  have hE0 : Below w.heap.size w (w.alloc (.cells #[.int .i64 0] 37)) := (Below.refl _ _).alloc (Nat.le_refl _) _
  obtain ⟨a, b⟩ := r
  by_cases hb : b = 0
  · have hE : EndOf (a, b) = .returned (.int .i64 a) := by unfold EndOf; rw [if_pos hb]
    rw [hE] at h1
    subst hb
    clear hE hr hw
    go_enter_defers Tryz.func47, Tryz.ntmps47
    go_wp2_with fail
    refine h1.mono ?_
    rintro e w1 ⟨rfl, hB1⟩
    have hC1 := hC.below hB1
    have hE1 := hE0.trans (hB1.mono hE0.size)
    have c0 := hC1.cell 0 _ rfl
    have f0 := hC1.fro 0 _ rfl
    go_wp2
    have hD := hC1.set 0 (.int .i64 0) (by simp)
    have d0 := hD.cell 0 (.int .i64 0) rfl
    refine leaves_cons (f := 68) (args := #[.pointer (some ⟨w.heap.size, 0, none⟩)]) (by simp) (by simp [go_sem]) ?_
    refine (catch_none ⟨w.heap.size, 0, none⟩ _).mono ?_
    rintro e u' w'' ⟨rfl, rfl, rfl⟩
    simp [Leaves, settle, results, Tryz.results47, go_sem, d0]
    exact hE1.setCell (p := ⟨w.heap.size, 0, none⟩) (Nat.le_refl _) _
  · have hE : EndOf (a, b) = PE b := by unfold EndOf; rw [if_neg hb]
    rw [hE] at h1
    obtain rfl : a = 0 := hr hb
    clear hE hr hw
    go_enter_defers Tryz.func47, Tryz.ntmps47
    go_wp2_with fail
    refine h1.mono ?_
    rintro e w1 ⟨rfl, hB1⟩
    have hC1 := hC.below hB1
    have hE1 := hE0.trans (hB1.mono hE0.size)
    have c0 := hC1.cell 0 _ rfl
    have f0 := hC1.fro 0 _ rfl
    go_wp2
    have hD := hC1.set 0 (.int .i64 b) (by simp)
    have d0 := hD.cell 0 (.int .i64 b) rfl
    refine leaves_cons (f := 68) (args := #[.pointer (some ⟨w.heap.size, 0, none⟩)]) (by simp) (by simp [go_sem]) ?_
    refine (catch_thrown ⟨w.heap.size, 0, none⟩ 0 b [] _ c0 f0).mono ?_
    rintro e u' w'' ⟨rfl, rfl, rfl⟩
    simp [Leaves, settle, results, Tryz.results47, go_sem, d0]
    exact hE1.setCell (p := ⟨w.heap.size, 0, none⟩) (Nat.le_refl _) _

set_option maxHeartbeats 4000000 in
theorem caughtWhole (A : Nat) (r : Int × Int) (hr : r.2 ≠ 0 → r.1 = 0) (w : World)
    (hw : ∀ W, Below w.heap.size w W → Calls Tryz.prog 54 #[.pointer (some ⟨A, 0, none⟩)] W fun e w' => e = EndOf r ∧ Below W.heap.size W w') :
    Calls Tryz.prog 47 #[.func (.func 54) #[] #[.pointer (some ⟨A, 0, none⟩)]] w fun e w' => e = .returned (.tuple #[.int .i64 r.1, .int .i64 r.2]) ∧ Below w.heap.size w w' := by
  have hmf : ∀ (fn : Fn) (first cap : Array Value) (w : World), (Instr.makeFunc fn first cap).run Tryz.prog w = .ok (.func fn first cap) w := fun _ _ _ _ => rfl
  have h1 := hw _ (((Below.refl _ _).alloc (Nat.le_refl _) (.cells #[.int .i64 0] 37)))
  have hC := CellsAt.new #[.int .i64 0] 37 w
  have hE0 : Below w.heap.size w (w.alloc (.cells #[.int .i64 0] 37)) := (Below.refl _ _).alloc (Nat.le_refl _) _
  obtain ⟨a, b⟩ := r
  by_cases hb : b = 0
  · have hE : EndOf (a, b) = .returned (.int .i64 a) := by unfold EndOf; rw [if_pos hb]
    rw [hE] at h1
    subst hb
    clear hE hr hw
    go_enter_defers Tryz.func47, Tryz.ntmps47
    go_wp2_with fail
    refine h1.mono ?_
    rintro e w1 ⟨rfl, hB1⟩
    have hC1 := hC.below hB1
    have hE1 := hE0.trans (hB1.mono hE0.size)
    have c0 := hC1.cell 0 _ rfl
    have f0 := hC1.fro 0 _ rfl
    go_wp2
    have hD := hC1.set 0 (.int .i64 0) (by simp)
    have d0 := hD.cell 0 (.int .i64 0) rfl
    refine leaves_cons (f := 68) (args := #[.pointer (some ⟨w.heap.size, 0, none⟩)]) (by simp) (by simp [go_sem]) ?_
    refine (catch_none ⟨w.heap.size, 0, none⟩ _).mono ?_
    rintro e u' w'' ⟨rfl, rfl, rfl⟩
    simp [Leaves, settle, results, Tryz.results47, go_sem, d0]
    exact hE1.setCell (p := ⟨w.heap.size, 0, none⟩) (Nat.le_refl _) _
  · have hE : EndOf (a, b) = PE b := by unfold EndOf; rw [if_neg hb]
    rw [hE] at h1
    obtain rfl : a = 0 := hr hb
    clear hE hr hw
    go_enter_defers Tryz.func47, Tryz.ntmps47
    go_wp2_with fail
    refine h1.mono ?_
    rintro e w1 ⟨rfl, hB1⟩
    have hC1 := hC.below hB1
    have hE1 := hE0.trans (hB1.mono hE0.size)
    have c0 := hC1.cell 0 _ rfl
    have f0 := hC1.fro 0 _ rfl
    go_wp2
    have hD := hC1.set 0 (.int .i64 b) (by simp)
    have d0 := hD.cell 0 (.int .i64 b) rfl
    refine leaves_cons (f := 68) (args := #[.pointer (some ⟨w.heap.size, 0, none⟩)]) (by simp) (by simp [go_sem]) ?_
    refine (catch_thrown ⟨w.heap.size, 0, none⟩ 0 b [] _ c0 f0).mono ?_
    rintro e u' w'' ⟨rfl, rfl, rfl⟩
    simp [Leaves, settle, results, Tryz.results47, go_sem, d0]
    exact hE1.setCell (p := ⟨w.heap.size, 0, none⟩) (Nat.le_refl _) _

end Go.Proofs.YtdmkiiggpelmaaaGreatDoor
