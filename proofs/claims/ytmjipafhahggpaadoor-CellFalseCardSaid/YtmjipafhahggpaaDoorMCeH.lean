/- Get: what read throws is caught. -/
import Derived.Test.YtmjipafhahggpaaDoorMCeG
namespace Go.Proofs.YtmjipafhahggpaaDoor.Ce
open Go Go.RowKit Hi

set_option maxRecDepth 100000 in
theorem catch_thrown (p : Addr) (x k : Int) (older : List PanicEntry) (w : World) (hc : w.cell? p = some (.int .i64 x)) (hz : w.frozen? p = false) :
    CallsD Tryd.prog 32 #[.pointer (some p)] (.panicking ({ v := .iface 31 (.int .i64 k), recovered := false } :: older)) w fun e u' w' =>
      e = .returned (.tuple #[]) ∧ u' = .panicking ({ v := .iface 31 (.int .i64 k), recovered := true } :: older) ∧ w' = w.setCell p (.int .i64 2) := by
  refine callsD_of_wpS Tryd.func32 rfl fun c₀ cs hu => ?_
  apply wpS_seq
  apply wpS_region
  simp [wpOpsS, go_sem, recoverD, hu, Tryd.ntmps32, Exit.thenS]
  refine wpS_cond (t := true) (by simp [Act.eval, Array.replicate]) ?_
  simp only [if_true]
  apply wpS_region
  simp [wpOpsS, go_sem, hc, hz, bodyPostS, results, Tryd.results32]
set_option maxRecDepth 100000 in
theorem catch_none (p : Addr) (w : World) :
    CallsD Tryd.prog 32 #[.pointer (some p)] .returning w fun e u' w' => e = .returned (.tuple #[]) ∧ u' = .returning ∧ w' = w := by
  refine callsD_of_wpS Tryd.func32 rfl fun c₀ cs hu => ?_
  apply wpS_seq
  apply wpS_region
  simp [wpOpsS, go_sem, recoverD, hu, Tryd.ntmps32, Exit.thenS]
  refine wpS_cond (t := false) (by simp [Act.eval, Array.replicate]) ?_
  simp only [Bool.false_eq_true, if_false]
  refine wpS_of_wp (wp_skip ?_)
  cases c₀
  simp_all [bodyPostS, results, Tryd.results32]
/-- What Get answers. -/
def GetV (N : Nat) (r : Option (Cel × List UInt8)) (e : Ending) (w' : World) : Prop :=
  match r with
  | none => e = .returned (.tuple #[.pointer none, .string ⟨#[]⟩, .int .i64 2])
  | some (c, t) => ∃ C S, e = .returned (.tuple #[.pointer (some ⟨C, 0, none⟩), .string (tx t), .int .i64 0]) ∧ At S C c w' ∧ ∀ i, S i → N ≤ i
set_option maxRecDepth 100000 in
set_option maxHeartbeats 4000000 in
theorem get_any (s : ByteArray) (hm : s.size ≤ maxLen) (w : World) :
    Calls Tryd.prog 18 #[.string s] w fun e w' => GetV w.heap.size (getC s.data.toList) e w' ∧ Below w.heap.size w w' := by
  have hmf : ∀ (fn : Fn) (first cap : Array Value) (w : World), (Instr.makeFunc fn first cap).run Tryd.prog w = .ok (.func fn first cap) w := fun _ _ _ _ => rfl
  have h1 := read_any s hm (w.alloc (.cells #[.int .i64 0] 31))
  have hC := CellsAt.new #[.int .i64 0] 31 w
  have hE0 : Below w.heap.size w (w.alloc (.cells #[.int .i64 0] 31)) := (Below.refl _ _).alloc (Nat.le_refl _) _
  cases hr : getC s.data.toList with
  | none =>
    rw [hr] at h1
    clear hr
    go_enter_defers Tryd.func18, Tryd.ntmps18
    go_wp2_with fail
    refine h1.mono ?_
    rintro e w1 ⟨he, hB1⟩
    obtain rfl : e = PE := he
    have hC1 := hC.below hB1
    have hE1 := hE0.trans (hB1.mono hE0.size)
    have c0 := hC1.cell 0 _ rfl
    have f0 := hC1.fro 0 _ rfl
    go_wp2
    have hD := hC1.set 0 (.int .i64 2) (by simp)
    have d0 := hD.cell 0 (.int .i64 2) rfl
    refine leaves_cons (f := 32) (args := #[.pointer (some ⟨w.heap.size, 0, none⟩)]) (by simp) (by simp [go_sem]) ?_
    refine (catch_thrown ⟨w.heap.size, 0, none⟩ 0 2 [] _ c0 f0).mono ?_
    rintro e u' w'' ⟨rfl, rfl, rfl⟩
    simp [Leaves, settle, results, Tryd.results18, go_sem, d0]
    exact ⟨rfl, hE1.setCell (p := ⟨w.heap.size, 0, none⟩) (Nat.le_refl _) _⟩
  | some r =>
    obtain ⟨c, t⟩ := r
    rw [hr] at h1
    clear hr
    go_enter_defers Tryd.func18, Tryd.ntmps18
    go_wp2_with fail
    refine h1.mono ?_
    rintro e w1 ⟨⟨C, S, rfl, hA, hS⟩, hB1⟩
    have hC1 := hC.below hB1
    have hE1 := hE0.trans (hB1.mono hE0.size)
    have c0 := hC1.cell 0 _ rfl
    have f0 := hC1.fro 0 _ rfl
    have hD := hC1.set 0 (.int .i64 0) (by simp)
    have d0 := hD.cell 0 (.int .i64 0) rfl
    have HA := Lib.hid hA
    have HS := Lib.hid hS
    clear hA hS
    go_wp2
    refine leaves_cons (f := 32) (args := #[.pointer (some ⟨w.heap.size, 0, none⟩)]) (by simp) (by simp [go_sem]) ?_
    refine (catch_none ⟨w.heap.size, 0, none⟩ _).mono ?_
    rintro e u' w'' ⟨rfl, rfl, rfl⟩
    simp [Leaves, settle, results, Tryd.results18, go_sem, d0]
    have hs := HS.out
    simp at hs
    refine ⟨⟨C, S, rfl, HA.out.mov ((Mov.refl (fun i => i = w.heap.size) w1).set rfl 0 _) (fun i hi e => by have := hs i hi; omega), fun i hi => by have := hs i hi; omega⟩, hE1.setCell (p := ⟨w.heap.size, 0, none⟩) (Nat.le_refl _) _⟩
end Go.Proofs.YtmjipafhahggpaaDoor.Ce

