/- A text parsed: what stands in the way is thrown, and caught. -/
import Derived.Test.YtdmkiiggpelmaaaGreatDoorLnD
namespace Go.Proofs.YtdmkiiggpelmaaaGreatDoor.Lx
open Go Go.RowKit

set_option maxRecDepth 100000 in
theorem pcatch_thrown (p : Addr) (x k : Int) (older : List PanicEntry) (w : World) (hc : w.cell? p = some (.int .i64 x)) (hz : w.frozen? p = false) :
    CallsD Tryz.prog 19 #[.pointer (some p)] (.panicking ({ v := .iface 37 (.int .i64 k), recovered := false } :: older)) w fun e u' w' =>
      e = .returned (.tuple #[]) ∧ u' = .panicking ({ v := .iface 37 (.int .i64 k), recovered := true } :: older) ∧ w' = w.setCell p (.int .i64 k) := by
  refine callsD_of_wpS Tryz.func19 rfl fun c₀ cs hu => ?_
  apply wpS_seq
  apply wpS_region
  simp [wpOpsS, go_sem, recoverD, hu, Tryz.ntmps19, Exit.thenS, assert_yes]
  apply wpS_seq
  apply wpS_region
  simp [wpOpsS, go_sem, Exit.thenS]
  refine wpS_cond (t := true) (by simp [Act.eval, Array.replicate]) ?_
  simp only [if_true]
  apply wpS_region
  simp [wpOpsS, go_sem, hc, hz, bodyPostS, results, Tryz.results19]
set_option maxRecDepth 100000 in
theorem pcatch_none (p : Addr) (w : World) :
    CallsD Tryz.prog 19 #[.pointer (some p)] .returning w fun e u' w' => e = .returned (.tuple #[]) ∧ u' = .returning ∧ w' = w := by
  refine callsD_of_wpS Tryz.func19 rfl fun c₀ cs hu => ?_
  apply wpS_seq
  apply wpS_region
  simp [wpOpsS, go_sem, recoverD, hu, Tryz.ntmps19, Exit.thenS, assert_no]
  apply wpS_seq
  apply wpS_region
  simp [wpOpsS, go_sem, Exit.thenS]
  refine wpS_cond (t := false) (by simp [Act.eval, Array.replicate]) ?_
  simp only [Bool.false_eq_true, if_false]
  refine wpS_of_wp (wp_skip ?_)
  cases c₀
  simp_all [bodyPostS, results, Tryz.results19]

def ParseEnd : Except Int LineV → World → Ending → World → Prop
  | .error k, w, e, w' => e = .returned (.tuple #[.agg (lineC ⟨#[]⟩ (.slice none 0 0) 0 0), .int .i64 k]) ∧ Below w.heap.size w w'
  | .ok L, w, e, w' => ∃ v, e = .returned (.tuple #[.agg (lineC (tx L.name) v L.value L.time), .int .i64 0]) ∧ OwnL w.heap.size v L.labels w' ∧ Below w.heap.size w w'

set_option maxRecDepth 100000 in
set_option maxHeartbeats 8000000 in
theorem parse_long (s : ByteArray) (hs : 1024 < s.size) (hm : s.size ≤ 9223372036854775807) (w : World) :
    Calls Tryz.prog 9 #[.string s] w (ParseEnd (.error 3) w) := by
  have hmf : ∀ (fn : Fn) (first cap : Array Value) (w : World), (Instr.makeFunc fn first cap).run Tryz.prog w = .ok (.func fn first cap) w := fun _ _ _ _ => rfl
  have hC := Lib.hid ((CellsAt.new (lineC ⟨#[]⟩ (.slice none 0 0) 0 0) 24 w).past (.cells #[.int .i64 0] 37))
  have hD := Lib.hid (CellsAt.newAt #[.int .i64 0] 37 (w.alloc (.cells (lineC ⟨#[]⟩ (.slice none 0 0) 0 0) 24)) (w.heap.size + 1) (by simp))
  have hE0 : Below w.heap.size w ((w.alloc (.cells (lineC ⟨#[]⟩ (.slice none 0 0) 0 0) 24)).alloc (.cells #[.int .i64 0] 37)) := ((Below.refl _ _).alloc (Nat.le_refl _) _).alloc (by simp) _
  go_enter_defers Tryz.func9, Tryz.ntmps9
  go_wp2
  have hD' := hD.out.set 0 (.int .i64 3) (by simp)
  have hC' := hC.out.other ⟨w.heap.size + 1, 0, none⟩ (.int .i64 3) (by simp)
  have c0 := hD.out.cell 0 _ rfl
  have f0 := hD.out.fro 0 _ rfl
  have d0 := hD'.cell 0 (.int .i64 3) rfl
  have r0 := hC'.cell 0 _ rfl
  have r1 := hC'.cell 1 _ rfl
  have r2 := hC'.cell 2 _ rfl
  have r3 := hC'.cell 3 _ rfl
  refine leaves_cons (f := 19) (args := #[.pointer (some ⟨w.heap.size + 1, 0, none⟩)]) (by simp) (by simp [go_sem]) ?_
  refine (pcatch_thrown ⟨w.heap.size + 1, 0, none⟩ 0 3 [] _ c0 f0).mono ?_
  rintro e u' w'' ⟨rfl, rfl, rfl⟩
  simp [Leaves, settle, results, Tryz.results9, go_sem]
  exact ⟨rfl, ((Below.refl _ _).alloc (Nat.le_refl _) _).alloc (by simp) _⟩

set_option maxRecDepth 100000 in
set_option maxHeartbeats 8000000 in
theorem parse_short (l : List UInt8) (hl : l.length ≤ 1024) (w : World) :
    Calls Tryz.prog 9 #[.string (tx l)] w (ParseEnd (lineP l) w) := by
  have hmf : ∀ (fn : Fn) (first cap : Array Value) (w : World), (Instr.makeFunc fn first cap).run Tryz.prog w = .ok (.func fn first cap) w := fun _ _ _ _ => rfl
  have hC := Lib.hid ((CellsAt.new (lineC ⟨#[]⟩ (.slice none 0 0) 0 0) 24 w).past (.cells #[.int .i64 0] 37))
  have hD := Lib.hid (CellsAt.newAt #[.int .i64 0] 37 (w.alloc (.cells (lineC ⟨#[]⟩ (.slice none 0 0) 0 0) 24)) (w.heap.size + 1) (by simp))
  have hE0 : Below w.heap.size w ((w.alloc (.cells (lineC ⟨#[]⟩ (.slice none 0 0) 0 0) 24)).alloc (.cells #[.int .i64 0] 37)) := ((Below.refl _ _).alloc (Nat.le_refl _) _).alloc (by simp) _
  obtain ⟨R, hres⟩ : ∃ R, lineP l = R := ⟨_, rfl⟩
  rw [hres]
  have HRES := Lib.hid hres
  have hs : (tx l).size ≤ 1024 := by rw [tx_len]; exact hl
  have HN : LrAt (w.heap.size + 1 + 1) l 0 (((w.alloc (.cells (lineC ⟨#[]⟩ (.slice none 0 0) 0 0) 24)).alloc (.cells #[.int .i64 0] 37)).alloc (.cells #[.string (tx l), .int .u8 0] 56)) := CellsAt.newAt _ _ _ _ (by simp)
  have HN2 := Lib.hid HN
  have HC0 := Lib.hid (hC.out.past (.cells #[.string (tx l), .int .u8 0] 56))
  have HD0 := Lib.hid (hD.out.past (.cells #[.string (tx l), .int .u8 0] 56))
  have HE0 := Lib.hid (hE0.alloc hE0.size (.cells #[.string (tx l), .int .u8 0] 56))
  clear hres HN hC hD hE0
  go_enter_defers Tryz.func9, Tryz.ntmps9
  go_wp2_with fail
  refine (line_any (w.heap.size + 1 + 1) l hl _ HN2.out).mono ?_
  rintro e w1 hE
  rw [HRES.out] at hE
  clear hs HN2 HRES
  cases R with
  | error k =>
    obtain ⟨rfl, hM⟩ := hE
    have HC1 := Lib.hid (cells_mov HC0.out hM (by omega))
    have HD1 := Lib.hid (cells_mov HD0.out hM (by omega))
    have HE1 := Lib.hid (HE0.out.trans (hM.below (N := w.heap.size) (fun j hj => by omega) HE0.out.size))
    clear HC0 HD0 HE0 hM
    go_wp2
    have hD' := HD1.out.set 0 (.int .i64 k) (by simp)
    have hC' := HC1.out.other ⟨w.heap.size + 1, 0, none⟩ (.int .i64 k) (by simp)
    have c0 := HD1.out.cell 0 _ rfl
    have f0 := HD1.out.fro 0 _ rfl
    have d0 := hD'.cell 0 (.int .i64 k) rfl
    have r0 := hC'.cell 0 _ rfl
    have r1 := hC'.cell 1 _ rfl
    have r2 := hC'.cell 2 _ rfl
    have r3 := hC'.cell 3 _ rfl
    refine leaves_cons (f := 19) (args := #[.pointer (some ⟨w.heap.size + 1, 0, none⟩)]) (by simp) (by simp [go_sem]) ?_
    refine (pcatch_thrown ⟨w.heap.size + 1, 0, none⟩ 0 k [] _ c0 f0).mono ?_
    rintro e u' w'' ⟨rfl, rfl, rfl⟩
    simp [Leaves, settle, results, Tryz.results9, go_sem, d0, r0, r1, r2, r3]
    exact ⟨rfl, HE1.out.setCell (p := ⟨w.heap.size + 1, 0, none⟩) (by simp) _⟩
  | ok L =>
    obtain ⟨v, rfl, hO, hM⟩ := hE
    obtain ⟨p, cap, rfl⟩ := hO.len
    have HC1 := Lib.hid (cells_mov HC0.out hM (by omega))
    have HD1 := Lib.hid (cells_mov HD0.out hM (by omega))
    have HE1 := Lib.hid (HE0.out.trans (hM.below (N := w.heap.size) (fun j hj => by omega) HE0.out.size))
    have HO1 := Lib.hid hO
    obtain ⟨n, ls, a, b⟩ := L
    clear HC0 HD0 HE0 hM hO
    have r0 := HC1.out.cell 0 _ rfl
    have r1 := HC1.out.cell 1 _ rfl
    have r2 := HC1.out.cell 2 _ rfl
    have r3 := HC1.out.cell 3 _ rfl
    have z0 := HC1.out.fro 0 _ rfl
    have z1 := HC1.out.fro 1 _ rfl
    have z2 := HC1.out.fro 2 _ rfl
    have z3 := HC1.out.fro 3 _ rfl
    have c0 := HD1.out.cell 0 _ rfl
    have f0 := HD1.out.fro 0 _ rfl
    have HR : Hid (OwnL w.heap.size (.slice p ls.length cap) ls (((((w1.setCell ⟨w.heap.size, 0, none⟩ (.string (tx n))).setCell ⟨w.heap.size, 1, none⟩ (.slice p ls.length cap)).setCell ⟨w.heap.size, 2, none⟩ (.int .i64 a)).setCell ⟨w.heap.size, 3, none⟩ (.int .i64 b)).setCell ⟨w.heap.size + 1, 0, none⟩ (.int .i64 0))) := by
      have h1 : w.heap.size + 2 ≤ (((w.alloc (Obj.cells (lineC ⟨#[]⟩ (.slice none 0 0) 0 0) 24)).alloc (Obj.cells #[Value.int IntKind.i64 0] 37)).alloc (Obj.cells #[Value.string (tx l), Value.int IntKind.u8 0] 56)).heap.size := by simp
      refine Lib.hid (((HO1.out.sub h1).mov (S := fun j => j < w.heap.size + 2) (Mov.set (S := fun j => j < w.heap.size + 2) (Mov.set (S := fun j => j < w.heap.size + 2) (Mov.set (S := fun j => j < w.heap.size + 2) (Mov.set (S := fun j => j < w.heap.size + 2) (Mov.set (S := fun j => j < w.heap.size + 2) (Mov.refl _ _) (by omega) 0 _) (by omega) 1 _) (by omega) 2 _) (by omega) 3 _) (by omega) 0 _) (fun g hg e => ?_)).sub (by omega))
      have := (HO1.out.lt hg).1
      omega
    have HB : Hid (Below w.heap.size w (((((w1.setCell ⟨w.heap.size, 0, none⟩ (.string (tx n))).setCell ⟨w.heap.size, 1, none⟩ (.slice p ls.length cap)).setCell ⟨w.heap.size, 2, none⟩ (.int .i64 a)).setCell ⟨w.heap.size, 3, none⟩ (.int .i64 b)).setCell ⟨w.heap.size + 1, 0, none⟩ (.int .i64 0))) :=
      Lib.hid (((((HE1.out.setCell (p := ⟨w.heap.size, 0, none⟩) (Nat.le_refl _) _).setCell (p := ⟨w.heap.size, 1, none⟩) (Nat.le_refl _) _).setCell (p := ⟨w.heap.size, 2, none⟩) (Nat.le_refl _) _).setCell (p := ⟨w.heap.size, 3, none⟩) (Nat.le_refl _) _).setCell (p := ⟨w.heap.size + 1, 0, none⟩) (by simp) _)
    simp only
    go_wp2
    refine leaves_cons (f := 19) (args := #[.pointer (some ⟨w.heap.size + 1, 0, none⟩)]) (by simp) (by simp [go_sem]) ?_
    refine (pcatch_none ⟨w.heap.size + 1, 0, none⟩ _).mono ?_
    rintro e u' w'' ⟨rfl, rfl, rfl⟩
    simp [Leaves, settle, results, Tryz.results9, go_sem, r0, r1, r2, r3, c0]
    exact ⟨_, rfl, HR.out, HB.out⟩
/-- A text parsed. -/
theorem parse_any (s : ByteArray) (hs : s.size ≤ maxLen) (w : World) :
    Calls Tryz.prog 9 #[.string s] w (ParseEnd (parseP s.data.toList) w) := by
  unfold parseP maxLen at *
  by_cases h : 1024 < s.data.toList.length
  · rw [if_pos h]
    exact parse_long s (by rw [← size_list]; exact h) (by omega) w
  · rw [if_neg h]
    have := parse_short s.data.toList (by omega) w
    rwa [tx_list] at this
end Go.Proofs.YtdmkiiggpelmaaaGreatDoor.Lx
