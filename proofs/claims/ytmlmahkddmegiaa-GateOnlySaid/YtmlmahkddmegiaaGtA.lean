/- Gates: two held against one another; what each call answers. -/
import Derived.Test.YtmlmahkddmegiaaCells
import Derived.WalkLawsBesides
import Derived.Deep.LoopGhost
import Derived.LoopTactic
import Derived.IntWalk
import Derived.Deep.Quiet
import Derived.Deep.QuietTactic
import Derived.BigQuiet
import Derived.Laws.StructEq
import Derived.ChangeKeysEq
import Derived.Laws.ResultCell
import Derived.Deep.RegionLaw
namespace Go.Proofs.Ytmlmahkddmegiaa
open Go Go.RowKit

theorem gate_guard (x y : Operand) (xs ys : Array Value) (w : World) : (eqGuard .eql 24 x y (.agg xs) (.agg ys)).run Try.prog w = .ok () w := run_eqGuard_agg w _ _ _ _ _ _ (by kernel_rfl)
theorem gate_struct : Try.prog.underlying 24 = some (.struct (Try.prog.fieldsOf 24)) := by
  have h := Try.underlying24
  rw [h]
  unfold Program.fieldsOf
  rw [h]
set_option maxRecDepth 100000 in
theorem gate_fields : (Try.prog.fieldsOf 24).toList.map (fun f => (f.name, f.type, f.offset)) = [("Closed", 4, 0), ("Low", 22, 1), ("High", 22, 2)] := by kernel_rfl
theorem gate_held : Try.prog.stoodInHeld 24 = false := by kernel_rfl
theorem three_fields {l : List Field} {a b c : String × TypeId × Nat} (h : l.map (fun f => (f.name, f.type, f.offset)) = [a, b, c]) : ∃ f g k : Field, l = [f, g, k] ∧ (f.name, f.type, f.offset) = a ∧ (g.name, g.type, g.offset) = b ∧ (k.name, k.type, k.offset) = c := by
  rcases l with _ | ⟨f, _ | ⟨g, _ | ⟨k, _ | ⟨h', t⟩⟩⟩⟩ <;> simp at h
  exact ⟨f, g, k, rfl, h.1, h.2.1, h.2.2⟩
set_option maxHeartbeats 4000000 in
theorem gate_eql (a a' : Bool) (b b' c c' : Int) (w : World) : (binOp .eql 24 (.agg #[.bool a, .int .u64 b, .int .u64 c]) (.agg #[.bool a', .int .u64 b', .int .u64 c'])).run Try.prog w = .ok (.bool ((a == a') && ((b == b') && (c == c')))) w := by
  rw [run_eql_struct, run_equalIn_struct w 9999 _ _ _ gate_struct gate_held]
  obtain ⟨f, g, k, hl, hf, hg, hk⟩ := three_fields gate_fields
  rw [hl]
  simp only [Prod.mk.injEq] at hf hg hk
  obtain ⟨f1, f2, f3⟩ := hf
  obtain ⟨g1, g2, g3⟩ := hg
  obtain ⟨k1, k2, k3⟩ := hk
  have s0 := run_equalIn_bool' (P := Try.prog) w 9998 4 a a' Try.underlying4
  have s1 := run_equalIn_int (P := Try.prog) w 9998 22 .u64 .u64 b b' Try.underlying22
  have s2 := run_equalIn_int (P := Try.prog) w 9998 22 .u64 .u64 c c' Try.underlying22
  have hb : Try.prog.plainKey 4 = true := by kernel_rfl
  have hu : Try.prog.plainKey 22 = true := by kernel_rfl
  have p0 := run_part_plain (P := Try.prog) w hb (xs := #[.bool a, .int .u64 b, .int .u64 c]) (off := 0) rfl
  have q0 := run_part_plain (P := Try.prog) w hb (xs := #[.bool a', .int .u64 b', .int .u64 c']) (off := 0) rfl
  have p1 := run_part_plain (P := Try.prog) w hu (xs := #[.bool a, .int .u64 b, .int .u64 c]) (off := 1) rfl
  have q1 := run_part_plain (P := Try.prog) w hu (xs := #[.bool a', .int .u64 b', .int .u64 c']) (off := 1) rfl
  have p2 := run_part_plain (P := Try.prog) w hu (xs := #[.bool a, .int .u64 b, .int .u64 c]) (off := 2) rfl
  have q2 := run_part_plain (P := Try.prog) w hu (xs := #[.bool a', .int .u64 b', .int .u64 c']) (off := 2) rfl
  cases h0 : a == a'
  · simp [Op.eqFields, f1, f2, f3, g1, g2, g3, k1, k2, k3, p0, q0, s0, h0]
  · cases h1 : b == b'
    · simp [Op.eqFields, f1, f2, f3, g1, g2, g3, k1, k2, k3, p0, q0, p1, q1, s0, s1, h0, h1]
    · cases h2 : c == c' <;> simp [Op.eqFields, f1, f2, f3, g1, g2, g3, k1, k2, k3, p0, q0, p1, q1, p2, q2, s0, s1, s2, h0, h1, h2]
theorem result_cell {P : Program} {fn : Func} {p : Tmp} {ty : TypeId} {a : Addr} {v : Value} {tmps : Array Value} {w : World} (h : fn.results = #[.cell p ty]) (hp : tmps.getD p undef = .pointer (some a)) (hl : (loadVar ty a).run P w = .ok v w) :
    (results fn tmps).run P w = .ok v w := by
  have hp' : tmps[p]?.getD undef = .pointer (some a) := by simpa using hp
  simp [results, h, hp', asAddr, hl]
theorem load_gate {P : Nat} {c : Bool} {l h : Int} {w : World} (hP : CellsAt P #[.bool c, .int .u64 l, .int .u64 h] w) : (loadVar 24 ⟨P, 0, none⟩).run Try.prog w = .ok (.agg #[.bool c, .int .u64 l, .int .u64 h]) w := by
  have c0 := hP.cell 0 _ rfl
  have c1 := hP.cell 1 _ rfl
  have c2 := hP.cell 2 _ rfl
  clear hP
  simp [loadVar, go_sem, c0, c1, c2]
theorem load_rgate {P : Nat} {c : Bool} {l h : Int} {w : World} (hP : CellsAt P #[.bool c, .int .u64 l, .int .u64 h] w) : (loadVar 27 ⟨P, 0, none⟩).run Try.prog w = .ok (.agg #[.bool c, .int .u64 l, .int .u64 h]) w := by
  have c0 := hP.cell 0 _ rfl
  have c1 := hP.cell 1 _ rfl
  have c2 := hP.cell 2 _ rfl
  clear hP
  simp [loadVar, go_sem, c0, c1, c2]
/-- A world in which nothing has turned that lay there in w. -/
structure Beh (w : World) where
  u : World
  h : Below w.heap.size w u
instance (w : World) : Inhabited (Beh w) := ⟨⟨w, Below.refl _ _⟩⟩
theorem wp_region_beh {P : Program} {id : Nat} {Q : Exit → Act → World → Prop} {a : Act} {w : World} {l : List Oper} (hm : P.follows .mixedOrders = true) (hB : Region.lexB .any l.toArray = true)
    (h : wpQuiet P l.toArray (fun w' => ∃ p : Beh w, w' = p.u) (fun a' => ∀ w', (∃ p : Beh w, w' = p.u) → Q .normal a' w') l a) : (Code.region id l.toArray true).wp P Q a w :=
  wp_region_quiet (C := fun w' => ∃ p : Beh w, w' = p.u) hm hB ⟨⟨{ w with drawn := w.drawn + 1 }, ⟨rfl, rfl, rfl, Nat.le_refl _, fun _ _ => rfl⟩⟩, rfl⟩ (by simpa using h)
theorem calls_beh {P : Program} {f : FuncId} {args : Array Value} {w : World} {v : Value} (p : Beh w) (h : Calls P f args p.u fun e w' => e = .returned v ∧ Below p.u.heap.size p.u w') : Calls P f args p.u fun e w'' => e = .returned v ∧ ∃ q : Beh w, w'' = q.u :=
  h.mono fun _ w' ⟨he, hB⟩ => ⟨he, ⟨w', p.h.trans (hB.mono p.h.size)⟩, rfl⟩
theorem Beh.cell {w : World} {b i : Nat} {v : Value} (hb : b < w.heap.size) (h : w.cell? ⟨b, i, none⟩ = some v) (p : Beh w) : p.u.cell? ⟨b, i, none⟩ = some v := (p.h.cell (p := ⟨b, i, none⟩) hb).trans h
attribute [local go_sem] gate_guard gate_eql

set_option maxHeartbeats 4000000 in
theorem gnew (l h : Int) (w : World) : Calls Try.prog 8 #[.int .u64 l, .int .u64 h] w fun e w' => e = .returned (.agg #[.bool false, .int .u64 (min l h), .int .u64 h]) ∧ Below w.heap.size w w' := by
  rcases (show h < l ∨ l ≤ h by omega) with hm | hm
  · rw [Int.min_eq_right (by omega)]
    go_enter Try.func8, Try.ntmps8
    go_wp2
    refine bodyPost_ret (result_cell rfl rfl (load_gate (CellsAt.new _ _ _))) rfl ?_
    exact ⟨rfl, (Below.refl _ _).alloc (Nat.le_refl _) _⟩
  · rw [Int.min_eq_left hm]
    go_enter Try.func8, Try.ntmps8
    go_wp2
    refine bodyPost_ret (result_cell rfl rfl (load_gate (CellsAt.new _ _ _))) rfl ?_
    exact ⟨rfl, (Below.refl _ _).alloc (Nat.le_refl _) _⟩
set_option maxHeartbeats 4000000 in
theorem gshut (c : Bool) (l h : Int) (w : World) : Calls Try.prog 17 #[.agg #[.bool c, .int .u64 l, .int .u64 h]] w fun e w' => e = .returned (.agg #[.bool true, .int .u64 l, .int .u64 h]) ∧ Below w.heap.size w w' := by
  go_enter Try.func17, Try.ntmps17
  go_wp2
  refine bodyPost_ret (result_cell rfl rfl (load_gate (CellsAt.newAt _ _ _ _ (by simp)))) rfl ?_
  exact ⟨rfl, ((Below.refl _ _).alloc (Nat.le_refl _) _).alloc (by simp) _⟩
set_option maxHeartbeats 4000000 in
theorem gopened (c : Bool) (l h : Int) (w : World) : Calls Try.prog 19 #[.agg #[.bool c, .int .u64 l, .int .u64 h]] w fun e w' => e = .returned (.agg #[.bool false, .int .u64 l, .int .u64 h]) ∧ Below w.heap.size w w' := by
  go_enter Try.func19, Try.ntmps19
  go_wp2
  refine bodyPost_ret (result_cell rfl rfl (load_gate (CellsAt.newAt _ _ _ _ (by simp)))) rfl ?_
  exact ⟨rfl, ((Below.refl _ _).alloc (Nat.le_refl _) _).alloc (by simp) _⟩
set_option maxHeartbeats 4000000 in
theorem gis_true (l h : Int) (w : World) : Calls Try.prog 18 #[.agg #[.bool true, .int .u64 l, .int .u64 h]] w fun e w' => e = .returned (.bool true) ∧ Below w.heap.size w w' := by
  have hs := fun W => gshut true l h W
  have hB : Below w.heap.size w (w.alloc (.cells #[.bool true, .int .u64 l, .int .u64 h] 24)) := (Below.refl _ _).alloc (Nat.le_refl _) _
  have hC := CellsAt.new #[.bool true, .int .u64 l, .int .u64 h] 24 w
  have hL := hC.lt
  have q0 := fun p => Beh.cell hL (hC.cell 0 _ rfl) p
  have q1 := fun p => Beh.cell hL (hC.cell 1 _ rfl) p
  have q2 := fun p => Beh.cell hL (hC.cell 2 _ rfl) p
  simp only [List.getElem_toArray, List.getElem_cons_zero, List.getElem_cons_succ] at q0 q1 q2
  have Q0 := Lib.hid q0
  have Q1 := Lib.hid q1
  have Q2 := Lib.hid q2
  have HB := Lib.hid hB
  clear hC hB q0 q1 q2
  go_enter Try.func18, Try.ntmps18
  go_wp2
  have q0 := Q0.out
  have q1 := Q1.out
  have q2 := Q2.out
  refine wp_region_beh (by kernel_rfl) (by kernel_rfl) ?_
  iterate 5 (quiet_step (exact calls_beh _ (hs _)))
  refine wpQuiet_nil ?_
  intro _ hw'
  obtain ⟨⟨W, hBW⟩, hw''⟩ := hw'
  subst hw''
  have HB2 := Lib.hid (HB.out.trans (hBW.mono HB.out.size))
  clear hBW q0 q1 q2 hs
  go_wp2
  go_ret
  exact ⟨rfl, HB2.out⟩
set_option maxHeartbeats 4000000 in
theorem gis_false (l h : Int) (w : World) : Calls Try.prog 18 #[.agg #[.bool false, .int .u64 l, .int .u64 h]] w fun e w' => e = .returned (.bool false) ∧ Below w.heap.size w w' := by
  have hs := fun W => gshut false l h W
  have hB : Below w.heap.size w (w.alloc (.cells #[.bool false, .int .u64 l, .int .u64 h] 24)) := (Below.refl _ _).alloc (Nat.le_refl _) _
  have hC := CellsAt.new #[.bool false, .int .u64 l, .int .u64 h] 24 w
  have hL := hC.lt
  have q0 := fun p => Beh.cell hL (hC.cell 0 _ rfl) p
  have q1 := fun p => Beh.cell hL (hC.cell 1 _ rfl) p
  have q2 := fun p => Beh.cell hL (hC.cell 2 _ rfl) p
  simp only [List.getElem_toArray, List.getElem_cons_zero, List.getElem_cons_succ] at q0 q1 q2
  have Q0 := Lib.hid q0
  have Q1 := Lib.hid q1
  have Q2 := Lib.hid q2
  have HB := Lib.hid hB
  clear hC hB q0 q1 q2
  go_enter Try.func18, Try.ntmps18
  go_wp2
  have q0 := Q0.out
  have q1 := Q1.out
  have q2 := Q2.out
  refine wp_region_beh (by kernel_rfl) (by kernel_rfl) ?_
  iterate 5 (quiet_step (exact calls_beh _ (hs _)))
  refine wpQuiet_nil ?_
  intro _ hw'
  obtain ⟨⟨W, hBW⟩, hw''⟩ := hw'
  subst hw''
  have HB2 := Lib.hid (HB.out.trans (hBW.mono HB.out.size))
  clear hBW q0 q1 q2 hs
  go_wp2
  go_ret
  exact ⟨rfl, HB2.out⟩
theorem gis (c : Bool) (l h : Int) (w : World) : Calls Try.prog 18 #[.agg #[.bool c, .int .u64 l, .int .u64 h]] w fun e w' => e = .returned (.bool c) ∧ Below w.heap.size w w' := by
  cases c
  · exact gis_false l h w
  · exact gis_true l h w
end Go.Proofs.Ytmlmahkddmegiaa
