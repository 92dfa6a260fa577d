/- Gates: two held against one another; what each call answers. What a gate's calls answer; the chapter's own. -/
import Derived.Test.YtcgkgdhbipbnfaaGreatDoorCells
import Derived.WalkLawsBesides
import Derived.Deep.LoopGhost
import Derived.LoopTactic
import Derived.IntWalk
import Derived.Deep.Quiet
import Derived.Deep.QuietTactic
import Derived.BigQuiet
import Derived.Laws.StructEq
import Derived.ChangeKeysEq
import Derived.Laws.ResultCell
import Derived.Deep.RegionLaw
namespace Go.Proofs.YtcgkgdhbipbnfaaGreatDoor.Ga
open Go Go.RowKit

theorem gate_guard (x y : Operand) (xs ys : Array Value) (w : World) : (eqGuard .eql 85 x y (.agg xs) (.agg ys)).run Tryz.prog w = .ok () w := run_eqGuard_agg w _ _ _ _ _ _ (by kernel_rfl)
theorem gate_struct : Tryz.prog.underlying 85 = some (.struct (Tryz.prog.fieldsOf 85)) := by
  have h := Tryz.underlying85
  rw [h]
  unfold Program.fieldsOf
  rw [h]
set_option maxRecDepth 100000 in
theorem gate_fields : (Tryz.prog.fieldsOf 85).toList.map (fun f => (f.name, f.type, f.offset)) = [("Closed", 4, 0), ("Low", 31, 1), ("High", 31, 2)] := by kernel_rfl
theorem gate_held : Tryz.prog.stoodInHeld 85 = false := by kernel_rfl
theorem three_fields {l : List Field} {a b c : String × TypeId × Nat} (h : l.map (fun f => (f.name, f.type, f.offset)) = [a, b, c]) : ∃ f g k : Field, l = [f, g, k] ∧ (f.name, f.type, f.offset) = a ∧ (g.name, g.type, g.offset) = b ∧ (k.name, k.type, k.offset) = c := by
  rcases l with _ | ⟨f, _ | ⟨g, _ | ⟨k, _ | ⟨h', t⟩⟩⟩⟩ <;> simp at h
  exact ⟨f, g, k, rfl, h.1, h.2.1, h.2.2⟩
set_option maxHeartbeats 4000000 in
theorem gate_eql (a a' : Bool) (b b' c c' : Int) (w : World) : (binOp .eql 85 (.agg #[.bool a, .int .u64 b, .int .u64 c]) (.agg #[.bool a', .int .u64 b', .int .u64 c'])).run Tryz.prog w = .ok (.bool ((a == a') && ((b == b') && (c == c')))) w := by
  rw [run_eql_struct, run_equalIn_struct w 9999 _ _ _ gate_struct gate_held]
  obtain ⟨f, g, k, hl, hf, hg, hk⟩ := three_fields gate_fields
  rw [hl]
  simp only [Prod.mk.injEq] at hf hg hk
  obtain ⟨f1, f2, f3⟩ := hf
  obtain ⟨g1, g2, g3⟩ := hg
  obtain ⟨k1, k2, k3⟩ := hk
  have s0 := run_equalIn_bool' (P := Tryz.prog) w 9998 4 a a' Tryz.underlying4
  have s1 := run_equalIn_int (P := Tryz.prog) w 9998 31 .u64 .u64 b b' Tryz.underlying31
  have s2 := run_equalIn_int (P := Tryz.prog) w 9998 31 .u64 .u64 c c' Tryz.underlying31
  have hb : Tryz.prog.plainKey 4 = true := by kernel_rfl
  have hu : Tryz.prog.plainKey 31 = true := by kernel_rfl
  have p0 := run_part_plain (P := Tryz.prog) w hb (xs := #[.bool a, .int .u64 b, .int .u64 c]) (off := 0) rfl
  have q0 := run_part_plain (P := Tryz.prog) w hb (xs := #[.bool a', .int .u64 b', .int .u64 c']) (off := 0) rfl
  have p1 := run_part_plain (P := Tryz.prog) w hu (xs := #[.bool a, .int .u64 b, .int .u64 c]) (off := 1) rfl
  have q1 := run_part_plain (P := Tryz.prog) w hu (xs := #[.bool a', .int .u64 b', .int .u64 c']) (off := 1) rfl
  have p2 := run_part_plain (P := Tryz.prog) w hu (xs := #[.bool a, .int .u64 b, .int .u64 c]) (off := 2) rfl
  have q2 := run_part_plain (P := Tryz.prog) w hu (xs := #[.bool a', .int .u64 b', .int .u64 c']) (off := 2) rfl
  cases h0 : a == a'
  · simp [Op.eqFields, f1, f2, f3, g1, g2, g3, k1, k2, k3, p0, q0, s0, h0]
  · cases h1 : b == b'
    · simp [Op.eqFields, f1, f2, f3, g1, g2, g3, k1, k2, k3, p0, q0, p1, q1, s0, s1, h0, h1]
    · cases h2 : c == c' <;> simp [Op.eqFields, f1, f2, f3, g1, g2, g3, k1, k2, k3, p0, q0, p1, q1, p2, q2, s0, s1, s2, h0, h1, h2]
theorem result_cell {P : Program} {fn : Func} {p : Tmp} {ty : TypeId} {a : Addr} {v : Value} {tmps : Array Value} {w : World} (h : fn.results = #[.cell p ty]) (hp : tmps.getD p undef = .pointer (some a)) (hl : (loadVar ty a).run P w = .ok v w) :
    (results fn tmps).run P w = .ok v w := by
  have hp' : tmps[p]?.getD undef = .pointer (some a) := by simpa using hp
  simp [results, h, hp', asAddr, hl]
theorem load_gate {P : Nat} {c : Bool} {l h : Int} {w : World} (hP : CellsAt P #[.bool c, .int .u64 l, .int .u64 h] w) : (loadVar 85 ⟨P, 0, none⟩).run Tryz.prog w = .ok (.agg #[.bool c, .int .u64 l, .int .u64 h]) w := by
  have c0 := hP.cell 0 _ rfl
  have c1 := hP.cell 1 _ rfl
  have c2 := hP.cell 2 _ rfl
  clear hP
  simp [loadVar, go_sem, c0, c1, c2]
theorem load_rgate {P : Nat} {c : Bool} {l h : Int} {w : World} (hP : CellsAt P #[.bool c, .int .u64 l, .int .u64 h] w) : (loadVar 47 ⟨P, 0, none⟩).run Tryz.prog w = .ok (.agg #[.bool c, .int .u64 l, .int .u64 h]) w := by
  have c0 := hP.cell 0 _ rfl
  have c1 := hP.cell 1 _ rfl
  have c2 := hP.cell 2 _ rfl
  clear hP
  simp [loadVar, go_sem, c0, c1, c2]
/-- A world in which nothing has turned that lay there in w. -/
structure Beh (w : World) where
  u : World
  h : Below w.heap.size w u
instance (w : World) : Inhabited (Beh w) := ⟨⟨w, Below.refl _ _⟩⟩
theorem wp_region_beh {P : Program} {id : Nat} {Q : Exit → Act → World → Prop} {a : Act} {w : World} {l : List Oper} (hm : P.follows .mixedOrders = true) (hB : Region.lexB .any l.toArray = true)
    (h : wpQuiet P l.toArray (fun w' => ∃ p : Beh w, w' = p.u) (fun a' => ∀ w', (∃ p : Beh w, w' = p.u) → Q .normal a' w') l a) : (Code.region id l.toArray true).wp P Q a w :=
  wp_region_quiet (C := fun w' => ∃ p : Beh w, w' = p.u) hm hB ⟨⟨{ w with drawn := w.drawn + 1 }, ⟨rfl, rfl, rfl, Nat.le_refl _, fun _ _ => rfl⟩⟩, rfl⟩ (by simpa using h)
theorem calls_beh {P : Program} {f : FuncId} {args : Array Value} {w : World} {v : Value} (p : Beh w) (h : Calls P f args p.u fun e w' => e = .returned v ∧ Below p.u.heap.size p.u w') : Calls P f args p.u fun e w'' => e = .returned v ∧ ∃ q : Beh w, w'' = q.u :=
  h.mono fun _ w' ⟨he, hB⟩ => ⟨he, ⟨w', p.h.trans (hB.mono p.h.size)⟩, rfl⟩
theorem Beh.cell {w : World} {b i : Nat} {v : Value} (hb : b < w.heap.size) (h : w.cell? ⟨b, i, none⟩ = some v) (p : Beh w) : p.u.cell? ⟨b, i, none⟩ = some v := (p.h.cell (p := ⟨b, i, none⟩) hb).trans h
attribute [local go_sem] gate_guard gate_eql

set_option maxHeartbeats 4000000 in
theorem gnew (l h : Int) (w : World) : Calls Tryz.prog 71 #[.int .u64 l, .int .u64 h] w fun e w' => e = .returned (.agg #[.bool false, .int .u64 (min l h), .int .u64 h]) ∧ Below w.heap.size w w' := by
  rcases (show h < l ∨ l ≤ h by omega) with hm | hm
  · rw [Int.min_eq_right (by omega)]
    go_enter Tryz.func71, Tryz.ntmps71
    go_wp2
    refine bodyPost_ret (result_cell rfl rfl (load_gate (CellsAt.new _ _ _))) rfl ?_
    exact ⟨rfl, (Below.refl _ _).alloc (Nat.le_refl _) _⟩
  · rw [Int.min_eq_left hm]
    go_enter Tryz.func71, Tryz.ntmps71
    go_wp2
    refine bodyPost_ret (result_cell rfl rfl (load_gate (CellsAt.new _ _ _))) rfl ?_
    exact ⟨rfl, (Below.refl _ _).alloc (Nat.le_refl _) _⟩
set_option maxHeartbeats 4000000 in
theorem gshut (c : Bool) (l h : Int) (w : World) : Calls Tryz.prog 75 #[.agg #[.bool c, .int .u64 l, .int .u64 h]] w fun e w' => e = .returned (.agg #[.bool true, .int .u64 l, .int .u64 h]) ∧ Below w.heap.size w w' := by
  go_enter Tryz.func75, Tryz.ntmps75
  go_wp2
  refine bodyPost_ret (result_cell rfl rfl (load_gate (CellsAt.newAt _ _ _ _ (by simp)))) rfl ?_
  exact ⟨rfl, ((Below.refl _ _).alloc (Nat.le_refl _) _).alloc (by simp) _⟩
set_option maxHeartbeats 4000000 in
theorem gopened (c : Bool) (l h : Int) (w : World) : Calls Tryz.prog 76 #[.agg #[.bool c, .int .u64 l, .int .u64 h]] w fun e w' => e = .returned (.agg #[.bool false, .int .u64 l, .int .u64 h]) ∧ Below w.heap.size w w' := by
  go_enter Tryz.func76, Tryz.ntmps76
  go_wp2
  refine bodyPost_ret (result_cell rfl rfl (load_gate (CellsAt.newAt _ _ _ _ (by simp)))) rfl ?_
  exact ⟨rfl, ((Below.refl _ _).alloc (Nat.le_refl _) _).alloc (by simp) _⟩
set_option maxHeartbeats 4000000 in
theorem gis_true (l h : Int) (w : World) : Calls Tryz.prog 74 #[.agg #[.bool true, .int .u64 l, .int .u64 h]] w fun e w' => e = .returned (.bool true) ∧ Below w.heap.size w w' := by
  have hs := fun W => gshut true l h W
  have hB : Below w.heap.size w (w.alloc (.cells #[.bool true, .int .u64 l, .int .u64 h] 85)) := (Below.refl _ _).alloc (Nat.le_refl _) _
  have hC := CellsAt.new #[.bool true, .int .u64 l, .int .u64 h] 85 w
  have hL := hC.lt
  have q0 := fun p => Beh.cell hL (hC.cell 0 _ rfl) p
  have q1 := fun p => Beh.cell hL (hC.cell 1 _ rfl) p
  have q2 := fun p => Beh.cell hL (hC.cell 2 _ rfl) p
  simp only [List.getElem_toArray, List.getElem_cons_zero, List.getElem_cons_succ] at q0 q1 q2
  have Q0 := Lib.hid q0
  have Q1 := Lib.hid q1
  have Q2 := Lib.hid q2
  have HB := Lib.hid hB
  clear hC hB q0 q1 q2
  go_enter Tryz.func74, Tryz.ntmps74
  go_wp2
  have q0 := Q0.out
  have q1 := Q1.out
  have q2 := Q2.out
  refine wp_region_beh (by kernel_rfl) (by kernel_rfl) ?_
  iterate 5 (quiet_step (exact calls_beh _ (hs _)))
  refine wpQuiet_nil ?_
  intro _ hw'
  obtain ⟨⟨W, hBW⟩, hw''⟩ := hw'
  subst hw''
  have HB2 := Lib.hid (HB.out.trans (hBW.mono HB.out.size))
  clear hBW q0 q1 q2 hs
  go_wp2
  go_ret
  exact ⟨rfl, HB2.out⟩
set_option maxHeartbeats 4000000 in
theorem gis_false (l h : Int) (w : World) : Calls Tryz.prog 74 #[.agg #[.bool false, .int .u64 l, .int .u64 h]] w fun e w' => e = .returned (.bool false) ∧ Below w.heap.size w w' := by
  have hs := fun W => gshut false l h W
  have hB : Below w.heap.size w (w.alloc (.cells #[.bool false, .int .u64 l, .int .u64 h] 85)) := (Below.refl _ _).alloc (Nat.le_refl _) _
  have hC := CellsAt.new #[.bool false, .int .u64 l, .int .u64 h] 85 w
  have hL := hC.lt
  have q0 := fun p => Beh.cell hL (hC.cell 0 _ rfl) p
  have q1 := fun p => Beh.cell hL (hC.cell 1 _ rfl) p
  have q2 := fun p => Beh.cell hL (hC.cell 2 _ rfl) p
  simp only [List.getElem_toArray, List.getElem_cons_zero, List.getElem_cons_succ] at q0 q1 q2
  have Q0 := Lib.hid q0
  have Q1 := Lib.hid q1
  have Q2 := Lib.hid q2
  have HB := Lib.hid hB
  clear hC hB q0 q1 q2
  go_enter Tryz.func74, Tryz.ntmps74
  go_wp2
  have q0 := Q0.out
  have q1 := Q1.out
  have q2 := Q2.out
  refine wp_region_beh (by kernel_rfl) (by kernel_rfl) ?_
  iterate 5 (quiet_step (exact calls_beh _ (hs _)))
  refine wpQuiet_nil ?_
  intro _ hw'
  obtain ⟨⟨W, hBW⟩, hw''⟩ := hw'
  subst hw''
  have HB2 := Lib.hid (HB.out.trans (hBW.mono HB.out.size))
  clear hBW q0 q1 q2 hs
  go_wp2
  go_ret
  exact ⟨rfl, HB2.out⟩
theorem gis (c : Bool) (l h : Int) (w : World) : Calls Tryz.prog 74 #[.agg #[.bool c, .int .u64 l, .int .u64 h]] w fun e w' => e = .returned (.bool c) ∧ Below w.heap.size w w' := by
  cases c
  · exact gis_false l h w
  · exact gis_true l h w
end Go.Proofs.YtcgkgdhbipbnfaaGreatDoor.Ga

namespace Go.Proofs.YtcgkgdhbipbnfaaGreatDoor.Ga
open Go Go.RowKit

theorem put_gate {P : Nat} {x y z c l h : Value} {w : World} (hP : CellsAt P #[x, y, z] w) : CellsAt P #[c, l, h] (((w.setCell ⟨P, 0, none⟩ c).setCell ⟨P, 1, none⟩ l).setCell ⟨P, 2, none⟩ h) :=
  ((hP.set 0 c (by simp)).set 1 l (by simp)).set 2 h (by simp)
theorem below_gate {N P : Nat} {c l h : Value} {w0 w : World} (hB : Below N w0 w) (hN : N ≤ P) : Below N w0 (((w.setCell ⟨P, 0, none⟩ c).setCell ⟨P, 1, none⟩ l).setCell ⟨P, 2, none⟩ h) :=
  ((hB.setCell (p := ⟨P, 0, none⟩) hN c).setCell (p := ⟨P, 1, none⟩) hN l).setCell (p := ⟨P, 2, none⟩) hN h
set_option maxHeartbeats 4000000 in
theorem gsee (c : Bool) (l h m : Int) (w : World) : Calls Tryz.prog 62 #[.agg #[.bool c, .int .u64 l, .int .u64 h], .int .u64 m] w fun e w' => e = .returned (.agg #[.bool (c || decide (h ≤ m)), .int .u64 l, .int .u64 h]) ∧ Below w.heap.size w w' := by
  have hsh := fun W => gshut c l h W
  rcases (show h ≤ m ∨ m < h by omega) with hm | hm
  · rw [decide_eq_true hm, Bool.or_true]
    obtain ⟨N, hN⟩ : ∃ N, w.heap.size = N := ⟨_, rfl⟩
    have HC0 : Hid (CellsAt N #[.bool c, .int .u64 l, .int .u64 h] ((w.alloc (.cells #[.bool c, .int .u64 l, .int .u64 h] 85)).alloc (.cells #[.bool false, .int .u64 0, .int .u64 0] 85))) := Lib.hid ((CellsAt.newAt #[.bool c, .int .u64 l, .int .u64 h] 85 w N hN.symm).past _)
    have HC1 : Hid (CellsAt (N + 1) #[.bool false, .int .u64 0, .int .u64 0] ((w.alloc (.cells #[.bool c, .int .u64 l, .int .u64 h] 85)).alloc (.cells #[.bool false, .int .u64 0, .int .u64 0] 85))) := Lib.hid (CellsAt.newAt #[.bool false, .int .u64 0, .int .u64 0] 85 _ _ (by simp [hN]))
    have HB : Hid (Below N w ((w.alloc (.cells #[.bool c, .int .u64 l, .int .u64 h] 85)).alloc (.cells #[.bool false, .int .u64 0, .int .u64 0] 85))) := Lib.hid (((Below.refl _ _).alloc (by omega) _).alloc (by simp; omega) _)
    have hsz : N + 2 ≤ ((w.alloc (.cells #[.bool c, .int .u64 l, .int .u64 h] 85)).alloc (.cells #[.bool false, .int .u64 0, .int .u64 0] 85)).heap.size := by simp [hN]
    have HS := Lib.hid hsz
    clear hsz
    go_enter Tryz.func62, Tryz.ntmps62
    go_wp2_with fail
    refine (hsh _).mono ?_
    rintro e v1 ⟨rfl, hBx⟩
    have hsz := HS.out
    replace HS : Hid (N + 2 ≤ _) := Lib.hid (Nat.le_trans hsz hBx.size)
    replace HC0 := Lib.hid (HC0.out.below hBx)
    replace HC1 := Lib.hid (HC1.out.below hBx)
    replace HB := Lib.hid (HB.out.trans (hBx.mono (by omega)))
    clear hBx hsz
    clear hsh
    have k10 := HC1.out.cell 0 _ rfl
    have f10 := HC1.out.fro 0 _ rfl
    have k11 := HC1.out.cell 1 _ rfl
    have f11 := HC1.out.fro 1 _ rfl
    have k12 := HC1.out.cell 2 _ rfl
    have f12 := HC1.out.fro 2 _ rfl
    have l1 := HC1.out.lt
    simp only [List.getElem_toArray, List.getElem_cons_zero, List.getElem_cons_succ] at k10 k11 k12
    go_wp2
    refine bodyPost_ret (result_cell rfl rfl (load_gate (put_gate HC1.out))) rfl ?_
    exact ⟨rfl, by rw [hN]; exact below_gate HB.out (by omega)⟩
  · rw [decide_eq_false (by omega), Bool.or_false]
    clear hsh
    go_enter Tryz.func62, Tryz.ntmps62
    go_wp2
    refine bodyPost_ret (result_cell rfl rfl (load_gate (CellsAt.newAt _ _ _ _ (by simp)))) rfl ?_
    exact ⟨rfl, ((Below.refl _ _).alloc (Nat.le_refl _) _).alloc (by simp) _⟩
set_option maxHeartbeats 4000000 in
theorem gturn (c : Bool) (l h m : Int) (w : World) : Calls Tryz.prog 39 #[.agg #[.bool c, .int .u64 l, .int .u64 h], .int .u64 m] w fun e w' => e = .returned (.agg #[.bool (c && decide (l < m)), .int .u64 l, .int .u64 h]) ∧ Below w.heap.size w w' := by
  have hsh := fun W => gshut c l h W
  have hop := fun W => gopened c l h W
  have his := fun W => gis c l h W
  rcases (show l < m ∨ m ≤ l by omega) with hm | hm
  · rw [decide_eq_true hm, Bool.and_true]
    cases c
    · obtain ⟨N, hN⟩ : ∃ N, w.heap.size = N := ⟨_, rfl⟩
      have HC0 : Hid (CellsAt N #[.bool false, .int .u64 l, .int .u64 h] ((w.alloc (.cells #[.bool false, .int .u64 l, .int .u64 h] 85)).alloc (.cells #[.bool false, .int .u64 0, .int .u64 0] 85))) := Lib.hid ((CellsAt.newAt #[.bool false, .int .u64 l, .int .u64 h] 85 w N hN.symm).past _)
      have HC1 : Hid (CellsAt (N + 1) #[.bool false, .int .u64 0, .int .u64 0] ((w.alloc (.cells #[.bool false, .int .u64 l, .int .u64 h] 85)).alloc (.cells #[.bool false, .int .u64 0, .int .u64 0] 85))) := Lib.hid (CellsAt.newAt #[.bool false, .int .u64 0, .int .u64 0] 85 _ _ (by simp [hN]))
      have HB : Hid (Below N w ((w.alloc (.cells #[.bool false, .int .u64 l, .int .u64 h] 85)).alloc (.cells #[.bool false, .int .u64 0, .int .u64 0] 85))) := Lib.hid (((Below.refl _ _).alloc (by omega) _).alloc (by simp; omega) _)
      have hsz : N + 2 ≤ ((w.alloc (.cells #[.bool false, .int .u64 l, .int .u64 h] 85)).alloc (.cells #[.bool false, .int .u64 0, .int .u64 0] 85)).heap.size := by simp [hN]
      have HS := Lib.hid hsz
      clear hsz
      go_enter Tryz.func39, Tryz.ntmps39
      go_wp2_with fail
      refine (his _).mono ?_
      rintro e v1 ⟨rfl, hBx⟩
      have hsz := HS.out
      replace HS : Hid (N + 2 ≤ _) := Lib.hid (Nat.le_trans hsz hBx.size)
      replace HC0 := Lib.hid (HC0.out.below hBx)
      replace HC1 := Lib.hid (HC1.out.below hBx)
      replace HB := Lib.hid (HB.out.trans (hBx.mono (by omega)))
      clear hBx hsz
      clear his
      have k00 := HC0.out.cell 0 _ rfl
      have f00 := HC0.out.fro 0 _ rfl
      have k01 := HC0.out.cell 1 _ rfl
      have f01 := HC0.out.fro 1 _ rfl
      have k02 := HC0.out.cell 2 _ rfl
      have f02 := HC0.out.fro 2 _ rfl
      have l0 := HC0.out.lt
      simp only [List.getElem_toArray, List.getElem_cons_zero, List.getElem_cons_succ] at k00 k01 k02
      go_wp2_with fail
      refine (hop _).mono ?_
      rintro e v2 ⟨rfl, hBx⟩
      have hsz := HS.out
      replace HS : Hid (N + 2 ≤ _) := Lib.hid (Nat.le_trans hsz hBx.size)
      replace HC0 := Lib.hid (HC0.out.below hBx)
      replace HC1 := Lib.hid (HC1.out.below hBx)
      replace HB := Lib.hid (HB.out.trans (hBx.mono (by omega)))
      clear hBx hsz
      clear hop hsh
      clear k00 f00 k01 f01 k02 f02 l0
      have k10 := HC1.out.cell 0 _ rfl
      have f10 := HC1.out.fro 0 _ rfl
      have k11 := HC1.out.cell 1 _ rfl
      have f11 := HC1.out.fro 1 _ rfl
      have k12 := HC1.out.cell 2 _ rfl
      have f12 := HC1.out.fro 2 _ rfl
      have l1 := HC1.out.lt
      simp only [List.getElem_toArray, List.getElem_cons_zero, List.getElem_cons_succ] at k10 k11 k12
      go_wp2
      refine bodyPost_ret (result_cell rfl rfl (load_gate (put_gate HC1.out))) rfl ?_
      exact ⟨rfl, by rw [hN]; exact below_gate HB.out (by omega)⟩
    · obtain ⟨N, hN⟩ : ∃ N, w.heap.size = N := ⟨_, rfl⟩
      have HC0 : Hid (CellsAt N #[.bool true, .int .u64 l, .int .u64 h] ((w.alloc (.cells #[.bool true, .int .u64 l, .int .u64 h] 85)).alloc (.cells #[.bool false, .int .u64 0, .int .u64 0] 85))) := Lib.hid ((CellsAt.newAt #[.bool true, .int .u64 l, .int .u64 h] 85 w N hN.symm).past _)
      have HC1 : Hid (CellsAt (N + 1) #[.bool false, .int .u64 0, .int .u64 0] ((w.alloc (.cells #[.bool true, .int .u64 l, .int .u64 h] 85)).alloc (.cells #[.bool false, .int .u64 0, .int .u64 0] 85))) := Lib.hid (CellsAt.newAt #[.bool false, .int .u64 0, .int .u64 0] 85 _ _ (by simp [hN]))
      have HB : Hid (Below N w ((w.alloc (.cells #[.bool true, .int .u64 l, .int .u64 h] 85)).alloc (.cells #[.bool false, .int .u64 0, .int .u64 0] 85))) := Lib.hid (((Below.refl _ _).alloc (by omega) _).alloc (by simp; omega) _)
      have hsz : N + 2 ≤ ((w.alloc (.cells #[.bool true, .int .u64 l, .int .u64 h] 85)).alloc (.cells #[.bool false, .int .u64 0, .int .u64 0] 85)).heap.size := by simp [hN]
      have HS := Lib.hid hsz
      clear hsz
      go_enter Tryz.func39, Tryz.ntmps39
      go_wp2_with fail
      refine (his _).mono ?_
      rintro e v1 ⟨rfl, hBx⟩
      have hsz := HS.out
      replace HS : Hid (N + 2 ≤ _) := Lib.hid (Nat.le_trans hsz hBx.size)
      replace HC0 := Lib.hid (HC0.out.below hBx)
      replace HC1 := Lib.hid (HC1.out.below hBx)
      replace HB := Lib.hid (HB.out.trans (hBx.mono (by omega)))
      clear hBx hsz
      clear his
      have k00 := HC0.out.cell 0 _ rfl
      have f00 := HC0.out.fro 0 _ rfl
      have k01 := HC0.out.cell 1 _ rfl
      have f01 := HC0.out.fro 1 _ rfl
      have k02 := HC0.out.cell 2 _ rfl
      have f02 := HC0.out.fro 2 _ rfl
      have l0 := HC0.out.lt
      simp only [List.getElem_toArray, List.getElem_cons_zero, List.getElem_cons_succ] at k00 k01 k02
      go_wp2_with fail
      refine (hsh _).mono ?_
      rintro e v2 ⟨rfl, hBx⟩
      have hsz := HS.out
      replace HS : Hid (N + 2 ≤ _) := Lib.hid (Nat.le_trans hsz hBx.size)
      replace HC0 := Lib.hid (HC0.out.below hBx)
      replace HC1 := Lib.hid (HC1.out.below hBx)
      replace HB := Lib.hid (HB.out.trans (hBx.mono (by omega)))
      clear hBx hsz
      clear hop hsh
      clear k00 f00 k01 f01 k02 f02 l0
      have k10 := HC1.out.cell 0 _ rfl
      have f10 := HC1.out.fro 0 _ rfl
      have k11 := HC1.out.cell 1 _ rfl
      have f11 := HC1.out.fro 1 _ rfl
      have k12 := HC1.out.cell 2 _ rfl
      have f12 := HC1.out.fro 2 _ rfl
      have l1 := HC1.out.lt
      simp only [List.getElem_toArray, List.getElem_cons_zero, List.getElem_cons_succ] at k10 k11 k12
      go_wp2
      refine bodyPost_ret (result_cell rfl rfl (load_gate (put_gate HC1.out))) rfl ?_
      exact ⟨rfl, by rw [hN]; exact below_gate HB.out (by omega)⟩
  · rw [decide_eq_false (by omega), Bool.and_false]
    clear hsh his
    obtain ⟨N, hN⟩ : ∃ N, w.heap.size = N := ⟨_, rfl⟩
    have HC0 : Hid (CellsAt N #[.bool c, .int .u64 l, .int .u64 h] ((w.alloc (.cells #[.bool c, .int .u64 l, .int .u64 h] 85)).alloc (.cells #[.bool false, .int .u64 0, .int .u64 0] 85))) := Lib.hid ((CellsAt.newAt #[.bool c, .int .u64 l, .int .u64 h] 85 w N hN.symm).past _)
    have HC1 : Hid (CellsAt (N + 1) #[.bool false, .int .u64 0, .int .u64 0] ((w.alloc (.cells #[.bool c, .int .u64 l, .int .u64 h] 85)).alloc (.cells #[.bool false, .int .u64 0, .int .u64 0] 85))) := Lib.hid (CellsAt.newAt #[.bool false, .int .u64 0, .int .u64 0] 85 _ _ (by simp [hN]))
    have HB : Hid (Below N w ((w.alloc (.cells #[.bool c, .int .u64 l, .int .u64 h] 85)).alloc (.cells #[.bool false, .int .u64 0, .int .u64 0] 85))) := Lib.hid (((Below.refl _ _).alloc (by omega) _).alloc (by simp; omega) _)
    have hsz : N + 2 ≤ ((w.alloc (.cells #[.bool c, .int .u64 l, .int .u64 h] 85)).alloc (.cells #[.bool false, .int .u64 0, .int .u64 0] 85)).heap.size := by simp [hN]
    have HS := Lib.hid hsz
    clear hsz
    go_enter Tryz.func39, Tryz.ntmps39
    go_wp2_with fail
    refine (hop _).mono ?_
    rintro e v1 ⟨rfl, hBx⟩
    have hsz := HS.out
    replace HS : Hid (N + 2 ≤ _) := Lib.hid (Nat.le_trans hsz hBx.size)
    replace HC0 := Lib.hid (HC0.out.below hBx)
    replace HC1 := Lib.hid (HC1.out.below hBx)
    replace HB := Lib.hid (HB.out.trans (hBx.mono (by omega)))
    clear hBx hsz
    clear hop
    have k10 := HC1.out.cell 0 _ rfl
    have f10 := HC1.out.fro 0 _ rfl
    have k11 := HC1.out.cell 1 _ rfl
    have f11 := HC1.out.fro 1 _ rfl
    have k12 := HC1.out.cell 2 _ rfl
    have f12 := HC1.out.fro 2 _ rfl
    have l1 := HC1.out.lt
    simp only [List.getElem_toArray, List.getElem_cons_zero, List.getElem_cons_succ] at k10 k11 k12
    go_wp2
    refine bodyPost_ret (result_cell rfl rfl (load_gate (put_gate HC1.out))) rfl ?_
    exact ⟨rfl, by rw [hN]; exact below_gate HB.out (by omega)⟩
set_option maxHeartbeats 4000000 in
theorem gset (c : Bool) (l h a b : Int) (w : World) : Calls Tryz.prog 41 #[.agg #[.bool c, .int .u64 l, .int .u64 h], .int .u64 a, .int .u64 b] w fun e w' => e = .returned (.agg #[.bool c, .int .u64 (min a b), .int .u64 b]) ∧ Below w.heap.size w w' := by
  have hnw := fun W => gnew a b W
  obtain ⟨M, hM⟩ : ∃ M, min a b = M := ⟨_, rfl⟩
  rw [hM] at hnw ⊢
  have hsh := fun W => gshut false M b W
  have his := fun W => gis c l h W
  clear hM
  cases c
  · obtain ⟨N, hN⟩ : ∃ N, w.heap.size = N := ⟨_, rfl⟩
    have HC0 : Hid (CellsAt N #[.bool false, .int .u64 l, .int .u64 h] ((w.alloc (.cells #[.bool false, .int .u64 l, .int .u64 h] 85)).alloc (.cells #[.bool false, .int .u64 0, .int .u64 0] 85))) := Lib.hid ((CellsAt.newAt #[.bool false, .int .u64 l, .int .u64 h] 85 w N hN.symm).past _)
    have HC1 : Hid (CellsAt (N + 1) #[.bool false, .int .u64 0, .int .u64 0] ((w.alloc (.cells #[.bool false, .int .u64 l, .int .u64 h] 85)).alloc (.cells #[.bool false, .int .u64 0, .int .u64 0] 85))) := Lib.hid (CellsAt.newAt #[.bool false, .int .u64 0, .int .u64 0] 85 _ _ (by simp [hN]))
    have HB : Hid (Below N w ((w.alloc (.cells #[.bool false, .int .u64 l, .int .u64 h] 85)).alloc (.cells #[.bool false, .int .u64 0, .int .u64 0] 85))) := Lib.hid (((Below.refl _ _).alloc (by omega) _).alloc (by simp; omega) _)
    have hsz : N + 2 ≤ ((w.alloc (.cells #[.bool false, .int .u64 l, .int .u64 h] 85)).alloc (.cells #[.bool false, .int .u64 0, .int .u64 0] 85)).heap.size := by simp [hN]
    have HS := Lib.hid hsz
    clear hsz
    go_enter Tryz.func41, Tryz.ntmps41
    go_wp2_with fail
    refine (hnw _).mono ?_
    rintro e v1 ⟨rfl, hBx⟩
    have hsz := HS.out
    replace HS : Hid (N + 2 ≤ _) := Lib.hid (Nat.le_trans hsz hBx.size)
    replace HC0 := Lib.hid (HC0.out.below hBx)
    replace HC1 := Lib.hid (HC1.out.below hBx)
    replace HB := Lib.hid (HB.out.trans (hBx.mono (by omega)))
    clear hBx hsz
    clear hnw
    have k00 := HC0.out.cell 0 _ rfl
    have f00 := HC0.out.fro 0 _ rfl
    have k01 := HC0.out.cell 1 _ rfl
    have f01 := HC0.out.fro 1 _ rfl
    have k02 := HC0.out.cell 2 _ rfl
    have f02 := HC0.out.fro 2 _ rfl
    have l0 := HC0.out.lt
    simp only [List.getElem_toArray, List.getElem_cons_zero, List.getElem_cons_succ] at k00 k01 k02
    have hs1 := HS.out
    obtain ⟨Q, hQ⟩ : ∃ Q, v1.heap.size = Q := ⟨_, rfl⟩
    rw [hQ] at l0
    have HC2 : Hid (CellsAt Q #[.bool false, .int .u64 M, .int .u64 b] (v1.alloc (.cells #[.bool false, .int .u64 M, .int .u64 b] 85))) := Lib.hid (CellsAt.newAt #[.bool false, .int .u64 M, .int .u64 b] 85 v1 Q hQ.symm)
    have hBn : Below v1.heap.size v1 (v1.alloc (.cells #[.bool false, .int .u64 M, .int .u64 b] 85)) := (Below.refl _ _).alloc (Nat.le_refl _) _
    replace HC0 := Lib.hid (HC0.out.below hBn)
    replace HC1 := Lib.hid (HC1.out.below hBn)
    replace HB := Lib.hid (HB.out.trans (hBn.mono (by omega)))
    replace HS : Hid (N + 2 ≤ _) := Lib.hid (Nat.le_trans hs1 hBn.size)
    clear hBn hs1
    go_wp2_with fail
    refine (his _).mono ?_
    rintro e v2 ⟨rfl, hBx⟩
    have hsz := HS.out
    replace HS : Hid (N + 2 ≤ _) := Lib.hid (Nat.le_trans hsz hBx.size)
    replace HC0 := Lib.hid (HC0.out.below hBx)
    replace HC1 := Lib.hid (HC1.out.below hBx)
    replace HC2 := Lib.hid (HC2.out.below hBx)
    replace HB := Lib.hid (HB.out.trans (hBx.mono (by omega)))
    clear hBx hsz
    clear his
    clear k00 f00 k01 f01 k02 f02 l0
    have k20 := HC2.out.cell 0 _ rfl
    have f20 := HC2.out.fro 0 _ rfl
    have k21 := HC2.out.cell 1 _ rfl
    have f21 := HC2.out.fro 1 _ rfl
    have k22 := HC2.out.cell 2 _ rfl
    have f22 := HC2.out.fro 2 _ rfl
    have l2 := HC2.out.lt
    simp only [List.getElem_toArray, List.getElem_cons_zero, List.getElem_cons_succ] at k20 k21 k22
    have k10 := HC1.out.cell 0 _ rfl
    have f10 := HC1.out.fro 0 _ rfl
    have k11 := HC1.out.cell 1 _ rfl
    have f11 := HC1.out.fro 1 _ rfl
    have k12 := HC1.out.cell 2 _ rfl
    have f12 := HC1.out.fro 2 _ rfl
    have l1 := HC1.out.lt
    simp only [List.getElem_toArray, List.getElem_cons_zero, List.getElem_cons_succ] at k10 k11 k12
    go_wp2
    refine bodyPost_ret (result_cell rfl rfl (load_gate (put_gate HC1.out))) rfl ?_
    exact ⟨rfl, by rw [hN]; exact below_gate HB.out (by omega)⟩
  · obtain ⟨N, hN⟩ : ∃ N, w.heap.size = N := ⟨_, rfl⟩
    have HC0 : Hid (CellsAt N #[.bool true, .int .u64 l, .int .u64 h] ((w.alloc (.cells #[.bool true, .int .u64 l, .int .u64 h] 85)).alloc (.cells #[.bool false, .int .u64 0, .int .u64 0] 85))) := Lib.hid ((CellsAt.newAt #[.bool true, .int .u64 l, .int .u64 h] 85 w N hN.symm).past _)
    have HC1 : Hid (CellsAt (N + 1) #[.bool false, .int .u64 0, .int .u64 0] ((w.alloc (.cells #[.bool true, .int .u64 l, .int .u64 h] 85)).alloc (.cells #[.bool false, .int .u64 0, .int .u64 0] 85))) := Lib.hid (CellsAt.newAt #[.bool false, .int .u64 0, .int .u64 0] 85 _ _ (by simp [hN]))
    have HB : Hid (Below N w ((w.alloc (.cells #[.bool true, .int .u64 l, .int .u64 h] 85)).alloc (.cells #[.bool false, .int .u64 0, .int .u64 0] 85))) := Lib.hid (((Below.refl _ _).alloc (by omega) _).alloc (by simp; omega) _)
    have hsz : N + 2 ≤ ((w.alloc (.cells #[.bool true, .int .u64 l, .int .u64 h] 85)).alloc (.cells #[.bool false, .int .u64 0, .int .u64 0] 85)).heap.size := by simp [hN]
    have HS := Lib.hid hsz
    clear hsz
    go_enter Tryz.func41, Tryz.ntmps41
    go_wp2_with fail
    refine (hnw _).mono ?_
    rintro e v1 ⟨rfl, hBx⟩
    have hsz := HS.out
    replace HS : Hid (N + 2 ≤ _) := Lib.hid (Nat.le_trans hsz hBx.size)
    replace HC0 := Lib.hid (HC0.out.below hBx)
    replace HC1 := Lib.hid (HC1.out.below hBx)
    replace HB := Lib.hid (HB.out.trans (hBx.mono (by omega)))
    clear hBx hsz
    clear hnw
    have k00 := HC0.out.cell 0 _ rfl
    have f00 := HC0.out.fro 0 _ rfl
    have k01 := HC0.out.cell 1 _ rfl
    have f01 := HC0.out.fro 1 _ rfl
    have k02 := HC0.out.cell 2 _ rfl
    have f02 := HC0.out.fro 2 _ rfl
    have l0 := HC0.out.lt
    simp only [List.getElem_toArray, List.getElem_cons_zero, List.getElem_cons_succ] at k00 k01 k02
    have hs1 := HS.out
    obtain ⟨Q, hQ⟩ : ∃ Q, v1.heap.size = Q := ⟨_, rfl⟩
    rw [hQ] at l0
    have HC2 : Hid (CellsAt Q #[.bool false, .int .u64 M, .int .u64 b] (v1.alloc (.cells #[.bool false, .int .u64 M, .int .u64 b] 85))) := Lib.hid (CellsAt.newAt #[.bool false, .int .u64 M, .int .u64 b] 85 v1 Q hQ.symm)
    have hBn : Below v1.heap.size v1 (v1.alloc (.cells #[.bool false, .int .u64 M, .int .u64 b] 85)) := (Below.refl _ _).alloc (Nat.le_refl _) _
    replace HC0 := Lib.hid (HC0.out.below hBn)
    replace HC1 := Lib.hid (HC1.out.below hBn)
    replace HB := Lib.hid (HB.out.trans (hBn.mono (by omega)))
    replace HS : Hid (N + 2 ≤ _) := Lib.hid (Nat.le_trans hs1 hBn.size)
    clear hBn hs1
    go_wp2_with fail
    refine (his _).mono ?_
    rintro e v2 ⟨rfl, hBx⟩
    have hsz := HS.out
    replace HS : Hid (N + 2 ≤ _) := Lib.hid (Nat.le_trans hsz hBx.size)
    replace HC0 := Lib.hid (HC0.out.below hBx)
    replace HC1 := Lib.hid (HC1.out.below hBx)
    replace HC2 := Lib.hid (HC2.out.below hBx)
    replace HB := Lib.hid (HB.out.trans (hBx.mono (by omega)))
    clear hBx hsz
    clear his
    clear k00 f00 k01 f01 k02 f02 l0
    have k20 := HC2.out.cell 0 _ rfl
    have f20 := HC2.out.fro 0 _ rfl
    have k21 := HC2.out.cell 1 _ rfl
    have f21 := HC2.out.fro 1 _ rfl
    have k22 := HC2.out.cell 2 _ rfl
    have f22 := HC2.out.fro 2 _ rfl
    have l2 := HC2.out.lt
    simp only [List.getElem_toArray, List.getElem_cons_zero, List.getElem_cons_succ] at k20 k21 k22
    go_wp2_with fail
    refine (hsh _).mono ?_
    rintro e v3 ⟨rfl, hBx⟩
    have hsz := HS.out
    replace HS : Hid (N + 2 ≤ _) := Lib.hid (Nat.le_trans hsz hBx.size)
    replace HC1 := Lib.hid (HC1.out.below hBx)
    replace HB := Lib.hid (HB.out.trans (hBx.mono (by omega)))
    clear hBx hsz
    clear hsh HC2
    clear k20 f20 k21 f21 k22 f22 l2
    have k10 := HC1.out.cell 0 _ rfl
    have f10 := HC1.out.fro 0 _ rfl
    have k11 := HC1.out.cell 1 _ rfl
    have f11 := HC1.out.fro 1 _ rfl
    have k12 := HC1.out.cell 2 _ rfl
    have f12 := HC1.out.fro 2 _ rfl
    have l1 := HC1.out.lt
    simp only [List.getElem_toArray, List.getElem_cons_zero, List.getElem_cons_succ] at k10 k11 k12
    go_wp2
    refine bodyPost_ret (result_cell rfl rfl (load_gate (put_gate HC1.out))) rfl ?_
    exact ⟨rfl, by rw [hN]; exact below_gate HB.out (by omega)⟩
end Go.Proofs.YtcgkgdhbipbnfaaGreatDoor.Ga

