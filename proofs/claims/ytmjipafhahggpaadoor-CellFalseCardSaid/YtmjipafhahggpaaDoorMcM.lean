/- Whether an item may stand behind a histogram's items. What Get does, item by item, and how many there are counted behind it. -/
import Derived.Test.YtmjipafhahggpaaDoorMcG
import Derived.BigQuiet
import Derived.BigRegion
import Derived.RegionTactic
namespace Go.Proofs.YtmjipafhahggpaaDoor.Hi
open Go Go.RowKit

/-- Block B holds bits k and those items in row v, whatever they are. -/
structure Hc (base T B k : Nat) (v : Value) (l : List Hit) (w : World) : Prop where
  lt : B < w.heap.size
  lo : base ≤ B
  c0 : w.cell? ⟨B, 0, none⟩ = some (.int .i64 k)
  c1 : w.cell? ⟨B, 1, none⟩ = some v
  f1 : w.frozen? ⟨B, 1, none⟩ = false
  row : Its base T v l w
  ne : v.ownBlock ≠ some B
theorem Hs.c {base T B k : Nat} {v : Value} {l : List Hit} {w : World} (h : Hs base T B k v l w) : Hc base T B k v l w := ⟨h.lt, h.lo, h.c0, h.c1, h.f1, h.row, h.ne⟩
theorem Hc.s {base T B k : Nat} {v : Value} {l : List Hit} {w : World} (h : Hc base T B k v l w) (hI : Inv k l) : Hs base T B k v l w := ⟨h.lt, h.lo, hI, h.c0, h.c1, h.f1, h.row, h.ne⟩
theorem Hc.mov {base T B k : Nat} {v : Value} {l : List Hit} {w w' : World} {S : Nat → Prop} (h : Hc base T B k v l w) (hM : Mov S w w') (hB : ¬ S B) (hn : ∀ g, v.ownBlock = some g → ¬ S g) : Hc base T B k v l w' :=
  ⟨Nat.lt_of_lt_of_le h.lt hM.size, h.lo, (hM.cell h.lt hB).trans h.c0, (hM.cell h.lt hB).trans h.c1, (hM.frozen h.lt hB).trans h.f1, h.row.mov hM hn, h.ne⟩
theorem Hc.below {base T B k : Nat} {v : Value} {l : List Hit} {w w' : World} (h : Hc base T B k v l w) (hB : Below w.heap.size w w') : Hc base T B k v l w' :=
  h.mov (Mov.of hB) (by have := h.lt; omega) fun g hg => by have := (h.row.lt hg).2; omega
theorem Hc.stored {base T B k : Nat} {v v' : Value} {l l' : List Hit} {w w1 : World} (h : Hc base T B k v l w) (hM : Mov (fun k => v.ownBlock = some k) w w1) (hr : Its base T v' l' w1)
    (hat : ∀ g, v'.ownBlock = some g → v.ownBlock = some g ∨ w.heap.size ≤ g) : Hc base T B k v' l' (w1.setCell ⟨B, 1, none⟩ v') ∧ Mov (OwnT B v) w (w1.setCell ⟨B, 1, none⟩ v') := by
  have hne : v'.ownBlock ≠ some B := fun e => by
    rcases hat B e with e | e
    · exact h.ne e
    · have := h.lt; omega
  have hS : Mov (fun k => k = B) w1 (w1.setCell ⟨B, 1, none⟩ v') := (Mov.refl (fun k => k = B) w1).set rfl 1 v'
  refine ⟨⟨by have := Nat.lt_of_lt_of_le h.lt hM.size; simpa using this, h.lo, ?_, ?_, ?_, hr.mov hS (fun g hg e => hne (e ▸ hg)), hne⟩, Mov.trans (S := OwnT B v) (T := OwnT B v) ⟨hM.os, hM.tape, hM.output, hM.size, fun k hk hn => hM.block k hk (fun e => hn (.inr e))⟩ ⟨hS.os, hS.tape, hS.output, hS.size, fun k hk hn => hS.block k hk (fun e => hn (.inl e))⟩ fun _ _ hk => hk⟩
  · rw [World.cell?_setCell_other (h := by simp)]; exact (hM.cell h.lt h.ne).trans h.c0
  · exact World.cell?_setCell_same w1 ⟨B, 1, none⟩ _ ((hM.cell h.lt h.ne).trans h.c1)
  · rw [World.frozen?_setCell]; exact (hM.frozen h.lt h.ne).trans h.f1
set_option maxRecDepth 100000 in
set_option maxHeartbeats 4000000 in
theorem may_nil_no {base B k : Nat} {v : Value} {w : World} (h : Hc base 66 B k v [] w) (hk : k ≤ 4) (a : Int) (m : Nat) (hf : ¬ Fits k a) :
    Calls Tryd.prog 64 #[.pointer (some ⟨B, 0, none⟩), .agg #[.int .i64 a, .int .u64 m]] w fun e w' => e = .returned (.bool false) ∧ Below w.heap.size w w' := by
  have hbd := fun w => bounds_no k hk a hf w
  obtain ⟨p, cap, rfl, hcap, hmax⟩ := h.row.cap
  simp only [List.length_nil] at *
  have c0 := h.c0
  have c1 := h.c1
  have hBl := h.lt
  clear h
  clear hf hk
  go_enter Tryd.func64, Tryd.ntmps64
  go_wp2
  go_quiet (fail)
  go_wp2
  have hBa := below_drewN' ((Below.refl w.heap.size w).alloc (Nat.le_refl _) (.cells #[.int .i64 a, .int .u64 m] 66)) nq
  have k0 : (((w.alloc (.cells #[.int .i64 a, .int .u64 m] 66)).drewN nq)).cell? ⟨B, 0, none⟩ = some (.int .i64 k) := (hBa.cell (p := ⟨B, 0, none⟩) hBl).trans c0
  have hX : CellsAt w.heap.size #[.int .i64 a, .int .u64 m] ((w.alloc (.cells #[.int .i64 a, .int .u64 m] 66)).drewN nq) := ⟨(CellsAt.new _ _ _).lt, (CellsAt.new _ _ _).cell, (CellsAt.new _ _ _).fro⟩
  have x0 := hX.cell 0 _ rfl
  have hs := hBa.size
  have HX := Lib.hid hX
  have HB := Lib.hid hBa
  clear hX hBa c0 c1
  obtain ⟨X, hXe⟩ : ∃ X, w.heap.size = X := ⟨_, rfl⟩
  generalize (w.alloc (.cells #[.int .i64 a, .int .u64 m] 66)).drewN nq = W at *
  have hbd2 := hbd W.drew
  clear hbd
  rw [hXe] at x0 HX
  go_region_with (refine hbd2.mono ?_; rintro e W5 ⟨rfl, hB5⟩; have y1 := (HX.out.drew.below hB5).cell 1 _ rfl)
  all_goals
    have hE := HB.out.trans ((((Below.refl W.heap.size W).drew).trans hB5).mono hs)
    go_wp2
    go_ret
    exact ⟨rfl, hE⟩
set_option maxRecDepth 100000 in
set_option maxHeartbeats 4000000 in
theorem may_nil_zero {base B k : Nat} {v : Value} {w : World} (h : Hc base 66 B k v [] w) (hk : k ≤ 4) (a : Int) (m : Nat) (hf : Fits k a) (hm : m = 0) :
    Calls Tryd.prog 64 #[.pointer (some ⟨B, 0, none⟩), .agg #[.int .i64 a, .int .u64 m]] w fun e w' => e = .returned (.bool false) ∧ Below w.heap.size w w' := by
  have hbd := fun w => bounds_any k hk a hf w
  obtain ⟨p, cap, rfl, hcap, hmax⟩ := h.row.cap
  simp only [List.length_nil] at *
  have c0 := h.c0
  have c1 := h.c1
  have hBl := h.lt
  clear h
  have t3 : decide ((0 : Int) < (m : Int)) = false := decide_eq_false (by omega)
  have t4 : decide (0 < m) = false := decide_eq_false (by omega)
  clear hf hk hm
  go_enter Tryd.func64, Tryd.ntmps64
  go_wp2
  go_quiet (fail)
  go_wp2
  have hBa := below_drewN' ((Below.refl w.heap.size w).alloc (Nat.le_refl _) (.cells #[.int .i64 a, .int .u64 m] 66)) nq
  have k0 : (((w.alloc (.cells #[.int .i64 a, .int .u64 m] 66)).drewN nq)).cell? ⟨B, 0, none⟩ = some (.int .i64 k) := (hBa.cell (p := ⟨B, 0, none⟩) hBl).trans c0
  have hX : CellsAt w.heap.size #[.int .i64 a, .int .u64 m] ((w.alloc (.cells #[.int .i64 a, .int .u64 m] 66)).drewN nq) := ⟨(CellsAt.new _ _ _).lt, (CellsAt.new _ _ _).cell, (CellsAt.new _ _ _).fro⟩
  have x0 := hX.cell 0 _ rfl
  have hs := hBa.size
  have HX := Lib.hid hX
  have HB := Lib.hid hBa
  clear hX hBa c0 c1
  obtain ⟨X, hXe⟩ : ∃ X, w.heap.size = X := ⟨_, rfl⟩
  generalize (w.alloc (.cells #[.int .i64 a, .int .u64 m] 66)).drewN nq = W at *
  have hbd2 := hbd W.drew
  clear hbd
  rw [hXe] at x0 HX
  go_region_with (refine hbd2.mono ?_; rintro e W5 ⟨rfl, hB5⟩; have y1 := (HX.out.drew.below hB5).cell 1 _ rfl)
  all_goals
    have hE := HB.out.trans ((((Below.refl W.heap.size W).drew).trans hB5).mono hs)
    go_wp2
    go_ret
    exact ⟨rfl, hE⟩
set_option maxRecDepth 100000 in
set_option maxHeartbeats 4000000 in
theorem may_nil_ok {base B k : Nat} {v : Value} {w : World} (h : Hc base 66 B k v [] w) (hk : k ≤ 4) (a : Int) (m : Nat) (hf : Fits k a) (hm : 0 < m) :
    Calls Tryd.prog 64 #[.pointer (some ⟨B, 0, none⟩), .agg #[.int .i64 a, .int .u64 m]] w fun e w' => e = .returned (.bool true) ∧ Below w.heap.size w w' := by
  have hbd := fun w => bounds_any k hk a hf w
  obtain ⟨p, cap, rfl, hcap, hmax⟩ := h.row.cap
  simp only [List.length_nil] at *
  have c0 := h.c0
  have c1 := h.c1
  have hBl := h.lt
  clear h
  have t3 : (0 : Int) < (m : Int) := by omega
  clear hf hk
  go_enter Tryd.func64, Tryd.ntmps64
  go_wp2
  go_quiet (fail)
  go_wp2
  have hBa := below_drewN' ((Below.refl w.heap.size w).alloc (Nat.le_refl _) (.cells #[.int .i64 a, .int .u64 m] 66)) nq
  have k0 : (((w.alloc (.cells #[.int .i64 a, .int .u64 m] 66)).drewN nq)).cell? ⟨B, 0, none⟩ = some (.int .i64 k) := (hBa.cell (p := ⟨B, 0, none⟩) hBl).trans c0
  have hX : CellsAt w.heap.size #[.int .i64 a, .int .u64 m] ((w.alloc (.cells #[.int .i64 a, .int .u64 m] 66)).drewN nq) := ⟨(CellsAt.new _ _ _).lt, (CellsAt.new _ _ _).cell, (CellsAt.new _ _ _).fro⟩
  have x0 := hX.cell 0 _ rfl
  have hs := hBa.size
  have HX := Lib.hid hX
  have HB := Lib.hid hBa
  clear hX hBa c0 c1
  obtain ⟨X, hXe⟩ : ∃ X, w.heap.size = X := ⟨_, rfl⟩
  generalize (w.alloc (.cells #[.int .i64 a, .int .u64 m] 66)).drewN nq = W at *
  have hbd2 := hbd W.drew
  clear hbd
  rw [hXe] at x0 HX
  go_region_with (refine hbd2.mono ?_; rintro e W5 ⟨rfl, hB5⟩; have y1 := (HX.out.drew.below hB5).cell 1 _ rfl)
  all_goals
    have hE := HB.out.trans ((((Below.refl W.heap.size W).drew).trans hB5).mono hs)
    go_wp2
    go_ret
    exact ⟨rfl, hE⟩
set_option maxRecDepth 100000 in
set_option maxHeartbeats 4000000 in
theorem may_pos_no {base B k : Nat} {v : Value} {l : List Hit} {w : World} (h : Hc base 66 B k v l w) (hk : k ≤ 4) (a : Int) (m : Nat) (hl : 0 < l.length) (hlen : l.length ≤ 65535) (hla : l[l.length - 1]!.at_ < a) (hf : ¬ Fits k a) :
    Calls Tryd.prog 64 #[.pointer (some ⟨B, 0, none⟩), .agg #[.int .i64 a, .int .u64 m]] w fun e w' => e = .returned (.bool false) ∧ Below w.heap.size w w' := by
  have hbd := fun w => bounds_no k hk a hf w
  obtain ⟨g, cap, rfl, hb, hg, hcap, hmax, hcell, hfro⟩ := h.row.form_pos hl
  obtain ⟨d0, _⟩ := hcell (l.length - 1) (by omega)
  have c0 := h.c0
  have c1 := h.c1
  have hBl := h.lt
  clear h hcell hfro hb hcap hmax
  generalize l[l.length - 1]!.at_ = x at *
  obtain ⟨n, hn⟩ : ∃ n, l.length = n + 1 := ⟨l.length - 1, by omega⟩
  rw [hn, Nat.add_sub_cancel] at d0
  rw [hn] at c1 hlen
  clear hn hl
  have t1 : ((n + 1 : Nat) : Int) - 1 = (n : Int) := by omega
  have t2 : decide (a ≤ x) = false := decide_eq_false (by omega)
  clear hf hk
  go_enter Tryd.func64, Tryd.ntmps64
  go_wp2
  go_quiet (fail)
  go_wp2
  have hBa := below_drewN' ((Below.refl w.heap.size w).alloc (Nat.le_refl _) (.cells #[.int .i64 a, .int .u64 m] 66)) nq
  have k0 : (((w.alloc (.cells #[.int .i64 a, .int .u64 m] 66)).drewN nq)).cell? ⟨B, 0, none⟩ = some (.int .i64 k) := (hBa.cell (p := ⟨B, 0, none⟩) hBl).trans c0
  have hX : CellsAt w.heap.size #[.int .i64 a, .int .u64 m] ((w.alloc (.cells #[.int .i64 a, .int .u64 m] 66)).drewN nq) := ⟨(CellsAt.new _ _ _).lt, (CellsAt.new _ _ _).cell, (CellsAt.new _ _ _).fro⟩
  have x0 := hX.cell 0 _ rfl
  have hs := hBa.size
  have HX := Lib.hid hX
  have HB := Lib.hid hBa
  clear hX hBa c0 c1
  obtain ⟨X, hXe⟩ : ∃ X, w.heap.size = X := ⟨_, rfl⟩
  generalize (w.alloc (.cells #[.int .i64 a, .int .u64 m] 66)).drewN nq = W at *
  have hbd2 := hbd W.drew
  clear hbd
  rw [hXe] at x0 HX
  go_region_with (refine hbd2.mono ?_; rintro e W5 ⟨rfl, hB5⟩; have y1 := (HX.out.drew.below hB5).cell 1 _ rfl)
  all_goals
    have hE := HB.out.trans ((((Below.refl W.heap.size W).drew).trans hB5).mono hs)
    go_wp2
    go_ret
    exact ⟨rfl, hE⟩
set_option maxRecDepth 100000 in
set_option maxHeartbeats 4000000 in
theorem may_pos_zero {base B k : Nat} {v : Value} {l : List Hit} {w : World} (h : Hc base 66 B k v l w) (hk : k ≤ 4) (a : Int) (m : Nat) (hl : 0 < l.length) (hlen : l.length ≤ 65535) (hla : l[l.length - 1]!.at_ < a) (hf : Fits k a) (hm : m = 0) :
    Calls Tryd.prog 64 #[.pointer (some ⟨B, 0, none⟩), .agg #[.int .i64 a, .int .u64 m]] w fun e w' => e = .returned (.bool false) ∧ Below w.heap.size w w' := by
  have hbd := fun w => bounds_any k hk a hf w
  obtain ⟨g, cap, rfl, hb, hg, hcap, hmax, hcell, hfro⟩ := h.row.form_pos hl
  obtain ⟨d0, _⟩ := hcell (l.length - 1) (by omega)
  have c0 := h.c0
  have c1 := h.c1
  have hBl := h.lt
  clear h hcell hfro hb hcap hmax
  generalize l[l.length - 1]!.at_ = x at *
  obtain ⟨n, hn⟩ : ∃ n, l.length = n + 1 := ⟨l.length - 1, by omega⟩
  rw [hn, Nat.add_sub_cancel] at d0
  rw [hn] at c1 hlen
  clear hn hl
  have t1 : ((n + 1 : Nat) : Int) - 1 = (n : Int) := by omega
  have t2 : decide (a ≤ x) = false := decide_eq_false (by omega)
  have t3 : decide ((0 : Int) < (m : Int)) = false := decide_eq_false (by omega)
  have t4 : decide (0 < m) = false := decide_eq_false (by omega)
  clear hf hk hm
  go_enter Tryd.func64, Tryd.ntmps64
  go_wp2
  go_quiet (fail)
  go_wp2
  have hBa := below_drewN' ((Below.refl w.heap.size w).alloc (Nat.le_refl _) (.cells #[.int .i64 a, .int .u64 m] 66)) nq
  have k0 : (((w.alloc (.cells #[.int .i64 a, .int .u64 m] 66)).drewN nq)).cell? ⟨B, 0, none⟩ = some (.int .i64 k) := (hBa.cell (p := ⟨B, 0, none⟩) hBl).trans c0
  have hX : CellsAt w.heap.size #[.int .i64 a, .int .u64 m] ((w.alloc (.cells #[.int .i64 a, .int .u64 m] 66)).drewN nq) := ⟨(CellsAt.new _ _ _).lt, (CellsAt.new _ _ _).cell, (CellsAt.new _ _ _).fro⟩
  have x0 := hX.cell 0 _ rfl
  have hs := hBa.size
  have HX := Lib.hid hX
  have HB := Lib.hid hBa
  clear hX hBa c0 c1
  obtain ⟨X, hXe⟩ : ∃ X, w.heap.size = X := ⟨_, rfl⟩
  generalize (w.alloc (.cells #[.int .i64 a, .int .u64 m] 66)).drewN nq = W at *
  have hbd2 := hbd W.drew
  clear hbd
  rw [hXe] at x0 HX
  go_region_with (refine hbd2.mono ?_; rintro e W5 ⟨rfl, hB5⟩; have y1 := (HX.out.drew.below hB5).cell 1 _ rfl)
  all_goals
    have hE := HB.out.trans ((((Below.refl W.heap.size W).drew).trans hB5).mono hs)
    go_wp2
    go_ret
    exact ⟨rfl, hE⟩
set_option maxRecDepth 100000 in
set_option maxHeartbeats 4000000 in
theorem may_pos_ok {base B k : Nat} {v : Value} {l : List Hit} {w : World} (h : Hc base 66 B k v l w) (hk : k ≤ 4) (a : Int) (m : Nat) (hl : 0 < l.length) (hlen : l.length ≤ 65535) (hla : l[l.length - 1]!.at_ < a) (hf : Fits k a) (hm : 0 < m) :
    Calls Tryd.prog 64 #[.pointer (some ⟨B, 0, none⟩), .agg #[.int .i64 a, .int .u64 m]] w fun e w' => e = .returned (.bool true) ∧ Below w.heap.size w w' := by
  have hbd := fun w => bounds_any k hk a hf w
  obtain ⟨g, cap, rfl, hb, hg, hcap, hmax, hcell, hfro⟩ := h.row.form_pos hl
  obtain ⟨d0, _⟩ := hcell (l.length - 1) (by omega)
  have c0 := h.c0
  have c1 := h.c1
  have hBl := h.lt
  clear h hcell hfro hb hcap hmax
  generalize l[l.length - 1]!.at_ = x at *
  obtain ⟨n, hn⟩ : ∃ n, l.length = n + 1 := ⟨l.length - 1, by omega⟩
  rw [hn, Nat.add_sub_cancel] at d0
  rw [hn] at c1 hlen
  clear hn hl
  have t1 : ((n + 1 : Nat) : Int) - 1 = (n : Int) := by omega
  have t2 : decide (a ≤ x) = false := decide_eq_false (by omega)
  have t3 : (0 : Int) < (m : Int) := by omega
  clear hf hk
  go_enter Tryd.func64, Tryd.ntmps64
  go_wp2
  go_quiet (fail)
  go_wp2
  have hBa := below_drewN' ((Below.refl w.heap.size w).alloc (Nat.le_refl _) (.cells #[.int .i64 a, .int .u64 m] 66)) nq
  have k0 : (((w.alloc (.cells #[.int .i64 a, .int .u64 m] 66)).drewN nq)).cell? ⟨B, 0, none⟩ = some (.int .i64 k) := (hBa.cell (p := ⟨B, 0, none⟩) hBl).trans c0
  have hX : CellsAt w.heap.size #[.int .i64 a, .int .u64 m] ((w.alloc (.cells #[.int .i64 a, .int .u64 m] 66)).drewN nq) := ⟨(CellsAt.new _ _ _).lt, (CellsAt.new _ _ _).cell, (CellsAt.new _ _ _).fro⟩
  have x0 := hX.cell 0 _ rfl
  have hs := hBa.size
  have HX := Lib.hid hX
  have HB := Lib.hid hBa
  clear hX hBa c0 c1
  obtain ⟨X, hXe⟩ : ∃ X, w.heap.size = X := ⟨_, rfl⟩
  generalize (w.alloc (.cells #[.int .i64 a, .int .u64 m] 66)).drewN nq = W at *
  have hbd2 := hbd W.drew
  clear hbd
  rw [hXe] at x0 HX
  go_region_with (refine hbd2.mono ?_; rintro e W5 ⟨rfl, hB5⟩; have y1 := (HX.out.drew.below hB5).cell 1 _ rfl)
  all_goals
    have hE := HB.out.trans ((((Below.refl W.heap.size W).drew).trans hB5).mono hs)
    go_wp2
    go_ret
    exact ⟨rfl, hE⟩
theorem getLast_at {l : List Hit} (h : 0 < l.length) : l.getLast? = some l[l.length - 1]! := by
  rw [List.getLast?_eq_getElem?, List.getElem?_eq_getElem (by omega), getElem!_pos l _ (by omega)]
set_option maxRecDepth 100000 in
set_option maxHeartbeats 4000000 in
theorem may_back {base B k : Nat} {v : Value} {l : List Hit} {w : World} (h : Hc base 66 B k v l w) (a : Int) (m : Nat) (hl : 0 < l.length) (hlen : l.length ≤ 65535) (hla : ¬ l[l.length - 1]!.at_ < a) :
    Calls Tryd.prog 64 #[.pointer (some ⟨B, 0, none⟩), .agg #[.int .i64 a, .int .u64 m]] w fun e w' => e = .returned (.bool false) ∧ Below w.heap.size w w' := by
  obtain ⟨g, cap, rfl, hb, hg, hcap, hmax, hcell, hfro⟩ := h.row.form_pos hl
  obtain ⟨d0, _⟩ := hcell (l.length - 1) (by omega)
  have c1 := h.c1
  have hBl := h.lt
  clear h hcell hfro hb hcap hmax
  generalize l[l.length - 1]!.at_ = x at *
  obtain ⟨n, hn⟩ : ∃ n, l.length = n + 1 := ⟨l.length - 1, by omega⟩
  rw [hn, Nat.add_sub_cancel] at d0
  rw [hn] at c1 hlen
  clear hn hl
  have t1 : ((n + 1 : Nat) : Int) - 1 = (n : Int) := by omega
  have t2 : decide (a ≤ x) = true := decide_eq_true (by omega)
  go_enter Tryd.func64, Tryd.ntmps64
  go_wp2
  go_quiet (fail)
  go_wp2
  go_ret
  exact ⟨rfl, below_drewN' ((Below.refl w.heap.size w).alloc (Nat.le_refl _) _) _⟩
/-- An item may stand behind: its bucket fits, some stand in it, and the last one's is less. -/
def May (k : Nat) (l : List Hit) (x : Hit) : Prop := Fits k x.at_ ∧ 0 < x.many ∧ ∀ y, l.getLast? = some y → y.at_ < x.at_
instance (k : Nat) (a : Int) : Decidable (Fits k a) := by unfold Fits; infer_instance
theorem may_yes {base B k : Nat} {v : Value} {l : List Hit} {w : World} (h : Hc base 66 B k v l w) (hk : k ≤ 4) (hlen : l.length ≤ 65535) (x : Hit) (hm : May k l x) :
    Calls Tryd.prog 64 #[.pointer (some ⟨B, 0, none⟩), .agg #[.int .i64 x.at_, .int .u64 x.many]] w fun e w' => e = .returned (.bool true) ∧ Below w.heap.size w w' := by
  obtain ⟨h1, h2, h3⟩ := hm
  by_cases h0 : l = []
  · subst h0
    exact may_nil_ok h hk x.at_ x.many h1 h2
  · have hl := List.length_pos_iff.2 h0
    exact may_pos_ok h hk x.at_ x.many hl hlen (h3 _ (getLast_at hl)) h1 h2
theorem may_no {base B k : Nat} {v : Value} {l : List Hit} {w : World} (h : Hc base 66 B k v l w) (hk : k ≤ 4) (hlen : l.length ≤ 65535) (x : Hit) (hm : ¬ May k l x) :
    Calls Tryd.prog 64 #[.pointer (some ⟨B, 0, none⟩), .agg #[.int .i64 x.at_, .int .u64 x.many]] w fun e w' => e = .returned (.bool false) ∧ Below w.heap.size w w' := by
  by_cases h0 : l = []
  · subst h0
    by_cases h1 : Fits k x.at_
    · by_cases h2 : 0 < x.many
      · exact absurd ⟨h1, h2, fun y hy => by cases hy⟩ hm
      · exact may_nil_zero h hk x.at_ x.many h1 (by omega)
    · exact may_nil_no h hk x.at_ x.many h1
  · have hl := List.length_pos_iff.2 h0
    by_cases h3 : l[l.length - 1]!.at_ < x.at_
    · by_cases h1 : Fits k x.at_
      · by_cases h2 : 0 < x.many
        · refine absurd ⟨h1, h2, fun y hy => ?_⟩ hm
          rw [getLast_at hl] at hy
          cases hy
          exact h3
        · exact may_pos_zero h hk x.at_ x.many hl hlen h3 h1 (by omega)
      · exact may_pos_no h hk x.at_ x.many hl hlen h3 h1
    · exact may_back h x.at_ x.many hl hlen h3
end Go.Proofs.YtmjipafhahggpaaDoor.Hi

namespace Go.Proofs.YtmjipafhahggpaaDoor.Hi

instance (k : Nat) (l : List Hit) (x : Hit) : Decidable (May k l x) := by
  unfold May
  have : Decidable (∀ y, l.getLast? = some y → y.at_ < x.at_) := by
    cases h : l.getLast? with
    | none => exact isTrue fun y hy => by cases hy
    | some z => exact decidable_of_iff (z.at_ < x.at_) ⟨fun h y hy => by cases hy; exact h, fun h => h z rfl⟩
  infer_instance
def getJ (k : Nat) : Nat → List UInt8 → List Hit → Option (List Hit × List UInt8)
  | 0, s, l => some (l, s)
  | n + 1, s, l => if May k l (itemB s) then getJ k n (s.drop 10) (l ++ [itemB s]) else none
theorem getJ_count (k : Nat) : ∀ n s l p, getJ k n s l = some p → countH l ≤ countH p.1
  | 0, s, l, p, h => by cases h; exact Nat.le_refl _
  | n + 1, s, l, p, h => by
    unfold getJ at h
    split at h
    · have := getJ_count k n _ _ p h
      rw [countH_append] at this
      omega
    · cases h
def okF (k : Nat) (a : Int) : Bool := decide (Fits k a)
theorem not_may {k : Nat} {l : List Hit} {x : Hit} : (okF k x.at_ = false ∨ x.many = 0 ∨ ∃ y, l.getLast? = some y ∧ x.at_ ≤ y.at_) ↔ ¬ May k l x := by
  unfold May okF
  constructor
  · rintro (h | h | ⟨y, hy, h⟩) ⟨h1, h2, h3⟩
    · exact of_decide_eq_false h h1
    · omega
    · have := h3 y hy; omega
  · intro h
    by_cases h1 : Fits k x.at_
    · by_cases h2 : 0 < x.many
      · right; right
        cases hl : l.getLast? with
        | none => exact absurd ⟨h1, h2, fun y hy => by rw [hl] at hy; cases hy⟩ h
        | some z =>
          refine ⟨z, rfl, Int.not_lt.1 fun h4 => h ⟨h1, h2, fun y hy => ?_⟩⟩
          rw [hl] at hy
          cases hy
          exact h4
      · right; left; omega
    · left; exact decide_eq_false h1
theorem getI_J (k : Nat) : ∀ n s l, countH l ≤ 1099511627776 → getI (okF k) n s l = (getJ k n s l).bind fun p => if countH p.1 ≤ 1099511627776 then some p else none
  | 0, s, l, h => by simp [getI, getJ, h]
  | n + 1, s, l, h => by
    unfold getI getJ
    by_cases hm : May k l (itemB s)
    · have hn : ¬ (okF k ((numB (s.take 4) : Int) - 2147483648) = false ∨ numB ((s.drop 4).take 6) = 0 ∨ ∃ y, l.getLast? = some y ∧ (numB (s.take 4) : Int) - 2147483648 ≤ y.at_) := fun hc => not_may.1 hc hm
      rw [if_pos hm]
      simp only [if_neg hn]
      have ex : (⟨(numB (s.take 4) : Int) - 2147483648, numB ((s.drop 4).take 6)⟩ : Hit) = itemB s := rfl
      rw [ex]
      by_cases hc : 1099511627776 < countH (l ++ [itemB s])
      · rw [if_pos hc]
        cases hj : getJ k n (s.drop 10) (l ++ [itemB s]) with
        | none => rfl
        | some p =>
          have := getJ_count k n _ _ p hj
          show none = if countH p.1 ≤ 1099511627776 then some p else none
          rw [if_neg (by omega)]
      · rw [if_neg hc]
        exact getI_J k n _ _ (by omega)
    · have hn : (okF k ((numB (s.take 4) : Int) - 2147483648) = false ∨ numB ((s.drop 4).take 6) = 0 ∨ ∃ y, l.getLast? = some y ∧ (numB (s.take 4) : Int) - 2147483648 ≤ y.at_) := not_may.2 hm
      rw [if_neg hm]
      simp only [if_pos hn]
      rfl
/-- The histogram that bytes begin with, and what stands behind it. -/
def getF (s : List UInt8) : Option (Nat × List Hit × List UInt8) := getH okF s
theorem getF_short {s : List UInt8} (h : s.length < 3) : getF s = none := by unfold getF getH; rw [if_pos (.inl h)]
theorem getF_bits {s : List UInt8} (h : 4 < numB (s.take 1)) : getF s = none := by unfold getF getH; rw [if_pos (.inr h)]
theorem getF_less {s : List UInt8} (h : s.length - 3 < 10 * numB ((s.drop 1).take 2)) : getF s = none := by unfold getF getH; rw [if_pos h]; split <;> rfl
theorem getF_J {s : List UInt8} (h1 : ¬ s.length < 3) (h2 : ¬ 4 < numB (s.take 1)) (h3 : ¬ s.length - 3 < 10 * numB ((s.drop 1).take 2)) :
    getF s = (getJ (numB (s.take 1)) (numB ((s.drop 1).take 2)) (s.drop 3) []).bind fun p => if countH p.1 ≤ 1099511627776 then some (numB (s.take 1), p.1, p.2) else none := by
  unfold getF getH
  rw [if_neg (by omega), if_neg h3, getI_J _ _ _ _ (by simp [countH])]
  cases getJ (numB (s.take 1)) (numB ((s.drop 1).take 2)) (s.drop 3) [] with
  | none => rfl
  | some p =>
    show Option.map _ (if countH p.1 ≤ 1099511627776 then some p else none) = if countH p.1 ≤ 1099511627776 then _ else none
    split <;> rfl
/-- What holds of the items that are got so far. -/
structure Sofar (k : Nat) (l : List Hit) : Prop where
  ris : Rising l
  fit : ∀ x ∈ l, Fits k x.at_
  small : ∀ x ∈ l, x.many < 281474976710656
theorem Sofar.nil (k : Nat) : Sofar k [] := ⟨Rising.nil, fun _ h => by simp at h, fun _ h => by simp at h⟩
theorem Sofar.snoc {k : Nat} {l : List Hit} (h : Sofar k l) {x : Hit} (hm : May k l x) (hx : x.many < 281474976710656) : Sofar k (l ++ [x]) := by
  obtain ⟨h1, h2, h3⟩ := hm
  refine ⟨⟨?_, fun y hy => ?_⟩, fun y hy => ?_, fun y hy => ?_⟩
  · rw [List.pairwise_append]
    refine ⟨h.ris.1, by simp, fun a ha b hb => ?_⟩
    simp at hb
    subst hb
    have hl : 0 < l.length := List.length_pos_iff.2 (fun e => by subst e; simp at ha)
    have h4 := h3 _ (getLast_at hl)
    obtain ⟨i, hi, rfl⟩ := List.mem_iff_getElem.1 ha
    have h5 := h.ris.le (show i ≤ l.length - 1 by omega) (by omega)
    rw [getElem!_pos l i hi] at h5
    omega
  · rcases List.mem_append.1 hy with hy | hy
    · exact h.ris.2 y hy
    · simp at hy; subst hy; exact h2
  · rcases List.mem_append.1 hy with hy | hy
    · exact h.fit y hy
    · simp at hy; subst hy; exact h1
  · rcases List.mem_append.1 hy with hy | hy
    · exact h.small y hy
    · simp at hy; subst hy; exact hx
end Go.Proofs.YtmjipafhahggpaaDoor.Hi

