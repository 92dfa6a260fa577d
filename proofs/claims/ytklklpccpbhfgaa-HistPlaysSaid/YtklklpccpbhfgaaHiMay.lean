/- Whether an item may stand behind a histogram's items. -/
import Derived.Test.YtklklpccpbhfgaaHiGt
import Derived.BigQuiet
import Derived.BigRegion
import Derived.RegionTactic
namespace Go.Proofs.Ytklklpccpbhfgaa
open Go Go.RowKit

/-- Block B holds bits k and those items in row v, whatever they are. -/
structure Hc (base T B k : Nat) (v : Value) (l : List Hit) (w : World) : Prop where
  lt : B < w.heap.size
  lo : base ≤ B
  c0 : w.cell? ⟨B, 0, none⟩ = some (.int .i64 k)
  c1 : w.cell? ⟨B, 1, none⟩ = some v
  f1 : w.frozen? ⟨B, 1, none⟩ = false
  row : Its base T v l w
  ne : v.ownBlock ≠ some B
theorem Hs.c {base T B k : Nat} {v : Value} {l : List Hit} {w : World} (h : Hs base T B k v l w) : Hc base T B k v l w := ⟨h.lt, h.lo, h.c0, h.c1, h.f1, h.row, h.ne⟩
theorem Hc.s {base T B k : Nat} {v : Value} {l : List Hit} {w : World} (h : Hc base T B k v l w) (hI : Inv k l) : Hs base T B k v l w := ⟨h.lt, h.lo, hI, h.c0, h.c1, h.f1, h.row, h.ne⟩
theorem Hc.mov {base T B k : Nat} {v : Value} {l : List Hit} {w w' : World} {S : Nat → Prop} (h : Hc base T B k v l w) (hM : Mov S w w') (hB : ¬ S B) (hn : ∀ g, v.ownBlock = some g → ¬ S g) : Hc base T B k v l w' :=
  ⟨Nat.lt_of_lt_of_le h.lt hM.size, h.lo, (hM.cell h.lt hB).trans h.c0, (hM.cell h.lt hB).trans h.c1, (hM.frozen h.lt hB).trans h.f1, h.row.mov hM hn, h.ne⟩
theorem Hc.below {base T B k : Nat} {v : Value} {l : List Hit} {w w' : World} (h : Hc base T B k v l w) (hB : Below w.heap.size w w') : Hc base T B k v l w' :=
  h.mov (Mov.of hB) (by have := h.lt; omega) fun g hg => by have := (h.row.lt hg).2; omega
theorem Hc.stored {base T B k : Nat} {v v' : Value} {l l' : List Hit} {w w1 : World} (h : Hc base T B k v l w) (hM : Mov (fun k => v.ownBlock = some k) w w1) (hr : Its base T v' l' w1)
    (hat : ∀ g, v'.ownBlock = some g → v.ownBlock = some g ∨ w.heap.size ≤ g) : Hc base T B k v' l' (w1.setCell ⟨B, 1, none⟩ v') ∧ Mov (OwnT B v) w (w1.setCell ⟨B, 1, none⟩ v') := by
  have hne : v'.ownBlock ≠ some B := fun e => by
    rcases hat B e with e | e
    · exact h.ne e
    · have := h.lt; omega
  have hS : Mov (fun k => k = B) w1 (w1.setCell ⟨B, 1, none⟩ v') := (Mov.refl (fun k => k = B) w1).set rfl 1 v'
  refine ⟨⟨by have := Nat.lt_of_lt_of_le h.lt hM.size; simpa using this, h.lo, ?_, ?_, ?_, hr.mov hS (fun g hg e => hne (e ▸ hg)), hne⟩, Mov.trans (S := OwnT B v) (T := OwnT B v) ⟨hM.os, hM.tape, hM.output, hM.size, fun k hk hn => hM.block k hk (fun e => hn (.inr e))⟩ ⟨hS.os, hS.tape, hS.output, hS.size, fun k hk hn => hS.block k hk (fun e => hn (.inl e))⟩ fun _ _ hk => hk⟩
  · rw [World.cell?_setCell_other (h := by simp)]; exact (hM.cell h.lt h.ne).trans h.c0
  · exact World.cell?_setCell_same w1 ⟨B, 1, none⟩ _ ((hM.cell h.lt h.ne).trans h.c1)
  · rw [World.frozen?_setCell]; exact (hM.frozen h.lt h.ne).trans h.f1
set_option maxRecDepth 100000 in
set_option maxHeartbeats 4000000 in
theorem may_nil_no {base B k : Nat} {v : Value} {w : World} (h : Hc base 62 B k v [] w) (hk : k ≤ 4) (a : Int) (m : Nat) (hf : ¬ Fits k a) :
    Calls Try.prog 50 #[.pointer (some ⟨B, 0, none⟩), .agg #[.int .i64 a, .int .u64 m]] w fun e w' => e = .returned (.bool false) ∧ Below w.heap.size w w' := by
  have hbd := fun w => bounds_no k hk a hf w
  obtain ⟨p, cap, rfl, hcap, hmax⟩ := h.row.cap
  simp only [List.length_nil] at *
  have c0 := h.c0
  have c1 := h.c1
  have hBl := h.lt
  clear h
  clear hf hk
  go_enter Try.func50, Try.ntmps50
  go_wp2
  go_quiet (fail)
  go_wp2
  have hBa := below_drewN' ((Below.refl w.heap.size w).alloc (Nat.le_refl _) (.cells #[.int .i64 a, .int .u64 m] 62)) nq
  have k0 : (((w.alloc (.cells #[.int .i64 a, .int .u64 m] 62)).drewN nq)).cell? ⟨B, 0, none⟩ = some (.int .i64 k) := (hBa.cell (p := ⟨B, 0, none⟩) hBl).trans c0
  have hX : CellsAt w.heap.size #[.int .i64 a, .int .u64 m] ((w.alloc (.cells #[.int .i64 a, .int .u64 m] 62)).drewN nq) := ⟨(CellsAt.new _ _ _).lt, (CellsAt.new _ _ _).cell, (CellsAt.new _ _ _).fro⟩
  have x0 := hX.cell 0 _ rfl
  have hs := hBa.size
  have HX := Lib.hid hX
  have HB := Lib.hid hBa
  clear hX hBa c0 c1
  obtain ⟨X, hXe⟩ : ∃ X, w.heap.size = X := ⟨_, rfl⟩
  generalize (w.alloc (.cells #[.int .i64 a, .int .u64 m] 62)).drewN nq = W at *
  have hbd2 := hbd W.drew
  clear hbd
  rw [hXe] at x0 HX
  go_region_with (refine hbd2.mono ?_; rintro e W5 ⟨rfl, hB5⟩; have y1 := (HX.out.drew.below hB5).cell 1 _ rfl)
  all_goals
    have hE := HB.out.trans ((((Below.refl W.heap.size W).drew).trans hB5).mono hs)
    go_wp2
    go_ret
    exact ⟨rfl, hE⟩
set_option maxRecDepth 100000 in
set_option maxHeartbeats 4000000 in
theorem may_nil_zero {base B k : Nat} {v : Value} {w : World} (h : Hc base 62 B k v [] w) (hk : k ≤ 4) (a : Int) (m : Nat) (hf : Fits k a) (hm : m = 0) :
    Calls Try.prog 50 #[.pointer (some ⟨B, 0, none⟩), .agg #[.int .i64 a, .int .u64 m]] w fun e w' => e = .returned (.bool false) ∧ Below w.heap.size w w' := by
  have hbd := fun w => bounds_any k hk a hf w
  obtain ⟨p, cap, rfl, hcap, hmax⟩ := h.row.cap
  simp only [List.length_nil] at *
  have c0 := h.c0
  have c1 := h.c1
  have hBl := h.lt
  clear h
  have t3 : decide ((0 : Int) < (m : Int)) = false := decide_eq_false (by omega)
  have t4 : decide (0 < m) = false := decide_eq_false (by omega)
  clear hf hk hm
  go_enter Try.func50, Try.ntmps50
  go_wp2
  go_quiet (fail)
  go_wp2
  have hBa := below_drewN' ((Below.refl w.heap.size w).alloc (Nat.le_refl _) (.cells #[.int .i64 a, .int .u64 m] 62)) nq
  have k0 : (((w.alloc (.cells #[.int .i64 a, .int .u64 m] 62)).drewN nq)).cell? ⟨B, 0, none⟩ = some (.int .i64 k) := (hBa.cell (p := ⟨B, 0, none⟩) hBl).trans c0
  have hX : CellsAt w.heap.size #[.int .i64 a, .int .u64 m] ((w.alloc (.cells #[.int .i64 a, .int .u64 m] 62)).drewN nq) := ⟨(CellsAt.new _ _ _).lt, (CellsAt.new _ _ _).cell, (CellsAt.new _ _ _).fro⟩
  have x0 := hX.cell 0 _ rfl
  have hs := hBa.size
  have HX := Lib.hid hX
  have HB := Lib.hid hBa
  clear hX hBa c0 c1
  obtain ⟨X, hXe⟩ : ∃ X, w.heap.size = X := ⟨_, rfl⟩
  generalize (w.alloc (.cells #[.int .i64 a, .int .u64 m] 62)).drewN nq = W at *
  have hbd2 := hbd W.drew
  clear hbd
  rw [hXe] at x0 HX
  go_region_with (refine hbd2.mono ?_; rintro e W5 ⟨rfl, hB5⟩; have y1 := (HX.out.drew.below hB5).cell 1 _ rfl)
  all_goals
    have hE := HB.out.trans ((((Below.refl W.heap.size W).drew).trans hB5).mono hs)
    go_wp2
    go_ret
    exact ⟨rfl, hE⟩
set_option maxRecDepth 100000 in
set_option maxHeartbeats 4000000 in
theorem may_nil_ok {base B k : Nat} {v : Value} {w : World} (h : Hc base 62 B k v [] w) (hk : k ≤ 4) (a : Int) (m : Nat) (hf : Fits k a) (hm : 0 < m) :
    Calls Try.prog 50 #[.pointer (some ⟨B, 0, none⟩), .agg #[.int .i64 a, .int .u64 m]] w fun e w' => e = .returned (.bool true) ∧ Below w.heap.size w w' := by
  have hbd := fun w => bounds_any k hk a hf w
  obtain ⟨p, cap, rfl, hcap, hmax⟩ := h.row.cap
  simp only [List.length_nil] at *
  have c0 := h.c0
  have c1 := h.c1
  have hBl := h.lt
  clear h
  have t3 : (0 : Int) < (m : Int) := by omega
  clear hf hk
  go_enter Try.func50, Try.ntmps50
  go_wp2
  go_quiet (fail)
  go_wp2
  have hBa := below_drewN' ((Below.refl w.heap.size w).alloc (Nat.le_refl _) (.cells #[.int .i64 a, .int .u64 m] 62)) nq
  have k0 : (((w.alloc (.cells #[.int .i64 a, .int .u64 m] 62)).drewN nq)).cell? ⟨B, 0, none⟩ = some (.int .i64 k) := (hBa.cell (p := ⟨B, 0, none⟩) hBl).trans c0
  have hX : CellsAt w.heap.size #[.int .i64 a, .int .u64 m] ((w.alloc (.cells #[.int .i64 a, .int .u64 m] 62)).drewN nq) := ⟨(CellsAt.new _ _ _).lt, (CellsAt.new _ _ _).cell, (CellsAt.new _ _ _).fro⟩
  have x0 := hX.cell 0 _ rfl
  have hs := hBa.size
  have HX := Lib.hid hX
  have HB := Lib.hid hBa
  clear hX hBa c0 c1
  obtain ⟨X, hXe⟩ : ∃ X, w.heap.size = X := ⟨_, rfl⟩
  generalize (w.alloc (.cells #[.int .i64 a, .int .u64 m] 62)).drewN nq = W at *
  have hbd2 := hbd W.drew
  clear hbd
  rw [hXe] at x0 HX
  go_region_with (refine hbd2.mono ?_; rintro e W5 ⟨rfl, hB5⟩; have y1 := (HX.out.drew.below hB5).cell 1 _ rfl)
  all_goals
    have hE := HB.out.trans ((((Below.refl W.heap.size W).drew).trans hB5).mono hs)
    go_wp2
    go_ret
    exact ⟨rfl, hE⟩
set_option maxRecDepth 100000 in
set_option maxHeartbeats 4000000 in
theorem may_pos_no {base B k : Nat} {v : Value} {l : List Hit} {w : World} (h : Hc base 62 B k v l w) (hk : k ≤ 4) (a : Int) (m : Nat) (hl : 0 < l.length) (hlen : l.length ≤ 65535) (hla : l[l.length - 1]!.at_ < a) (hf : ¬ Fits k a) :
    Calls Try.prog 50 #[.pointer (some ⟨B, 0, none⟩), .agg #[.int .i64 a, .int .u64 m]] w fun e w' => e = .returned (.bool false) ∧ Below w.heap.size w w' := by
  have hbd := fun w => bounds_no k hk a hf w
  obtain ⟨g, cap, rfl, hb, hg, hcap, hmax, hcell, hfro⟩ := h.row.form_pos hl
  obtain ⟨d0, _⟩ := hcell (l.length - 1) (by omega)
  have c0 := h.c0
  have c1 := h.c1
  have hBl := h.lt
  clear h hcell hfro hb hcap hmax
  generalize l[l.length - 1]!.at_ = x at *
  obtain ⟨n, hn⟩ : ∃ n, l.length = n + 1 := ⟨l.length - 1, by omega⟩
  rw [hn, Nat.add_sub_cancel] at d0
  rw [hn] at c1 hlen
  clear hn hl
  have t1 : ((n + 1 : Nat) : Int) - 1 = (n : Int) := by omega
  have t2 : decide (a ≤ x) = false := decide_eq_false (by omega)
  clear hf hk
  go_enter Try.func50, Try.ntmps50
  go_wp2
  go_quiet (fail)
  go_wp2
  have hBa := below_drewN' ((Below.refl w.heap.size w).alloc (Nat.le_refl _) (.cells #[.int .i64 a, .int .u64 m] 62)) nq
  have k0 : (((w.alloc (.cells #[.int .i64 a, .int .u64 m] 62)).drewN nq)).cell? ⟨B, 0, none⟩ = some (.int .i64 k) := (hBa.cell (p := ⟨B, 0, none⟩) hBl).trans c0
  have hX : CellsAt w.heap.size #[.int .i64 a, .int .u64 m] ((w.alloc (.cells #[.int .i64 a, .int .u64 m] 62)).drewN nq) := ⟨(CellsAt.new _ _ _).lt, (CellsAt.new _ _ _).cell, (CellsAt.new _ _ _).fro⟩
  have x0 := hX.cell 0 _ rfl
  have hs := hBa.size
  have HX := Lib.hid hX
  have HB := Lib.hid hBa
  clear hX hBa c0 c1
  obtain ⟨X, hXe⟩ : ∃ X, w.heap.size = X := ⟨_, rfl⟩
  generalize (w.alloc (.cells #[.int .i64 a, .int .u64 m] 62)).drewN nq = W at *
  have hbd2 := hbd W.drew
  clear hbd
  rw [hXe] at x0 HX
  go_region_with (refine hbd2.mono ?_; rintro e W5 ⟨rfl, hB5⟩; have y1 := (HX.out.drew.below hB5).cell 1 _ rfl)
  all_goals
    have hE := HB.out.trans ((((Below.refl W.heap.size W).drew).trans hB5).mono hs)
    go_wp2
    go_ret
    exact ⟨rfl, hE⟩
set_option maxRecDepth 100000 in
set_option maxHeartbeats 4000000 in
theorem may_pos_zero {base B k : Nat} {v : Value} {l : List Hit} {w : World} (h : Hc base 62 B k v l w) (hk : k ≤ 4) (a : Int) (m : Nat) (hl : 0 < l.length) (hlen : l.length ≤ 65535) (hla : l[l.length - 1]!.at_ < a) (hf : Fits k a) (hm : m = 0) :
    Calls Try.prog 50 #[.pointer (some ⟨B, 0, none⟩), .agg #[.int .i64 a, .int .u64 m]] w fun e w' => e = .returned (.bool false) ∧ Below w.heap.size w w' := by
  have hbd := fun w => bounds_any k hk a hf w
  obtain ⟨g, cap, rfl, hb, hg, hcap, hmax, hcell, hfro⟩ := h.row.form_pos hl
  obtain ⟨d0, _⟩ := hcell (l.length - 1) (by omega)
  have c0 := h.c0
  have c1 := h.c1
  have hBl := h.lt
  clear h hcell hfro hb hcap hmax
  generalize l[l.length - 1]!.at_ = x at *
  obtain ⟨n, hn⟩ : ∃ n, l.length = n + 1 := ⟨l.length - 1, by omega⟩
  rw [hn, Nat.add_sub_cancel] at d0
  rw [hn] at c1 hlen
  clear hn hl
  have t1 : ((n + 1 : Nat) : Int) - 1 = (n : Int) := by omega
  have t2 : decide (a ≤ x) = false := decide_eq_false (by omega)
  have t3 : decide ((0 : Int) < (m : Int)) = false := decide_eq_false (by omega)
  have t4 : decide (0 < m) = false := decide_eq_false (by omega)
  clear hf hk hm
  go_enter Try.func50, Try.ntmps50
  go_wp2
  go_quiet (fail)
  go_wp2
  have hBa := below_drewN' ((Below.refl w.heap.size w).alloc (Nat.le_refl _) (.cells #[.int .i64 a, .int .u64 m] 62)) nq
  have k0 : (((w.alloc (.cells #[.int .i64 a, .int .u64 m] 62)).drewN nq)).cell? ⟨B, 0, none⟩ = some (.int .i64 k) := (hBa.cell (p := ⟨B, 0, none⟩) hBl).trans c0
  have hX : CellsAt w.heap.size #[.int .i64 a, .int .u64 m] ((w.alloc (.cells #[.int .i64 a, .int .u64 m] 62)).drewN nq) := ⟨(CellsAt.new _ _ _).lt, (CellsAt.new _ _ _).cell, (CellsAt.new _ _ _).fro⟩
  have x0 := hX.cell 0 _ rfl
  have hs := hBa.size
  have HX := Lib.hid hX
  have HB := Lib.hid hBa
  clear hX hBa c0 c1
  obtain ⟨X, hXe⟩ : ∃ X, w.heap.size = X := ⟨_, rfl⟩
  generalize (w.alloc (.cells #[.int .i64 a, .int .u64 m] 62)).drewN nq = W at *
  have hbd2 := hbd W.drew
  clear hbd
  rw [hXe] at x0 HX
  go_region_with (refine hbd2.mono ?_; rintro e W5 ⟨rfl, hB5⟩; have y1 := (HX.out.drew.below hB5).cell 1 _ rfl)
  all_goals
    have hE := HB.out.trans ((((Below.refl W.heap.size W).drew).trans hB5).mono hs)
    go_wp2
    go_ret
    exact ⟨rfl, hE⟩
set_option maxRecDepth 100000 in
set_option maxHeartbeats 4000000 in
theorem may_pos_ok {base B k : Nat} {v : Value} {l : List Hit} {w : World} (h : Hc base 62 B k v l w) (hk : k ≤ 4) (a : Int) (m : Nat) (hl : 0 < l.length) (hlen : l.length ≤ 65535) (hla : l[l.length - 1]!.at_ < a) (hf : Fits k a) (hm : 0 < m) :
    Calls Try.prog 50 #[.pointer (some ⟨B, 0, none⟩), .agg #[.int .i64 a, .int .u64 m]] w fun e w' => e = .returned (.bool true) ∧ Below w.heap.size w w' := by
  have hbd := fun w => bounds_any k hk a hf w
  obtain ⟨g, cap, rfl, hb, hg, hcap, hmax, hcell, hfro⟩ := h.row.form_pos hl
  obtain ⟨d0, _⟩ := hcell (l.length - 1) (by omega)
  have c0 := h.c0
  have c1 := h.c1
  have hBl := h.lt
  clear h hcell hfro hb hcap hmax
  generalize l[l.length - 1]!.at_ = x at *
  obtain ⟨n, hn⟩ : ∃ n, l.length = n + 1 := ⟨l.length - 1, by omega⟩
  rw [hn, Nat.add_sub_cancel] at d0
  rw [hn] at c1 hlen
  clear hn hl
  have t1 : ((n + 1 : Nat) : Int) - 1 = (n : Int) := by omega
  have t2 : decide (a ≤ x) = false := decide_eq_false (by omega)
  have t3 : (0 : Int) < (m : Int) := by omega
  clear hf hk
  go_enter Try.func50, Try.ntmps50
  go_wp2
  go_quiet (fail)
  go_wp2
  have hBa := below_drewN' ((Below.refl w.heap.size w).alloc (Nat.le_refl _) (.cells #[.int .i64 a, .int .u64 m] 62)) nq
  have k0 : (((w.alloc (.cells #[.int .i64 a, .int .u64 m] 62)).drewN nq)).cell? ⟨B, 0, none⟩ = some (.int .i64 k) := (hBa.cell (p := ⟨B, 0, none⟩) hBl).trans c0
  have hX : CellsAt w.heap.size #[.int .i64 a, .int .u64 m] ((w.alloc (.cells #[.int .i64 a, .int .u64 m] 62)).drewN nq) := ⟨(CellsAt.new _ _ _).lt, (CellsAt.new _ _ _).cell, (CellsAt.new _ _ _).fro⟩
  have x0 := hX.cell 0 _ rfl
  have hs := hBa.size
  have HX := Lib.hid hX
  have HB := Lib.hid hBa
  clear hX hBa c0 c1
  obtain ⟨X, hXe⟩ : ∃ X, w.heap.size = X := ⟨_, rfl⟩
  generalize (w.alloc (.cells #[.int .i64 a, .int .u64 m] 62)).drewN nq = W at *
  have hbd2 := hbd W.drew
  clear hbd
  rw [hXe] at x0 HX
  go_region_with (refine hbd2.mono ?_; rintro e W5 ⟨rfl, hB5⟩; have y1 := (HX.out.drew.below hB5).cell 1 _ rfl)
  all_goals
    have hE := HB.out.trans ((((Below.refl W.heap.size W).drew).trans hB5).mono hs)
    go_wp2
    go_ret
    exact ⟨rfl, hE⟩
theorem getLast_at {l : List Hit} (h : 0 < l.length) : l.getLast? = some l[l.length - 1]! := by
  rw [List.getLast?_eq_getElem?, List.getElem?_eq_getElem (by omega), getElem!_pos l _ (by omega)]
set_option maxRecDepth 100000 in
set_option maxHeartbeats 4000000 in
theorem may_back {base B k : Nat} {v : Value} {l : List Hit} {w : World} (h : Hc base 62 B k v l w) (a : Int) (m : Nat) (hl : 0 < l.length) (hlen : l.length ≤ 65535) (hla : ¬ l[l.length - 1]!.at_ < a) :
    Calls Try.prog 50 #[.pointer (some ⟨B, 0, none⟩), .agg #[.int .i64 a, .int .u64 m]] w fun e w' => e = .returned (.bool false) ∧ Below w.heap.size w w' := by
  obtain ⟨g, cap, rfl, hb, hg, hcap, hmax, hcell, hfro⟩ := h.row.form_pos hl
  obtain ⟨d0, _⟩ := hcell (l.length - 1) (by omega)
  have c1 := h.c1
  have hBl := h.lt
  clear h hcell hfro hb hcap hmax
  generalize l[l.length - 1]!.at_ = x at *
  obtain ⟨n, hn⟩ : ∃ n, l.length = n + 1 := ⟨l.length - 1, by omega⟩
  rw [hn, Nat.add_sub_cancel] at d0
  rw [hn] at c1 hlen
  clear hn hl
  have t1 : ((n + 1 : Nat) : Int) - 1 = (n : Int) := by omega
  have t2 : decide (a ≤ x) = true := decide_eq_true (by omega)
  go_enter Try.func50, Try.ntmps50
  go_wp2
  go_quiet (fail)
  go_wp2
  go_ret
  exact ⟨rfl, below_drewN' ((Below.refl w.heap.size w).alloc (Nat.le_refl _) _) _⟩
/-- An item may stand behind: its bucket fits, some stand in it, and the last one's is less. -/
def May (k : Nat) (l : List Hit) (x : Hit) : Prop := Fits k x.at_ ∧ 0 < x.many ∧ ∀ y, l.getLast? = some y → y.at_ < x.at_
instance (k : Nat) (a : Int) : Decidable (Fits k a) := by unfold Fits; infer_instance
theorem may_yes {base B k : Nat} {v : Value} {l : List Hit} {w : World} (h : Hc base 62 B k v l w) (hk : k ≤ 4) (hlen : l.length ≤ 65535) (x : Hit) (hm : May k l x) :
    Calls Try.prog 50 #[.pointer (some ⟨B, 0, none⟩), .agg #[.int .i64 x.at_, .int .u64 x.many]] w fun e w' => e = .returned (.bool true) ∧ Below w.heap.size w w' := by
  obtain ⟨h1, h2, h3⟩ := hm
  by_cases h0 : l = []
  · subst h0
    exact may_nil_ok h hk x.at_ x.many h1 h2
  · have hl := List.length_pos_iff.2 h0
    exact may_pos_ok h hk x.at_ x.many hl hlen (h3 _ (getLast_at hl)) h1 h2
theorem may_no {base B k : Nat} {v : Value} {l : List Hit} {w : World} (h : Hc base 62 B k v l w) (hk : k ≤ 4) (hlen : l.length ≤ 65535) (x : Hit) (hm : ¬ May k l x) :
    Calls Try.prog 50 #[.pointer (some ⟨B, 0, none⟩), .agg #[.int .i64 x.at_, .int .u64 x.many]] w fun e w' => e = .returned (.bool false) ∧ Below w.heap.size w w' := by
  by_cases h0 : l = []
  · subst h0
    by_cases h1 : Fits k x.at_
    · by_cases h2 : 0 < x.many
      · exact absurd ⟨h1, h2, fun y hy => by cases hy⟩ hm
      · exact may_nil_zero h hk x.at_ x.many h1 (by omega)
    · exact may_nil_no h hk x.at_ x.many h1
  · have hl := List.length_pos_iff.2 h0
    by_cases h3 : l[l.length - 1]!.at_ < x.at_
    · by_cases h1 : Fits k x.at_
      · by_cases h2 : 0 < x.many
        · refine absurd ⟨h1, h2, fun y hy => ?_⟩ hm
          rw [getLast_at hl] at hy
          cases hy
          exact h3
        · exact may_pos_zero h hk x.at_ x.many hl hlen h3 h1 (by omega)
      · exact may_pos_no h hk x.at_ x.many hl hlen h3 h1
    · exact may_back h x.at_ x.many hl hlen h3
end Go.Proofs.Ytklklpccpbhfgaa
