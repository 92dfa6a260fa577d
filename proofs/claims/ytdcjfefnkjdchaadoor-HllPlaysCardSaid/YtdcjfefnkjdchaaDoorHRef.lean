/- The chapter's own sketch in memory: its registers lie in a block of their own. -/
import Derived.Test.YtdcjfefnkjdchaaDoorHMake
import Derived.Deep.QuietTactic
import Derived.BigQuiet
namespace Go.Proofs.YtdcjfefnkjdchaaDoor
open Go Go.RowKit

/-- Block P points to registers l, in block A. -/
structure RSk (P A b : Nat) (l : List UInt8) (w : World) : Prop where
  ltP : P < w.heap.size
  ltA : A < w.heap.size
  ne : P ≠ A
  lo : 4 ≤ b
  hi : b ≤ 10
  len : l.length = 2 ^ b
  ptr : w.cell? ⟨P, 0, none⟩ = some (.slice (some ⟨A, 0, none⟩) (2 ^ b) (2 ^ b))
  cell : ∀ i (h : i < l.length), w.cell? ⟨A, i, none⟩ = some (.int .i64 (l[i].toNat : Int))
  fro : ∀ i, i < l.length → w.frozen? ⟨A, i, none⟩ = false
section
variable {P A b : Nat} {l : List UInt8} {w w' : World}
theorem RSk.drewN (h : RSk P A b l w) (n : Nat) : RSk P A b l (w.drewN n) := ⟨h.ltP, h.ltA, h.ne, h.lo, h.hi, h.len, h.ptr, h.cell, h.fro⟩
theorem RSk.belowAt (h : RSk P A b l w) {C : Nat} (hB : Below C w w') (hp : P < C) (ha : A < C) : RSk P A b l w' :=
  ⟨Nat.lt_of_lt_of_le h.ltP hB.size, Nat.lt_of_lt_of_le h.ltA hB.size, h.ne, h.lo, h.hi, h.len, (hB.cell (p := ⟨P, 0, none⟩) hp).trans h.ptr, fun i hi => (hB.cell (p := ⟨A, i, none⟩) ha).trans (h.cell i hi), fun i hi => (hB.frozen (p := ⟨A, i, none⟩) ha).trans (h.fro i hi)⟩
theorem RSk.below (h : RSk P A b l w) (hB : Below w.heap.size w w') : RSk P A b l w' := h.belowAt hB h.ltP h.ltA
theorem RSk.chg (h : RSk P A b l w) {C : Nat} (hC : Chg C w w') (hp : P ≠ C) (ha : A ≠ C) : RSk P A b l w' :=
  ⟨Nat.lt_of_lt_of_le h.ltP hC.size, Nat.lt_of_lt_of_le h.ltA hC.size, h.ne, h.lo, h.hi, h.len, (hC.cell h.ltP hp).trans h.ptr, fun i hi => (hC.cell h.ltA ha).trans (h.cell i hi), fun i hi => (hC.frozen h.ltA ha).trans (h.fro i hi)⟩
theorem RSk.set (h : RSk P A b l w) (i : Nat) (x : UInt8) (hi : i < l.length) : RSk P A b (l.set i x) (w.setCell ⟨A, i, none⟩ (.int .i64 (x.toNat : Int))) := by
  refine ⟨by have := h.ltP; simpa using this, by have := h.ltA; simpa using this, h.ne, h.lo, h.hi, by rw [List.length_set]; exact h.len, ?_, fun j hj => ?_, fun j hj => ?_⟩
  · rw [World.cell?_setCell_other (h := by intro e; have := congrArg Addr.block e; exact h.ne this.symm)]
    exact h.ptr
  · rw [List.length_set] at hj
    by_cases hij : i = j
    · subst hij
      rw [World.cell?_setCell_same (h := h.cell i hj)]
      simp
    · rw [World.cell?_setCell_other (h := by intro e; have := congrArg Addr.off e; simp at this; omega), List.getElem_set_ne hij]
      exact h.cell j hj
  · rw [World.frozen?_setCell]
    rw [List.length_set] at hj
    exact h.fro j hj
end
theorem info_i64 : (Tryd.prog.info? 3).map (fun i => (i.zero, i.size, i.bytes)) = some (some (.int .i64 0), 1, 8) := by kernel_rfl
theorem make_i64 (n : Nat) (hn : n ≤ 1000000) (w : World) : ∃ w', (Instr.makeSlice 57 (.int .i64 n) (.int .i64 n)).run Tryd.prog w = .ok (.slice (some ⟨w.heap.size, 0, none⟩) n n) w' ∧ Below w.heap.size w w' ∧ w.heap.size < w'.heap.size ∧
    (∀ j, j < n → w'.cell? ⟨w.heap.size, j, none⟩ = some (.int .i64 0)) ∧ ∀ j, j < n → w'.frozen? ⟨w.heap.size, j, none⟩ = false := by
  obtain ⟨i, hi, hz0, hz1, hz2⟩ := info_parts info_i64
  obtain ⟨w', h1, h2, h3⟩ := run_make_full (P := Tryd.prog) w w.heap.size 57 3 i (.int .i64 0) 1 Tryd.underlying57 hi hz0 hz1 .i64 .i64 n (by rw [hz2]; omega) (by unfold maxLen; omega) (Nat.le_refl _)
  have hc : ∀ j, j < n → (madeCells (Value.int .i64 0).cells (n * 1)).toList[j]? = some (.int .i64 0) := fun j hj => by
    simp [madeCells, Value.cells, Nat.mod_one, hj]
  refine ⟨w', h1, (Below.refl _ _).grown h3 (Nat.le_refl _) (fun k hk => by cases hk), ?_, fun j hj => ?_, fun j hj => World.ownsRow.frozenAt h2 j⟩
  · rcases h2.2 with ⟨h, _⟩ | ⟨g, cap, cur, h, _, hg, _⟩
    · cases h
    · cases h
      exact (Array.getElem?_eq_some_iff.1 hg).1
  · rw [World.ownsRow.cellAt h2 j (by omega), hc j hj]
theorem ref_new_out (x : Int) (h : x < 4 ∨ 10 < x) (w : World) :
    Calls Tryd.prog 12 #[.int .i64 x] w fun e w' => e = .returned (.pointer none) ∧ w = w' := by
  by_cases h4 : x < 4
  · clear h
    go_enter Tryd.func12, Tryd.ntmps12
    go_wp2
    go_ret
    exact ⟨rfl, rfl⟩
  · have h10 : 10 < x := by omega
    clear h
    go_enter Tryd.func12, Tryd.ntmps12
    go_wp2
    go_ret
    exact ⟨rfl, rfl⟩
/-- What a new one comes to. -/
def RefNew (b : Nat) (w : World) (e : Ending) (w' : World) : Prop :=
  ∃ P A, e = .returned (.pointer (some ⟨P, 0, none⟩)) ∧ Below w.heap.size w w' ∧ RSk P A b (List.replicate (2 ^ b) 0) w' ∧ w.heap.size ≤ P ∧ w.heap.size ≤ A
theorem ref_new_any (b : Nat) (lo : 4 ≤ b) (hi : b ≤ 10) (w : World) :
    Calls Tryd.prog 12 #[.int .i64 b] w (RefNew b w) := by
  have hM := pow_hi lo hi
  have hpw : IntKind.i64.wrap ((2 : Int) ^ b) = ((2 ^ b : Nat) : Int) := by
    rw [show (2 : Int) ^ b = ((2 ^ b : Nat) : Int) by push_cast; rfl]
    exact IntWalk.i64_in _ (by omega)
  obtain ⟨W, hmk, hB, hlt, hc, hf⟩ := make_i64 (2 ^ b) (by omega) w
  have hend : RSk W.heap.size w.heap.size b (List.replicate (2 ^ b) 0) (W.alloc (.cells #[.slice (some ⟨w.heap.size, 0, none⟩) (2 ^ b) (2 ^ b)] 59)) := by
    have hN := CellsAt.new #[.slice (some ⟨w.heap.size, 0, none⟩) (2 ^ b) (2 ^ b)] 59 W
    refine ⟨hN.lt, by simp; omega, by omega, lo, hi, by simp, hN.cell 0 _ rfl, fun i hi => ?_, fun i hi => ?_⟩
    · rw [World.cell?_alloc_past _ _ _ hlt, hc i (by simpa using hi)]
      simp
    · rw [World.frozen?_alloc_past _ _ _ hlt]
      exact hf i (by simpa using hi)
  have hBe : Below w.heap.size w (W.alloc (.cells #[.slice (some ⟨w.heap.size, 0, none⟩) (2 ^ b) (2 ^ b)] 59)) := hB.alloc hB.size _
  have HE := Lib.hid (show RefNew b w (.returned (.pointer (some ⟨W.heap.size, 0, none⟩))) (W.alloc (.cells #[.slice (some ⟨w.heap.size, 0, none⟩) (2 ^ b) (2 ^ b)] 59)) from ⟨_, _, rfl, hBe, hend, hB.size, Nat.le_refl _⟩)
  clear hend hc hf hB hM hBe
  generalize 2 ^ b = M at *
  go_enter Tryd.func12, Tryd.ntmps12
  go_wp2
  go_ret
  exact HE.out
/-- It returned v; the order was drawn, no more. -/
def Drawn (v : Value) (w : World) (e : Ending) (w' : World) : Prop := e = .returned v ∧ ∃ n, w' = w.drewN n
set_option maxRecDepth 100000 in
set_option maxHeartbeats 2000000 in
theorem ref_bits_any {P A b : Nat} {l : List UInt8} {w : World} (hS : RSk P A b l w) :
    Calls Tryd.prog 23 #[.pointer (some ⟨P, 0, none⟩)] w (Drawn (.int .i64 b) w) := by
  have lo := hS.lo
  have hi := hS.hi
  have hp := hS.ptr
  have hM := pow_hi lo hi
  have HPW := Lib.hid (show ∀ n, n ≤ b → IntKind.i64.wrap ((2 : Int) ^ n) = ((2 ^ n : Nat) : Int) ∧ (n < b → 2 ^ n < 2 ^ b) from fun n hn => by
    have h1 : 2 ^ n ≤ 2 ^ b := Nat.pow_le_pow_right (by decide) hn
    refine ⟨?_, fun h => Nat.pow_lt_pow_right (by decide) h⟩
    rw [show (2 : Int) ^ n = ((2 ^ n : Nat) : Int) by push_cast; rfl]
    generalize 2 ^ n = z at *
    exact IntWalk.i64_in _ (by omega))
  obtain ⟨M, hMe⟩ : ∃ M, 2 ^ b = M := ⟨_, rfl⟩
  rw [hMe] at hp hM
  obtain ⟨hM1, hM2⟩ := hM
  have HME := Lib.hid hMe
  clear hS hMe
  go_enter Tryd.func23, Tryd.ntmps23
  go_wp2_with fail
  go_loopw [3] (fun i wx => ∃ n q : Nat, n ≤ b ∧ i = .int .i64 n ∧ wx = w.drewN q) (fun i _ => b - (intOf i).toNat)
  case atStart => exact ⟨0, 0, Nat.zero_le _, rfl, rfl⟩
  case round =>
    obtain ⟨n, q, hn, rfl, rfl⟩ := hrel
    obtain ⟨hpw, hpl⟩ := HPW.out n hn
    rw [HME.out] at hpl
    have hpc : (w.drewN q).cell? ⟨P, 0, none⟩ = some (.slice (some ⟨A, 0, none⟩) M M) := hp
    by_cases hlt : n < b
    · have hpl2 := hpl hlt
      clear hpl
      generalize 2 ^ n = z at *
      have hz : (z : Int) < (M : Int) := by omega
      go_wp2_with fail
      go_quiet (fail)
      go_wp2
      exact ⟨⟨n + 1, q + nq, by omega, by go_num, rfl⟩, by simp [intOf]; omega⟩
    · obtain rfl : n = b := by omega
      rw [HME.out] at hpw
      clear hpl
      have hz : ¬ (M : Int) < (M : Int) := by omega
      go_wp2_with fail
      go_quiet (fail)
      go_wp2
      go_ret
      exact ⟨rfl, q + nq, World.drewN_drewN _ _ _⟩
end Go.Proofs.YtdcjfefnkjdchaaDoor
