/- A sketch in memory: its bits, and its registers; what stays of it in later worlds. -/
import Derived.Test.YtdcjfefnkjdchaaDoorChecked
import Derived.Test.YtdcjfefnkjdchaaDoorCells
import Derived.WalkKit
import Derived.Below
import Derived.Lib.Hide
namespace Go.Proofs.YtdcjfefnkjdchaaDoor
open Go Go.RowKit

/-- All but block B is as it was. -/
structure Chg (B : Nat) (w w' : World) : Prop where
  os : w'.os = w.os
  tape : w'.tape = w.tape
  output : w'.output = w.output
  size : w.heap.size ≤ w'.heap.size
  block : ∀ k, k < w.heap.size → k ≠ B → w'.heap[k]? = w.heap[k]?
theorem Chg.refl (B : Nat) (w : World) : Chg B w w := ⟨rfl, rfl, rfl, Nat.le_refl _, fun _ _ _ => rfl⟩
theorem Chg.trans {B : Nat} {a b c : World} (h : Chg B a b) (k : Chg B b c) : Chg B a c :=
  ⟨k.os.trans h.os, k.tape.trans h.tape, k.output.trans h.output, Nat.le_trans h.size k.size, fun i hi hn => (k.block i (Nat.lt_of_lt_of_le hi h.size) hn).trans (h.block i hi hn)⟩
theorem Chg.of {B : Nat} {w w' : World} (h : Below w.heap.size w w') : Chg B w w' := ⟨h.os, h.tape, h.output, h.size, fun k hk _ => h.block k hk⟩
theorem Chg.drew {B : Nat} {a w : World} (h : Chg B a w) : Chg B a w.drew := ⟨h.os, h.tape, h.output, h.size, h.block⟩
theorem Chg.set {B : Nat} {a w : World} (h : Chg B a w) (i : Nat) (v : Value) : Chg B a (w.setCell ⟨B, i, none⟩ v) :=
  ⟨h.os, h.tape, h.output, by have := h.size; simpa [World.setCell] using this, fun k hk hn => by rw [Below.heap_setCell _ _ _ _ hn]; exact h.block k hk hn⟩
theorem Chg.below {B C : Nat} {w w' : World} (h : Chg B w w') (h1 : C ≤ B) (h2 : C ≤ w.heap.size) : Below C w w' :=
  ⟨h.os, h.tape, h.output, h.size, fun k hk => h.block k (by omega) (by omega)⟩
theorem Chg.cell {B : Nat} {w w' : World} (h : Chg B w w') {b i : Nat} (hb : b < w.heap.size) (hn : b ≠ B) : w'.cell? ⟨b, i, none⟩ = w.cell? ⟨b, i, none⟩ := by
  unfold World.cell?
  rw [h.block b hb hn]
theorem Chg.frozen {B : Nat} {w w' : World} (h : Chg B w w') {b i : Nat} (hb : b < w.heap.size) (hn : b ≠ B) : w'.frozen? ⟨b, i, none⟩ = w.frozen? ⟨b, i, none⟩ := by
  unfold World.frozen?
  rw [h.block b hb hn]

/-- Block B is a sketch of b bits, with registers l. -/
structure Sk (B b : Nat) (l : List UInt8) (w : World) : Prop where
  lt : B < w.heap.size
  lo : 4 ≤ b
  hi : b ≤ 10
  len : l.length = 2 ^ b
  bits : w.cell? ⟨B, 0, none⟩ = some (.int .i64 b)
  cell : ∀ i (h : i < l.length), w.cell? ⟨B, 1 + i, none⟩ = some (.int .u8 (l[i].toNat : Int))
  fro : ∀ i, i < l.length → w.frozen? ⟨B, 1 + i, none⟩ = false

section
variable {B b : Nat} {l : List UInt8} {w w' : World}
theorem Sk.drew (h : Sk B b l w) : Sk B b l w.drew := ⟨h.lt, h.lo, h.hi, h.len, h.bits, h.cell, h.fro⟩
theorem Sk.belowAt (h : Sk B b l w) {C : Nat} (hB : Below C w w') (hb : B < C) : Sk B b l w' :=
  ⟨Nat.lt_of_lt_of_le h.lt hB.size, h.lo, h.hi, h.len, (hB.cell (p := ⟨B, 0, none⟩) hb).trans h.bits, fun i hi => (hB.cell (p := ⟨B, 1 + i, none⟩) hb).trans (h.cell i hi), fun i hi => (hB.frozen (p := ⟨B, 1 + i, none⟩) hb).trans (h.fro i hi)⟩
theorem Sk.below (h : Sk B b l w) (hB : Below w.heap.size w w') : Sk B b l w' := h.belowAt hB h.lt
theorem Sk.chg (h : Sk B b l w) {C : Nat} (hC : Chg C w w') (hn : B ≠ C) : Sk B b l w' :=
  ⟨Nat.lt_of_lt_of_le h.lt hC.size, h.lo, h.hi, h.len, (hC.cell h.lt hn).trans h.bits, fun i hi => (hC.cell h.lt hn).trans (h.cell i hi), fun i hi => (hC.frozen h.lt hn).trans (h.fro i hi)⟩
theorem Sk.set (h : Sk B b l w) (i : Nat) (x : UInt8) (hi : i < l.length) : Sk B b (l.set i x) (w.setCell ⟨B, 1 + i, none⟩ (.int .u8 (x.toNat : Int))) := by
  refine ⟨by have := h.lt; simpa using this, h.lo, h.hi, by rw [List.length_set]; exact h.len, ?_, fun j hj => ?_, fun j hj => ?_⟩
  · rw [World.cell?_setCell_other (h := by intro e; have := congrArg Addr.off e; simp at this)]
    exact h.bits
  · rw [List.length_set] at hj
    by_cases hij : i = j
    · subst hij
      rw [World.cell?_setCell_same (h := h.cell i hj)]
      simp
    · rw [World.cell?_setCell_other (h := by intro e; have := congrArg Addr.off e; simp at this; omega), List.getElem_set_ne hij]
      exact h.cell j hj
  · rw [World.frozen?_setCell]
    rw [List.length_set] at hj
    exact h.fro j hj
end
end Go.Proofs.YtdcjfefnkjdchaaDoor
