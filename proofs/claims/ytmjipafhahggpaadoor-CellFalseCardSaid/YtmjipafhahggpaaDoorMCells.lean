/- A block of known cells: what it holds in whatever later world; made, stored into, carried past other calls. -/
import Derived.Test.YtmjipafhahggpaaDoorChecked
import Derived.WalkKit
import Derived.Below
import Derived.Lib.Hide
namespace Go.Proofs.YtmjipafhahggpaaDoor
open Go Go.RowKit

/-- Block b holds the values vs, from its beginning on, and none is frozen. -/
structure CellsAt (b : Nat) (vs : Array Value) (w : World) : Prop where
  lt : b < w.heap.size
  cell : ∀ (i : Nat) (v : Value), vs[i]? = some v → w.cell? ⟨b, i, none⟩ = some v
  fro : ∀ (i : Nat) (v : Value), vs[i]? = some v → w.frozen? ⟨b, i, none⟩ = false

section
variable {b : Nat} {vs : Array Value} {w w' : World}
theorem CellsAt.drew (h : CellsAt b vs w) : CellsAt b vs w.drew := ⟨h.lt, h.cell, h.fro⟩
theorem CellsAt.below (h : CellsAt b vs w) (hB : Below w.heap.size w w') : CellsAt b vs w' :=
  ⟨Nat.lt_of_lt_of_le h.lt hB.size, fun i v hi => (hB.cell (p := ⟨b, i, none⟩) h.lt).trans (h.cell i v hi), fun i v hi => (hB.frozen (p := ⟨b, i, none⟩) h.lt).trans (h.fro i v hi)⟩
theorem CellsAt.belowAt (h : CellsAt b vs w) {B : Nat} (hB : Below B w w') (hb : b < B) : CellsAt b vs w' :=
  ⟨Nat.lt_of_lt_of_le h.lt hB.size, fun i v hi => (hB.cell (p := ⟨b, i, none⟩) hb).trans (h.cell i v hi), fun i v hi => (hB.frozen (p := ⟨b, i, none⟩) hb).trans (h.fro i v hi)⟩
theorem CellsAt.new (cs : Array Value) (t : TypeId) (w : World) : CellsAt w.heap.size cs (w.alloc (.cells cs t)) :=
  ⟨by simp, fun i v hi => by rw [World.cell?_alloc_new]; exact hi, fun i v hi => by rw [World.frozen?_alloc_new]⟩
theorem CellsAt.newAt (cs : Array Value) (t : TypeId) (w : World) (n : Nat) (hn : n = w.heap.size) : CellsAt n cs (w.alloc (.cells cs t)) := hn ▸ CellsAt.new cs t w
theorem CellsAt.past (h : CellsAt b vs w) (o : Obj) : CellsAt b vs (w.alloc o) :=
  ⟨by have := h.lt; simp; omega, fun i v hi => by rw [World.cell?_alloc_past _ _ _ h.lt]; exact h.cell i v hi, fun i v hi => by rw [World.frozen?_alloc_past _ _ _ h.lt]; exact h.fro i v hi⟩
theorem CellsAt.set (h : CellsAt b vs w) (i : Nat) (v : Value) (hi : i < vs.size) : CellsAt b (vs.setIfInBounds i v) (w.setCell ⟨b, i, none⟩ v) := by
  refine ⟨by have := h.lt; simpa using this, fun j u hj => ?_, fun j u hj => ?_⟩
  · by_cases hij : i = j
    · subst hij
      rw [Array.getElem?_setIfInBounds_self_of_lt hi] at hj
      cases hj
      exact World.cell?_setCell_same w ⟨b, i, none⟩ v (h.cell i vs[i] (by simp [hi]))
    · rw [Array.getElem?_setIfInBounds_ne hij] at hj
      rw [World.cell?_setCell_other (h := by simp)]
      exact h.cell j u hj
  · rw [World.frozen?_setCell]
    by_cases hij : i = j
    · subst hij
      exact h.fro i vs[i] (by simp [hi])
    · rw [Array.getElem?_setIfInBounds_ne hij] at hj
      exact h.fro j u hj
theorem CellsAt.other (h : CellsAt b vs w) (a : Addr) (v : Value) (ha : a.block ≠ b) : CellsAt b vs (w.setCell a v) := by
  refine ⟨by have := h.lt; simpa using this, fun j u hj => ?_, fun j u hj => ?_⟩
  · rw [World.cell?_setCell_other (h := by intro e; exact ha (by rw [e]))]
    exact h.cell j u hj
  · rw [World.frozen?_setCell]
    exact h.fro j u hj
end

theorem wp_gen {P : Program} {code : Code} {Q : Exit → Act → World → Prop} {act : Act} {w : World} (R : World → Prop)
    (hR : R w) (h : ∀ w', R w' → Code.wp P code Q act w') : Code.wp P code Q act w := h w hR
end Go.Proofs.YtmjipafhahggpaaDoor

