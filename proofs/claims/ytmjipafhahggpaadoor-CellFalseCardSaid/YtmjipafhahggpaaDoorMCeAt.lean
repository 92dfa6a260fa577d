/- Cells in memory: the program's, and the chapter's. -/
import Derived.Test.YtmjipafhahggpaaDoorMCeMath
import Derived.Test.YtmjipafhahggpaaDoorMcT
namespace Go.Proofs.YtmjipafhahggpaaDoor.Ce
open Go Go.RowKit Hi

/-- The blocks of a cell. -/
def Own (C B : Nat) (v : Value) (i : Nat) : Prop := i = C ∨ i = B ∨ v.ownBlock = some i
/-- Block C is a cell of the program, its histogram in block B, with those items in row v. -/
structure Ce (C B : Nat) (v : Value) (c : Cel) (w : World) : Prop where
  lt : C < w.heap.size
  c0 : w.cell? ⟨C, 0, none⟩ = some (.pointer (some ⟨B, 0, none⟩))
  c1 : w.cell? ⟨C, 1, none⟩ = some (.int .i64 c.frm)
  c2 : w.cell? ⟨C, 2, none⟩ = some (.int .i64 (Wi.shi c.sum))
  c3 : w.cell? ⟨C, 3, none⟩ = some (.int .u64 (Wi.slo c.sum))
  c4 : w.cell? ⟨C, 4, none⟩ = some (.int .i64 c.low)
  c5 : w.cell? ⟨C, 5, none⟩ = some (.int .i64 c.top)
  f : ∀ i, i < 6 → w.frozen? ⟨C, i, none⟩ = false
  hs : Hs 0 66 B c.k v c.its w
  ne : C ≠ B
  nv : v.ownBlock ≠ some C
  ok : c.Ok
theorem Ce.of {C B : Nat} {v : Value} {c : Cel} {w : World} (h : CellsAt C #[.pointer (some ⟨B, 0, none⟩), .int .i64 c.frm, .int .i64 (Wi.shi c.sum), .int .u64 (Wi.slo c.sum), .int .i64 c.low, .int .i64 c.top] w) (hs : Hs 0 66 B c.k v c.its w) (ne : C ≠ B) (nv : v.ownBlock ≠ some C) (ok : c.Ok) : Ce C B v c w :=
  ⟨h.lt, h.cell 0 _ rfl, h.cell 1 _ rfl, h.cell 2 _ rfl, h.cell 3 _ rfl, h.cell 4 _ rfl, h.cell 5 _ rfl, fun i hi => by
    have : i = 0 ∨ i = 1 ∨ i = 2 ∨ i = 3 ∨ i = 4 ∨ i = 5 := by omega
    rcases this with rfl | rfl | rfl | rfl | rfl | rfl <;> exact h.fro _ _ rfl, hs, ne, nv, ok⟩
theorem Ce.cells {C B : Nat} {v : Value} {c : Cel} {w : World} (h : Ce C B v c w) : CellsAt C #[.pointer (some ⟨B, 0, none⟩), .int .i64 c.frm, .int .i64 (Wi.shi c.sum), .int .u64 (Wi.slo c.sum), .int .i64 c.low, .int .i64 c.top] w := by
  have hi6 : ∀ (i : Nat) (u : Value), (#[.pointer (some ⟨B, 0, none⟩), .int .i64 c.frm, .int .i64 (Wi.shi c.sum), .int .u64 (Wi.slo c.sum), .int .i64 c.low, .int .i64 c.top] : Array Value)[i]? = some u → i < 6 := fun i u hu => by
    have := (Array.getElem?_eq_some_iff.1 hu).1
    simpa using this
  refine ⟨h.lt, fun i u hu => ?_, fun i u hu => h.f i (hi6 i u hu)⟩
  have h6 := hi6 i u hu
  have : i = 0 ∨ i = 1 ∨ i = 2 ∨ i = 3 ∨ i = 4 ∨ i = 5 := by omega
  rcases this with rfl | rfl | rfl | rfl | rfl | rfl <;> (cases hu)
  · exact h.c0
  · exact h.c1
  · exact h.c2
  · exact h.c3
  · exact h.c4
  · exact h.c5
theorem Ce.mov {C B : Nat} {v : Value} {c : Cel} {w w' : World} {T : Nat → Prop} (h : Ce C B v c w) (hM : Mov T w w') (hd : ∀ i, Own C B v i → ¬ T i) : Ce C B v c w' :=
  have hC := hd C (.inl rfl)
  ⟨Nat.lt_of_lt_of_le h.lt hM.size, (hM.cell h.lt hC).trans h.c0, (hM.cell h.lt hC).trans h.c1, (hM.cell h.lt hC).trans h.c2, (hM.cell h.lt hC).trans h.c3, (hM.cell h.lt hC).trans h.c4, (hM.cell h.lt hC).trans h.c5, fun i hi => (hM.frozen h.lt hC).trans (h.f i hi), h.hs.mov hM (hd B (.inr (.inl rfl))) (fun g hg => hd g (.inr (.inr hg))), h.ne, h.nv, h.ok⟩
theorem Ce.own {C B : Nat} {v : Value} {c : Cel} {w : World} (h : Ce C B v c w) : ∀ i, Own C B v i → i < w.heap.size := by
  rintro i (rfl | rfl | hg)
  · exact h.lt
  · exact h.hs.lt
  · exact (h.hs.row.lt hg).2
theorem Ce.below {C B : Nat} {v : Value} {c : Cel} {w w' : World} (h : Ce C B v c w) {N : Nat} (hB : Below N w w') (hN : w.heap.size ≤ N := by exact Nat.le_refl _) : Ce C B v c w' :=
  h.mov (Mov.of hB) fun i hi => by have := h.own i hi; omega
theorem Ce.drewN {C B : Nat} {v : Value} {c : Cel} {w : World} (h : Ce C B v c w) (n : Nat) : Ce C B v c (w.drewN n) :=
  ⟨h.lt, h.c0, h.c1, h.c2, h.c3, h.c4, h.c5, h.f, h.hs.drewN n, h.ne, h.nv, h.ok⟩
/-- The cell at block C, of the program, that holds all the blocks of S. -/
def At (S : Nat → Prop) (C : Nat) (c : Cel) (w : World) : Prop := ∃ B v, S = Own C B v ∧ Ce C B v c w
theorem At.mov {S T : Nat → Prop} {C : Nat} {c : Cel} {w w' : World} (h : At S C c w) (hM : Mov T w w') (hd : ∀ i, S i → ¬ T i) : At S C c w' := by
  obtain ⟨B, v, rfl, h⟩ := h
  exact ⟨B, v, rfl, h.mov hM hd⟩
theorem At.own {S : Nat → Prop} {C : Nat} {c : Cel} {w : World} (h : At S C c w) : ∀ i, S i → i < w.heap.size := by
  obtain ⟨B, v, rfl, h⟩ := h
  exact h.own
theorem At.ok {S : Nat → Prop} {C : Nat} {c : Cel} {w : World} (h : At S C c w) : c.Ok := by
  obtain ⟨B, v, rfl, h⟩ := h
  exact h.ok
theorem At.below {S : Nat → Prop} {C : Nat} {c : Cel} {w w' : World} (h : At S C c w) {N : Nat} (hB : Below N w w') (hN : w.heap.size ≤ N := by exact Nat.le_refl _) : At S C c w' :=
  h.mov (Mov.of hB) fun i hi => by have := h.own i hi; omega
theorem At.drewN {S : Nat → Prop} {C : Nat} {c : Cel} {w : World} (h : At S C c w) (n : Nat) : At S C c (w.drewN n) := by
  obtain ⟨B, v, rfl, h⟩ := h
  exact ⟨B, v, rfl, h.drewN n⟩
/-- What a change of a cell leaves. -/
def At.Turned (S : Nat → Prop) (C : Nat) (c : Cel) (code : Value) (w : World) (e : Ending) (w' : World) : Prop :=
  e = .returned code ∧ ∃ S', At S' C c w' ∧ Mov S w w' ∧ ∀ i, S' i → S i ∨ w.heap.size ≤ i
/-- A cell of its own, made behind all that there was. -/
def At.Made (c : Cel) (w : World) (C : Nat) (S : Nat → Prop) (w' : World) : Prop := At S C c w' ∧ (∀ i, S i → w.heap.size ≤ i) ∧ Below w.heap.size w w'
end Go.Proofs.YtmjipafhahggpaaDoor.Ce

