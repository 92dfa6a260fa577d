/- A slice of bytes that is made; its text. -/
import Derived.Test.YtlocjhnlemlnmaaLbY
namespace Go.Proofs.Ytlocjhnlemlnmaa.Lx
open Go Go.RowKit

/-- A make of which the run is known. -/
theorem wpList_make_run {P : Program} {w w' : World} {ops : Array Oper} {rest : List Oper} {o : Oper} {a : Act} {Q : Exit → Act → World → Prop} (hg : o.guard = none) (l c : Operand) (t : TypeId) (hop : o.op = Op.makeSlice t l c)
    (x y v' : Value) (hl : a.eval l = x) (hc : a.eval c = y) (hrun : (Instr.makeSlice t x y).run P w = .ok v' w') (h : wpList P ops Q rest (a.put o.dst v') w') : wpList P ops Q (o :: rest) a w := by
  refine wpList_plain hg fun K hK' => ?_
  unfold Oper.wp
  simp [execOp, hop, hl, hc, hrun, Result.andThen]
  exact hK' _ _ h
/-- Block B begins with these bytes. -/
structure BytesAt (B : Nat) (l : List UInt8) (w : World) : Prop where
  lt : B < w.heap.size
  cell : ∀ i (h : i < l.length), w.cell? ⟨B, i, none⟩ = some (.int .u8 (l[i].toNat : Int))
  fro : ∀ i, i < l.length → w.frozen? ⟨B, i, none⟩ = false
theorem BytesAt.belowAt {B C : Nat} {l : List UInt8} {w w' : World} (h : BytesAt B l w) (hB : Below C w w') (hb : B < C) : BytesAt B l w' :=
  ⟨Nat.lt_of_lt_of_le h.lt hB.size, fun i hi => (hB.cell (p := ⟨B, i, none⟩) hb).trans (h.cell i hi), fun i hi => (hB.frozen (p := ⟨B, i, none⟩) hb).trans (h.fro i hi)⟩
theorem BytesAt.below {B : Nat} {l : List UInt8} {w w' : World} (h : BytesAt B l w) (hB : Below w.heap.size w w') : BytesAt B l w' := h.belowAt hB h.lt
theorem BytesAt.set {B : Nat} {l : List UInt8} {w : World} (h : BytesAt B l w) (i : Nat) (x : UInt8) (_hi : i < l.length) : BytesAt B (l.set i x) (w.setCell ⟨B, i, none⟩ (.int .u8 (x.toNat : Int))) := by
  refine ⟨by have := h.lt; simpa using this, fun j hj => ?_, fun j hj => ?_⟩
  · rw [List.length_set] at hj
    by_cases hij : i = j
    · subst hij
      rw [World.cell?_setCell_same (h := h.cell i hj)]
      simp
    · rw [World.cell?_setCell_other (h := by intro e; have := congrArg Addr.off e; simp at this; omega), List.getElem_set_ne hij]
      exact h.cell j hj
  · rw [World.frozen?_setCell]
    rw [List.length_set] at hj
    exact h.fro j hj
theorem make_u8 (n : Nat) (hn : n ≤ 1000000) (w : World) : ∃ w', (Instr.makeSlice 24 (.int .i64 n) (.int .i64 n)).run Try.prog w = .ok (.slice (some ⟨w.heap.size, 0, none⟩) n n) w' ∧ Below w.heap.size w w' ∧ BytesAt w.heap.size (List.replicate n 0) w' := by
  obtain ⟨i, hi, hz0, hz1, hz2⟩ := info_parts info_u8
  obtain ⟨w', h1, h2, h3⟩ := run_make_full (P := Try.prog) w w.heap.size 24 5 i (.int .u8 0) 1 Try.underlying24 hi hz0 hz1 .i64 .i64 n (by rw [hz2]; omega) (by unfold maxLen; omega) (Nat.le_refl _)
  have hc : ∀ j, j < n → (madeCells (Value.int .u8 0).cells (n * 1)).toList[j]? = some (.int .u8 0) := fun j hj => by
    simp [madeCells, Value.cells, Nat.mod_one, hj]
  refine ⟨w', h1, (Below.refl _ _).grown h3 (Nat.le_refl _) (fun k hk => by cases hk), ?_, fun j hj => ?_, fun j hj => World.ownsRow.frozenAt h2 j⟩
  · rcases h2.2 with ⟨h, _⟩ | ⟨g, cap, cur, h, _, hg, _⟩
    · cases h
    · cases h
      exact (Array.getElem?_eq_some_iff.1 hg).1
  · rw [List.length_replicate] at hj
    rw [World.ownsRow.cellAt h2 j (by omega), hc j hj]
    simp
theorem bytes_back {B : Nat} {l : List UInt8} {w : World} (h : BytesAt B l w) {n : Nat} (hn : l.length = n) (cap : Nat) :
    (convert 24 9 (.slice (some ⟨B, 0, none⟩) n cap)).run Try.prog w = .ok (.string (tx l)) w := by
  have hh := run_convert_bytes_back (P := Try.prog) w 24 9 5 ⟨B, 0, none⟩ cap l Try.underlying24 Try.underlying5 Try.underlying9 (fun j hj => by
    rw [addr_add, Nat.zero_add]
    exact h.cell j hj)
  rw [hn] at hh
  exact hh
end Go.Proofs.Ytlocjhnlemlnmaa.Lx
