/- Slices of bytes that come in, opened; numbers that come in. A slice of bytes that is made; its text. Names of one letter; how often each came. -/
import Derived.Test.YtcgkgdhbipbnfaaGreatDoorMtC
import Derived.Test.YtcgkgdhbipbnfaaGreatDoorLaw
import Derived.Stop.LaidErr
import Derived.Lib.SmallJoins
import Derived.ChangeArms
import Derived.ChangeSlices
import Derived.ChangeSame
import Derived.Lib.ConvBytes
import Derived.Lib.SliceRun
namespace Go.Proofs.YtcgkgdhbipbnfaaGreatDoor.Tq
open Go Go.RowKit

theorem addr_add (b o i : Nat) : (⟨b, o, none⟩ : Addr).add i = ⟨b, o + i, none⟩ := by unfold Addr.add; split <;> simp_all
theorem wf_u64 {a : Int} (h : (Lit.int .u64 a).wf = true) : ∃ n : Nat, a = n ∧ n < 18446744073709551616 := by
  have hx : 0 ≤ a ∧ a ≤ 18446744073709551615 := by simpa [Lit.wf, IntKind.min, IntKind.max, IntKind.signed, IntKind.bits] using h
  exact ⟨a.toNat, by omega, by omega⟩
theorem wf_i64 {n : Int} (h : (Lit.int .i64 n).wf = true) : -9223372036854775808 ≤ n ∧ n ≤ 9223372036854775807 := by
  simpa [Lit.wf, IntKind.min, IntKind.max, IntKind.signed, IntKind.bits] using h
theorem wf_u8 {a : Int} (h : (Lit.int .u8 a).wf = true) : ∃ n : Nat, a = n ∧ n < 256 := by
  have hx : 0 ≤ a ∧ a ≤ 255 := by simpa [Lit.wf, IntKind.min, IntKind.max, IntKind.signed, IntKind.bits] using h
  exact ⟨a.toNat, by omega, by omega⟩
theorem wf_u16 {a : Int} (h : (Lit.int .u16 a).wf = true) : ∃ n : Nat, a = n ∧ n < 65536 := by
  have hx : 0 ≤ a ∧ a ≤ 65535 := by simpa [Lit.wf, IntKind.min, IntKind.max, IntKind.signed, IntKind.bits] using h
  exact ⟨a.toNat, by omega, by omega⟩

/-- A slice of numbers below 256. -/
def Octs (p : Option Addr) (hs : List Nat) (w : World) : Prop :=
  ∀ k (h : k < hs.length), ∃ B off, p = some ⟨B, off, none⟩ ∧ B < w.heap.size ∧ w.cell? ⟨B, off + k, none⟩ = some (.int .u8 (hs[k] : Nat)) ∧ hs[k] < 256
theorem Octs.below {p : Option Addr} {hs : List Nat} {w w' : World} (h : Octs p hs w) (hB : Below w.heap.size w w') : Octs p hs w' := fun k hk => by
  obtain ⟨B, off, h1, h2, h3, h4⟩ := h k hk
  exact ⟨B, off, h1, Nat.lt_of_lt_of_le h2 hB.size, (hB.cell (p := ⟨B, off + k, none⟩) h2).trans h3, h4⟩
/-- A slice of integers that comes in: what its cells hold. -/
theorem ints_of {H : Type} {enc : TypeId × Value → H} {P : Program} {W : World} {spare : Nat → Bool} {held : Bool} {t e : TypeId} {k : IntKind} {v : Value} {d : DataW H} {ps : List MemPlace} (ht : P.underlying t = some (.slice e)) (he : P.underlying e = some (.int k)) (hc : P.cellsOf e = 1)
    (hv : ∃ p len cap, v = .slice p len cap) (h : DataW.Trod enc P W 0 spare held t v d ps) (hlt : ∀ x ∈ ps, x.block < W.heap.size) :
    ∃ (p : Option Addr) (len cap : Nat) (zs : List Int), v = .slice p len cap ∧ len ≤ cap ∧ cap ≤ maxLen ∧ len ≤ zs.length ∧ (p = none → cap = 0) ∧
      ∀ j, j < len → ∃ b off, p = some ⟨b, off, none⟩ ∧ b < W.heap.size ∧ W.cell? ⟨b, off + j, none⟩ = some (.int k (zs.getD j 0)) ∧ (Lit.int k (zs.getD j 0)).wf = true := by
  obtain ⟨p, len, cap, rfl⟩ := hv
  obtain ⟨fuel, hf⟩ := h
  rcases ChangeShapes.open_ints ht he hc hf with ⟨hcs, hx⟩ | ⟨a, len', cap', zs, hcs, _, hl, hm, hz, hx, hcell, hwz⟩
  · simp [Value.cells] at hcs
    obtain ⟨rfl, rfl, rfl⟩ := hcs
    exact ⟨none, 0, 0, [], rfl, Nat.le_refl _, Nat.zero_le _, Nat.zero_le _, fun _ => rfl, fun j hj => by omega⟩
  · simp [Value.cells] at hcs
    obtain ⟨rfl, rfl, rfl⟩ := hcs
    simp only [Prod.mk.injEq] at hx
    obtain ⟨rfl, rfl⟩ := hx
    have hzl : len ≤ zs.length := by rw [hz]; split <;> omega
    refine ⟨some a, len, cap, zs, rfl, hl, hm, hzl, fun h => by (cases h), fun j hj => ?_⟩
    obtain ⟨b, off, spot⟩ := a
    have hspot : spot = none := by simpa [Addr.add] using World.cell?_spot (hcell 0 (by omega))
    subst hspot
    refine ⟨b, off, rfl, ?_, ?_, ?_⟩
    · exact hlt (.cell b off) (MemPlace.mem_row.2 ⟨0, by omega, by simp⟩)
    · rw [← addr_add]; exact hcell j (by omega)
    · exact hwz _ (by rw [List.getD_eq_getElem?_getD, List.getElem?_eq_getElem (by omega)]; simp)
theorem octs_of {H : Type} {enc : TypeId × Value → H} {P : Program} {W : World} {spare : Nat → Bool} {held : Bool} {t e : TypeId} {v : Value} {d : DataW H} {ps : List MemPlace} (ht : P.underlying t = some (.slice e)) (he : P.underlying e = some (.int .u8)) (hc : P.cellsOf e = 1)
    (hv : ∃ p len cap, v = .slice p len cap) (h : DataW.Trod enc P W 0 spare held t v d ps) (hlt : ∀ x ∈ ps, x.block < W.heap.size) :
    ∃ (p : Option Addr) (hs : List Nat) (cap : Nat), v = .slice p hs.length cap ∧ hs.length ≤ cap ∧ cap ≤ maxLen ∧ Octs p hs W ∧ (p = none → cap = 0) := by
  obtain ⟨p, len, cap, zs, rfl, h1, h2, h3, hz, h4⟩ := ints_of ht he hc hv h hlt
  have hl : ((zs.take len).map Int.toNat).length = len := by rw [List.length_map, List.length_take]; omega
  refine ⟨p, (zs.take len).map Int.toNat, cap, by rw [hl], by rw [hl]; exact h1, h2, fun k hk => ?_, hz⟩
  rw [hl] at hk
  obtain ⟨b, off, g1, g2, g3, g4⟩ := h4 k hk
  have hx : 0 ≤ zs.getD k 0 ∧ zs.getD k 0 ≤ 255 := by simpa [Lit.wf, IntKind.min, IntKind.max, IntKind.signed, IntKind.bits] using g4
  have e : (((zs.take len).map Int.toNat)[k]'(by omega) : Nat) = (zs.getD k 0).toNat := by
    rw [List.getElem_map, List.getElem_take, List.getD_eq_getElem?_getD, List.getElem?_eq_getElem (by omega)]; rfl
  exact ⟨b, off, g1, g2, by rw [g3, e]; exact congrArg (fun n => some (Value.int .u8 n)) (by omega), by rw [e]; omega⟩
end Go.Proofs.YtcgkgdhbipbnfaaGreatDoor.Tq

namespace Go.Proofs.YtcgkgdhbipbnfaaGreatDoor.Tq
open Go Go.RowKit

/-- The text of bytes. -/
def tx (l : List UInt8) : ByteArray := ⟨l.toArray⟩
theorem tx_size (l : List UInt8) : (tx l).size = l.length := by simp [tx, ByteArray.size]
theorem info_u8 : (Tryz.prog.info? 5).map (fun i => (i.zero, i.size, i.bytes)) = some (some (.int .u8 0), 1, 1) := by kernel_rfl
/-- A make of which the run is known. -/
theorem wpList_make_run {P : Program} {w w' : World} {ops : Array Oper} {rest : List Oper} {o : Oper} {a : Act} {Q : Exit → Act → World → Prop} (hg : o.guard = none) (l c : Operand) (t : TypeId) (hop : o.op = Op.makeSlice t l c)
    (x y v' : Value) (hl : a.eval l = x) (hc : a.eval c = y) (hrun : (Instr.makeSlice t x y).run P w = .ok v' w') (h : wpList P ops Q rest (a.put o.dst v') w') : wpList P ops Q (o :: rest) a w := by
  refine wpList_plain hg fun K hK' => ?_
  unfold Oper.wp
  simp [execOp, hop, hl, hc, hrun, Result.andThen]
  exact hK' _ _ h
/-- Block B begins with these bytes. -/
structure BytesAt (B : Nat) (l : List UInt8) (w : World) : Prop where
  lt : B < w.heap.size
  cell : ∀ i (h : i < l.length), w.cell? ⟨B, i, none⟩ = some (.int .u8 (l[i].toNat : Int))
  fro : ∀ i, i < l.length → w.frozen? ⟨B, i, none⟩ = false
theorem BytesAt.belowAt {B C : Nat} {l : List UInt8} {w w' : World} (h : BytesAt B l w) (hB : Below C w w') (hb : B < C) : BytesAt B l w' :=
  ⟨Nat.lt_of_lt_of_le h.lt hB.size, fun i hi => (hB.cell (p := ⟨B, i, none⟩) hb).trans (h.cell i hi), fun i hi => (hB.frozen (p := ⟨B, i, none⟩) hb).trans (h.fro i hi)⟩
theorem BytesAt.below {B : Nat} {l : List UInt8} {w w' : World} (h : BytesAt B l w) (hB : Below w.heap.size w w') : BytesAt B l w' := h.belowAt hB h.lt
theorem BytesAt.set {B : Nat} {l : List UInt8} {w : World} (h : BytesAt B l w) (i : Nat) (x : UInt8) (_ : i < l.length) : BytesAt B (l.set i x) (w.setCell ⟨B, i, none⟩ (.int .u8 (x.toNat : Int))) := by
  refine ⟨by have := h.lt; simpa using this, fun j hj => ?_, fun j hj => ?_⟩
  · rw [List.length_set] at hj
    by_cases hij : i = j
    · subst hij
      rw [World.cell?_setCell_same (h := h.cell i hj)]
      simp
    · rw [World.cell?_setCell_other (h := by intro e; have := congrArg Addr.off e; simp at this; omega), List.getElem_set_ne hij]
      exact h.cell j hj
  · rw [World.frozen?_setCell]
    rw [List.length_set] at hj
    exact h.fro j hj
theorem make_u8 (n : Nat) (hn : n ≤ 1000000) (w : World) : ∃ w', (Instr.makeSlice 68 (.int .i64 n) (.int .i64 n)).run Tryz.prog w = .ok (.slice (some ⟨w.heap.size, 0, none⟩) n n) w' ∧ Below w.heap.size w w' ∧ BytesAt w.heap.size (List.replicate n 0) w' := by
  obtain ⟨i, hi, hz0, hz1, hz2⟩ := info_parts info_u8
  obtain ⟨w', h1, h2, h3⟩ := run_make_full (P := Tryz.prog) w w.heap.size 68 5 i (.int .u8 0) 1 Tryz.underlying68 hi hz0 hz1 .i64 .i64 n (by rw [hz2]; omega) (by unfold maxLen; omega) (Nat.le_refl _)
  have hc : ∀ j, j < n → (madeCells (Value.int .u8 0).cells (n * 1)).toList[j]? = some (.int .u8 0) := fun j hj => by
    simp [madeCells, Value.cells, Nat.mod_one, hj]
  refine ⟨w', h1, (Below.refl _ _).grown h3 (Nat.le_refl _) (fun k hk => by cases hk), ?_, fun j hj => ?_, fun j hj => World.ownsRow.frozenAt h2 j⟩
  · rcases h2.2 with ⟨h, _⟩ | ⟨g, cap, cur, h, _, hg, _⟩
    · cases h
    · cases h
      exact (Array.getElem?_eq_some_iff.1 hg).1
  · rw [List.length_replicate] at hj
    rw [World.ownsRow.cellAt h2 j (by omega), hc j hj]
    simp
theorem bytes_back {B : Nat} {l : List UInt8} {w : World} (h : BytesAt B l w) {n : Nat} (hn : l.length = n) (cap : Nat) :
    (convert 68 9 (.slice (some ⟨B, 0, none⟩) n cap)).run Tryz.prog w = .ok (.string (tx l)) w := by
  have hh := run_convert_bytes_back (P := Tryz.prog) w 68 9 5 ⟨B, 0, none⟩ cap l Tryz.underlying68 Tryz.underlying5 Tryz.underlying9 (fun j hj => by
    rw [addr_add, Nat.zero_add]
    exact h.cell j hj)
  rw [hn] at hh
  exact hh
end Go.Proofs.YtcgkgdhbipbnfaaGreatDoor.Tq

namespace Go.Proofs.YtcgkgdhbipbnfaaGreatDoor.Tq
open Go Go.RowKit

/-- A name of one byte. -/
def nmC (c : Nat) : ByteArray := tx [UInt8.ofNat c]
theorem nmC_size (c : Nat) : (nmC c).size = 1 := rfl
theorem nmC_inj {a b : Nat} (ha : a < 256) (hb : b < 256) (h : nmC a = nmC b) : a = b := by
  have h1 : UInt8.ofNat a = UInt8.ofNat b := by
    have := congrArg (fun s : ByteArray => s.data.toList) h
    simpa [nmC, tx] using this
  have h2 := congrArg UInt8.toNat h1
  rw [UInt8.toNat_ofNat', UInt8.toNat_ofNat'] at h2
  omega
theorem letter_back (c : Nat) (hc : c < 256) (w : World) (N : Nat) (hN : N = w.heap.size) :
    (convert 68 9 (.slice (some ⟨N, 0, none⟩) 1 1)).run Tryz.prog (w.alloc (.cells #[.int .u8 c] 5)) = .ok (.string (nmC c)) (w.alloc (.cells #[.int .u8 c] 5)) := by
  subst hN
  have hX := CellsAt.new #[.int .u8 c] 5 w
  have h8 : (UInt8.ofNat c).toNat = c := by rw [UInt8.toNat_ofNat']; omega
  have hB : BytesAt w.heap.size [UInt8.ofNat c] (w.alloc (.cells #[.int .u8 c] 5)) := ⟨hX.lt, fun i hi => by
    obtain rfl : i = 0 := by simpa using hi
    simp [h8], fun i hi => by
    obtain rfl : i = 0 := by simpa using hi
    exact hX.fro 0 (.int .u8 c) rfl⟩
  exact bytes_back hB rfl 1
/-- Block R holds how often each came. -/
structure CntAt (R n : Nat) (c : Nat → Nat) (w : World) : Prop where
  lt : R < w.heap.size
  cell : ∀ j, j < n → w.cell? ⟨R, j, none⟩ = some (.int .u64 (c j : Nat))
  fro : ∀ j, j < n → w.frozen? ⟨R, j, none⟩ = false
theorem CntAt.mov {R n : Nat} {c : Nat → Nat} {w w' : World} {S : Nat → Prop} (h : CntAt R n c w) (hM : Mov S w w') (hn : ¬ S R) : CntAt R n c w' :=
  ⟨Nat.lt_of_lt_of_le h.lt hM.size, fun j hj => (hM.cell h.lt hn).trans (h.cell j hj), fun j hj => (hM.frozen h.lt hn).trans (h.fro j hj)⟩
theorem CntAt.below {R n : Nat} {c : Nat → Nat} {w w' : World} (h : CntAt R n c w) (hB : Below w.heap.size w w') : CntAt R n c w' :=
  h.mov (Mov.of hB) (by have := h.lt; omega)
/-- One of them is another one. -/
def upd (c : Nat → Nat) (j x : Nat) (i : Nat) : Nat := if i = j then x else c i
theorem upd_same (c : Nat → Nat) (j x : Nat) : upd c j x j = x := by unfold upd; rw [if_pos rfl]
theorem upd_ne (c : Nat → Nat) {j i : Nat} (x : Nat) (h : i ≠ j) : upd c j x i = c i := by unfold upd; rw [if_neg h]
theorem CntAt.set {R n : Nat} {c : Nat → Nat} {w : World} (h : CntAt R n c w) (j x : Nat) (hj : j < n) : CntAt R n (upd c j x) (w.setCell ⟨R, j, none⟩ (.int .u64 x)) := by
  refine ⟨by have := h.lt; simpa using this, fun i hi => ?_, fun i hi => by rw [World.frozen?_setCell]; exact h.fro i hi⟩
  by_cases e : i = j
  · subst e
    rw [upd_same]
    exact World.cell?_setCell_same w ⟨R, i, none⟩ _ (h.cell i hi)
  · rw [upd_ne c x e, World.cell?_setCell_other (h := by intro he; have := congrArg Addr.off he; simp at this; omega)]
    exact h.cell i hi
theorem nodup_sub_len {α : Type} [DecidableEq α] : ∀ (l m : List α), l.Nodup → (∀ x ∈ l, x ∈ m) → l.length ≤ m.length
  | [], _, _, _ => Nat.zero_le _
  | a :: l, m, h, hs => by
    rw [List.nodup_cons] at h
    have ha := hs a (by simp)
    have := nodup_sub_len l (m.erase a) h.2 fun x hx => (List.mem_erase_of_ne (by rintro rfl; exact h.1 hx)).2 (hs x (by simp [hx]))
    rw [List.length_erase_of_mem ha] at this
    have hp : 0 < m.length := List.length_pos_of_mem ha
    rw [List.length_cons]
    omega
end Go.Proofs.YtcgkgdhbipbnfaaGreatDoor.Tq

