/- A slice of bytes that is made; its text. What is parsed, by its error alone. -/
import Derived.Test.YtdmkiiggpelmaaaDoorLnH
namespace Go.Proofs.YtdmkiiggpelmaaaDoor.Lx
open Go Go.RowKit

/-- Block B begins with these bytes. -/
structure BytesAt (B : Nat) (l : List UInt8) (w : World) : Prop where
  lt : B < w.heap.size
  cell : ∀ i (h : i < l.length), w.cell? ⟨B, i, none⟩ = some (.int .u8 (l[i].toNat : Int))
  fro : ∀ i, i < l.length → w.frozen? ⟨B, i, none⟩ = false
theorem BytesAt.belowAt {B C : Nat} {l : List UInt8} {w w' : World} (h : BytesAt B l w) (hB : Below C w w') (hb : B < C) : BytesAt B l w' :=
  ⟨Nat.lt_of_lt_of_le h.lt hB.size, fun i hi => (hB.cell (p := ⟨B, i, none⟩) hb).trans (h.cell i hi), fun i hi => (hB.frozen (p := ⟨B, i, none⟩) hb).trans (h.fro i hi)⟩
theorem BytesAt.below {B : Nat} {l : List UInt8} {w w' : World} (h : BytesAt B l w) (hB : Below w.heap.size w w') : BytesAt B l w' := h.belowAt hB h.lt
theorem BytesAt.set {B : Nat} {l : List UInt8} {w : World} (h : BytesAt B l w) (i : Nat) (x : UInt8) (_hi : i < l.length) : BytesAt B (l.set i x) (w.setCell ⟨B, i, none⟩ (.int .u8 (x.toNat : Int))) := by
  refine ⟨by have := h.lt; simpa using this, fun j hj => ?_, fun j hj => ?_⟩
  · rw [List.length_set] at hj
    by_cases hij : i = j
    · subst hij
      rw [World.cell?_setCell_same (h := h.cell i hj)]
      simp
    · rw [World.cell?_setCell_other (h := by intro e; have := congrArg Addr.off e; simp at this; omega), List.getElem_set_ne hij]
      exact h.cell j hj
  · rw [World.frozen?_setCell]
    rw [List.length_set] at hj
    exact h.fro j hj
theorem make_u8 (n : Nat) (hn : n ≤ 1000000) (w : World) : ∃ w', (Instr.makeSlice 25 (.int .i64 n) (.int .i64 n)).run Tryd.prog w = .ok (.slice (some ⟨w.heap.size, 0, none⟩) n n) w' ∧ Below w.heap.size w w' ∧ BytesAt w.heap.size (List.replicate n 0) w' := by
  obtain ⟨i, hi, hz0, hz1, hz2⟩ := info_parts info_u8
  obtain ⟨w', h1, h2, h3⟩ := run_make_full (P := Tryd.prog) w w.heap.size 25 5 i (.int .u8 0) 1 Tryd.underlying25 hi hz0 hz1 .i64 .i64 n (by rw [hz2]; omega) (by unfold maxLen; omega) (Nat.le_refl _)
  have hc : ∀ j, j < n → (madeCells (Value.int .u8 0).cells (n * 1)).toList[j]? = some (.int .u8 0) := fun j hj => by
    simp [madeCells, Value.cells, Nat.mod_one, hj]
  refine ⟨w', h1, (Below.refl _ _).grown h3 (Nat.le_refl _) (fun k hk => by cases hk), ?_, fun j hj => ?_, fun j hj => World.ownsRow.frozenAt h2 j⟩
  · rcases h2.2 with ⟨h, _⟩ | ⟨g, cap, cur, h, _, hg, _⟩
    · cases h
    · cases h
      exact (Array.getElem?_eq_some_iff.1 hg).1
  · rw [List.length_replicate] at hj
    rw [World.ownsRow.cellAt h2 j (by omega), hc j hj]
    simp
theorem bytes_back {B : Nat} {l : List UInt8} {w : World} (h : BytesAt B l w) {n : Nat} (hn : l.length = n) (cap : Nat) :
    (convert 25 9 (.slice (some ⟨B, 0, none⟩) n cap)).run Tryd.prog w = .ok (.string (tx l)) w := by
  have hh := run_convert_bytes_back (P := Tryd.prog) w 25 9 5 ⟨B, 0, none⟩ cap l Tryd.underlying25 Tryd.underlying5 Tryd.underlying9 (fun j hj => by
    rw [Addr.add_lit, Nat.zero_add]
    exact h.cell j hj)
  rw [hn] at hh
  exact hh
/-- A row of one byte, as far as it has come. -/
def Fill (c : UInt8) (n i : Nat) (l : List UInt8) : Prop := l.length = n ∧ l.take i = List.replicate i c
theorem Fill.start (c : UInt8) (n : Nat) : Fill c n 0 (List.replicate n 0) := ⟨List.length_replicate, by simp⟩
theorem Fill.next {c : UInt8} {n i : Nat} {l : List UInt8} (h : Fill c n i l) (hi : i < n) : Fill c n (i + 1) (l.set i c) := by
  obtain ⟨h1, h2⟩ := h
  refine ⟨by rw [List.length_set]; exact h1, ?_⟩
  rw [List.take_succ_eq_append_getElem (by rw [List.length_set]; omega), List.getElem_set_self, List.take_set_of_le (Nat.le_refl _), h2, List.replicate_succ']
theorem Fill.done {c : UInt8} {n : Nat} {l : List UInt8} (h : Fill c n n l) : l = List.replicate n c := by
  have := h.2
  rwa [List.take_of_length_le (by rw [h.1]; exact Nat.le_refl _)] at this
/-- The error alone. -/
def errP : Except Int LineV → Int
  | .error k => k
  | .ok _ => 0
theorem parse_err (s : ByteArray) (hs : s.size ≤ maxLen) (w : World) :
    Calls Tryd.prog 15 #[.string s] w fun e w' => ∃ (n : ByteArray) (p : Option Addr) (m cap : Nat) (a b : Int), e = .returned (.tuple #[.agg #[.string n, .slice p m cap, .int .i64 a, .int .i64 b], .int .i64 (errP (parseP s.data.toList))]) ∧ Below w.heap.size w w' := by
  refine (parse_any s hs w).mono ?_
  intro e w' h
  cases hp : parseP s.data.toList with
  | error k =>
    rw [hp] at h
    obtain ⟨rfl, hB⟩ := h
    exact ⟨_, _, _, _, _, _, rfl, hB⟩
  | ok L =>
    rw [hp] at h
    obtain ⟨v, rfl, hO, hB⟩ := h
    obtain ⟨p, cap, rfl⟩ := hO.len
    exact ⟨_, _, _, _, _, _, rfl, hB⟩

def sL (n : Nat) : List UInt8 := 109 :: (List.replicate n [44, 97, 61, 98]).flatten
def labN (n : Nat) : List Lab := List.replicate n ([97], [98])
abbrev endL : List UInt8 := [32, 118, 97, 108, 117, 101, 61, 48, 32, 53]
theorem sL_next (n : Nat) : sL n ++ [44, 97, 61, 98] = sL (n + 1) := by
  unfold sL
  rw [List.replicate_succ', List.flatten_append]
  simp
theorem labN_next (n : Nat) : labN n ++ [([97], [98])] = labN (n + 1) := by unfold labN; rw [List.replicate_succ']
theorem sL_len (n : Nat) : (sL n).length = 1 + 4 * n := by
  induction n with
  | zero => rfl
  | succ n ih => rw [← sL_next, List.length_append, ih]; simp; omega
set_option maxRecDepth 100000 in
theorem lim_parse : ∀ n, n < 20 → errP (parseP (sL n ++ endL)) = if n ≤ 16 then 0 else 2 := by decide +kernel
set_option maxRecDepth 100000 in
theorem lim_name : ∀ k, k < 71 → 1 ≤ k → errP (parseP (List.replicate k 120 ++ endL)) = if k ≤ 64 then 0 else 2 := by decide +kernel
theorem tx_zero : textF 0 = [48] := by
  rw [text_body]
  unfold bodyF
  rw [show farF 0 / 1000000 = 0 from by decide, show farF 0 % 1000000 = 0 from by decide, Lib.decDigits_one (by decide)]
  decide +kernel
theorem print5 (n : List UInt8) (ls : List Lab) : printF ⟨n, ls, 0, 5⟩ = escL n ++ (ls.flatMap labelP ++ endL) := by
  unfold printF
  rw [tx_zero, show (5 : Int).toNat = 5 from rfl, Lib.decDigits_one (by decide)]
  rfl
set_option maxRecDepth 100000 in
theorem lim_right : ∀ n, n < 20 → rightF ⟨[109], labN n, 0, 5⟩ = decide (n ≤ 16) ∧ (escL [109] ++ ((labN n).flatMap labelP ++ endL)).length ≤ 1024 := by decide +kernel
set_option maxRecDepth 100000 in
theorem lim_right2 : ∀ k, k < 71 → 1 ≤ k → rightF ⟨List.replicate k 120, [], 0, 5⟩ = decide (k ≤ 64) ∧ (escL (List.replicate k 120) ++ ([].flatMap labelP ++ endL)).length ≤ 1024 := by decide +kernel
theorem lim_print {n : Nat} (h : n < 20) : printB ⟨[109], labN n, 0, 5⟩ = decide (n ≤ 16) := by
  obtain ⟨h1, h2⟩ := lim_right n h
  unfold printB
  rw [h1, print5, decide_eq_true h2, Bool.and_true]
theorem lim_print2 {k : Nat} (h : k < 71) (h0 : 1 ≤ k) : printB ⟨List.replicate k 120, [], 0, 5⟩ = decide (k ≤ 64) := by
  obtain ⟨h1, h2⟩ := lim_right2 k h h0
  unfold printB
  rw [h1, print5, decide_eq_true h2, Bool.and_true]
theorem lim_long (l m : List UInt8) (h : 1024 < l.length + m.length) : errP (parseP (l ++ m)) = 3 := by
  unfold parseP
  rw [if_pos (by rw [List.length_append]; exact h)]
  rfl
end Go.Proofs.YtdmkiiggpelmaaaDoor.Lx
