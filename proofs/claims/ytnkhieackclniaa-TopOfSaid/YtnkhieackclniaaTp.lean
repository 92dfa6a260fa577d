/- A top in memory: its room, and its items in a row of its own; what stays of it in later worlds. -/
import Derived.Test.YtnkhieackclniaaChecked
import Derived.Test.YtnkhieackclniaaCells
import Derived.Test.YtnkhieackclniaaTMath
import Derived.Laws.AppendOwn
import Derived.Laws.OwnMore
import Derived.WalkKit
import Derived.Below
import Derived.Lib.Hide
import Derived.Deep.Quiet
namespace Go.Proofs.Ytnkhieackclniaa
open Go Go.RowKit

/-- All but the blocks of S is as it was. -/
structure Mov (S : Nat → Prop) (w w' : World) : Prop where
  os : w'.os = w.os
  tape : w'.tape = w.tape
  output : w'.output = w.output
  size : w.heap.size ≤ w'.heap.size
  block : ∀ k, k < w.heap.size → ¬ S k → w'.heap[k]? = w.heap[k]?
section
variable {S T : Nat → Prop} {w w' a b c : World}
theorem Mov.refl (S : Nat → Prop) (w : World) : Mov S w w := ⟨rfl, rfl, rfl, Nat.le_refl _, fun _ _ _ => rfl⟩
theorem Mov.trans (h : Mov S a b) (k : Mov T b c) (hT : ∀ i, i < a.heap.size → T i → S i) : Mov S a c :=
  ⟨k.os.trans h.os, k.tape.trans h.tape, k.output.trans h.output, Nat.le_trans h.size k.size, fun i hi hn => (k.block i (Nat.lt_of_lt_of_le hi h.size) (fun ht => hn (hT i hi ht))).trans (h.block i hi hn)⟩
theorem Mov.of {N : Nat} (h : Below N w w') : Mov (fun k => N ≤ k) w w' := ⟨h.os, h.tape, h.output, h.size, fun k _ hn => h.block k (Nat.lt_of_not_le hn)⟩
theorem Mov.ofB (h : Below w.heap.size w w') : Mov S w w' := ⟨h.os, h.tape, h.output, h.size, fun k hk _ => h.block k hk⟩
theorem Mov.below {N : Nat} (h : Mov S w w') (hS : ∀ k, S k → N ≤ k) (hN : N ≤ w.heap.size) : Below N w w' :=
  ⟨h.os, h.tape, h.output, h.size, fun k hk => h.block k (by omega) (fun hs => by have := hS k hs; omega)⟩
theorem Mov.cell (h : Mov S w w') {k i : Nat} (hk : k < w.heap.size) (hn : ¬ S k) : w'.cell? ⟨k, i, none⟩ = w.cell? ⟨k, i, none⟩ := World.cell?_of_block (h.block k hk hn)
theorem Mov.frozen (h : Mov S w w') {k i : Nat} (hk : k < w.heap.size) (hn : ¬ S k) : w'.frozen? ⟨k, i, none⟩ = w.frozen? ⟨k, i, none⟩ := World.frozen?_of_block (h.block k hk hn)
theorem Mov.drew (h : Mov S a w) : Mov S a w.drew := ⟨h.os, h.tape, h.output, h.size, h.block⟩
theorem Mov.drewN (h : Mov S a w) (n : Nat) : Mov S a (w.drewN n) := ⟨h.os, h.tape, h.output, h.size, h.block⟩
theorem Mov.set (h : Mov S a w) {k : Nat} (hk : S k) (i : Nat) (v : Value) : Mov S a (w.setCell ⟨k, i, none⟩ v) :=
  ⟨h.os, h.tape, h.output, by have := h.size; simpa [World.setCell] using this, fun j hj hn => by rw [Below.heap_setCell _ _ _ _ (by intro e; subst e; exact hn hk)]; exact h.block j hj hn⟩
theorem Mov.row {base T size n : Nat} {v : Value} {xs : List Value} (h : Mov S w w') (hr : w.ownsRow base T size v n xs) (hn : ∀ g, v.ownBlock = some g → ¬ S g) : w'.ownsRow base T size v n xs := by
  refine ⟨hr.1, hr.2.imp id ?_⟩
  rintro ⟨g, cap, cur, rfl, hb, hg, rest⟩
  exact ⟨g, cap, cur, rfl, hb, by rw [h.block g (Array.getElem?_eq_some_iff.1 hg).1 (hn g rfl)]; exact hg, rest⟩
end

/-- An item's cells. -/
def encI (x : Itm) : List Value := [.string x.name, .int .u64 x.many, .int .u64 x.over]
/-- The cells of items, one behind the other. -/
def flat (l : List Itm) : List Value := l.flatMap encI
theorem flat_nil : flat [] = [] := rfl
theorem flat_cons (x : Itm) (l : List Itm) : flat (x :: l) = encI x ++ flat l := rfl
theorem flat_append (l m : List Itm) : flat (l ++ m) = flat l ++ flat m := by simp [flat]
theorem flat_length (l : List Itm) : (flat l).length = l.length * 3 := by
  induction l with
  | nil => rfl
  | cons x l ih => rw [flat_cons, List.length_append, ih, List.length_cons]; simp [encI]; omega
theorem flat_at : ∀ (l : List Itm) (i j : Nat), i < l.length → j < 3 → (flat l)[i * 3 + j]? = (encI l[i]!)[j]?
  | [], _, _, h, _ => absurd h (Nat.not_lt_zero _)
  | x :: l, 0, j, _, hj => by rw [flat_cons, Nat.zero_mul, Nat.zero_add, List.getElem?_append_left (by simpa [encI] using hj)]; rfl
  | x :: l, i + 1, j, h, hj => by
    rw [flat_cons, List.getElem?_append_right (by simp [encI]; omega), show (i + 1) * 3 + j - (encI x).length = i * 3 + j by simp [encI]; omega, show (x :: l)[i + 1]! = l[i]! by simp]
    exact flat_at l i j (by simpa using h) hj
theorem flat_inj {l m : List Itm} (h : l.length = m.length) (e : flat l = flat m) : l = m := by
  induction l generalizing m with
  | nil => cases m with | nil => rfl | cons y m => cases h
  | cons x l ih =>
    cases m with
    | nil => cases h
    | cons y m =>
      rw [flat_cons, flat_cons] at e
      obtain ⟨nx, mx, ox⟩ := x
      obtain ⟨ny, my, oy⟩ := y
      simp only [encI, List.cons_append, List.nil_append, List.cons.injEq, Value.string.injEq, Value.int.injEq, true_and] at e
      obtain ⟨rfl, e2, e3, e4⟩ := e
      obtain rfl : mx = my := by omega
      obtain rfl : ox = oy := by omega
      rw [ih (by simpa using h) e4]
theorem flat_one (x : Itm) : flat [x] = encI x := by simp [flat]
theorem flat_set : ∀ (l : List Itm) (i : Nat) (x : Itm), i < l.length → flat (l.set i x) = (((flat l).set (i * 3) (.string x.name)).set (i * 3 + 1) (.int .u64 x.many)).set (i * 3 + 2) (.int .u64 x.over)
  | [], _, _, h => absurd h (Nat.not_lt_zero _)
  | y :: l, 0, x, _ => by simp [flat_cons, encI]
  | y :: l, i + 1, x, h => by
    rw [List.set_cons_succ, flat_cons, flat_cons, flat_set l i x (by simpa using h)]
    rw [show (i + 1) * 3 = i * 3 + 3 by omega]
    simp [encI]
theorem oneCells (l : List Itm) : ∀ u ∈ flat l, u.oneCell' = true := by
  intro u hu
  obtain ⟨x, _, hx⟩ := List.mem_flatMap.1 hu
  simp [encI] at hx
  rcases hx with rfl | rfl | rfl <;> rfl

/-- Items in a row of the call's own. -/
def Its (base T : Nat) (v : Value) (l : List Itm) (w : World) : Prop := w.ownsRow base T 3 v l.length (flat l)
section
variable {base T B room : Nat} {v : Value} {l : List Itm} {w w' : World} {S : Nat → Prop}
theorem Its.mov (h : Its base T v l w) (hM : Mov S w w') (hn : ∀ g, v.ownBlock = some g → ¬ S g) : Its base T v l w' := hM.row h hn
theorem Its.lt (h : Its base T v l w) {g : Nat} (hg : v.ownBlock = some g) : base ≤ g ∧ g < w.heap.size := World.ownsRow.lt h g hg
theorem Its.below (h : Its base T v l w) (hB : Below w.heap.size w w') : Its base T v l w' := h.mov (Mov.of hB) fun g hg => by have := (h.lt hg).2; omega
theorem Its.drew (h : Its base T v l w) : Its base T v l w.drew := h
theorem Its.mono (h : Its base T v l w) {base' : Nat} (hb : base' ≤ base) : Its base' T v l w :=
  ⟨h.1, h.2.imp id fun ⟨g, cap, cur, e, hbb, rest⟩ => ⟨g, cap, cur, e, Nat.le_trans hb hbb, rest⟩⟩
theorem Its.nil (base T : Nat) (w : World) : Its base T (.slice none 0 0) [] w := World.ownsRow_nil w base T 3
/-- What a row of items is: a block, and its cells. -/
theorem Its.form (h : Its base T v l w) : (v = .slice none 0 0 ∧ l = []) ∨ ∃ g cap, v = .slice (some ⟨g, 0, none⟩) l.length cap ∧ base ≤ g ∧ g < w.heap.size ∧ l.length ≤ cap ∧ cap ≤ maxLen ∧
    (∀ i, i < l.length → w.cell? ⟨g, i * 3, none⟩ = some (.string l[i]!.name) ∧ w.cell? ⟨g, i * 3 + 1, none⟩ = some (.int .u64 l[i]!.many) ∧ w.cell? ⟨g, i * 3 + 2, none⟩ = some (.int .u64 l[i]!.over)) ∧
    (∀ j, w.frozen? ⟨g, j, none⟩ = false) := by
  rcases h.2 with ⟨h1, h2⟩ | ⟨g, cap, cur, hv, hb, hg, h1, h2, h3, h4⟩
  · exact .inl ⟨h1, List.eq_nil_of_length_eq_zero h2⟩
  · subst hv
    refine .inr ⟨g, cap, rfl, hb, (Array.getElem?_eq_some_iff.1 hg).1, h1, h2, fun i hi => ?_, fun j => World.ownsRow.frozenAt h j⟩
    have k0 := World.ownsRow.cellAt h (i * 3) (by omega)
    have k1 := World.ownsRow.cellAt h (i * 3 + 1) (by omega)
    have k2 := World.ownsRow.cellAt h (i * 3 + 2) (by omega)
    have e0 := flat_at l i 0 hi (by omega)
    rw [Nat.add_zero] at e0
    rw [e0] at k0
    rw [flat_at l i 1 hi (by omega)] at k1
    rw [flat_at l i 2 hi (by omega)] at k2
    exact ⟨k0, k1, k2⟩
theorem Its.form_pos (h : Its base T v l w) (hl : 0 < l.length) : ∃ g cap, v = .slice (some ⟨g, 0, none⟩) l.length cap ∧ base ≤ g ∧ g < w.heap.size ∧ l.length ≤ cap ∧ cap ≤ maxLen ∧
    (∀ i, i < l.length → w.cell? ⟨g, i * 3, none⟩ = some (.string l[i]!.name) ∧ w.cell? ⟨g, i * 3 + 1, none⟩ = some (.int .u64 l[i]!.many) ∧ w.cell? ⟨g, i * 3 + 2, none⟩ = some (.int .u64 l[i]!.over)) ∧
    (∀ j, w.frozen? ⟨g, j, none⟩ = false) := by
  rcases h.form with ⟨_, rfl⟩ | h
  · cases hl
  · exact h
theorem Its.cap (h : Its base T v l w) : ∃ p cap, v = .slice p l.length cap ∧ l.length ≤ cap ∧ cap ≤ maxLen := by
  rcases h.form with ⟨rfl, rfl⟩ | ⟨g, cap, rfl, _, _, h1, h2, _⟩
  · exact ⟨none, 0, rfl, Nat.le_refl _, Nat.zero_le _⟩
  · exact ⟨_, cap, rfl, h1, h2⟩

/-- Block B is a top of that room, with those items in row v. -/
structure Tp (base B room : Nat) (v : Value) (l : List Itm) (w : World) : Prop where
  lt : B < w.heap.size
  lo : base ≤ B
  inv : Inv room l
  c0 : w.cell? ⟨B, 0, none⟩ = some (.int .i64 room)
  c1 : w.cell? ⟨B, 1, none⟩ = some v
  f1 : w.frozen? ⟨B, 1, none⟩ = false
  row : Its base 51 v l w
  ne : v.ownBlock ≠ some B
theorem Tp.mov (h : Tp base B room v l w) (hM : Mov S w w') (hB : ¬ S B) (hn : ∀ g, v.ownBlock = some g → ¬ S g) : Tp base B room v l w' :=
  ⟨Nat.lt_of_lt_of_le h.lt hM.size, h.lo, h.inv, (hM.cell h.lt hB).trans h.c0, (hM.cell h.lt hB).trans h.c1, (hM.frozen h.lt hB).trans h.f1, h.row.mov hM hn, h.ne⟩
theorem Tp.below (h : Tp base B room v l w) (hB : Below w.heap.size w w') : Tp base B room v l w' :=
  h.mov (Mov.of hB) (by have := h.lt; omega) fun g hg => by have := (h.row.lt hg).2; omega
theorem Tp.belowOn (h : Tp base B room v l w) {N : Nat} (hB : Below N w w') (hN : w.heap.size ≤ N := by exact Nat.le_refl _) : Tp base B room v l w' :=
  h.mov (Mov.of hB) (by have := h.lt; omega) fun g hg => by have := (h.row.lt hg).2; omega
theorem Tp.drew (h : Tp base B room v l w) : Tp base B room v l w.drew := ⟨h.lt, h.lo, h.inv, h.c0, h.c1, h.f1, h.row, h.ne⟩
theorem Tp.drewN (h : Tp base B room v l w) (n : Nat) : Tp base B room v l (w.drewN n) := ⟨h.lt, h.lo, h.inv, h.c0, h.c1, h.f1, h.row, h.ne⟩
theorem Tp.mono (h : Tp base B room v l w) {base' : Nat} (hb : base' ≤ base) : Tp base' B room v l w := ⟨h.lt, Nat.le_trans hb h.lo, h.inv, h.c0, h.c1, h.f1, h.row.mono hb, h.ne⟩
end
theorem below_drewN {B : Nat} {a w : World} (h : Below B a w) (n : Nat) : Below B a (w.drewN n) := h.trans ⟨rfl, rfl, rfl, Nat.le_refl _, fun _ _ => rfl⟩
theorem below_on {B : Nat} {w a c : World} (h : Below B w a) (hC : Below a.heap.size a c) (h2 : B ≤ w.heap.size) : Below B w c := h.trans (hC.mono (Nat.le_trans h2 h.size))
theorem below_mov {B : Nat} {S : Nat → Prop} {w a c : World} (h : Below B w a) (hC : Mov S a c) (hS : ∀ k, S k → B ≤ k) (h2 : B ≤ w.heap.size) : Below B w c := h.trans (hC.below hS (Nat.le_trans h2 h.size))
/-- The blocks of a top. -/
def OwnT (B : Nat) (v : Value) (k : Nat) : Prop := k = B ∨ v.ownBlock = some k
end Go.Proofs.Ytnkhieackclniaa
