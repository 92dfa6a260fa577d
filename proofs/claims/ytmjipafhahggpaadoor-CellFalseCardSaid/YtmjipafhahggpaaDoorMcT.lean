/- Histograms in memory: bits, and items in a row of their own; what stays of it in later worlds. append onto a row of the call's own: where the row that comes of it lies; as a step of a list, and of a region that draws. Rows of bytes: a byte behind them, a number's bytes behind them; the text of them. A number of bytes: the program's and the chapter's. slices.Clone at the dump's items, off the library. -/
import Derived.Test.YtmjipafhahggpaaDoorChecked
import Derived.Test.YtmjipafhahggpaaDoorMCells
import Derived.Test.YtmjipafhahggpaaDoorMcH
import Derived.Test.YtmjipafhahggpaaDoorMcB
import Derived.Laws.AppendOwn
import Derived.Laws.OwnMore
import Derived.WalkKit
import Derived.Below
import Derived.Lib.Hide
import Derived.Deep.Quiet
import Derived.Deep.RegionLaw
import Derived.Deep.AppendLies
import Derived.Deep.LoopGhost
import Derived.IntWalk
import Derived.Laws.MakeOwn
import Derived.Lib.AppendZeros
import Derived.Laws.BitsAllLaws
import Derived.Shelf.SlicesE.Clone
import Derived.Test.YtmjipafhahggpaaDoorProg
namespace Go.Proofs.YtmjipafhahggpaaDoor.Hi
open Go Go.RowKit

/-- All but the blocks of S is as it was. -/
structure Mov (S : Nat → Prop) (w w' : World) : Prop where
  os : w'.os = w.os
  tape : w'.tape = w.tape
  output : w'.output = w.output
  size : w.heap.size ≤ w'.heap.size
  block : ∀ k, k < w.heap.size → ¬ S k → w'.heap[k]? = w.heap[k]?
section
variable {S T : Nat → Prop} {w w' a b c : World}
theorem Mov.refl (S : Nat → Prop) (w : World) : Mov S w w := ⟨rfl, rfl, rfl, Nat.le_refl _, fun _ _ _ => rfl⟩
theorem Mov.trans (h : Mov S a b) (k : Mov T b c) (hT : ∀ i, i < a.heap.size → T i → S i) : Mov S a c :=
  ⟨k.os.trans h.os, k.tape.trans h.tape, k.output.trans h.output, Nat.le_trans h.size k.size, fun i hi hn => (k.block i (Nat.lt_of_lt_of_le hi h.size) (fun ht => hn (hT i hi ht))).trans (h.block i hi hn)⟩
theorem Mov.of {N : Nat} (h : Below N w w') : Mov (fun k => N ≤ k) w w' := ⟨h.os, h.tape, h.output, h.size, fun k _ hn => h.block k (Nat.lt_of_not_le hn)⟩
theorem Mov.ofB (h : Below w.heap.size w w') : Mov S w w' := ⟨h.os, h.tape, h.output, h.size, fun k hk _ => h.block k hk⟩
theorem Mov.below {N : Nat} (h : Mov S w w') (hS : ∀ k, S k → N ≤ k) (hN : N ≤ w.heap.size) : Below N w w' :=
  ⟨h.os, h.tape, h.output, h.size, fun k hk => h.block k (by omega) (fun hs => by have := hS k hs; omega)⟩
theorem Mov.cell (h : Mov S w w') {k i : Nat} (hk : k < w.heap.size) (hn : ¬ S k) : w'.cell? ⟨k, i, none⟩ = w.cell? ⟨k, i, none⟩ := World.cell?_of_block (h.block k hk hn)
theorem Mov.frozen (h : Mov S w w') {k i : Nat} (hk : k < w.heap.size) (hn : ¬ S k) : w'.frozen? ⟨k, i, none⟩ = w.frozen? ⟨k, i, none⟩ := World.frozen?_of_block (h.block k hk hn)
theorem Mov.drew (h : Mov S a w) : Mov S a w.drew := ⟨h.os, h.tape, h.output, h.size, h.block⟩
theorem Mov.drewN (h : Mov S a w) (n : Nat) : Mov S a (w.drewN n) := ⟨h.os, h.tape, h.output, h.size, h.block⟩
theorem Mov.set (h : Mov S a w) {k : Nat} (hk : S k) (i : Nat) (v : Value) : Mov S a (w.setCell ⟨k, i, none⟩ v) :=
  ⟨h.os, h.tape, h.output, by have := h.size; simpa [World.setCell] using this, fun j hj hn => by rw [Below.heap_setCell _ _ _ _ (by intro e; subst e; exact hn hk)]; exact h.block j hj hn⟩
theorem Mov.setNew (h : Mov S a w) {k : Nat} (hk : a.heap.size ≤ k) (i : Nat) (v : Value) : Mov S a (w.setCell ⟨k, i, none⟩ v) :=
  ⟨h.os, h.tape, h.output, by have := h.size; simpa [World.setCell] using this, fun j hj hn => by rw [Below.heap_setCell _ _ _ _ (show j ≠ k by omega)]; exact h.block j hj hn⟩
theorem Mov.alloc (h : Mov S a w) (o : Obj) : Mov S a (w.alloc o) :=
  ⟨h.os, h.tape, h.output, by have := h.size; simp; omega, fun j hj hn => by rw [Below.heap_alloc _ _ _ (by have := h.size; omega)]; exact h.block j hj hn⟩
theorem Mov.row {base T size n : Nat} {v : Value} {xs : List Value} (h : Mov S w w') (hr : w.ownsRow base T size v n xs) (hn : ∀ g, v.ownBlock = some g → ¬ S g) : w'.ownsRow base T size v n xs := by
  refine ⟨hr.1, hr.2.imp id ?_⟩
  rintro ⟨g, cap, cur, rfl, hb, hg, rest⟩
  exact ⟨g, cap, cur, rfl, hb, by rw [h.block g (Array.getElem?_eq_some_iff.1 hg).1 (hn g rfl)]; exact hg, rest⟩
end

theorem _root_.Go.Proofs.YtmjipafhahggpaaDoor.CellsAt.mov {b : Nat} {vs : Array Value} {S : Nat → Prop} {w w' : World} (h : CellsAt b vs w) (hM : Mov S w w') (hb : ¬ S b) : CellsAt b vs w' :=
  ⟨Nat.lt_of_lt_of_le h.lt hM.size, fun i v hi => (hM.cell h.lt hb).trans (h.cell i v hi), fun i v hi => (hM.frozen h.lt hb).trans (h.fro i v hi)⟩
/-- An item's cells. -/
def encI (x : Hit) : List Value := [.int .i64 x.at_, .int .u64 x.many]
/-- The cells of items, one behind the other. -/
def flat (l : List Hit) : List Value := l.flatMap encI
theorem flat_nil : flat [] = [] := rfl
theorem flat_cons (x : Hit) (l : List Hit) : flat (x :: l) = encI x ++ flat l := rfl
theorem flat_append (l m : List Hit) : flat (l ++ m) = flat l ++ flat m := by simp [flat]
theorem flatv_length (l : List Hit) : (flat l).length = l.length * 2 := by
  induction l with
  | nil => rfl
  | cons x l ih => rw [flat_cons, List.length_append, ih, List.length_cons]; simp [encI]; omega
theorem flat_at : ∀ (l : List Hit) (i j : Nat), i < l.length → j < 2 → (flat l)[i * 2 + j]? = (encI l[i]!)[j]?
  | [], _, _, h, _ => absurd h (Nat.not_lt_zero _)
  | x :: l, 0, j, _, hj => by rw [flat_cons, Nat.zero_mul, Nat.zero_add, List.getElem?_append_left (by simpa [encI] using hj)]; rfl
  | x :: l, i + 1, j, h, hj => by
    rw [flat_cons, List.getElem?_append_right (by simp [encI]; omega), show (i + 1) * 2 + j - (encI x).length = i * 2 + j by simp [encI]; omega, show (x :: l)[i + 1]! = l[i]! by simp]
    exact flat_at l i j (by simpa using h) hj
theorem flat_one (x : Hit) : flat [x] = encI x := by simp [flat]
theorem flat_set : ∀ (l : List Hit) (i : Nat) (x : Hit), i < l.length → flat (l.set i x) = ((flat l).set (i * 2) (.int .i64 x.at_)).set (i * 2 + 1) (.int .u64 x.many)
  | [], _, _, h => absurd h (Nat.not_lt_zero _)
  | y :: l, 0, x, _ => by simp [flat_cons, encI]
  | y :: l, i + 1, x, h => by
    rw [List.set_cons_succ, flat_cons, flat_cons, flat_set l i x (by simpa using h)]
    rw [show (i + 1) * 2 = i * 2 + 2 by omega]
    simp [encI]
theorem flat_set_many : ∀ (l : List Hit) (i : Nat) (m : Nat), i < l.length → flat (l.set i ⟨l[i]!.at_, m⟩) = (flat l).set (i * 2 + 1) (.int .u64 m)
  | [], _, _, h => absurd h (Nat.not_lt_zero _)
  | y :: l, 0, x, _ => by simp [flat_cons, encI]
  | y :: l, i + 1, x, h => by
    rw [List.set_cons_succ, flat_cons, flat_cons, show (y :: l)[i + 1]! = l[i]! by simp, flat_set_many l i x (by simpa using h), show (i + 1) * 2 = i * 2 + 2 by omega]
    simp [encI]
theorem flat_take : ∀ (l : List Hit) (n : Nat), (flat l).take (n * 2) = flat (l.take n)
  | [], n => by simp [flat]
  | _ :: _, 0 => by simp [flat]
  | x :: l, n + 1 => by rw [List.take_succ_cons, flat_cons, flat_cons, ← flat_take l n, show (n + 1) * 2 = n * 2 + 2 by omega]; simp [encI]
theorem flat_drop : ∀ (l : List Hit) (n : Nat), (flat l).drop (n * 2) = flat (l.drop n)
  | [], n => by simp [flat]
  | _ :: _, 0 => by simp
  | x :: l, n + 1 => by rw [List.drop_succ_cons, flat_cons, ← flat_drop l n, show (n + 1) * 2 = n * 2 + 2 by omega]; simp [encI]
theorem oneCells (l : List Hit) : ∀ u ∈ flat l, u.oneCell' = true := by
  intro u hu
  obtain ⟨x, _, hx⟩ := List.mem_flatMap.1 hu
  simp [encI] at hx
  rcases hx with rfl | rfl <;> rfl

/-- Items in a row of the call's own. -/
def Its (base T : Nat) (v : Value) (l : List Hit) (w : World) : Prop := w.ownsRow base T 2 v l.length (flat l)
section
variable {base T B k : Nat} {v : Value} {l : List Hit} {w w' : World} {S : Nat → Prop}
theorem Its.mov (h : Its base T v l w) (hM : Mov S w w') (hn : ∀ g, v.ownBlock = some g → ¬ S g) : Its base T v l w' := hM.row h hn
theorem Its.lt (h : Its base T v l w) {g : Nat} (hg : v.ownBlock = some g) : base ≤ g ∧ g < w.heap.size := World.ownsRow.lt h g hg
theorem Its.below (h : Its base T v l w) (hB : Below w.heap.size w w') : Its base T v l w' := h.mov (Mov.of hB) fun g hg => by have := (h.lt hg).2; omega
theorem Its.drew (h : Its base T v l w) : Its base T v l w.drew := h
theorem Its.drewN (h : Its base T v l w) (n : Nat) : Its base T v l (w.drewN n) := h
theorem Its.mono (h : Its base T v l w) {base' : Nat} (hb : base' ≤ base) : Its base' T v l w :=
  ⟨h.1, h.2.imp id fun ⟨g, cap, cur, e, hbb, rest⟩ => ⟨g, cap, cur, e, Nat.le_trans hb hbb, rest⟩⟩
theorem Its.nil (base T : Nat) (w : World) : Its base T (.slice none 0 0) [] w := World.ownsRow_nil w base T 2
/-- What a row of items is: a block, and its cells. -/
theorem Its.form (h : Its base T v l w) : (v = .slice none 0 0 ∧ l = []) ∨ ∃ g cap, v = .slice (some ⟨g, 0, none⟩) l.length cap ∧ base ≤ g ∧ g < w.heap.size ∧ l.length ≤ cap ∧ cap ≤ maxLen ∧
    (∀ i, i < l.length → w.cell? ⟨g, i * 2, none⟩ = some (.int .i64 l[i]!.at_) ∧ w.cell? ⟨g, i * 2 + 1, none⟩ = some (.int .u64 l[i]!.many)) ∧
    (∀ j, w.frozen? ⟨g, j, none⟩ = false) := by
  rcases h.2 with ⟨h1, h2⟩ | ⟨g, cap, cur, hv, hb, hg, h1, h2, h3, h4⟩
  · exact .inl ⟨h1, List.eq_nil_of_length_eq_zero h2⟩
  · subst hv
    refine .inr ⟨g, cap, rfl, hb, (Array.getElem?_eq_some_iff.1 hg).1, h1, h2, fun i hi => ?_, fun j => World.ownsRow.frozenAt h j⟩
    have k0 := World.ownsRow.cellAt h (i * 2) (by omega)
    have k1 := World.ownsRow.cellAt h (i * 2 + 1) (by omega)
    have e0 := flat_at l i 0 hi (by omega)
    rw [Nat.add_zero] at e0
    rw [e0] at k0
    rw [flat_at l i 1 hi (by omega)] at k1
    exact ⟨k0, k1⟩
theorem Its.form_pos (h : Its base T v l w) (hl : 0 < l.length) : ∃ g cap, v = .slice (some ⟨g, 0, none⟩) l.length cap ∧ base ≤ g ∧ g < w.heap.size ∧ l.length ≤ cap ∧ cap ≤ maxLen ∧
    (∀ i, i < l.length → w.cell? ⟨g, i * 2, none⟩ = some (.int .i64 l[i]!.at_) ∧ w.cell? ⟨g, i * 2 + 1, none⟩ = some (.int .u64 l[i]!.many)) ∧
    (∀ j, w.frozen? ⟨g, j, none⟩ = false) := by
  rcases h.form with ⟨_, rfl⟩ | h
  · cases hl
  · exact h
theorem Its.cap (h : Its base T v l w) : ∃ p cap, v = .slice p l.length cap ∧ l.length ≤ cap ∧ cap ≤ maxLen := by
  rcases h.form with ⟨rfl, rfl⟩ | ⟨g, cap, rfl, _, _, h1, h2, _⟩
  · exact ⟨none, 0, rfl, Nat.le_refl _, Nat.zero_le _⟩
  · exact ⟨_, cap, rfl, h1, h2⟩
theorem Its.store {base T g n cap : Nat} {l l' : List Hit} {w : World} (h : Its base T (.slice (some ⟨g, 0, none⟩) n cap) l w) (hn : n = l.length) (j : Nat) (u : Value) (hl : l'.length = l.length) (hf : flat l' = (flat l).set j u) :
    Its base T (.slice (some ⟨g, 0, none⟩) n cap) l' (w.setCell ⟨g, j, none⟩ u) := by
  subst hn
  unfold Its at *
  rw [hl, hf]
  exact (World.ownsRow.stored h j u).1

/-- Block B is a histogram of bits k, with those items in row v. -/
structure Hs (base T B k : Nat) (v : Value) (l : List Hit) (w : World) : Prop where
  lt : B < w.heap.size
  lo : base ≤ B
  inv : Inv k l
  c0 : w.cell? ⟨B, 0, none⟩ = some (.int .i64 k)
  c1 : w.cell? ⟨B, 1, none⟩ = some v
  f1 : w.frozen? ⟨B, 1, none⟩ = false
  row : Its base T v l w
  ne : v.ownBlock ≠ some B
theorem Hs.mov (h : Hs base T B k v l w) (hM : Mov S w w') (hB : ¬ S B) (hn : ∀ g, v.ownBlock = some g → ¬ S g) : Hs base T B k v l w' :=
  ⟨Nat.lt_of_lt_of_le h.lt hM.size, h.lo, h.inv, (hM.cell h.lt hB).trans h.c0, (hM.cell h.lt hB).trans h.c1, (hM.frozen h.lt hB).trans h.f1, h.row.mov hM hn, h.ne⟩
theorem Hs.below (h : Hs base T B k v l w) (hB : Below w.heap.size w w') : Hs base T B k v l w' :=
  h.mov (Mov.of hB) (by have := h.lt; omega) fun g hg => by have := (h.row.lt hg).2; omega
theorem Hs.belowOn (h : Hs base T B k v l w) {N : Nat} (hB : Below N w w') (hN : w.heap.size ≤ N := by exact Nat.le_refl _) : Hs base T B k v l w' :=
  h.mov (Mov.of hB) (by have := h.lt; omega) fun g hg => by have := (h.row.lt hg).2; omega
theorem Hs.drew (h : Hs base T B k v l w) : Hs base T B k v l w.drew := ⟨h.lt, h.lo, h.inv, h.c0, h.c1, h.f1, h.row, h.ne⟩
theorem Hs.drewN (h : Hs base T B k v l w) (n : Nat) : Hs base T B k v l (w.drewN n) := ⟨h.lt, h.lo, h.inv, h.c0, h.c1, h.f1, h.row, h.ne⟩
theorem Hs.mono (h : Hs base T B k v l w) {base' : Nat} (hb : base' ≤ base) : Hs base' T B k v l w := ⟨h.lt, Nat.le_trans hb h.lo, h.inv, h.c0, h.c1, h.f1, h.row.mono hb, h.ne⟩
end
theorem below_drewN' {B : Nat} {a w : World} (h : Below B a w) (n : Nat) : Below B a (w.drewN n) := h.trans ⟨rfl, rfl, rfl, Nat.le_refl _, fun _ _ => rfl⟩
theorem below_mov {B : Nat} {S : Nat → Prop} {w a c : World} (h : Below B w a) (hC : Mov S a c) (hS : ∀ k, S k → B ≤ k) (h2 : B ≤ w.heap.size) : Below B w c := h.trans (hC.below hS (Nat.le_trans h2 h.size))
/-- The blocks of a histogram. -/
def OwnT (B : Nat) (v : Value) (k : Nat) : Prop := k = B ∨ v.ownBlock = some k
/-- What a change leaves. -/
def Left (base T B k : Nat) (v : Value) (l' : List Hit) (code : Value) (w : World) (e : Ending) (w' : World) : Prop :=
  e = .returned code ∧ ∃ v', Hs base T B k v' l' w' ∧ Mov (OwnT B v) w w' ∧ ∀ g, v'.ownBlock = some g → v.ownBlock = some g ∨ w.heap.size ≤ g
theorem Left.same {base T B k : Nat} {v : Value} {l : List Hit} {code : Value} {w w' : World} (h : Hs base T B k v l w) (hB : Below w.heap.size w w') : Left base T B k v l code w (.returned code) w' :=
  ⟨rfl, v, h.below hB, Mov.ofB hB, fun _ hg => .inl hg⟩
theorem Hs.rebuild {base T B k : Nat} {v : Value} {l l' : List Hit} {w w' : World} (h : Hs base T B k v l w) (hM : Mov (fun k => v.ownBlock = some k) w w') (hI : Inv k l') (hr : Its base T v l' w') : Hs base T B k v l' w' :=
  ⟨Nat.lt_of_lt_of_le h.lt hM.size, h.lo, hI, (hM.cell h.lt h.ne).trans h.c0, (hM.cell h.lt h.ne).trans h.c1, (hM.frozen h.lt h.ne).trans h.f1, hr, h.ne⟩
theorem Hs.stored {base T B k : Nat} {v v' : Value} {l l' : List Hit} {w w1 : World} (h : Hs base T B k v l w) (hM : Mov (fun k => v.ownBlock = some k) w w1) (hr : Its base T v' l' w1)
    (hat : ∀ g, v'.ownBlock = some g → v.ownBlock = some g ∨ w.heap.size ≤ g) (hI : Inv k l') : Hs base T B k v' l' (w1.setCell ⟨B, 1, none⟩ v') ∧ Mov (OwnT B v) w (w1.setCell ⟨B, 1, none⟩ v') := by
  have hne : v'.ownBlock ≠ some B := fun e => by
    rcases hat B e with e | e
    · exact h.ne e
    · have := h.lt; omega
  have hS : Mov (fun k => k = B) w1 (w1.setCell ⟨B, 1, none⟩ v') := (Mov.refl (fun k => k = B) w1).set rfl 1 v'
  refine ⟨⟨by have := Nat.lt_of_lt_of_le h.lt hM.size; simpa using this, h.lo, hI, ?_, ?_, ?_, hr.mov hS (fun g hg e => hne (e ▸ hg)), hne⟩, Mov.trans (S := OwnT B v) (T := OwnT B v) ⟨hM.os, hM.tape, hM.output, hM.size, fun k hk hn => hM.block k hk (fun e => hn (.inr e))⟩ ⟨hS.os, hS.tape, hS.output, hS.size, fun k hk hn => hS.block k hk (fun e => hn (.inl e))⟩ fun _ _ hk => hk⟩
  · rw [World.cell?_setCell_other (h := by simp)]; exact (hM.cell h.lt h.ne).trans h.c0
  · exact World.cell?_setCell_same w1 ⟨B, 1, none⟩ _ ((hM.cell h.lt h.ne).trans h.c1)
  · rw [World.frozen?_setCell]; exact (hM.frozen h.lt h.ne).trans h.f1
/-- The row's field is another row. -/
theorem Hs.stored0 {base T B k : Nat} {v v' : Value} {l l' : List Hit} {w w1 : World} (h : Hs base T B k v l w) (hM : Mov (fun k => v.ownBlock = some k) w w1) (hr : Its base T v' l' w1)
    (hat : ∀ g, v'.ownBlock = some g → v.ownBlock = some g ∨ w.heap.size ≤ g) :
    B < (w1.setCell ⟨B, 1, none⟩ v').heap.size ∧ (w1.setCell ⟨B, 1, none⟩ v').cell? ⟨B, 0, none⟩ = some (.int .i64 k) ∧ (w1.setCell ⟨B, 1, none⟩ v').cell? ⟨B, 1, none⟩ = some v' ∧ (w1.setCell ⟨B, 1, none⟩ v').frozen? ⟨B, 1, none⟩ = false ∧
      Its base T v' l' (w1.setCell ⟨B, 1, none⟩ v') ∧ v'.ownBlock ≠ some B ∧ Mov (OwnT B v) w (w1.setCell ⟨B, 1, none⟩ v') := by
  have hne : v'.ownBlock ≠ some B := fun e => by
    rcases hat B e with e | e
    · exact h.ne e
    · have := h.lt; omega
  have hS : Mov (fun k => k = B) w1 (w1.setCell ⟨B, 1, none⟩ v') := (Mov.refl (fun k => k = B) w1).set rfl 1 v'
  refine ⟨by have := Nat.lt_of_lt_of_le h.lt hM.size; simpa using this, ?_, ?_, ?_, hr.mov hS (fun g hg e => hne (e ▸ hg)), hne, Mov.trans (S := OwnT B v) (T := OwnT B v) ⟨hM.os, hM.tape, hM.output, hM.size, fun k hk hn => hM.block k hk (fun e => hn (.inr e))⟩ ⟨hS.os, hS.tape, hS.output, hS.size, fun k hk hn => hS.block k hk (fun e => hn (.inl e))⟩ fun _ _ hk => hk⟩
  · rw [World.cell?_setCell_other (h := by simp)]; exact (hM.cell h.lt h.ne).trans h.c0
  · exact World.cell?_setCell_same w1 ⟨B, 1, none⟩ _ ((hM.cell h.lt h.ne).trans h.c1)
  · rw [World.frozen?_setCell]; exact (hM.frozen h.lt h.ne).trans h.f1
end Go.Proofs.YtmjipafhahggpaaDoor.Hi

namespace Go.Proofs.YtmjipafhahggpaaDoor.Hi
open Go Go.RowKit

section
variable {P : Program} (w : World)
theorem run_append_at (base : Nat) (t ty e : TypeId) (i : TypeInfo) (z : Value) (size bytes : Nat) (ht : P.underlying t = some (.slice e)) (hi : P.info? e = some i) (hz : i.zero = some z)
    (hsize : i.size = size) (hby : i.bytes = bytes) (hzs : z.cells.size = size) (hsz : 0 < size)
    (v : Value) (n : Nat) (xs : List Value) (hown : w.ownsRow base e size v n xs)
    (a : Addr) (m c : Nat) (news : List Value) (hl : news.length = m * size) (hnews : ∀ j u, news[j]? = some u → w.cell? (a.add j) = some u) (h1 : ∀ u ∈ news, u.oneCell' = true)
    (h63 : n + m ≤ maxLen) (hbytes : (n + m) * bytes ≤ 140737488355328) (hbase : base ≤ w.heap.size) :
    ∃ v' w', (Builtin.append_ #[t, t] ty #[v, .slice (some a) m c]).run P w = .ok v' w' ∧ w'.ownsRow base e size v' (n + m) (xs ++ news) ∧ w.grownBy w' v.ownBlock ∧
      ∀ g, v'.ownBlock = some g → v.ownBlock = some g ∨ w.heap.size ≤ g := by
  obtain ⟨v', w', hr, h2, h3, _⟩ := run_append_own w base t ty e i z size bytes ht hi hz hsize hby hzs hsz v n xs hown a m c news hl hnews h1 h63 hbytes hbase
  refine ⟨v', w', hr, h2, h3, fun g hg => ?_⟩
  rcases hown.2 with ⟨rfl, rfl⟩ | ⟨g', cap, cur, rfl, hbg, hgg, hnc, hcm, hcs, htake⟩
  · have hx : xs = [] := List.eq_nil_of_length_eq_zero (by simpa using hown.1)
    subst hx
    obtain ⟨v2, w2, hr2, k2, _, _⟩ := run_append_own w w.heap.size t ty e i z size bytes ht hi hz hsize hby hzs hsz (.slice none 0 0) 0 [] (World.ownsRow_nil w _ e size) a m c news hl hnews h1 h63 hbytes (Nat.le_refl _)
    rw [hr] at hr2
    simp only [Result.ok.injEq] at hr2
    obtain ⟨rfl, rfl⟩ := hr2
    exact .inr (k2.lt g hg).1
  · by_cases hroom : n + m ≤ cap
    · subst hsize
      have hfit : n * i.size + news.length ≤ cur.size := by rw [hl, hcs, ← Nat.add_mul]; exact Nat.mul_le_mul_right _ hroom
      have hr2 := run_append_room (P := P) w t ty e i ht hi g' n cap cur hgg a m c news hl hnews h1 hroom hfit
      rw [hr] at hr2
      simp only [Result.ok.injEq] at hr2
      obtain ⟨rfl, rfl⟩ := hr2
      exact .inl hg
    · obtain ⟨v2, w2, hr2, k2, _⟩ := run_append_arg_grows (P := P) w t ty e i z size bytes ht hi hz hsize hby hzs hsz ⟨g', 0, none⟩ n cap xs hown.1 (hown.cells (g := g') rfl) a m c news hl hnews (by omega) h63 hbytes
      rw [hr] at hr2
      simp only [Result.ok.injEq] at hr2
      obtain ⟨rfl, rfl⟩ := hr2
      exact .inr (k2.lt g hg).1
theorem wp_append_at {o : Oper} {a : Act} {K : Act → World → Prop} {Q : Exit → Act → World → Prop} (s x : Operand) (t : TypeId)
    (ho : o.op = .call { callee := .builtin .append, args := #[s, x], argTypes := #[t, t] })
    (base : Nat) (e : TypeId) (i : TypeInfo) (z : Value) (size bytes : Nat) (ht : P.underlying t = some (.slice e)) (hi : P.info? e = some i) (hz : i.zero = some z)
    (hsize : i.size = size) (hby : i.bytes = bytes) (hzs : z.cells.size = size) (hsz : 0 < size)
    (v : Value) (n : Nat) (xs : List Value) (hs : a.eval s = v) (hown : w.ownsRow base e size v n xs)
    (ad : Addr) (m c : Nat) (news : List Value) (hx : a.eval x = .slice (some ad) m c) (hl : news.length = m * size) (hnews : ∀ j u, news[j]? = some u → w.cell? (ad.add j) = some u) (h1 : ∀ u ∈ news, u.oneCell' = true)
    (h63 : n + m ≤ maxLen) (hbytes : (n + m) * bytes ≤ 140737488355328) (hbase : base ≤ w.heap.size)
    (h : ∀ v' w', w'.ownsRow base e size v' (n + m) (xs ++ news) → w.grownBy w' v.ownBlock → (∀ g, v'.ownBlock = some g → v.ownBlock = some g ∨ w.heap.size ≤ g) → K (a.put o.dst v') w') : o.wp P a w K Q := by
  obtain ⟨v', w', hr, h2, h3, h4⟩ := run_append_at (P := P) w base t o.type e i z size bytes ht hi hz hsize hby hzs hsz v n xs hown ad m c news hl hnews h1 h63 hbytes hbase
  unfold Oper.wp execOp
  simp only [ho, resolve, invoke, builtin, Sem.run_bind, Sem.run_pure, Result.andThen_ok, List.map_toArray, List.map_cons, List.map_nil, hs, hx, hr]
  exact h v' w' h2 h3 h4
theorem wpList_append_at {ops : Array Oper} {rest : List Oper} {o : Oper} {a : Act} {Q : Exit → Act → World → Prop} (hgd : o.guard = none) (s x : Operand) (t : TypeId)
    (ho : o.op = .call { callee := .builtin .append, args := #[s, x], argTypes := #[t, t] })
    (base : Nat) (e : TypeId) (i : TypeInfo) (z : Value) (size bytes : Nat) (ht : P.underlying t = some (.slice e)) (hi : P.info? e = some i) (hz : i.zero = some z)
    (hsize : i.size = size) (hby : i.bytes = bytes) (hzs : z.cells.size = size) (hsz : 0 < size)
    (v : Value) (n : Nat) (xs : List Value) (hs : a.eval s = v) (hown : w.ownsRow base e size v n xs)
    (ad : Addr) (m c : Nat) (news : List Value) (hx : a.eval x = .slice (some ad) m c) (hl : news.length = m * size) (hnews : ∀ j u, news[j]? = some u → w.cell? (ad.add j) = some u) (h1 : ∀ u ∈ news, u.oneCell' = true)
    (h63 : n + m ≤ maxLen) (hbytes : (n + m) * bytes ≤ 140737488355328) (hbase : base ≤ w.heap.size)
    (h : ∀ v' w', w'.ownsRow base e size v' (n + m) (xs ++ news) → w.grownBy w' v.ownBlock → (∀ g, v'.ownBlock = some g → v.ownBlock = some g ∨ w.heap.size ≤ g) → wpList P ops Q rest (a.put o.dst v') w') : wpList P ops Q (o :: rest) a w :=
  wpList_plain hgd fun _ hK => wp_append_at w s x t ho base e i z size bytes ht hi hz hsize hby hzs hsz v n xs hs hown ad m c news hx hl hnews h1 h63 hbytes hbase fun v' w' h2 h3 h4 => hK _ _ (h v' w' h2 h3 h4)
/-- append, as one step of a region that draws: the slice owns its row. -/
theorem step_append_at {ops : Array Oper} {o : Oper} {a : Act} {K : Act → World → Prop} {Q : Exit → Act → World → Prop} {E : Prop}
    (hg : o.guard = none) (s x : Operand) (t : TypeId) (hop : o.op = Op.call { callee := Callee.builtin Builtin.append, args := #[s, x], argTypes := #[t, t] })
    (base : Nat) (e : TypeId) (i : TypeInfo) (z : Value) (size bytes : Nat) (ht : P.underlying t = some (.slice e)) (hi : P.info? e = some i) (hz : i.zero = some z)
    (hsize : i.size = size) (hby : i.bytes = bytes) (hzs : z.cells.size = size) (hsz : 0 < size)
    (v : Value) (n : Nat) (xs : List Value) (hs : a.eval s = v) (hown : w.ownsRow base e size v n xs)
    (ad : Addr) (m c : Nat) (news : List Value) (hx : a.eval x = .slice (some ad) m c) (hl : news.length = m * size) (hnews : ∀ j u, news[j]? = some u → w.cell? (ad.add j) = some u) (h1 : ∀ u ∈ news, u.oneCell' = true)
    (h63 : n + m ≤ maxLen) (hbytes : (n + m) * bytes ≤ 140737488355328) (hbase : base ≤ w.heap.size)
    (hK : ∀ v' w', w'.ownsRow base e size v' (n + m) (xs ++ news) → w.grownBy w' v.ownBlock → (∀ g, v'.ownBlock = some g → v.ownBlock = some g ∨ w.heap.size ≤ g) → K (a.put o.dst v') w') :
    if Region.wanted o (yielded ops a.tmps) = true then Oper.wp P o a w K Q else E := by
  have hw : Region.wanted o (yielded ops a.tmps) = true := by simp [Region.wanted, hg]
  rw [if_pos hw]
  exact wp_append_at w s x t hop base e i z size bytes ht hi hz hsize hby hzs hsz v n xs hs hown ad m c news hx hl hnews h1 h63 hbytes hbase fun v' w' h2 h3 h4 => hK v' w' h2 h3 h4
end
theorem new_row (cs : List Value) (t : TypeId) (w : World) : ∀ j u, cs[j]? = some u → (w.alloc (.cells cs.toArray t)).cell? ((⟨w.heap.size, 0, none⟩ : Addr).add j) = some u := fun j u hj => by
  rw [Addr.add_lit, Nat.zero_add]
  exact (CellsAt.new cs.toArray t w).cell j u (by simpa using hj)
theorem Mov.grown {w w' : World} {v : Value} (h : w.grownBy w' v.ownBlock) : Mov (fun k => v.ownBlock = some k) w w' := ⟨h.os, h.tape, h.output, h.size, fun k hk hn => h.block k hk (fun e => hn e.symm)⟩
theorem its_append {base T : Nat} {v' : Value} {l : List Hit} {x : Hit} {w : World} (h : w.ownsRow base T 2 v' (l.length + 1) (flat l ++ [.int .i64 x.at_, .int .u64 x.many])) : Its base T v' (l ++ [x]) w := by
  unfold Its
  rw [flat_append, flat_one, List.length_append]
  exact h
theorem own_shape {base T n size : Nat} {v' : Value} {xs : List Value} {w : World} (h : w.ownsRow base T size v' (n + 1) xs) : ∃ g cap, v' = .slice (some ⟨g, 0, none⟩) (n + 1) cap := by
  rcases h.2 with ⟨_, h0⟩ | ⟨g, cap, _, e, _⟩
  · omega
  · exact ⟨g, cap, e⟩
theorem one_cells (x : Hit) : ∀ u ∈ [Value.int .i64 x.at_, .int .u64 x.many], u.oneCell' = true := by
  intro u hu
  simp at hu
  rcases hu with rfl | rfl <;> rfl
end Go.Proofs.YtmjipafhahggpaaDoor.Hi

namespace Go.Proofs.YtmjipafhahggpaaDoor.Hi
open Go Go.RowKit

def tx (l : List UInt8) : ByteArray := ⟨l.toArray⟩
theorem tx_size (l : List UInt8) : (tx l).size = l.length := by simp [tx, ByteArray.size]
theorem info_u8 : (Tryd.prog.info? 5).map (fun i => (i.zero, i.size, i.bytes)) = some (some (.int .u8 0), 1, 1) := by kernel_rfl
def u8s (l : List UInt8) : List Value := l.map fun x => Value.int .u8 (x.toNat : Int)
theorem u8s_append (l m : List UInt8) : u8s (l ++ m) = u8s l ++ u8s m := List.map_append
/-- A slice of bytes that lies in a block from B on. -/
def OwnB (B : Nat) (v : Value) (l : List UInt8) (w : World) : Prop := w.ownsRow B 5 1 v l.length (u8s l)
theorem OwnB.nil (B : Nat) (w : World) : OwnB B (.slice none 0 0) [] w := World.ownsRow_nil _ _ _ _
theorem OwnB.mov {B : Nat} {v : Value} {l : List UInt8} {w w' : World} {S : Nat → Prop} (h : OwnB B v l w) (hM : Mov S w w') (hn : ∀ g, v.ownBlock = some g → ¬ S g) : OwnB B v l w' := hM.row h hn
theorem OwnB.lt {B : Nat} {v : Value} {l : List UInt8} {w : World} (h : OwnB B v l w) {g : Nat} (hg : v.ownBlock = some g) : B ≤ g ∧ g < w.heap.size := World.ownsRow.lt h g hg
theorem OwnB.below {B : Nat} {v : Value} {l : List UInt8} {w w' : World} (h : OwnB B v l w) (hB : Below w.heap.size w w') : OwnB B v l w' := h.mov (Mov.of hB) fun g hg => by have := (h.lt hg).2; omega
theorem own_back {B : Nat} {v : Value} {l : List UInt8} {w : World} (h : OwnB B v l w) (hpos : 0 < l.length) : (convert 81 9 v).run Tryd.prog w = .ok (.string (tx l)) w := by
  rcases h.2 with ⟨rfl, h0⟩ | ⟨g, cap, cur, rfl, hb, hg, hn, hm, _, _⟩
  · omega
  · have hh := run_convert_bytes_back (P := Tryd.prog) w 81 9 5 ⟨g, 0, none⟩ cap l Tryd.underlying81 Tryd.underlying5 Tryd.underlying9 (fun j hj => by
      rw [Addr.add_lit, Nat.zero_add, World.ownsRow.cellAt h j (by omega)]
      unfold u8s
      rw [List.getElem?_map, List.getElem?_eq_getElem hj]
      rfl)
    exact hh
/-- What a row of bytes with others behind it is. -/
def Grew (B : Nat) (v : Value) (l : List UInt8) (w : World) (v' : Value) (w' : World) : Prop :=
  OwnB B v' l w' ∧ Mov (fun j => v.ownBlock = some j) w w' ∧ ∀ g, v'.ownBlock = some g → v.ownBlock = some g ∨ w.heap.size ≤ g
theorem Grew.refl {B : Nat} {v : Value} {l : List UInt8} {w : World} (h : OwnB B v l w) : Grew B v l w v w := ⟨h, Mov.refl _ _, fun _ hg => .inl hg⟩
theorem Grew.trans {B : Nat} {v v' v'' : Value} {l m : List UInt8} {w w' w'' : World} (h : Grew B v l w v' w') (k : Grew B v' m w' v'' w'') : Grew B v m w v'' w'' :=
  ⟨k.1, h.2.1.trans k.2.1 (fun i hi hT => by
    rcases h.2.2 i hT with e | e
    · exact e
    · omega), fun g hg => by
    rcases k.2.2 g hg with e | e
    · exact h.2.2 g e
    · exact .inr (Nat.le_trans h.2.1.size e)⟩
theorem Grew.past {B : Nat} {v v' : Value} {l : List UInt8} {w w' w'' : World} (h : Grew B v l w v' w') (hB : Below w'.heap.size w' w'') : Grew B v l w v' w'' :=
  h.trans ⟨h.1.below hB, Mov.ofB hB, fun _ hg => .inl hg⟩
theorem Grew.below {B N : Nat} {v v' : Value} {l : List UInt8} {w w' : World} (h : Grew B v l w v' w') (hv : ∀ g, v.ownBlock = some g → N ≤ g) (hN : N ≤ w.heap.size) : Below N w w' := h.2.1.below hv hN
/-- append of one byte. -/
theorem append_byte {B : Nat} {v : Value} {l : List UInt8} {w : World} (ty : TypeId) (hO : OwnB B v l w) (x : UInt8) (hlen : l.length + 1 ≤ 1000000) (hB : B ≤ w.heap.size) :
    ∃ v' w', (Builtin.append_ #[81, 81] ty #[v, .slice (some ⟨w.heap.size, 0, none⟩) 1 1]).run Tryd.prog (w.alloc (.cells #[.int .u8 (x.toNat : Int)] 5)) = .ok v' w' ∧ Grew B v (l ++ [x]) w v' w' := by
  obtain ⟨i, hi, hz0, hz1, hz2⟩ := info_parts info_u8
  obtain ⟨v', w', h1, h2, h3, h4⟩ := run_append_at (P := Tryd.prog) (w.alloc (.cells #[.int .u8 (x.toNat : Int)] 5)) B 81 ty 5 i (.int .u8 0) 1 1 Tryd.underlying81 hi hz0 hz1 hz2 rfl (by decide) v l.length (u8s l) (World.ownsRow.alloc hO _) ⟨w.heap.size, 0, none⟩ 1 1 (u8s [x]) (by simp [u8s]) (new_row (u8s [x]) 5 w)
    (fun u hu => by obtain ⟨y, _, rfl⟩ := List.mem_map.1 hu; rfl) (by unfold maxLen; omega) (by omega) (by simp; omega)
  refine ⟨v', w', h1, ?_, ((Mov.refl _ _).alloc _).trans (Mov.grown h3) (fun _ _ h => h), fun g hg => (h4 g hg).imp id fun e => by simp at e; omega⟩
  unfold OwnB
  rw [List.length_append, u8s_append]
  exact h2
theorem byte_eq (n m : Nat) : ((UInt8.ofNat (n / 256 ^ m)).toNat : Int) = (n : Int) / 2 ^ (8 * m) % 256 := by
  rw [UInt8.toNat_ofNat']
  have e : ((2 : Int) ^ (8 * m)) = ((256 ^ m : Nat) : Int) := by rw [Int.natCast_pow, Int.pow_mul]; rfl
  rw [e]
  omega
set_option maxRecDepth 100000 in
set_option maxHeartbeats 4000000 in
/-- A number's bytes behind a row. -/
theorem putnumber_any {B c n : Nat} {v : Value} {L : List UInt8} {w : World} (hO : OwnB B v L w) (hB : B ≤ w.heap.size) (hL : L.length ≤ 900000) (hc : c ≤ 8) (_ : n < 18446744073709551616) :
    Calls Tryd.prog 46 #[v, .int .i64 c, .int .u64 n] w fun e w' => ∃ v', e = .returned v' ∧ Grew B v (L ++ be c n) w v' w' := by
  have G0 := Lib.hid (Grew.refl hO)
  clear hO
  go_enter Tryd.func46, Tryd.ntmps46
  go_wp2
  go_loopg [0, 7] c (fun g s0 s7 wx => s7 = .int .i64 ((g : Int) - 1) ∧ g ≤ c ∧ ∃ A, A ++ be g n = be c n ∧ Hid (Grew B v (L ++ A) w s0 wx))
  case atStart => exact ⟨rfl, Nat.le_refl _, [], rfl, by simpa using G0⟩
  case round =>
    clear G0
    obtain ⟨rfl, hgc, A, hA, HG⟩ := hrel
    cases gk with
    | zero =>
      simp only [be, List.append_nil] at hA
      have HA := Lib.hid hA
      clear hA
      rw [show ((0 : Nat) : Int) - 1 = -1 from rfl]
      go_wp2
      go_ret
      exact ⟨_, rfl, by rw [← HA.out]; exact HG.out⟩
    | succ g =>
      have e7 : ((g + 1 : Nat) : Int) - 1 = (g : Int) := by omega
      rw [e7]
      have hAl : (L ++ A).length + 1 ≤ 1000000 := by
        have h1 := congrArg List.length hA
        rw [List.length_append, be_length, be_length] at h1
        rw [List.length_append]
        omega
      have HA := Lib.hid hA
      have hs := HG.out.2.1.size
      obtain ⟨v', w', hr, hG'⟩ := append_byte 81 HG.out.1 (UInt8.ofNat (n / 256 ^ g)) hAl (Nat.le_trans hB hs)
      have HG' := Lib.hid (HG.out.trans hG')
      rw [byte_eq] at hr
      obtain ⟨j, hj⟩ : ∃ j, 8 * g = j := ⟨_, rfl⟩
      rw [hj] at hr
      have hkj : (8 : Int) * (g : Int) = (j : Int) := by omega
      have hj64 : j < 64 := by omega
      clear hG' HG hA hAl hs e7 hj
      go_wp2_with (at_builtin; refine Lib.wpList_append_run _ rfl _ _ _ _ rfl _ _ rfl rfl _ _ hr ?_)
      go_roundg g
      case measure => omega
      case rel =>
        refine ⟨by go_num, by omega, A ++ [UInt8.ofNat (n / 256 ^ g)], ?_, ?_⟩
        · rw [← HA.out, List.append_assoc]; rfl
        · rw [← List.append_assoc]; exact HG'
end Go.Proofs.YtmjipafhahggpaaDoor.Hi

namespace Go.Proofs.YtmjipafhahggpaaDoor.Hi
open Go Go.RowKit
theorem or_byteN (n : Nat) (c : UInt8) (h1 : n < 72057594037927936) : bits .or .u64 ((n : Int) * 256) (IntKind.u64.wrap (c.toNat : Int)) = ((n * 256 + c.toNat : Nat) : Int) := by
  have hc : c.toNat < 2 ^ 8 := c.toNat_lt
  have e : (n : Int) * 256 = ((2 ^ 8 * n : Nat) : Int) := by omega
  have e2 : IntKind.u64.wrap (c.toNat : Int) = (c.toNat : Int) := by rw [IntKind.wrap_u64]; omega
  rw [e, e2, u64_or_nat _ _ (by omega) (by omega), ← Nat.two_pow_add_eq_or_of_lt hc]
  omega
theorem num_take {l : List UInt8} {k : Nat} (h : k < l.length) : numB (l.take (k + 1)) = numB (l.take k) * 256 + l[k].toNat := by
  rw [List.take_add_one, List.getElem?_eq_getElem h]
  exact numB_snoc _ _
theorem num_small (l : List UInt8) (k : Nat) (h : k ≤ 6) : numB (l.take k) < 72057594037927936 := by
  have h1 := numB_lt (l.take k)
  have h2 : (l.take k).length ≤ 6 := by rw [List.length_take]; omega
  have h3 : 256 ^ (l.take k).length ≤ 256 ^ 6 := Nat.pow_le_pow_right (by omega) h2
  omega
set_option maxRecDepth 100000 in
set_option maxHeartbeats 4000000 in
theorem getnumber_any (s : ByteArray) (hs : s.size ≤ 7) (w : World) :
    Calls Tryd.prog 62 #[.string s] w fun e w' => e = .returned (.int .u64 (numB s.data.toList)) ∧ w = w' := by
  have hlen : s.data.toList.length = s.size := rfl
  have HT : Hid (∀ (k : Nat) (h : k < s.size), numB (s.data.toList.take (k + 1)) = numB (s.data.toList.take k) * 256 + (s[k]'h).toNat) := Lib.hid fun k h => num_take (l := s.data.toList) (k := k) h
  have hle := fun (k : Nat) (h : k ≤ 6) => num_small s.data.toList k h
  have HL := Lib.hid hle
  obtain ⟨N, hN⟩ : ∃ N, numB s.data.toList = N := ⟨_, rfl⟩
  have HN : Hid (numB (s.data.toList.take s.size) = N) := Lib.hid (by rw [List.take_of_length_le (Nat.le_of_eq hlen)]; exact hN)
  rw [hN]
  clear hN hle hlen
  obtain ⟨n, hn⟩ : ∃ n, s.size = n := ⟨_, rfl⟩
  go_enter Tryd.func62, Tryd.ntmps62
  go_wp2
  go_loopg [3, 7] n (fun g s3 s7 wx => ∃ k m : Nat, k + g = n ∧ s7 = .int .i64 k ∧ s3 = .int .u64 m ∧ Hid (numB (s.data.toList.take k) = m) ∧ w = wx)
  case atStart => exact ⟨0, 0, by omega, rfl, rfl, Lib.hid rfl, rfl⟩
  case round =>
    obtain ⟨k, m, hkg, rfl, rfl, HM, rfl⟩ := hrel
    cases gk with
    | zero =>
      obtain rfl : k = n := by omega
      have hmN : Hid (m = N) := Lib.hid (by rw [← HM.out, ← HN.out, hn])
      go_wp2
      go_ret
      exact ⟨by rw [← hmN.out]; rfl, rfl⟩
    | succ g =>
      have hk : k < s.size := by omega
      have hm7 : m < 72057594037927936 := by rw [← HM.out]; exact HL.out k (by omega)
      have hor := or_byteN m s[k] hm7
      have hT := HT.out k hk
      rw [HM.out] at hT
      have H2 : Hid (numB (s.data.toList.take (k + 1)) = m * 256 + s[k].toNat) := Lib.hid hT
      clear hT HM
      go_wp2
      go_roundg g
      case measure => omega
      case rel => exact ⟨k + 1, m * 256 + s[k].toNat, by omega, by go_num, by first | rfl | (rw [hor]), H2, rfl⟩
end Go.Proofs.YtmjipafhahggpaaDoor.Hi

namespace Go.Proofs.YtmjipafhahggpaaDoor.Hi
open Go Go.RowKit Go.Shelf
theorem info_item : (Tryd.prog.info? 66).map (fun i => (i.zero, i.size, i.bytes)) = some (some (.agg #[.int .i64 0, .int .u64 0]), 2, 16) := by
  kernel_rfl
end Go.Proofs.YtmjipafhahggpaaDoor.Hi

