/- Histograms in memory: bits, and items in a row of their own; what stays of it in later worlds. -/
import Derived.Test.YtklklpccpbhfgaaChecked
import Derived.Test.YtklklpccpbhfgaaCells
import Derived.Test.YtklklpccpbhfgaaHiCut
import Derived.Test.YtklklpccpbhfgaaBBd
import Derived.Laws.AppendOwn
import Derived.Laws.OwnMore
import Derived.WalkKit
import Derived.Below
import Derived.Lib.Hide
import Derived.Deep.Quiet
namespace Go.Proofs.Ytklklpccpbhfgaa
open Go Go.RowKit

/-- All but the blocks of S is as it was. -/
structure Mov (S : Nat → Prop) (w w' : World) : Prop where
  os : w'.os = w.os
  tape : w'.tape = w.tape
  output : w'.output = w.output
  size : w.heap.size ≤ w'.heap.size
  block : ∀ k, k < w.heap.size → ¬ S k → w'.heap[k]? = w.heap[k]?
section
variable {S T : Nat → Prop} {w w' a b c : World}
theorem Mov.refl (S : Nat → Prop) (w : World) : Mov S w w := ⟨rfl, rfl, rfl, Nat.le_refl _, fun _ _ _ => rfl⟩
theorem Mov.trans (h : Mov S a b) (k : Mov T b c) (hT : ∀ i, i < a.heap.size → T i → S i) : Mov S a c :=
  ⟨k.os.trans h.os, k.tape.trans h.tape, k.output.trans h.output, Nat.le_trans h.size k.size, fun i hi hn => (k.block i (Nat.lt_of_lt_of_le hi h.size) (fun ht => hn (hT i hi ht))).trans (h.block i hi hn)⟩
theorem Mov.of {N : Nat} (h : Below N w w') : Mov (fun k => N ≤ k) w w' := ⟨h.os, h.tape, h.output, h.size, fun k _ hn => h.block k (Nat.lt_of_not_le hn)⟩
theorem Mov.ofB (h : Below w.heap.size w w') : Mov S w w' := ⟨h.os, h.tape, h.output, h.size, fun k hk _ => h.block k hk⟩
theorem Mov.below {N : Nat} (h : Mov S w w') (hS : ∀ k, S k → N ≤ k) (hN : N ≤ w.heap.size) : Below N w w' :=
  ⟨h.os, h.tape, h.output, h.size, fun k hk => h.block k (by omega) (fun hs => by have := hS k hs; omega)⟩
theorem Mov.cell (h : Mov S w w') {k i : Nat} (hk : k < w.heap.size) (hn : ¬ S k) : w'.cell? ⟨k, i, none⟩ = w.cell? ⟨k, i, none⟩ := World.cell?_of_block (h.block k hk hn)
theorem Mov.frozen (h : Mov S w w') {k i : Nat} (hk : k < w.heap.size) (hn : ¬ S k) : w'.frozen? ⟨k, i, none⟩ = w.frozen? ⟨k, i, none⟩ := World.frozen?_of_block (h.block k hk hn)
theorem Mov.drew (h : Mov S a w) : Mov S a w.drew := ⟨h.os, h.tape, h.output, h.size, h.block⟩
theorem Mov.drewN (h : Mov S a w) (n : Nat) : Mov S a (w.drewN n) := ⟨h.os, h.tape, h.output, h.size, h.block⟩
theorem Mov.set (h : Mov S a w) {k : Nat} (hk : S k) (i : Nat) (v : Value) : Mov S a (w.setCell ⟨k, i, none⟩ v) :=
  ⟨h.os, h.tape, h.output, by have := h.size; simpa [World.setCell] using this, fun j hj hn => by rw [Below.heap_setCell _ _ _ _ (by intro e; subst e; exact hn hk)]; exact h.block j hj hn⟩
theorem Mov.setNew (h : Mov S a w) {k : Nat} (hk : a.heap.size ≤ k) (i : Nat) (v : Value) : Mov S a (w.setCell ⟨k, i, none⟩ v) :=
  ⟨h.os, h.tape, h.output, by have := h.size; simpa [World.setCell] using this, fun j hj hn => by rw [Below.heap_setCell _ _ _ _ (show j ≠ k by omega)]; exact h.block j hj hn⟩
theorem Mov.alloc (h : Mov S a w) (o : Obj) : Mov S a (w.alloc o) :=
  ⟨h.os, h.tape, h.output, by have := h.size; simp; omega, fun j hj hn => by rw [Below.heap_alloc _ _ _ (by have := h.size; omega)]; exact h.block j hj hn⟩
theorem Mov.row {base T size n : Nat} {v : Value} {xs : List Value} (h : Mov S w w') (hr : w.ownsRow base T size v n xs) (hn : ∀ g, v.ownBlock = some g → ¬ S g) : w'.ownsRow base T size v n xs := by
  refine ⟨hr.1, hr.2.imp id ?_⟩
  rintro ⟨g, cap, cur, rfl, hb, hg, rest⟩
  exact ⟨g, cap, cur, rfl, hb, by rw [h.block g (Array.getElem?_eq_some_iff.1 hg).1 (hn g rfl)]; exact hg, rest⟩
end

theorem CellsAt.mov {b : Nat} {vs : Array Value} {S : Nat → Prop} {w w' : World} (h : CellsAt b vs w) (hM : Mov S w w') (hb : ¬ S b) : CellsAt b vs w' :=
  ⟨Nat.lt_of_lt_of_le h.lt hM.size, fun i v hi => (hM.cell h.lt hb).trans (h.cell i v hi), fun i v hi => (hM.frozen h.lt hb).trans (h.fro i v hi)⟩
/-- An item's cells. -/
def encI (x : Hit) : List Value := [.int .i64 x.at_, .int .u64 x.many]
/-- The cells of items, one behind the other. -/
def flat (l : List Hit) : List Value := l.flatMap encI
theorem flat_nil : flat [] = [] := rfl
theorem flat_cons (x : Hit) (l : List Hit) : flat (x :: l) = encI x ++ flat l := rfl
theorem flat_append (l m : List Hit) : flat (l ++ m) = flat l ++ flat m := by simp [flat]
theorem flatv_length (l : List Hit) : (flat l).length = l.length * 2 := by
  induction l with
  | nil => rfl
  | cons x l ih => rw [flat_cons, List.length_append, ih, List.length_cons]; simp [encI]; omega
theorem flat_at : ∀ (l : List Hit) (i j : Nat), i < l.length → j < 2 → (flat l)[i * 2 + j]? = (encI l[i]!)[j]?
  | [], _, _, h, _ => absurd h (Nat.not_lt_zero _)
  | x :: l, 0, j, _, hj => by rw [flat_cons, Nat.zero_mul, Nat.zero_add, List.getElem?_append_left (by simpa [encI] using hj)]; rfl
  | x :: l, i + 1, j, h, hj => by
    rw [flat_cons, List.getElem?_append_right (by simp [encI]; omega), show (i + 1) * 2 + j - (encI x).length = i * 2 + j by simp [encI]; omega, show (x :: l)[i + 1]! = l[i]! by simp]
    exact flat_at l i j (by simpa using h) hj
theorem flat_one (x : Hit) : flat [x] = encI x := by simp [flat]
theorem flat_set : ∀ (l : List Hit) (i : Nat) (x : Hit), i < l.length → flat (l.set i x) = ((flat l).set (i * 2) (.int .i64 x.at_)).set (i * 2 + 1) (.int .u64 x.many)
  | [], _, _, h => absurd h (Nat.not_lt_zero _)
  | y :: l, 0, x, _ => by simp [flat_cons, encI]
  | y :: l, i + 1, x, h => by
    rw [List.set_cons_succ, flat_cons, flat_cons, flat_set l i x (by simpa using h)]
    rw [show (i + 1) * 2 = i * 2 + 2 by omega]
    simp [encI]
theorem flat_set_many : ∀ (l : List Hit) (i : Nat) (m : Nat), i < l.length → flat (l.set i ⟨l[i]!.at_, m⟩) = (flat l).set (i * 2 + 1) (.int .u64 m)
  | [], _, _, h => absurd h (Nat.not_lt_zero _)
  | y :: l, 0, x, _ => by simp [flat_cons, encI]
  | y :: l, i + 1, x, h => by
    rw [List.set_cons_succ, flat_cons, flat_cons, show (y :: l)[i + 1]! = l[i]! by simp, flat_set_many l i x (by simpa using h), show (i + 1) * 2 = i * 2 + 2 by omega]
    simp [encI]
theorem flat_take : ∀ (l : List Hit) (n : Nat), (flat l).take (n * 2) = flat (l.take n)
  | [], n => by simp [flat]
  | _ :: _, 0 => by simp [flat]
  | x :: l, n + 1 => by rw [List.take_succ_cons, flat_cons, flat_cons, ← flat_take l n, show (n + 1) * 2 = n * 2 + 2 by omega]; simp [encI]
theorem flat_drop : ∀ (l : List Hit) (n : Nat), (flat l).drop (n * 2) = flat (l.drop n)
  | [], n => by simp [flat]
  | _ :: _, 0 => by simp
  | x :: l, n + 1 => by rw [List.drop_succ_cons, flat_cons, ← flat_drop l n, show (n + 1) * 2 = n * 2 + 2 by omega]; simp [encI]
theorem oneCells (l : List Hit) : ∀ u ∈ flat l, u.oneCell' = true := by
  intro u hu
  obtain ⟨x, _, hx⟩ := List.mem_flatMap.1 hu
  simp [encI] at hx
  rcases hx with rfl | rfl <;> rfl

/-- Items in a row of the call's own. -/
def Its (base T : Nat) (v : Value) (l : List Hit) (w : World) : Prop := w.ownsRow base T 2 v l.length (flat l)
section
variable {base T B k : Nat} {v : Value} {l : List Hit} {w w' : World} {S : Nat → Prop}
theorem Its.mov (h : Its base T v l w) (hM : Mov S w w') (hn : ∀ g, v.ownBlock = some g → ¬ S g) : Its base T v l w' := hM.row h hn
theorem Its.lt (h : Its base T v l w) {g : Nat} (hg : v.ownBlock = some g) : base ≤ g ∧ g < w.heap.size := World.ownsRow.lt h g hg
theorem Its.below (h : Its base T v l w) (hB : Below w.heap.size w w') : Its base T v l w' := h.mov (Mov.of hB) fun g hg => by have := (h.lt hg).2; omega
theorem Its.drew (h : Its base T v l w) : Its base T v l w.drew := h
theorem Its.drewN (h : Its base T v l w) (n : Nat) : Its base T v l (w.drewN n) := h
theorem Its.mono (h : Its base T v l w) {base' : Nat} (hb : base' ≤ base) : Its base' T v l w :=
  ⟨h.1, h.2.imp id fun ⟨g, cap, cur, e, hbb, rest⟩ => ⟨g, cap, cur, e, Nat.le_trans hb hbb, rest⟩⟩
theorem Its.nil (base T : Nat) (w : World) : Its base T (.slice none 0 0) [] w := World.ownsRow_nil w base T 2
/-- What a row of items is: a block, and its cells. -/
theorem Its.form (h : Its base T v l w) : (v = .slice none 0 0 ∧ l = []) ∨ ∃ g cap, v = .slice (some ⟨g, 0, none⟩) l.length cap ∧ base ≤ g ∧ g < w.heap.size ∧ l.length ≤ cap ∧ cap ≤ maxLen ∧
    (∀ i, i < l.length → w.cell? ⟨g, i * 2, none⟩ = some (.int .i64 l[i]!.at_) ∧ w.cell? ⟨g, i * 2 + 1, none⟩ = some (.int .u64 l[i]!.many)) ∧
    (∀ j, w.frozen? ⟨g, j, none⟩ = false) := by
  rcases h.2 with ⟨h1, h2⟩ | ⟨g, cap, cur, hv, hb, hg, h1, h2, h3, h4⟩
  · exact .inl ⟨h1, List.eq_nil_of_length_eq_zero h2⟩
  · subst hv
    refine .inr ⟨g, cap, rfl, hb, (Array.getElem?_eq_some_iff.1 hg).1, h1, h2, fun i hi => ?_, fun j => World.ownsRow.frozenAt h j⟩
    have k0 := World.ownsRow.cellAt h (i * 2) (by omega)
    have k1 := World.ownsRow.cellAt h (i * 2 + 1) (by omega)
    have e0 := flat_at l i 0 hi (by omega)
    rw [Nat.add_zero] at e0
    rw [e0] at k0
    rw [flat_at l i 1 hi (by omega)] at k1
    exact ⟨k0, k1⟩
theorem Its.form_pos (h : Its base T v l w) (hl : 0 < l.length) : ∃ g cap, v = .slice (some ⟨g, 0, none⟩) l.length cap ∧ base ≤ g ∧ g < w.heap.size ∧ l.length ≤ cap ∧ cap ≤ maxLen ∧
    (∀ i, i < l.length → w.cell? ⟨g, i * 2, none⟩ = some (.int .i64 l[i]!.at_) ∧ w.cell? ⟨g, i * 2 + 1, none⟩ = some (.int .u64 l[i]!.many)) ∧
    (∀ j, w.frozen? ⟨g, j, none⟩ = false) := by
  rcases h.form with ⟨_, rfl⟩ | h
  · cases hl
  · exact h
theorem Its.cap (h : Its base T v l w) : ∃ p cap, v = .slice p l.length cap ∧ l.length ≤ cap ∧ cap ≤ maxLen := by
  rcases h.form with ⟨rfl, rfl⟩ | ⟨g, cap, rfl, _, _, h1, h2, _⟩
  · exact ⟨none, 0, rfl, Nat.le_refl _, Nat.zero_le _⟩
  · exact ⟨_, cap, rfl, h1, h2⟩
theorem Its.store {base T g n cap : Nat} {l l' : List Hit} {w : World} (h : Its base T (.slice (some ⟨g, 0, none⟩) n cap) l w) (hn : n = l.length) (j : Nat) (u : Value) (hl : l'.length = l.length) (hf : flat l' = (flat l).set j u) :
    Its base T (.slice (some ⟨g, 0, none⟩) n cap) l' (w.setCell ⟨g, j, none⟩ u) := by
  subst hn
  unfold Its at *
  rw [hl, hf]
  exact (World.ownsRow.stored h j u).1

/-- Block B is a histogram of bits k, with those items in row v. -/
structure Hs (base T B k : Nat) (v : Value) (l : List Hit) (w : World) : Prop where
  lt : B < w.heap.size
  lo : base ≤ B
  inv : Inv k l
  c0 : w.cell? ⟨B, 0, none⟩ = some (.int .i64 k)
  c1 : w.cell? ⟨B, 1, none⟩ = some v
  f1 : w.frozen? ⟨B, 1, none⟩ = false
  row : Its base T v l w
  ne : v.ownBlock ≠ some B
theorem Hs.mov (h : Hs base T B k v l w) (hM : Mov S w w') (hB : ¬ S B) (hn : ∀ g, v.ownBlock = some g → ¬ S g) : Hs base T B k v l w' :=
  ⟨Nat.lt_of_lt_of_le h.lt hM.size, h.lo, h.inv, (hM.cell h.lt hB).trans h.c0, (hM.cell h.lt hB).trans h.c1, (hM.frozen h.lt hB).trans h.f1, h.row.mov hM hn, h.ne⟩
theorem Hs.below (h : Hs base T B k v l w) (hB : Below w.heap.size w w') : Hs base T B k v l w' :=
  h.mov (Mov.of hB) (by have := h.lt; omega) fun g hg => by have := (h.row.lt hg).2; omega
theorem Hs.belowOn (h : Hs base T B k v l w) {N : Nat} (hB : Below N w w') (hN : w.heap.size ≤ N := by exact Nat.le_refl _) : Hs base T B k v l w' :=
  h.mov (Mov.of hB) (by have := h.lt; omega) fun g hg => by have := (h.row.lt hg).2; omega
theorem Hs.drew (h : Hs base T B k v l w) : Hs base T B k v l w.drew := ⟨h.lt, h.lo, h.inv, h.c0, h.c1, h.f1, h.row, h.ne⟩
theorem Hs.drewN (h : Hs base T B k v l w) (n : Nat) : Hs base T B k v l (w.drewN n) := ⟨h.lt, h.lo, h.inv, h.c0, h.c1, h.f1, h.row, h.ne⟩
theorem Hs.mono (h : Hs base T B k v l w) {base' : Nat} (hb : base' ≤ base) : Hs base' T B k v l w := ⟨h.lt, Nat.le_trans hb h.lo, h.inv, h.c0, h.c1, h.f1, h.row.mono hb, h.ne⟩
end
theorem below_drewN' {B : Nat} {a w : World} (h : Below B a w) (n : Nat) : Below B a (w.drewN n) := h.trans ⟨rfl, rfl, rfl, Nat.le_refl _, fun _ _ => rfl⟩
theorem below_mov {B : Nat} {S : Nat → Prop} {w a c : World} (h : Below B w a) (hC : Mov S a c) (hS : ∀ k, S k → B ≤ k) (h2 : B ≤ w.heap.size) : Below B w c := h.trans (hC.below hS (Nat.le_trans h2 h.size))
/-- The blocks of a histogram. -/
def OwnT (B : Nat) (v : Value) (k : Nat) : Prop := k = B ∨ v.ownBlock = some k
/-- What a change leaves. -/
def Left (base T B k : Nat) (v : Value) (l' : List Hit) (code : Value) (w : World) (e : Ending) (w' : World) : Prop :=
  e = .returned code ∧ ∃ v', Hs base T B k v' l' w' ∧ Mov (OwnT B v) w w' ∧ ∀ g, v'.ownBlock = some g → v.ownBlock = some g ∨ w.heap.size ≤ g
theorem Left.same {base T B k : Nat} {v : Value} {l : List Hit} {code : Value} {w w' : World} (h : Hs base T B k v l w) (hB : Below w.heap.size w w') : Left base T B k v l code w (.returned code) w' :=
  ⟨rfl, v, h.below hB, Mov.ofB hB, fun _ hg => .inl hg⟩
theorem Hs.rebuild {base T B k : Nat} {v : Value} {l l' : List Hit} {w w' : World} (h : Hs base T B k v l w) (hM : Mov (fun k => v.ownBlock = some k) w w') (hI : Inv k l') (hr : Its base T v l' w') : Hs base T B k v l' w' :=
  ⟨Nat.lt_of_lt_of_le h.lt hM.size, h.lo, hI, (hM.cell h.lt h.ne).trans h.c0, (hM.cell h.lt h.ne).trans h.c1, (hM.frozen h.lt h.ne).trans h.f1, hr, h.ne⟩
theorem Hs.stored {base T B k : Nat} {v v' : Value} {l l' : List Hit} {w w1 : World} (h : Hs base T B k v l w) (hM : Mov (fun k => v.ownBlock = some k) w w1) (hr : Its base T v' l' w1)
    (hat : ∀ g, v'.ownBlock = some g → v.ownBlock = some g ∨ w.heap.size ≤ g) (hI : Inv k l') : Hs base T B k v' l' (w1.setCell ⟨B, 1, none⟩ v') ∧ Mov (OwnT B v) w (w1.setCell ⟨B, 1, none⟩ v') := by
  have hne : v'.ownBlock ≠ some B := fun e => by
    rcases hat B e with e | e
    · exact h.ne e
    · have := h.lt; omega
  have hS : Mov (fun k => k = B) w1 (w1.setCell ⟨B, 1, none⟩ v') := (Mov.refl (fun k => k = B) w1).set rfl 1 v'
  refine ⟨⟨by have := Nat.lt_of_lt_of_le h.lt hM.size; simpa using this, h.lo, hI, ?_, ?_, ?_, hr.mov hS (fun g hg e => hne (e ▸ hg)), hne⟩, Mov.trans (S := OwnT B v) (T := OwnT B v) ⟨hM.os, hM.tape, hM.output, hM.size, fun k hk hn => hM.block k hk (fun e => hn (.inr e))⟩ ⟨hS.os, hS.tape, hS.output, hS.size, fun k hk hn => hS.block k hk (fun e => hn (.inl e))⟩ fun _ _ hk => hk⟩
  · rw [World.cell?_setCell_other (h := by simp)]; exact (hM.cell h.lt h.ne).trans h.c0
  · exact World.cell?_setCell_same w1 ⟨B, 1, none⟩ _ ((hM.cell h.lt h.ne).trans h.c1)
  · rw [World.frozen?_setCell]; exact (hM.frozen h.lt h.ne).trans h.f1
/-- The row's field is another row. -/
theorem Hs.stored0 {base T B k : Nat} {v v' : Value} {l l' : List Hit} {w w1 : World} (h : Hs base T B k v l w) (hM : Mov (fun k => v.ownBlock = some k) w w1) (hr : Its base T v' l' w1)
    (hat : ∀ g, v'.ownBlock = some g → v.ownBlock = some g ∨ w.heap.size ≤ g) :
    B < (w1.setCell ⟨B, 1, none⟩ v').heap.size ∧ (w1.setCell ⟨B, 1, none⟩ v').cell? ⟨B, 0, none⟩ = some (.int .i64 k) ∧ (w1.setCell ⟨B, 1, none⟩ v').cell? ⟨B, 1, none⟩ = some v' ∧ (w1.setCell ⟨B, 1, none⟩ v').frozen? ⟨B, 1, none⟩ = false ∧
      Its base T v' l' (w1.setCell ⟨B, 1, none⟩ v') ∧ v'.ownBlock ≠ some B ∧ Mov (OwnT B v) w (w1.setCell ⟨B, 1, none⟩ v') := by
  have hne : v'.ownBlock ≠ some B := fun e => by
    rcases hat B e with e | e
    · exact h.ne e
    · have := h.lt; omega
  have hS : Mov (fun k => k = B) w1 (w1.setCell ⟨B, 1, none⟩ v') := (Mov.refl (fun k => k = B) w1).set rfl 1 v'
  refine ⟨by have := Nat.lt_of_lt_of_le h.lt hM.size; simpa using this, ?_, ?_, ?_, hr.mov hS (fun g hg e => hne (e ▸ hg)), hne, Mov.trans (S := OwnT B v) (T := OwnT B v) ⟨hM.os, hM.tape, hM.output, hM.size, fun k hk hn => hM.block k hk (fun e => hn (.inr e))⟩ ⟨hS.os, hS.tape, hS.output, hS.size, fun k hk hn => hS.block k hk (fun e => hn (.inl e))⟩ fun _ _ hk => hk⟩
  · rw [World.cell?_setCell_other (h := by simp)]; exact (hM.cell h.lt h.ne).trans h.c0
  · exact World.cell?_setCell_same w1 ⟨B, 1, none⟩ _ ((hM.cell h.lt h.ne).trans h.c1)
  · rw [World.frozen?_setCell]; exact (hM.frozen h.lt h.ne).trans h.f1
end Go.Proofs.Ytklklpccpbhfgaa
