/- HistCount: the numbers behind it. -/
import Derived.Test.YtklklpccpbhfgaaHiOpen
namespace Go.Proofs.Ytklklpccpbhfgaa
open Go Go.RowKit

/-- What the last item with that bucket tells. -/
def lastMany (a : Int) (l : List Hit) (i : Nat) : Nat := manyH a (l.take i)
theorem manyH_append (a : Int) : ∀ l m : List Hit, manyH a (l ++ m) = manyH a l + manyH a m
  | [], m => by simp [manyH]
  | x :: r, m => by simp only [List.cons_append, manyH, manyH_append a r m]; omega
theorem manyH_take {a : Int} {l : List Hit} {i : Nat} (h : i < l.length) : manyH a (l.take (i + 1)) = manyH a (l.take i) + if l[i]!.at_ = a then l[i]!.many else 0 := by
  rw [List.take_add_one, List.getElem?_eq_getElem h, manyH_append, getElem!_pos l i h]
  simp [manyH]
theorem manyH_before {a : Int} {l : List Hit} (hl : Rising l) {i : Nat} (h : i < l.length) (e : l[i]!.at_ = a) : manyH a (l.take i) = 0 := by
  refine many_none fun y hy => ?_
  obtain ⟨j, hj, rfl⟩ := List.mem_iff_getElem.1 hy
  rw [List.length_take] at hj
  rw [List.getElem_take]
  have := hl.lt (show j < i by omega) h
  rw [getElem!_pos l j (by omega)] at this
  omega
/-- How many of numbers have the bucket of n. -/
def nearN (k : Nat) (xs : List Int) (n : Int) : Nat := (xs.map (ofI k)).count (ofI k n)
theorem nearN_take {k : Nat} {xs : List Int} {n : Int} {i : Nat} (h : i < xs.length) : nearN k (xs.take (i + 1)) n = nearN k (xs.take i) n + if ofI k xs[i] = ofI k n then 1 else 0 := by
  unfold nearN
  rw [List.take_add_one, List.getElem?_eq_getElem h, List.map_append, List.count_append]
  simp [List.count_cons]
theorem nearN_le (k : Nat) (xs : List Int) (n : Int) : nearN k xs n ≤ xs.length := by
  unfold nearN
  have := List.count_le_length (a := ofI k n) (l := xs.map (ofI k))
  rwa [List.length_map] at this
theorem items_near (k : Nat) (xs : List Int) (n : Int) : manyH (ofI k n) (itemsN k xs) = nearN k xs n := itemsOf_many _ _
/-- A row of 64-bit numbers of the call's own. -/
def longV (xs : List Int) : List Value := xs.map fun x => Value.int .i64 x
def OwnL (B : Nat) (v : Value) (xs : List Int) (w : World) : Prop := w.ownsRow B 2 1 v xs.length (longV xs)
theorem info_i64 : (Try.prog.info? 2).map (fun i => (i.zero, i.size, i.bytes)) = some (some (.int .i64 0), 1, 8) := by kernel_rfl
theorem OwnL.nil (B : Nat) (w : World) : OwnL B (.slice none 0 0) [] w := World.ownsRow_nil _ _ _ _
theorem OwnL.mov {B : Nat} {v : Value} {l : List Int} {w w' : World} {S : Nat → Prop} (h : OwnL B v l w) (hM : Mov S w w') (hn : ∀ g, v.ownBlock = some g → ¬ S g) : OwnL B v l w' := hM.row h hn
theorem OwnL.lt {B : Nat} {v : Value} {l : List Int} {w : World} (h : OwnL B v l w) {g : Nat} (hg : v.ownBlock = some g) : B ≤ g ∧ g < w.heap.size := World.ownsRow.lt h g hg
theorem OwnL.below {B : Nat} {v : Value} {l : List Int} {w w' : World} (h : OwnL B v l w) (hB : Below w.heap.size w w') : OwnL B v l w' := h.mov (Mov.of hB) fun g hg => by have := (h.lt hg).2; omega
theorem OwnL.ints {B : Nat} {v : Value} {xs : List Int} {w : World} (h : OwnL B v xs w) (h64 : ∀ x ∈ xs, In64 x) : ∃ p cap, v = .slice p xs.length cap ∧ xs.length ≤ cap ∧ cap ≤ maxLen ∧ Ints p xs w := by
  rcases h.2 with ⟨rfl, h0⟩ | ⟨g, cap, cur, rfl, hb, hg, h1, h2, _, _⟩
  · obtain rfl : xs = [] := List.eq_nil_of_length_eq_zero h0
    exact ⟨none, 0, rfl, Nat.le_refl _, Nat.zero_le _, Ints.nil _ _⟩
  · refine ⟨_, cap, rfl, h1, h2, fun k hk => ⟨g, 0, rfl, (Array.getElem?_eq_some_iff.1 hg).1, ?_, h64 _ (List.getElem_mem hk)⟩⟩
    rw [Nat.zero_add, World.ownsRow.cellAt h k (by omega)]
    unfold longV
    rw [List.getElem?_map, List.getElem?_eq_getElem hk]
    rfl
/-- append of one number. -/
theorem append_long {B : Nat} {v : Value} {l : List Int} {w : World} (ty : TypeId) (hO : OwnL B v l w) (x : Int) (hlen : l.length + 1 ≤ 1000000) (hB : B ≤ w.heap.size) :
    ∃ v' w', (Builtin.append_ #[32, 32] ty #[v, .slice (some ⟨w.heap.size, 0, none⟩) 1 1]).run Try.prog (w.alloc (.cells #[.int .i64 x] 2)) = .ok v' w' ∧ OwnL B v' (l ++ [x]) w' ∧ Mov (fun j => v.ownBlock = some j) w w' ∧ ∀ g, v'.ownBlock = some g → v.ownBlock = some g ∨ w.heap.size ≤ g := by
  obtain ⟨i, hi, hz0, hz1, hz2⟩ := info_parts info_i64
  obtain ⟨v', w', h1, h2, h3, h4⟩ := run_append_at (P := Try.prog) (w.alloc (.cells #[.int .i64 x] 2)) B 32 ty 2 i (.int .i64 0) 1 8 Try.underlying32 hi hz0 hz1 hz2 rfl (by decide) v l.length (longV l) (World.ownsRow.alloc hO _) ⟨w.heap.size, 0, none⟩ 1 1 (longV [x]) (by simp [longV]) (new_row (longV [x]) 2 w)
    (fun u hu => by obtain ⟨y, _, rfl⟩ := List.mem_map.1 hu; rfl) (by unfold maxLen; omega) (by omega) (by simp; omega)
  refine ⟨v', w', h1, ?_, ((Mov.refl _ _).alloc _).trans (Mov.grown h3) (fun _ _ h => h), fun g hg => (h4 g hg).imp id fun e => by simp at e; omega⟩
  unfold OwnL
  rw [List.length_append, show longV (l ++ [x]) = longV l ++ longV [x] from List.map_append]
  exact h2
end Go.Proofs.Ytklklpccpbhfgaa
