/- Slices of numbers that come in, opened. Ranks of numbers in order: the least's, the greatest's, any one's; parts rise. HistCount: the numbers behind it. Rows of 64-bit numbers: others appended to them; pieces of them. HistCount, walked. HistOrder, walked. -/
import Derived.Test.YtmjipafhahggpaaDoorMcJ
import Derived.Test.YtmjipafhahggpaaDoorMLaw
import Derived.Lib.SmallJoins
import Derived.ChangeArms
import Derived.ChangeSlices
import Derived.ChangeSame
import Derived.SizedLaws
import Derived.Laws.OwnMore
import Derived.Test.YtmjipafhahggpaaDoorMHiMrg
import Derived.BigQuiet
namespace Go.Proofs.YtmjipafhahggpaaDoor.Hi
open Go Go.RowKit

theorem wf_i64 {n : Int} (h : (Lit.int .i64 n).wf = true) : -9223372036854775808 ≤ n ∧ n ≤ 9223372036854775807 := by
  simpa [Lit.wf, IntKind.min, IntKind.max, IntKind.signed, IntKind.bits] using h
theorem wf_u8 {a : Int} (h : (Lit.int .u8 a).wf = true) : ∃ n : Nat, a = n ∧ n < 256 := by
  have hx : 0 ≤ a ∧ a ≤ 255 := by simpa [Lit.wf, IntKind.min, IntKind.max, IntKind.signed, IntKind.bits] using h
  exact ⟨a.toNat, by omega, by omega⟩
theorem wf_u16 {a : Int} (h : (Lit.int .u16 a).wf = true) : ∃ n : Nat, a = n ∧ n < 65536 := by
  have hx : 0 ≤ a ∧ a ≤ 65535 := by simpa [Lit.wf, IntKind.min, IntKind.max, IntKind.signed, IntKind.bits] using h
  exact ⟨a.toNat, by omega, by omega⟩

/-- A slice of integers that comes in: what its cells hold. -/
theorem ints_of {H : Type} {enc : TypeId × Value → H} {P : Program} {W : World} {spare : Nat → Bool} {held : Bool} {t e : TypeId} {k : IntKind} {v : Value} {d : DataW H} {ps : List MemPlace} (ht : P.underlying t = some (.slice e)) (he : P.underlying e = some (.int k)) (hc : P.cellsOf e = 1)
    (hv : ∃ p len cap, v = .slice p len cap) (h : DataW.Trod enc P W 0 spare held t v d ps) (hlt : ∀ x ∈ ps, x.block < W.heap.size) :
    ∃ (p : Option Addr) (len cap : Nat) (zs : List Int), v = .slice p len cap ∧ len ≤ cap ∧ cap ≤ maxLen ∧ len ≤ zs.length ∧ (p = none → cap = 0) ∧
      ∀ j, j < len → ∃ b off, p = some ⟨b, off, none⟩ ∧ b < W.heap.size ∧ W.cell? ⟨b, off + j, none⟩ = some (.int k (zs.getD j 0)) ∧ (Lit.int k (zs.getD j 0)).wf = true := by
  obtain ⟨p, len, cap, rfl⟩ := hv
  obtain ⟨fuel, hf⟩ := h
  rcases ChangeShapes.open_ints ht he hc hf with ⟨hcs, hx⟩ | ⟨a, len', cap', zs, hcs, _, hl, hm, hz, hx, hcell, hwz⟩
  · simp [Value.cells] at hcs
    obtain ⟨rfl, rfl, rfl⟩ := hcs
    exact ⟨none, 0, 0, [], rfl, Nat.le_refl _, Nat.zero_le _, Nat.zero_le _, fun _ => rfl, fun j hj => by omega⟩
  · simp [Value.cells] at hcs
    obtain ⟨rfl, rfl, rfl⟩ := hcs
    simp only [Prod.mk.injEq] at hx
    obtain ⟨rfl, rfl⟩ := hx
    have hzl : len ≤ zs.length := by rw [hz]; split <;> omega
    refine ⟨some a, len, cap, zs, rfl, hl, hm, hzl, fun h => by (cases h), fun j hj => ?_⟩
    obtain ⟨b, off, spot⟩ := a
    have hspot : spot = none := by simpa [Addr.add] using World.cell?_spot (hcell 0 (by omega))
    subst hspot
    refine ⟨b, off, rfl, ?_, ?_, ?_⟩
    · exact hlt (.cell b off) (MemPlace.mem_row.2 ⟨0, by omega, by simp⟩)
    · have := hcell j (by omega); rwa [Addr.add_lit] at this
    · exact hwz _ (by rw [List.getD_eq_getElem?_getD, List.getElem?_eq_getElem (by omega)]; simp)
theorem longs_of {H : Type} {enc : TypeId × Value → H} {P : Program} {W : World} {spare : Nat → Bool} {held : Bool} {t e : TypeId} {v : Value} {d : DataW H} {ps : List MemPlace} (ht : P.underlying t = some (.slice e)) (he : P.underlying e = some (.int .i64)) (hc : P.cellsOf e = 1)
    (hv : ∃ p len cap, v = .slice p len cap) (h : DataW.Trod enc P W 0 spare held t v d ps) (hlt : ∀ x ∈ ps, x.block < W.heap.size) :
    ∃ (p : Option Addr) (xs : List Int) (cap : Nat), v = .slice p xs.length cap ∧ xs.length ≤ cap ∧ cap ≤ maxLen ∧ Ints p xs W ∧ (p = none → cap = 0) := by
  obtain ⟨p, len, cap, zs, rfl, h1, h2, h3, hz, h4⟩ := ints_of ht he hc hv h hlt
  have hl : (zs.take len).length = len := by rw [List.length_take]; omega
  refine ⟨p, zs.take len, cap, by rw [hl], by rw [hl]; exact h1, h2, fun k hk => ?_, hz⟩
  rw [hl] at hk
  obtain ⟨b, off, g1, g2, g3, g4⟩ := h4 k hk
  have e : (zs.take len)[k]'(by omega) = zs.getD k 0 := by
    rw [List.getElem_take, List.getD_eq_getElem?_getD, List.getElem?_eq_getElem (by omega)]; rfl
  exact ⟨b, off, g1, g2, by rw [g3, e], by rw [e]; exact wf_i64 g4⟩
theorem reach_small : reachBytes ≤ 140737488355328 := Nat.le_of_lt reachBytes_lt
theorem text_small {H : Type} {P : Program} {ts : List TypeId} {ds : List (DataW H)} (h : (DataW.weightsEach P ts ds).all (· ≤ reachBytes) = true) (j : Nat) {t : TypeId} {s : ByteArray} (ht : ts[j]? = some t) (hd : ds[j]? = some (.lit (.string s.data.toList))) : s.size ≤ 140737488355328 :=
  Nat.le_trans (show s.data.toList.length ≤ reachBytes from sized_string h ht hd) reach_small
/-- A slice of numbers of 8 bits. -/
def Tiny (p : Option Addr) (xs : List Int) (w : World) : Prop :=
  ∀ k (h : k < xs.length), ∃ B off, p = some ⟨B, off, none⟩ ∧ B < w.heap.size ∧ w.cell? ⟨B, off + k, none⟩ = some (.int .i8 xs[k]) ∧ -128 ≤ xs[k] ∧ xs[k] ≤ 127
theorem Tiny.below {p : Option Addr} {xs : List Int} {w w' : World} (h : Tiny p xs w) (hB : Below w.heap.size w w') : Tiny p xs w' := fun k hk => by
  obtain ⟨B, off, h1, h2, h3, h4⟩ := h k hk
  exact ⟨B, off, h1, Nat.lt_of_lt_of_le h2 hB.size, (hB.cell (p := ⟨B, off + k, none⟩) h2).trans h3, h4⟩
theorem tinies_of {H : Type} {enc : TypeId × Value → H} {P : Program} {W : World} {spare : Nat → Bool} {held : Bool} {t e : TypeId} {v : Value} {d : DataW H} {ps : List MemPlace} (ht : P.underlying t = some (.slice e)) (he : P.underlying e = some (.int .i8)) (hc : P.cellsOf e = 1)
    (hv : ∃ p len cap, v = .slice p len cap) (h : DataW.Trod enc P W 0 spare held t v d ps) (hlt : ∀ x ∈ ps, x.block < W.heap.size) :
    ∃ (p : Option Addr) (xs : List Int) (cap : Nat), v = .slice p xs.length cap ∧ xs.length ≤ cap ∧ cap ≤ maxLen ∧ Tiny p xs W ∧ (p = none → cap = 0) := by
  obtain ⟨p, len, cap, zs, rfl, h1, h2, h3, hz, h4⟩ := ints_of ht he hc hv h hlt
  have hl : (zs.take len).length = len := by rw [List.length_take]; omega
  refine ⟨p, zs.take len, cap, by rw [hl], by rw [hl]; exact h1, h2, fun k hk => ?_, hz⟩
  rw [hl] at hk
  obtain ⟨b, off, g1, g2, g3, g4⟩ := h4 k hk
  have e : (zs.take len)[k]'(by omega) = zs.getD k 0 := by
    rw [List.getElem_take, List.getD_eq_getElem?_getD, List.getElem?_eq_getElem (by omega)]; rfl
  have g5 : -128 ≤ zs.getD k 0 ∧ zs.getD k 0 ≤ 127 := by simpa [Lit.wf, IntKind.min, IntKind.max, IntKind.signed, IntKind.bits] using g4
  exact ⟨b, off, g1, g2, by rw [g3, e], by rw [e]; exact g5⟩
end Go.Proofs.YtmjipafhahggpaaDoor.Hi

namespace Go.Proofs.YtmjipafhahggpaaDoor.Hi

/-- The bucket of a number, or of the nearest that is one of 64 bits. -/
def ofC (k : Nat) (x : Int) : Int := ofI k (max (-9223372036854775808) (min x 9223372036854775807))
theorem ofC_eq {k : Nat} {x : Int} (h : In64 x) : ofC k x = ofI k x := by
  unfold ofC
  obtain ⟨h1, h2⟩ := h
  rw [Int.min_eq_left h2, Int.max_eq_right h1]
theorem ofC_mono (k : Nat) (x y : Int) (h : x ≤ y) : ofC k x ≤ ofC k y := by
  unfold ofC
  refine of_mono k _ _ ⟨?_, ?_⟩ ⟨?_, ?_⟩ ?_ <;> omega
theorem rank_in64 (k : Nat) {l s : List Int} (h64 : ∀ x ∈ l, In64 x) (hp : s.Perm l) (hs : s.Pairwise (· ≤ ·)) (i : Nat) : rankH (itemsN k l) (i + 1) = (s[i]?).map (ofI k) := by
  have e1 : l.map (ofI k) = l.map (ofC k) := List.map_congr_left fun x hx => (ofC_eq (h64 x hx)).symm
  unfold itemsN
  rw [e1, rank_items (ofC k) (ofC_mono k) hp hs i]
  cases h : s[i]? with
  | none => rfl
  | some x => simp only [Option.map_some]; rw [ofC_eq (h64 x (hp.mem_iff.1 (List.mem_of_getElem? h)))]
theorem rank_first (k : Nat) {l : List Int} (h64 : ∀ x ∈ l, In64 x) {x : Int} (hx : x ∈ l) (hm : ∀ y ∈ l, x ≤ y) : rankH (itemsN k l) 1 = some (ofI k x) := by
  have hl : 0 < (sortL l).length := by rw [sortL_length]; exact List.length_pos_of_mem hx
  have h0 : (sortL l)[0]? = some (sortL l)[0] := List.getElem?_eq_getElem hl
  obtain ⟨h1, h2⟩ := sorted_first (sortL_perm l) (sortL_sorted l) h0
  have e : (sortL l)[0] = x := Int.le_antisymm (h2 x hx) (hm _ h1)
  rw [show (1 : Nat) = 0 + 1 from rfl, rank_in64 k h64 (sortL_perm l) (sortL_sorted l) 0, h0, e]
  rfl
theorem rank_last (k : Nat) {l : List Int} (h64 : ∀ x ∈ l, In64 x) {x : Int} (hx : x ∈ l) (hm : ∀ y ∈ l, y ≤ x) : rankH (itemsN k l) l.length = some (ofI k x) := by
  have hpos := List.length_pos_of_mem hx
  have hl := sortL_length l
  have h0 : (sortL l)[(sortL l).length - 1]? = some ((sortL l)[(sortL l).length - 1]'(by omega)) := List.getElem?_eq_getElem (by omega)
  obtain ⟨h1, h2⟩ := sorted_last (sortL_perm l) (sortL_sorted l) h0
  have e : (sortL l)[(sortL l).length - 1]'(by omega) = x := Int.le_antisymm (hm _ h1) (h2 x hx)
  have := rank_in64 k h64 (sortL_perm l) (sortL_sorted l) ((sortL l).length - 1)
  rw [show (sortL l).length - 1 + 1 = l.length by omega, h0, e] at this
  exact this
theorem in_bounds {k : Nat} (hk : k ≤ 4) {x : Int} (hx : In64 x) : lowI k (ofI k x) ≤ x ∧ x ≤ highI k (ofI k x) := (of_iff k hk x hx _ (of_fits k hk x hx)).1 rfl
end Go.Proofs.YtmjipafhahggpaaDoor.Hi

namespace Go.Proofs.YtmjipafhahggpaaDoor.Hi
open Go Go.RowKit

/-- What the last item with that bucket tells. -/
def lastMany (a : Int) (l : List Hit) (i : Nat) : Nat := manyH a (l.take i)
theorem manyH_append (a : Int) : ∀ l m : List Hit, manyH a (l ++ m) = manyH a l + manyH a m
  | [], m => by simp [manyH]
  | x :: r, m => by simp only [List.cons_append, manyH, manyH_append a r m]; omega
theorem manyH_take {a : Int} {l : List Hit} {i : Nat} (h : i < l.length) : manyH a (l.take (i + 1)) = manyH a (l.take i) + if l[i]!.at_ = a then l[i]!.many else 0 := by
  rw [List.take_add_one, List.getElem?_eq_getElem h, manyH_append, getElem!_pos l i h]
  simp [manyH]
theorem manyH_before {a : Int} {l : List Hit} (hl : Rising l) {i : Nat} (h : i < l.length) (e : l[i]!.at_ = a) : manyH a (l.take i) = 0 := by
  refine many_none fun y hy => ?_
  obtain ⟨j, hj, rfl⟩ := List.mem_iff_getElem.1 hy
  rw [List.length_take] at hj
  rw [List.getElem_take]
  have := hl.lt (show j < i by omega) h
  rw [getElem!_pos l j (by omega)] at this
  omega
/-- How many of numbers have the bucket of n. -/
def nearN (k : Nat) (xs : List Int) (n : Int) : Nat := (xs.map (ofI k)).count (ofI k n)
theorem nearN_take {k : Nat} {xs : List Int} {n : Int} {i : Nat} (h : i < xs.length) : nearN k (xs.take (i + 1)) n = nearN k (xs.take i) n + if ofI k xs[i] = ofI k n then 1 else 0 := by
  unfold nearN
  rw [List.take_add_one, List.getElem?_eq_getElem h, List.map_append, List.count_append]
  simp [List.count_cons]
theorem nearN_le (k : Nat) (xs : List Int) (n : Int) : nearN k xs n ≤ xs.length := by
  unfold nearN
  have := List.count_le_length (a := ofI k n) (l := xs.map (ofI k))
  rwa [List.length_map] at this
theorem items_near (k : Nat) (xs : List Int) (n : Int) : manyH (ofI k n) (itemsN k xs) = nearN k xs n := itemsOf_many _ _
/-- A row of 64-bit numbers of the call's own. -/
def longV (xs : List Int) : List Value := xs.map fun x => Value.int .i64 x
def OwnL (B : Nat) (v : Value) (xs : List Int) (w : World) : Prop := w.ownsRow B 2 1 v xs.length (longV xs)
theorem info_i64 : (Tryd.prog.info? 2).map (fun i => (i.zero, i.size, i.bytes)) = some (some (.int .i64 0), 1, 8) := by kernel_rfl
theorem OwnL.nil (B : Nat) (w : World) : OwnL B (.slice none 0 0) [] w := World.ownsRow_nil _ _ _ _
theorem OwnL.mov {B : Nat} {v : Value} {l : List Int} {w w' : World} {S : Nat → Prop} (h : OwnL B v l w) (hM : Mov S w w') (hn : ∀ g, v.ownBlock = some g → ¬ S g) : OwnL B v l w' := hM.row h hn
theorem OwnL.lt {B : Nat} {v : Value} {l : List Int} {w : World} (h : OwnL B v l w) {g : Nat} (hg : v.ownBlock = some g) : B ≤ g ∧ g < w.heap.size := World.ownsRow.lt h g hg
theorem OwnL.below {B : Nat} {v : Value} {l : List Int} {w w' : World} (h : OwnL B v l w) (hB : Below w.heap.size w w') : OwnL B v l w' := h.mov (Mov.of hB) fun g hg => by have := (h.lt hg).2; omega
theorem OwnL.ints {B : Nat} {v : Value} {xs : List Int} {w : World} (h : OwnL B v xs w) (h64 : ∀ x ∈ xs, In64 x) : ∃ p cap, v = .slice p xs.length cap ∧ xs.length ≤ cap ∧ cap ≤ maxLen ∧ Ints p xs w := by
  rcases h.2 with ⟨rfl, h0⟩ | ⟨g, cap, cur, rfl, hb, hg, h1, h2, _, _⟩
  · obtain rfl : xs = [] := List.eq_nil_of_length_eq_zero h0
    exact ⟨none, 0, rfl, Nat.le_refl _, Nat.zero_le _, Ints.nil _ _⟩
  · refine ⟨_, cap, rfl, h1, h2, fun k hk => ⟨g, 0, rfl, (Array.getElem?_eq_some_iff.1 hg).1, ?_, h64 _ (List.getElem_mem hk)⟩⟩
    rw [Nat.zero_add, World.ownsRow.cellAt h k (by omega)]
    unfold longV
    rw [List.getElem?_map, List.getElem?_eq_getElem hk]
    rfl
/-- append of one number. -/
theorem append_long {B : Nat} {v : Value} {l : List Int} {w : World} (ty : TypeId) (hO : OwnL B v l w) (x : Int) (hlen : l.length + 1 ≤ 1000000) (hB : B ≤ w.heap.size) :
    ∃ v' w', (Builtin.append_ #[22, 22] ty #[v, .slice (some ⟨w.heap.size, 0, none⟩) 1 1]).run Tryd.prog (w.alloc (.cells #[.int .i64 x] 2)) = .ok v' w' ∧ OwnL B v' (l ++ [x]) w' ∧ Mov (fun j => v.ownBlock = some j) w w' ∧ ∀ g, v'.ownBlock = some g → v.ownBlock = some g ∨ w.heap.size ≤ g := by
  obtain ⟨i, hi, hz0, hz1, hz2⟩ := info_parts info_i64
  obtain ⟨v', w', h1, h2, h3, h4⟩ := run_append_at (P := Tryd.prog) (w.alloc (.cells #[.int .i64 x] 2)) B 22 ty 2 i (.int .i64 0) 1 8 Tryd.underlying22 hi hz0 hz1 hz2 rfl (by decide) v l.length (longV l) (World.ownsRow.alloc hO _) ⟨w.heap.size, 0, none⟩ 1 1 (longV [x]) (by simp [longV]) (new_row (longV [x]) 2 w)
    (fun u hu => by obtain ⟨y, _, rfl⟩ := List.mem_map.1 hu; rfl) (by unfold maxLen; omega) (by omega) (by simp; omega)
  refine ⟨v', w', h1, ?_, ((Mov.refl _ _).alloc _).trans (Mov.grown h3) (fun _ _ h => h), fun g hg => (h4 g hg).imp id fun e => by simp at e; omega⟩
  unfold OwnL
  rw [List.length_append, show longV (l ++ [x]) = longV l ++ longV [x] from List.map_append]
  exact h2
end Go.Proofs.YtmjipafhahggpaaDoor.Hi

namespace Go.Proofs.YtmjipafhahggpaaDoor.Hi
open Go Go.RowKit

/-- Numbers that an append takes: none, or some that lie somewhere. -/
def SrcL (w : World) (p : Option Addr) (c : Nat) (xs : List Int) : Prop :=
  (p = none ∧ xs = [] ∧ c = 0) ∨ ∃ a, p = some a ∧ ∀ j u, (longV xs)[j]? = some u → w.cell? (a.add j) = some u
theorem Ints.src {p : Option Addr} {c : Nat} {xs : List Int} {w : World} (h : Ints p xs w) (hz : p = none → c = 0) : SrcL w p c xs := by
  cases p with
  | none =>
    refine .inl ⟨rfl, ?_, hz rfl⟩
    cases xs with
    | nil => rfl
    | cons x l => obtain ⟨_, _, h1, _⟩ := h 0 (by simp); cases h1
  | some a =>
    refine .inr ⟨a, rfl, fun j u hj => ?_⟩
    have hlt : j < xs.length := by have := (List.getElem?_eq_some_iff.1 hj).1; simpa [longV] using this
    obtain ⟨B, off, h1, _, h3, _⟩ := h j hlt
    cases h1
    rw [Addr.add_lit, h3]
    unfold longV at hj
    rw [List.getElem?_map, List.getElem?_eq_getElem hlt] at hj
    exact hj
theorem append_longs {B : Nat} {v : Value} {l xs : List Int} {p : Option Addr} {c : Nat} {w : World} (ty : TypeId) (hO : OwnL B v l w) (hS : SrcL w p c xs) (hlen : l.length + xs.length ≤ 1000000) (hB : B ≤ w.heap.size) :
    ∃ v' w', (Builtin.append_ #[22, 22] ty #[v, .slice p xs.length c]).run Tryd.prog w = .ok v' w' ∧ OwnL B v' (l ++ xs) w' ∧ Mov (fun j => v.ownBlock = some j) w w' ∧ ∀ g, v'.ownBlock = some g → v.ownBlock = some g ∨ w.heap.size ≤ g := by
  obtain ⟨i, hi, hz0, hz1, hz2⟩ := info_parts info_i64
  rcases hS with ⟨rfl, rfl, rfl⟩ | ⟨a, rfl, hc⟩
  · exact ⟨v, w, run_append_owned_none (P := Tryd.prog) (w := w) B 22 ty 2 i 1 Tryd.underlying22 hi v l.length (longV l) hO, by rw [List.append_nil]; exact hO, Mov.refl _ _, fun _ h => .inl h⟩
  · obtain ⟨v', w', h1, h2, h3, h4⟩ := run_append_at (P := Tryd.prog) w B 22 ty 2 i (.int .i64 0) 1 8 Tryd.underlying22 hi hz0 hz1 hz2 rfl (by decide) v l.length (longV l) hO a xs.length c (longV xs) (by simp [longV]) hc
      (fun u hu => by obtain ⟨y, _, rfl⟩ := List.mem_map.1 hu; rfl) (by unfold maxLen; omega) (by omega) hB
    refine ⟨v', w', h1, ?_, Mov.grown h3, h4⟩
    unfold OwnL
    rw [List.length_append, show longV (l ++ xs) = longV l ++ longV xs from List.map_append]
    exact h2
/-- One number in a row of its own. -/
theorem OwnL.one (x : Int) (w : World) : OwnL w.heap.size (.slice (some ⟨w.heap.size, 0, none⟩) 1 1) [x] (w.alloc (.cells #[.int .i64 x] 2)) := by
  refine ⟨rfl, .inr ⟨w.heap.size, 1, #[.int .i64 x], rfl, Nat.le_refl _, heap_alloc_new w _, Nat.le_refl _, by unfold maxLen; omega, rfl, rfl⟩⟩
theorem OwnL.mono {B B' : Nat} {v : Value} {xs : List Int} {w : World} (h : OwnL B v xs w) (hb : B' ≤ B) : OwnL B' v xs w :=
  ⟨h.1, h.2.imp id fun ⟨g, cap, cur, e, hbb, rest⟩ => ⟨g, cap, cur, e, Nat.le_trans hb hbb, rest⟩⟩
/-- What a row of numbers is. -/
theorem OwnL.form {B : Nat} {v : Value} {xs : List Int} {w : World} (h : OwnL B v xs w) : (v = .slice none 0 0 ∧ xs = []) ∨ ∃ g cap, v = .slice (some ⟨g, 0, none⟩) xs.length cap ∧ B ≤ g ∧ g < w.heap.size ∧ xs.length ≤ cap ∧ cap ≤ maxLen ∧ ∀ j, j < xs.length → w.cell? ⟨g, j, none⟩ = some (.int .i64 xs[j]!) := by
  rcases h.2 with ⟨h1, h2⟩ | ⟨g, cap, cur, hv, hb, hg, h1, h2, _, _⟩
  · exact .inl ⟨h1, List.eq_nil_of_length_eq_zero h2⟩
  · subst hv
    refine .inr ⟨g, cap, rfl, hb, (Array.getElem?_eq_some_iff.1 hg).1, h1, h2, fun j hj => ?_⟩
    rw [World.ownsRow.cellAt h j (by omega)]
    unfold longV
    rw [List.getElem?_map, List.getElem?_eq_getElem hj, getElem!_pos xs j hj]
    rfl
end Go.Proofs.YtmjipafhahggpaaDoor.Hi

namespace Go.Proofs.YtmjipafhahggpaaDoor.Hi
open Go Go.RowKit

theorem its_cells {base : Nat} {v : Value} {l : List Hit} {w : World} {T : Nat} (h : Its base T v l w) : ∃ p cap, v = .slice p l.length cap ∧ l.length ≤ cap ∧ cap ≤ maxLen ∧ ∀ i, i < l.length → ∃ g, p = some ⟨g, 0, none⟩ ∧ g < w.heap.size ∧ w.cell? ⟨g, i * 2, none⟩ = some (.int .i64 l[i]!.at_) ∧ w.cell? ⟨g, i * 2 + 1, none⟩ = some (.int .u64 l[i]!.many) := by
  rcases h.form with ⟨rfl, rfl⟩ | ⟨g, cap, rfl, _, hg, h1, h2, hc, _⟩
  · exact ⟨none, 0, rfl, Nat.le_refl _, Nat.zero_le _, fun i hi => by simp at hi⟩
  · exact ⟨_, cap, rfl, h1, h2, fun i hi => ⟨g, rfl, hg, (hc i hi).1, (hc i hi).2⟩⟩
theorem wf_i8 {a : Int} (h : (Lit.int .i8 a).wf = true) : -128 ≤ a ∧ a ≤ 127 := by
  simpa [Lit.wf, IntKind.min, IntKind.max, IntKind.signed, IntKind.bits] using h
end Go.Proofs.YtmjipafhahggpaaDoor.Hi

namespace Go.Proofs.YtmjipafhahggpaaDoor.Hi
open Go Go.RowKit

theorem rev_drop {L : List Int} {g : Nat} (h : g < L.length) : (L.drop (g + 1)).reverse ++ [L[g]] = (L.drop g).reverse := by
  rw [List.drop_eq_getElem_cons h, List.reverse_cons]
theorem itemsN_merge (k : Nat) (xs ys : List Int) : mergeH (itemsN k xs) (itemsN k ys) = itemsN k (xs ++ ys) := by
  unfold itemsN
  rw [mergeH_items, List.map_append]
theorem itemsN_perm {k : Nat} {xs ys : List Int} (h : xs.Perm ys) : itemsN k xs = itemsN k ys := itemsOf_perm (h.map _)
theorem Ints.get {p : Option Addr} {xs : List Int} {w : World} (h : Ints p xs w) {k : Nat} (hk : k < xs.length) : ∃ B off, p = some ⟨B, off, none⟩ ∧ B < w.heap.size ∧ w.cell? ⟨B, off + k, none⟩ = some (.int .i64 xs[k]) := by
  obtain ⟨B, off, h1, h2, h3, _⟩ := h k hk
  exact ⟨B, off, h1, h2, h3⟩
end Go.Proofs.YtmjipafhahggpaaDoor.Hi

