/- Rows of 64-bit numbers: others appended to them; pieces of them. -/
import Derived.Test.YtdcdhbkgeipdjaaHiCnt
import Derived.Laws.OwnMore
namespace Go.Proofs.Ytdcdhbkgeipdjaa
open Go Go.RowKit

/-- Numbers that an append takes: none, or some that lie somewhere. -/
def SrcL (w : World) (p : Option Addr) (c : Nat) (xs : List Int) : Prop :=
  (p = none ∧ xs = [] ∧ c = 0) ∨ ∃ a, p = some a ∧ ∀ j u, (longV xs)[j]? = some u → w.cell? (a.add j) = some u
theorem Ints.src {p : Option Addr} {c : Nat} {xs : List Int} {w : World} (h : Ints p xs w) (hz : p = none → c = 0) : SrcL w p c xs := by
  cases p with
  | none =>
    refine .inl ⟨rfl, ?_, hz rfl⟩
    cases xs with
    | nil => rfl
    | cons x l => obtain ⟨_, _, h1, _⟩ := h 0 (by simp); cases h1
  | some a =>
    refine .inr ⟨a, rfl, fun j u hj => ?_⟩
    have hlt : j < xs.length := by have := (List.getElem?_eq_some_iff.1 hj).1; simpa [longV] using this
    obtain ⟨B, off, h1, _, h3, _⟩ := h j hlt
    cases h1
    rw [Addr.add_lit, h3]
    unfold longV at hj
    rw [List.getElem?_map, List.getElem?_eq_getElem hlt] at hj
    exact hj
theorem append_longs {B : Nat} {v : Value} {l xs : List Int} {p : Option Addr} {c : Nat} {w : World} (ty : TypeId) (hO : OwnL B v l w) (hS : SrcL w p c xs) (hlen : l.length + xs.length ≤ 1000000) (hB : B ≤ w.heap.size) :
    ∃ v' w', (Builtin.append_ #[32, 32] ty #[v, .slice p xs.length c]).run Try.prog w = .ok v' w' ∧ OwnL B v' (l ++ xs) w' ∧ Mov (fun j => v.ownBlock = some j) w w' ∧ ∀ g, v'.ownBlock = some g → v.ownBlock = some g ∨ w.heap.size ≤ g := by
  obtain ⟨i, hi, hz0, hz1, hz2⟩ := info_parts info_i64
  rcases hS with ⟨rfl, rfl, rfl⟩ | ⟨a, rfl, hc⟩
  · exact ⟨v, w, run_append_owned_none (P := Try.prog) (w := w) B 32 ty 2 i 1 Try.underlying32 hi v l.length (longV l) hO, by rw [List.append_nil]; exact hO, Mov.refl _ _, fun _ h => .inl h⟩
  · obtain ⟨v', w', h1, h2, h3, h4⟩ := run_append_at (P := Try.prog) w B 32 ty 2 i (.int .i64 0) 1 8 Try.underlying32 hi hz0 hz1 hz2 rfl (by decide) v l.length (longV l) hO a xs.length c (longV xs) (by simp [longV]) hc
      (fun u hu => by obtain ⟨y, _, rfl⟩ := List.mem_map.1 hu; rfl) (by unfold maxLen; omega) (by omega) hB
    refine ⟨v', w', h1, ?_, Mov.grown h3, h4⟩
    unfold OwnL
    rw [List.length_append, show longV (l ++ xs) = longV l ++ longV xs from List.map_append]
    exact h2
/-- One number in a row of its own. -/
theorem OwnL.one (x : Int) (w : World) : OwnL w.heap.size (.slice (some ⟨w.heap.size, 0, none⟩) 1 1) [x] (w.alloc (.cells #[.int .i64 x] 2)) := by
  refine ⟨rfl, .inr ⟨w.heap.size, 1, #[.int .i64 x], rfl, Nat.le_refl _, heap_alloc_new w _, Nat.le_refl _, by unfold maxLen; omega, rfl, rfl⟩⟩
theorem OwnL.mono {B B' : Nat} {v : Value} {xs : List Int} {w : World} (h : OwnL B v xs w) (hb : B' ≤ B) : OwnL B' v xs w :=
  ⟨h.1, h.2.imp id fun ⟨g, cap, cur, e, hbb, rest⟩ => ⟨g, cap, cur, e, Nat.le_trans hb hbb, rest⟩⟩
/-- What a row of numbers is. -/
theorem OwnL.form {B : Nat} {v : Value} {xs : List Int} {w : World} (h : OwnL B v xs w) : (v = .slice none 0 0 ∧ xs = []) ∨ ∃ g cap, v = .slice (some ⟨g, 0, none⟩) xs.length cap ∧ B ≤ g ∧ g < w.heap.size ∧ xs.length ≤ cap ∧ cap ≤ maxLen ∧ ∀ j, j < xs.length → w.cell? ⟨g, j, none⟩ = some (.int .i64 xs[j]!) := by
  rcases h.2 with ⟨h1, h2⟩ | ⟨g, cap, cur, hv, hb, hg, h1, h2, _, _⟩
  · exact .inl ⟨h1, List.eq_nil_of_length_eq_zero h2⟩
  · subst hv
    refine .inr ⟨g, cap, rfl, hb, (Array.getElem?_eq_some_iff.1 hg).1, h1, h2, fun j hj => ?_⟩
    rw [World.ownsRow.cellAt h j (by omega)]
    unfold longV
    rw [List.getElem?_map, List.getElem?_eq_getElem hj, getElem!_pos xs j hj]
    rfl
end Go.Proofs.Ytdcdhbkgeipdjaa
