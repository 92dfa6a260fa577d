/- A new table. -/
import Derived.Test.YtiiadoeohmcfiaaSlD
namespace Go.Proofs.Ytiiadoeohmcfiaa
open Go Go.RowKit

theorem arr_set0 (a b : Value) (r : List Value) : (⟨a :: r⟩ : Array Value).setIfInBounds 0 b = ⟨b :: r⟩ := by
  unfold Array.setIfInBounds
  rw [dif_pos (by simp)]
  rfl
theorem arr_ne0 (a : Value) (r : List Value) : ((⟨a :: r⟩ : Array Value) = #[]) = False := by
  rw [eq_iff_iff, iff_false]
  intro h
  have := congrArg Array.toList h
  cases this
/-- What the entries of a new table are. -/
def enCells : Nat → List Value
  | 0 => []
  | n + 1 => .bool false :: .int .i64 0 :: enCells n
def tbCells (x : Int) : Array Value := ⟨.int .i64 x :: (List.replicate 256 (.string ⟨#[]⟩) ++ enCells 512)⟩
theorem tbCells_ne (x : Int) : (tbCells x = #[]) = False := arr_ne0 _ _
theorem tbCells_set (x y : Int) : (tbCells x).setIfInBounds 0 (.int .i64 y) = tbCells y := arr_set0 _ _ _
set_option maxRecDepth 1000000 in
theorem info_tb : (Try.prog.info? 59).map (fun i => i.zero) = some (some (.agg (tbCells 0))) := by
  kernel_rfl
theorem zero_tb (w : World) : (zeroValue 59).run Try.prog w = .ok (.agg (tbCells 0)) w := by
  obtain ⟨i, hi, hz⟩ := Option.map_eq_some_iff.1 info_tb
  simp [zeroValue, typeInfo, hi, hz]
set_option maxRecDepth 100000 in
theorem new_in (x : Int) (h1 : 1 ≤ x) (h2 : x ≤ 256) (w : World) :
    Calls Try.prog 8 #[.int .i64 x] w fun e w' => e = .returned (.tuple #[.pointer (some ⟨w.heap.size, 0, none⟩), .int .i64 0]) ∧ w.alloc (.cells (tbCells x) 59) = w' := by
  have hz := zero_tb
  have h0 := tbCells_ne 0
  have hs := fun x y => tbCells_set x y
  go_enter Try.func8, Try.ntmps8
  go_wp2
  go_ret2
  exact ⟨rfl, rfl⟩
theorem new_out (x : Int) (h : x < 1 ∨ 256 < x) (w : World) :
    Calls Try.prog 8 #[.int .i64 x] w fun e w' => e = .returned (.tuple #[.pointer none, .int .i64 1]) ∧ w = w' := by
  by_cases h4 : x < 1
  · clear h
    go_enter Try.func8, Try.ntmps8
    go_wp2
    go_ret2
    exact ⟨rfl, rfl⟩
  · have h10 : 256 < x := by omega
    clear h
    go_enter Try.func8, Try.ntmps8
    go_wp2
    go_ret2
    exact ⟨rfl, rfl⟩
theorem enCells_at : ∀ (n p : Nat), p < n → (enCells n)[p * 2]? = some (.bool false) ∧ (enCells n)[p * 2 + 1]? = some (.int .i64 0)
  | 0, _, h => absurd h (Nat.not_lt_zero _)
  | n + 1, 0, _ => ⟨rfl, rfl⟩
  | n + 1, p + 1, h => by
    have := enCells_at n p (by omega)
    unfold enCells
    rw [show (p + 1) * 2 = p * 2 + 1 + 1 by omega, show p * 2 + 1 + 1 + 1 = (p * 2 + 1) + 1 + 1 by omega]
    simp only [List.getElem?_cons_succ]
    exact this
theorem enCells_len : ∀ n, (enCells n).length = n * 2
  | 0 => rfl
  | n + 1 => by
    unfold enCells
    rw [List.length_cons, List.length_cons, enCells_len n]
    omega
theorem tb_room (x : Int) : (tbCells x)[0]? = some (.int .i64 x) := by
  unfold tbCells
  rw [List.getElem?_toArray, List.getElem?_cons_zero]
theorem tb_key (x : Int) (s : Nat) (hs : s < 256) : (tbCells x)[1 + s]? = some (.string ⟨#[]⟩) := by
  unfold tbCells
  rw [show 1 + s = s + 1 by omega, List.getElem?_toArray, List.getElem?_cons_succ, List.getElem?_append_left (by rw [List.length_replicate]; exact hs), List.getElem?_replicate, if_pos hs]
theorem tb_en (x : Int) (j : Nat) (v : Value) (h : (enCells 512)[j]? = some v) : (tbCells x)[257 + j]? = some v := by
  unfold tbCells
  rw [show 257 + j = (256 + j) + 1 by omega, List.getElem?_toArray, List.getElem?_cons_succ, List.getElem?_append_right (by rw [List.length_replicate]; omega), List.length_replicate, show 256 + j - 256 = j by omega]
  exact h
theorem tb_all (x : Int) (i : Nat) (hi : i < 1281) : ∃ v, (tbCells x)[i]? = some v := by
  have hsz : (tbCells x).size = 1281 := by
    show (Value.int .i64 x :: (List.replicate 256 (Value.string ⟨#[]⟩) ++ enCells 512)).length = 1281
    rw [List.length_cons, List.length_append, List.length_replicate, enCells_len]
  exact ⟨_, Array.getElem?_eq_getElem (by rw [hsz]; exact hi)⟩
theorem keyOf_rep (n s : Nat) : keyOf (List.replicate n ([] : Key)) s = [] := by
  unfold keyOf
  rw [List.getD_eq_getElem?_getD, List.getElem?_replicate]
  split <;> rfl
/-- A new table of so many slots. -/
theorem new_any (n : Nat) (h1 : 1 ≤ n) (h2 : n ≤ 256) (w : World) :
    Calls Try.prog 8 #[.int .i64 (n : Int)] w fun e w' => e = .returned (.tuple #[.pointer (some ⟨w.heap.size, 0, none⟩), .int .i64 0]) ∧ Below w.heap.size w w' ∧ w.heap.size < w'.heap.size ∧ ∃ en, Tab w.heap.size (List.replicate n []) en w' := by
  refine (new_in n (by omega) (by omega) w).mono ?_
  rintro e w' ⟨rfl, rfl⟩
  have hC := CellsAt.new (tbCells n) 59 w
  refine ⟨rfl, (Below.refl _ _).alloc (Nat.le_refl _) _, by simp, fun _ => none, ⟨?_, ?_, by rw [List.length_replicate]; exact h2, fun s => by rw [keyOf_rep]; exact Nat.zero_le _⟩⟩
  · rw [List.length_replicate]
    refine ⟨hC.lt, hC.cell 0 _ (tb_room _), fun s hs => ?_, fun p hp => ?_, fun p hp => ?_, fun i hi => ?_⟩
    · rw [keyOf_rep]
      have h := hC.cell (1 + s) (.string ⟨#[]⟩) (tb_key n s hs)
      exact h
    · have h := hC.cell (257 + p * 2) (.bool false) (tb_en n (p * 2) _ (enCells_at 512 p hp).1)
      exact h
    · have h := hC.cell (257 + (p * 2 + 1)) (.int .i64 0) (tb_en n (p * 2 + 1) _ (enCells_at 512 p hp).2)
      exact h
    · obtain ⟨v, hv⟩ := tb_all n i hi
      exact hC.fro i v hv
  · refine ⟨⟨fun p s _ e => (by cases e), fun p q s _ _ e => (by cases e)⟩, fun a b _ _ _ h => absurd (keyOf_rep _ _) h, fun s _ h => absurd (keyOf_rep _ _) h, fun p s _ e => (by cases e)⟩
end Go.Proofs.Ytiiadoeohmcfiaa
