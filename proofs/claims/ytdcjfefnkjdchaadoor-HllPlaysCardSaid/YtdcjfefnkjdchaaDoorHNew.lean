/- A new sketch. -/
import Derived.Test.YtdcjfefnkjdchaaDoorHUse
namespace Go.Proofs.YtdcjfefnkjdchaaDoor
open Go Go.RowKit

theorem arr_set0 (a b : Value) (r : List Value) : (⟨a :: r⟩ : Array Value).setIfInBounds 0 b = ⟨b :: r⟩ := by
  unfold Array.setIfInBounds
  rw [dif_pos (by simp)]
  rfl
theorem arr_ne0 (a : Value) (r : List Value) : ((⟨a :: r⟩ : Array Value) = #[]) = False := by
  rw [eq_iff_iff, iff_false]
  intro h
  have := congrArg Array.toList h
  cases this
/-- The cells of a sketch of x bits to which nothing was added. -/
def skCells (x : Int) : Array Value := ⟨.int .i64 x :: List.replicate 1024 (.int .u8 0)⟩
theorem skCells_ne (x : Int) : (skCells x = #[]) = False := arr_ne0 _ _
theorem skCells_set (x y : Int) : (skCells x).setIfInBounds 0 (.int .i64 y) = skCells y := arr_set0 _ _ _
set_option maxRecDepth 1000000 in
theorem info_sk : (Tryd.prog.info? 56).map (fun i => i.zero) = some (some (.agg (skCells 0))) := by
  kernel_rfl
theorem zero_sk (w : World) : (zeroValue 56).run Tryd.prog w = .ok (.agg (skCells 0)) w := by
  obtain ⟨i, hi, hz⟩ := Option.map_eq_some_iff.1 info_sk
  simp [zeroValue, typeInfo, hi, hz]
theorem new_in (x : Int) (h4 : 4 ≤ x) (h10 : x ≤ 10) (w : World) :
    Calls Tryd.prog 11 #[.int .i64 x] w fun e w' => e = .returned (.tuple #[.pointer (some ⟨w.heap.size, 0, none⟩), .int .i64 0]) ∧ w.alloc (.cells (skCells x) 56) = w' := by
  have hz := zero_sk
  have h0 := skCells_ne 0
  have hs := fun x y => skCells_set x y
  go_enter Tryd.func11, Tryd.ntmps11
  go_wp2
  go_ret2
  exact ⟨rfl, rfl⟩
theorem skCells_0 (x : Int) : (skCells x)[0]? = some (.int .i64 x) := by
  unfold skCells
  rw [List.getElem?_toArray, List.getElem?_cons_zero]
theorem skCells_at (x : Int) (i : Nat) (hi : i < 1024) : (skCells x)[1 + i]? = some (.int .u8 0) := by
  unfold skCells
  rw [show (1 + i) = i + 1 from by omega, List.getElem?_toArray, List.getElem?_cons_succ, List.getElem?_replicate, if_pos hi]
theorem new_sk (b : Nat) (h4 : 4 ≤ b) (h10 : b ≤ 10) (w : World) : Sk w.heap.size b (List.replicate (2 ^ b) 0) (w.alloc (.cells (skCells b) 56)) := by
  have hC := CellsAt.new (skCells b) 56 w
  have hM : 2 ^ b ≤ 1024 := Nat.pow_le_pow_right (n := 2) (by decide) h10
  refine ⟨hC.lt, h4, h10, by simp, hC.cell 0 _ (skCells_0 b), fun i hi => ?_, fun i hi => ?_⟩
  · rw [List.length_replicate] at hi
    rw [hC.cell (1 + i) _ (skCells_at b i (by omega))]
    simp
  · rw [List.length_replicate] at hi
    exact hC.fro (1 + i) _ (skCells_at b i (by omega))
/-- A new sketch of b bits. -/
theorem new_any (b : Nat) (h4 : 4 ≤ b) (h10 : b ≤ 10) (w : World) :
    Calls Tryd.prog 11 #[.int .i64 b] w fun e w' => e = .returned (.tuple #[.pointer (some ⟨w.heap.size, 0, none⟩), .int .i64 0]) ∧ Below w.heap.size w w' ∧ Sk w.heap.size b (List.replicate (2 ^ b) 0) w' := by
  refine (new_in b (by omega) (by omega) w).mono ?_
  rintro e w' ⟨rfl, rfl⟩
  exact ⟨rfl, (Below.refl _ _).alloc (Nat.le_refl _) _, new_sk b h4 h10 w⟩
end Go.Proofs.YtdcjfefnkjdchaaDoor
