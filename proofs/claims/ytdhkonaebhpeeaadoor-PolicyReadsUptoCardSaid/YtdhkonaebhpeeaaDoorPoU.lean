/- The chapter's side: a number between two, the numbers, a policy of numbers, one as the chapter's, the names. -/
import Derived.Test.YtdhkonaebhpeeaaDoorPoC
import Derived.BigRegion
namespace Go.Proofs.YtdhkonaebhpeeaaDoor.Po
open Go Go.RowKit

theorem in_any (n low high : Int) (w : World) : Calls Tryd.prog 35 #[.int .i64 n, .int .i64 low, .int .i64 high] w fun e w' => e = .returned (.bool (inZ n low high)) ∧ w' = w := by
  unfold inZ
  by_cases h1 : low ≤ n
  · by_cases h2 : n ≤ high
    · rw [decide_eq_true h1, decide_eq_true h2]
      go_enter Tryd.func35, Tryd.ntmps35
      go_wp2
      go_ret
      exact ⟨rfl, rfl⟩
    · have h2d : decide (n ≤ high) = false := decide_eq_false h2
      rw [decide_eq_true h1, h2d]
      go_enter Tryd.func35, Tryd.ntmps35
      go_wp2
      go_ret
      exact ⟨rfl, rfl⟩
  · have h1d : decide (low ≤ n) = false := decide_eq_false h1
    rw [h1d]
    go_enter Tryd.func35, Tryd.ntmps35
    go_wp2
    go_ret
    exact ⟨rfl, rfl⟩
set_option maxHeartbeats 4000000 in
theorem refnumbers_any (n : List Int) (p : Option Addr) (l c : Nat) (w : World) (hn : n.length = 10) : Calls Tryd.prog 32 #[.agg (valsP n (.slice p l c))] w fun e w' => ∃ g, e = .returned (.slice (some ⟨g, 0, none⟩) 10 10) ∧ OwnI w.heap.size (.slice (some ⟨g, 0, none⟩) 10 10) n w' ∧ Below w.heap.size w w' := by
  obtain ⟨a0, a1, a2, a3, a4, a5, a6, a7, a8, a9, rfl⟩ := ten_of hn
  have e : valsP [a0, a1, a2, a3, a4, a5, a6, a7, a8, a9] (.slice p l c) = #[.int .i64 a0, .int .i64 a1, .int .i64 a2, .int .i64 a3, .int .i64 a4, .int .i64 a5, .int .i64 a6, .int .i64 a7, .int .i64 a8, .int .i64 a9, .slice p l c] := rfl
  rw [e]
  clear hn e
  go_enter Tryd.func32, Tryd.ntmps32
  go_wp2
  go_ret
  refine ⟨_, rfl, row_of (l := [a0, a1, a2, a3, a4, a5, a6, a7, a8, a9]) (by omega) (heap_alloc2_new _ _ _) (by simp [maxLen]), ((Below.refl _ _).alloc (Nat.le_refl _) _).alloc (by simp) _⟩
set_option maxHeartbeats 4000000 in
theorem refpol_any (n : List Int) (p : Option Addr) (l c : Nat) (w : World) (hn : n.length = 10) : Calls Tryd.prog 14 #[.agg (valsP n (.slice p l c))] w fun e w' => e = .returned (.agg (valsP n (.slice p l c))) ∧ Below w.heap.size w w' := by
  obtain ⟨a0, a1, a2, a3, a4, a5, a6, a7, a8, a9, rfl⟩ := ten_of hn
  have e : valsP [a0, a1, a2, a3, a4, a5, a6, a7, a8, a9] (.slice p l c) = #[.int .i64 a0, .int .i64 a1, .int .i64 a2, .int .i64 a3, .int .i64 a4, .int .i64 a5, .int .i64 a6, .int .i64 a7, .int .i64 a8, .int .i64 a9, .slice p l c] := rfl
  rw [e]
  clear hn e
  go_enter Tryd.func14, Tryd.ntmps14
  go_wp2
  refine bodyPost_ret (result_cell rfl rfl (load_ref (n := [a0, a1, a2, a3, a4, a5, a6, a7, a8, a9]) (v := .slice p l c) (CellsAt.newAt (valsP [a0, a1, a2, a3, a4, a5, a6, a7, a8, a9] (.slice p l c)) 33 _ _ (by simp)) rfl)) rfl ?_
  exact ⟨rfl, ((Below.refl _ _).alloc (Nat.le_refl _) _).alloc (by simp) _⟩
end Go.Proofs.YtdhkonaebhpeeaaDoor.Po

