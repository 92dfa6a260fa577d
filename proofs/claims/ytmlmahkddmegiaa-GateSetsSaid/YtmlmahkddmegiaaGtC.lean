/- The chapter's own gates; the chapter's examples; a gate beside the chapter's. -/
import Derived.Test.YtmlmahkddmegiaaGtB
namespace Go.Proofs.Ytmlmahkddmegiaa
open Go Go.RowKit

set_option maxHeartbeats 4000000 in
theorem rnew (l h : Int) (w : World) : Calls Try.prog 16 #[.int .u64 l, .int .u64 h] w fun e w' => e = .returned (.agg #[.bool false, .int .u64 (min l h), .int .u64 h]) ∧ Below w.heap.size w w' := by
  rcases (show h < l ∨ l ≤ h by omega) with hm | hm
  · rw [Int.min_eq_right (by omega)]
    go_enter Try.func16, Try.ntmps16
    go_wp2
    refine bodyPost_ret (result_cell rfl rfl (load_rgate (CellsAt.new _ _ _))) rfl ?_
    exact ⟨rfl, (Below.refl _ _).alloc (Nat.le_refl _) _⟩
  · rw [Int.min_eq_left hm]
    go_enter Try.func16, Try.ntmps16
    go_wp2
    refine bodyPost_ret (result_cell rfl rfl (load_rgate (CellsAt.new _ _ _))) rfl ?_
    exact ⟨rfl, (Below.refl _ _).alloc (Nat.le_refl _) _⟩
set_option maxHeartbeats 4000000 in
theorem rsee (c : Bool) (l h m : Int) (w : World) : Calls Try.prog 11 #[.agg #[.bool c, .int .u64 l, .int .u64 h], .int .u64 m] w fun e w' => e = .returned (.agg #[.bool (c || decide (h ≤ m)), .int .u64 l, .int .u64 h]) ∧ Below w.heap.size w w' := by
  rcases (show h ≤ m ∨ m < h by omega) with hm | hm
  · rw [decide_eq_true hm, Bool.or_true]
    go_enter Try.func11, Try.ntmps11
    go_wp2
    refine bodyPost_ret (result_cell rfl rfl (load_rgate (CellsAt.newAt _ _ _ _ (by simp)))) rfl ?_
    exact ⟨rfl, ((Below.refl _ _).alloc (Nat.le_refl _) _).alloc (by simp) _⟩
  · rw [decide_eq_false (by omega), Bool.or_false]
    go_enter Try.func11, Try.ntmps11
    go_wp2
    refine bodyPost_ret (result_cell rfl rfl (load_rgate (CellsAt.newAt _ _ _ _ (by simp)))) rfl ?_
    exact ⟨rfl, ((Below.refl _ _).alloc (Nat.le_refl _) _).alloc (by simp) _⟩
set_option maxHeartbeats 4000000 in
theorem rturn (c : Bool) (l h m : Int) (w : World) : Calls Try.prog 13 #[.agg #[.bool c, .int .u64 l, .int .u64 h], .int .u64 m] w fun e w' => e = .returned (.agg #[.bool (c && decide (l < m)), .int .u64 l, .int .u64 h]) ∧ Below w.heap.size w w' := by
  rcases (show l < m ∨ m ≤ l by omega) with hm | hm
  · rw [decide_eq_true hm, Bool.and_true]
    go_enter Try.func13, Try.ntmps13
    go_wp2
    refine bodyPost_ret (result_cell rfl rfl (load_rgate (CellsAt.newAt _ _ _ _ (by simp)))) rfl ?_
    exact ⟨rfl, ((Below.refl _ _).alloc (Nat.le_refl _) _).alloc (by simp) _⟩
  · rw [decide_eq_false (by omega), Bool.and_false]
    go_enter Try.func13, Try.ntmps13
    go_wp2
    refine bodyPost_ret (result_cell rfl rfl (load_rgate (CellsAt.newAt _ _ _ _ (by simp)))) rfl ?_
    exact ⟨rfl, ((Below.refl _ _).alloc (Nat.le_refl _) _).alloc (by simp) _⟩
set_option maxHeartbeats 4000000 in
theorem rset (c : Bool) (l h a b : Int) (w : World) : Calls Try.prog 15 #[.agg #[.bool c, .int .u64 l, .int .u64 h], .int .u64 a, .int .u64 b] w fun e w' => e = .returned (.agg #[.bool c, .int .u64 (min a b), .int .u64 b]) ∧ Below w.heap.size w w' := by
  have hnw := fun W => rnew a b W
  obtain ⟨M, hM⟩ : ∃ M, min a b = M := ⟨_, rfl⟩
  rw [hM] at hnw ⊢
  clear hM
  obtain ⟨N, hN⟩ : ∃ N, w.heap.size = N := ⟨_, rfl⟩
  have HC0 : Hid (CellsAt N #[.bool c, .int .u64 l, .int .u64 h] ((w.alloc (.cells #[.bool c, .int .u64 l, .int .u64 h] 27)).alloc (.cells #[.bool false, .int .u64 0, .int .u64 0] 27))) := Lib.hid ((CellsAt.newAt #[.bool c, .int .u64 l, .int .u64 h] 27 w N hN.symm).past _)
  have HC1 : Hid (CellsAt (N + 1) #[.bool false, .int .u64 0, .int .u64 0] ((w.alloc (.cells #[.bool c, .int .u64 l, .int .u64 h] 27)).alloc (.cells #[.bool false, .int .u64 0, .int .u64 0] 27))) := Lib.hid (CellsAt.newAt #[.bool false, .int .u64 0, .int .u64 0] 27 _ _ (by simp [hN]))
  have HB : Hid (Below N w ((w.alloc (.cells #[.bool c, .int .u64 l, .int .u64 h] 27)).alloc (.cells #[.bool false, .int .u64 0, .int .u64 0] 27))) := Lib.hid (((Below.refl _ _).alloc (by omega) _).alloc (by simp; omega) _)
  have hsz : N + 2 ≤ ((w.alloc (.cells #[.bool c, .int .u64 l, .int .u64 h] 27)).alloc (.cells #[.bool false, .int .u64 0, .int .u64 0] 27)).heap.size := by simp [hN]
  have HS := Lib.hid hsz
  clear hsz
  go_enter Try.func15, Try.ntmps15
  go_wp2_with fail
  refine (hnw _).mono ?_
  rintro e v1 ⟨rfl, hBx⟩
  have hsz := HS.out
  replace HS : Hid (N + 2 ≤ _) := Lib.hid (Nat.le_trans hsz hBx.size)
  replace HC0 := Lib.hid (HC0.out.below hBx)
  replace HC1 := Lib.hid (HC1.out.below hBx)
  replace HB := Lib.hid (HB.out.trans (hBx.mono (by omega)))
  clear hBx hsz
  clear hnw
  have k00 := HC0.out.cell 0 _ rfl
  have f00 := HC0.out.fro 0 _ rfl
  have k01 := HC0.out.cell 1 _ rfl
  have f01 := HC0.out.fro 1 _ rfl
  have k02 := HC0.out.cell 2 _ rfl
  have f02 := HC0.out.fro 2 _ rfl
  have l0 := HC0.out.lt
  simp only [List.getElem_toArray, List.getElem_cons_zero, List.getElem_cons_succ] at k00 k01 k02
  have hs1 := HS.out
  obtain ⟨Q, hQ⟩ : ∃ Q, v1.heap.size = Q := ⟨_, rfl⟩
  rw [hQ] at l0
  have hBn : Below v1.heap.size v1 (v1.alloc (.cells #[.bool c, .int .u64 M, .int .u64 b] 27)) := (Below.refl _ _).alloc (Nat.le_refl _) _
  replace HC1 := Lib.hid (HC1.out.below hBn)
  replace HB := Lib.hid (HB.out.trans (hBn.mono (by omega)))
  clear hBn HC0 HS
  have k10 := HC1.out.cell 0 _ rfl
  have f10 := HC1.out.fro 0 _ rfl
  have k11 := HC1.out.cell 1 _ rfl
  have f11 := HC1.out.fro 1 _ rfl
  have k12 := HC1.out.cell 2 _ rfl
  have f12 := HC1.out.fro 2 _ rfl
  have l1 := HC1.out.lt
  simp only [List.getElem_toArray, List.getElem_cons_zero, List.getElem_cons_succ] at k10 k11 k12
  go_wp2
  refine bodyPost_ret (result_cell rfl rfl (load_rgate (put_gate HC1.out))) rfl ?_
  exact ⟨rfl, by rw [hN]; exact below_gate HB.out (by omega)⟩
set_option maxHeartbeats 4000000 in
theorem gsame (c : Bool) (l h : Int) (w : World) : Calls Try.prog 9 #[.agg #[.bool c, .int .u64 l, .int .u64 h], .agg #[.bool c, .int .u64 l, .int .u64 h]] w fun e w' => e = .returned (.bool true) ∧ Below w.heap.size w w' := by
  cases c
  all_goals
    go_enter Try.func9, Try.ntmps9
    go_wp2
    go_ret
    exact ⟨rfl, ((Below.refl _ _).alloc (Nat.le_refl _) _).alloc (by simp) _⟩
theorem field0 (a : Bool) (b c : Int) (w : World) : (Instr.field 24 (.agg #[.bool a, .int .u64 b, .int .u64 c]) 0).run Try.prog w = .ok (.bool a) w := by kernel_rfl
theorem field1 (a : Bool) (b c : Int) (w : World) : (Instr.field 24 (.agg #[.bool a, .int .u64 b, .int .u64 c]) 1).run Try.prog w = .ok (.int .u64 b) w := by kernel_rfl
attribute [local go_sem] field0 field1
set_option maxHeartbeats 4000000 in
theorem examples_any (w : World) : Calls Try.prog 7 #[] w fun e w' => e = .returned (.bool true) ∧ Below w.heap.size w w' := by
  have h1 : ∀ W, Calls Try.prog 8 #[.int .u64 1, .int .u64 2] W fun e w' => e = .returned (.agg #[.bool false, .int .u64 1, .int .u64 2]) ∧ Below W.heap.size W w' := fun W => gnew 1 2 W
  have h2 : ∀ W, Calls Try.prog 10 #[.agg #[.bool false, .int .u64 1, .int .u64 2], .int .u64 2] W fun e w' => e = .returned (.agg #[.bool true, .int .u64 1, .int .u64 2]) ∧ Below W.heap.size W w' := fun W => gsee false 1 2 2 W
  have h3 : ∀ W, Calls Try.prog 12 #[.agg #[.bool true, .int .u64 1, .int .u64 2], .int .u64 2] W fun e w' => e = .returned (.agg #[.bool true, .int .u64 1, .int .u64 2]) ∧ Below W.heap.size W w' := fun W => gturn true 1 2 2 W
  have h4 : ∀ W, Calls Try.prog 12 #[.agg #[.bool true, .int .u64 1, .int .u64 2], .int .u64 1] W fun e w' => e = .returned (.agg #[.bool false, .int .u64 1, .int .u64 2]) ∧ Below W.heap.size W w' := fun W => gturn true 1 2 1 W
  have h5 : ∀ W, Calls Try.prog 8 #[.int .u64 5, .int .u64 2] W fun e w' => e = .returned (.agg #[.bool false, .int .u64 2, .int .u64 2]) ∧ Below W.heap.size W w' := fun W => gnew 5 2 W
  have h6 : ∀ W, Calls Try.prog 14 #[.agg #[.bool true, .int .u64 1, .int .u64 2], .int .u64 0, .int .u64 9] W fun e w' => e = .returned (.agg #[.bool true, .int .u64 0, .int .u64 9]) ∧ Below W.heap.size W w' := fun W => gset true 1 2 0 9 W
  have HB0 := Lib.hid (Below.refl w.heap.size w)
  go_enter Try.func7, Try.ntmps7
  go_wp2_with fail
  refine (h1 _).mono ?_
  rintro e w1 ⟨rfl, hB1⟩
  have HA1 : Hid (CellsAt w1.heap.size #[.bool false, .int .u64 1, .int .u64 2] (w1.alloc (.cells #[.bool false, .int .u64 1, .int .u64 2] 24))) := Lib.hid (CellsAt.new _ _ _)
  have hBa : Below w1.heap.size w1 (w1.alloc (.cells #[.bool false, .int .u64 1, .int .u64 2] 24)) := (Below.refl _ _).alloc (Nat.le_refl _) _
  have HB1 := Lib.hid ((HB0.out.trans hB1).trans (hBa.mono hB1.size))
  clear h1 HB0 hB1 hBa
  generalize hA : w1.heap.size = A at *
  go_wp2_with fail
  refine (h2 _).mono ?_
  rintro e w2 ⟨rfl, hB2⟩
  clear hA
  have HA2 := Lib.hid (HA1.out.below hB2)
  have HB2 := Lib.hid (HB1.out.trans (hB2.mono HB1.out.size))
  clear h2 HA1 HB1 hB2
  have kA := HA2.out.cell 0 _ rfl
  have lA := HA2.out.lt
  simp only [List.getElem_toArray, List.getElem_cons_zero] at kA
  obtain ⟨B, hB⟩ : ∃ B, w2.heap.size = B := ⟨_, rfl⟩
  rw [hB] at lA
  have HD2 : Hid (CellsAt B #[.bool true, .int .u64 1, .int .u64 2] (w2.alloc (.cells #[.bool true, .int .u64 1, .int .u64 2] 24))) := Lib.hid (CellsAt.newAt #[.bool true, .int .u64 1, .int .u64 2] 24 w2 B hB.symm)
  have hBa : Below w2.heap.size w2 (w2.alloc (.cells #[.bool true, .int .u64 1, .int .u64 2] 24)) := (Below.refl _ _).alloc (Nat.le_refl _) _
  have HB3 := Lib.hid (HB2.out.trans (hBa.mono HB2.out.size))
  clear HA2 HB2 hBa
  go_wp2_with fail
  refine (h3 _).mono ?_
  rintro e w3 ⟨rfl, hBx⟩
  replace HD2 := Lib.hid (HD2.out.below hBx)
  replace HB3 := Lib.hid (HB3.out.trans (hBx.mono HB3.out.size))
  clear hBx h3
  clear kA lA hB
  have k0 := HD2.out.cell 0 _ rfl
  have k1 := HD2.out.cell 1 _ rfl
  have k2 := HD2.out.cell 2 _ rfl
  simp only [List.getElem_toArray, List.getElem_cons_zero, List.getElem_cons_succ] at k0 k1 k2
  go_wp2_with fail
  refine (h4 _).mono ?_
  rintro e w4 ⟨rfl, hBx⟩
  replace HD2 := Lib.hid (HD2.out.below hBx)
  replace HB3 := Lib.hid (HB3.out.trans (hBx.mono HB3.out.size))
  clear hBx h4
  clear k0 k1 k2
  have k0 := HD2.out.cell 0 _ rfl
  have k1 := HD2.out.cell 1 _ rfl
  have k2 := HD2.out.cell 2 _ rfl
  simp only [List.getElem_toArray, List.getElem_cons_zero, List.getElem_cons_succ] at k0 k1 k2
  go_wp2_with fail
  refine (h5 _).mono ?_
  rintro e w5 ⟨rfl, hBx⟩
  replace HD2 := Lib.hid (HD2.out.below hBx)
  replace HB3 := Lib.hid (HB3.out.trans (hBx.mono HB3.out.size))
  clear hBx h5
  clear k0 k1 k2
  have k0 := HD2.out.cell 0 _ rfl
  have k1 := HD2.out.cell 1 _ rfl
  have k2 := HD2.out.cell 2 _ rfl
  simp only [List.getElem_toArray, List.getElem_cons_zero, List.getElem_cons_succ] at k0 k1 k2
  go_wp2_with fail
  refine (h6 _).mono ?_
  rintro e w6 ⟨rfl, hBx⟩
  replace HD2 := Lib.hid (HD2.out.below hBx)
  replace HB3 := Lib.hid (HB3.out.trans (hBx.mono HB3.out.size))
  clear hBx h6
  clear k0 k1 k2
  go_wp2
  go_ret
  exact ⟨rfl, HB3.out⟩
end Go.Proofs.Ytmlmahkddmegiaa
