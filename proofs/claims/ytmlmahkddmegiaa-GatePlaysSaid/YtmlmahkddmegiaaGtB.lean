/- What a gate's calls answer; the chapter's own. -/
import Derived.Test.YtmlmahkddmegiaaGtA
namespace Go.Proofs.Ytmlmahkddmegiaa
open Go Go.RowKit

theorem put_gate {P : Nat} {x y z c l h : Value} {w : World} (hP : CellsAt P #[x, y, z] w) : CellsAt P #[c, l, h] (((w.setCell ⟨P, 0, none⟩ c).setCell ⟨P, 1, none⟩ l).setCell ⟨P, 2, none⟩ h) :=
  ((hP.set 0 c (by simp)).set 1 l (by simp)).set 2 h (by simp)
theorem below_gate {N P : Nat} {c l h : Value} {w0 w : World} (hB : Below N w0 w) (hN : N ≤ P) : Below N w0 (((w.setCell ⟨P, 0, none⟩ c).setCell ⟨P, 1, none⟩ l).setCell ⟨P, 2, none⟩ h) :=
  ((hB.setCell (p := ⟨P, 0, none⟩) hN c).setCell (p := ⟨P, 1, none⟩) hN l).setCell (p := ⟨P, 2, none⟩) hN h
set_option maxHeartbeats 4000000 in
theorem gsee (c : Bool) (l h m : Int) (w : World) : Calls Try.prog 10 #[.agg #[.bool c, .int .u64 l, .int .u64 h], .int .u64 m] w fun e w' => e = .returned (.agg #[.bool (c || decide (h ≤ m)), .int .u64 l, .int .u64 h]) ∧ Below w.heap.size w w' := by
  have hsh := fun W => gshut c l h W
  rcases (show h ≤ m ∨ m < h by omega) with hm | hm
  · rw [decide_eq_true hm, Bool.or_true]
    obtain ⟨N, hN⟩ : ∃ N, w.heap.size = N := ⟨_, rfl⟩
    have HC0 : Hid (CellsAt N #[.bool c, .int .u64 l, .int .u64 h] ((w.alloc (.cells #[.bool c, .int .u64 l, .int .u64 h] 24)).alloc (.cells #[.bool false, .int .u64 0, .int .u64 0] 24))) := Lib.hid ((CellsAt.newAt #[.bool c, .int .u64 l, .int .u64 h] 24 w N hN.symm).past _)
    have HC1 : Hid (CellsAt (N + 1) #[.bool false, .int .u64 0, .int .u64 0] ((w.alloc (.cells #[.bool c, .int .u64 l, .int .u64 h] 24)).alloc (.cells #[.bool false, .int .u64 0, .int .u64 0] 24))) := Lib.hid (CellsAt.newAt #[.bool false, .int .u64 0, .int .u64 0] 24 _ _ (by simp [hN]))
    have HB : Hid (Below N w ((w.alloc (.cells #[.bool c, .int .u64 l, .int .u64 h] 24)).alloc (.cells #[.bool false, .int .u64 0, .int .u64 0] 24))) := Lib.hid (((Below.refl _ _).alloc (by omega) _).alloc (by simp; omega) _)
    have hsz : N + 2 ≤ ((w.alloc (.cells #[.bool c, .int .u64 l, .int .u64 h] 24)).alloc (.cells #[.bool false, .int .u64 0, .int .u64 0] 24)).heap.size := by simp [hN]
    have HS := Lib.hid hsz
    clear hsz
    go_enter Try.func10, Try.ntmps10
    go_wp2_with fail
    refine (hsh _).mono ?_
    rintro e v1 ⟨rfl, hBx⟩
    have hsz := HS.out
    replace HS : Hid (N + 2 ≤ _) := Lib.hid (Nat.le_trans hsz hBx.size)
    replace HC0 := Lib.hid (HC0.out.below hBx)
    replace HC1 := Lib.hid (HC1.out.below hBx)
    replace HB := Lib.hid (HB.out.trans (hBx.mono (by omega)))
    clear hBx hsz
    clear hsh
    have k10 := HC1.out.cell 0 _ rfl
    have f10 := HC1.out.fro 0 _ rfl
    have k11 := HC1.out.cell 1 _ rfl
    have f11 := HC1.out.fro 1 _ rfl
    have k12 := HC1.out.cell 2 _ rfl
    have f12 := HC1.out.fro 2 _ rfl
    have l1 := HC1.out.lt
    simp only [List.getElem_toArray, List.getElem_cons_zero, List.getElem_cons_succ] at k10 k11 k12
    go_wp2
    refine bodyPost_ret (result_cell rfl rfl (load_gate (put_gate HC1.out))) rfl ?_
    exact ⟨rfl, by rw [hN]; exact below_gate HB.out (by omega)⟩
  · rw [decide_eq_false (by omega), Bool.or_false]
    clear hsh
    go_enter Try.func10, Try.ntmps10
    go_wp2
    refine bodyPost_ret (result_cell rfl rfl (load_gate (CellsAt.newAt _ _ _ _ (by simp)))) rfl ?_
    exact ⟨rfl, ((Below.refl _ _).alloc (Nat.le_refl _) _).alloc (by simp) _⟩
set_option maxHeartbeats 4000000 in
theorem gturn (c : Bool) (l h m : Int) (w : World) : Calls Try.prog 12 #[.agg #[.bool c, .int .u64 l, .int .u64 h], .int .u64 m] w fun e w' => e = .returned (.agg #[.bool (c && decide (l < m)), .int .u64 l, .int .u64 h]) ∧ Below w.heap.size w w' := by
  have hsh := fun W => gshut c l h W
  have hop := fun W => gopened c l h W
  have his := fun W => gis c l h W
  rcases (show l < m ∨ m ≤ l by omega) with hm | hm
  · rw [decide_eq_true hm, Bool.and_true]
    cases c
    · obtain ⟨N, hN⟩ : ∃ N, w.heap.size = N := ⟨_, rfl⟩
      have HC0 : Hid (CellsAt N #[.bool false, .int .u64 l, .int .u64 h] ((w.alloc (.cells #[.bool false, .int .u64 l, .int .u64 h] 24)).alloc (.cells #[.bool false, .int .u64 0, .int .u64 0] 24))) := Lib.hid ((CellsAt.newAt #[.bool false, .int .u64 l, .int .u64 h] 24 w N hN.symm).past _)
      have HC1 : Hid (CellsAt (N + 1) #[.bool false, .int .u64 0, .int .u64 0] ((w.alloc (.cells #[.bool false, .int .u64 l, .int .u64 h] 24)).alloc (.cells #[.bool false, .int .u64 0, .int .u64 0] 24))) := Lib.hid (CellsAt.newAt #[.bool false, .int .u64 0, .int .u64 0] 24 _ _ (by simp [hN]))
      have HB : Hid (Below N w ((w.alloc (.cells #[.bool false, .int .u64 l, .int .u64 h] 24)).alloc (.cells #[.bool false, .int .u64 0, .int .u64 0] 24))) := Lib.hid (((Below.refl _ _).alloc (by omega) _).alloc (by simp; omega) _)
      have hsz : N + 2 ≤ ((w.alloc (.cells #[.bool false, .int .u64 l, .int .u64 h] 24)).alloc (.cells #[.bool false, .int .u64 0, .int .u64 0] 24)).heap.size := by simp [hN]
      have HS := Lib.hid hsz
      clear hsz
      go_enter Try.func12, Try.ntmps12
      go_wp2_with fail
      refine (his _).mono ?_
      rintro e v1 ⟨rfl, hBx⟩
      have hsz := HS.out
      replace HS : Hid (N + 2 ≤ _) := Lib.hid (Nat.le_trans hsz hBx.size)
      replace HC0 := Lib.hid (HC0.out.below hBx)
      replace HC1 := Lib.hid (HC1.out.below hBx)
      replace HB := Lib.hid (HB.out.trans (hBx.mono (by omega)))
      clear hBx hsz
      clear his
      have k00 := HC0.out.cell 0 _ rfl
      have f00 := HC0.out.fro 0 _ rfl
      have k01 := HC0.out.cell 1 _ rfl
      have f01 := HC0.out.fro 1 _ rfl
      have k02 := HC0.out.cell 2 _ rfl
      have f02 := HC0.out.fro 2 _ rfl
      have l0 := HC0.out.lt
      simp only [List.getElem_toArray, List.getElem_cons_zero, List.getElem_cons_succ] at k00 k01 k02
      go_wp2_with fail
      refine (hop _).mono ?_
      rintro e v2 ⟨rfl, hBx⟩
      have hsz := HS.out
      replace HS : Hid (N + 2 ≤ _) := Lib.hid (Nat.le_trans hsz hBx.size)
      replace HC0 := Lib.hid (HC0.out.below hBx)
      replace HC1 := Lib.hid (HC1.out.below hBx)
      replace HB := Lib.hid (HB.out.trans (hBx.mono (by omega)))
      clear hBx hsz
      clear hop hsh
      clear k00 f00 k01 f01 k02 f02 l0
      have k10 := HC1.out.cell 0 _ rfl
      have f10 := HC1.out.fro 0 _ rfl
      have k11 := HC1.out.cell 1 _ rfl
      have f11 := HC1.out.fro 1 _ rfl
      have k12 := HC1.out.cell 2 _ rfl
      have f12 := HC1.out.fro 2 _ rfl
      have l1 := HC1.out.lt
      simp only [List.getElem_toArray, List.getElem_cons_zero, List.getElem_cons_succ] at k10 k11 k12
      go_wp2
      refine bodyPost_ret (result_cell rfl rfl (load_gate (put_gate HC1.out))) rfl ?_
      exact ⟨rfl, by rw [hN]; exact below_gate HB.out (by omega)⟩
    · obtain ⟨N, hN⟩ : ∃ N, w.heap.size = N := ⟨_, rfl⟩
      have HC0 : Hid (CellsAt N #[.bool true, .int .u64 l, .int .u64 h] ((w.alloc (.cells #[.bool true, .int .u64 l, .int .u64 h] 24)).alloc (.cells #[.bool false, .int .u64 0, .int .u64 0] 24))) := Lib.hid ((CellsAt.newAt #[.bool true, .int .u64 l, .int .u64 h] 24 w N hN.symm).past _)
      have HC1 : Hid (CellsAt (N + 1) #[.bool false, .int .u64 0, .int .u64 0] ((w.alloc (.cells #[.bool true, .int .u64 l, .int .u64 h] 24)).alloc (.cells #[.bool false, .int .u64 0, .int .u64 0] 24))) := Lib.hid (CellsAt.newAt #[.bool false, .int .u64 0, .int .u64 0] 24 _ _ (by simp [hN]))
      have HB : Hid (Below N w ((w.alloc (.cells #[.bool true, .int .u64 l, .int .u64 h] 24)).alloc (.cells #[.bool false, .int .u64 0, .int .u64 0] 24))) := Lib.hid (((Below.refl _ _).alloc (by omega) _).alloc (by simp; omega) _)
      have hsz : N + 2 ≤ ((w.alloc (.cells #[.bool true, .int .u64 l, .int .u64 h] 24)).alloc (.cells #[.bool false, .int .u64 0, .int .u64 0] 24)).heap.size := by simp [hN]
      have HS := Lib.hid hsz
      clear hsz
      go_enter Try.func12, Try.ntmps12
      go_wp2_with fail
      refine (his _).mono ?_
      rintro e v1 ⟨rfl, hBx⟩
      have hsz := HS.out
      replace HS : Hid (N + 2 ≤ _) := Lib.hid (Nat.le_trans hsz hBx.size)
      replace HC0 := Lib.hid (HC0.out.below hBx)
      replace HC1 := Lib.hid (HC1.out.below hBx)
      replace HB := Lib.hid (HB.out.trans (hBx.mono (by omega)))
      clear hBx hsz
      clear his
      have k00 := HC0.out.cell 0 _ rfl
      have f00 := HC0.out.fro 0 _ rfl
      have k01 := HC0.out.cell 1 _ rfl
      have f01 := HC0.out.fro 1 _ rfl
      have k02 := HC0.out.cell 2 _ rfl
      have f02 := HC0.out.fro 2 _ rfl
      have l0 := HC0.out.lt
      simp only [List.getElem_toArray, List.getElem_cons_zero, List.getElem_cons_succ] at k00 k01 k02
      go_wp2_with fail
      refine (hsh _).mono ?_
      rintro e v2 ⟨rfl, hBx⟩
      have hsz := HS.out
      replace HS : Hid (N + 2 ≤ _) := Lib.hid (Nat.le_trans hsz hBx.size)
      replace HC0 := Lib.hid (HC0.out.below hBx)
      replace HC1 := Lib.hid (HC1.out.below hBx)
      replace HB := Lib.hid (HB.out.trans (hBx.mono (by omega)))
      clear hBx hsz
      clear hop hsh
      clear k00 f00 k01 f01 k02 f02 l0
      have k10 := HC1.out.cell 0 _ rfl
      have f10 := HC1.out.fro 0 _ rfl
      have k11 := HC1.out.cell 1 _ rfl
      have f11 := HC1.out.fro 1 _ rfl
      have k12 := HC1.out.cell 2 _ rfl
      have f12 := HC1.out.fro 2 _ rfl
      have l1 := HC1.out.lt
      simp only [List.getElem_toArray, List.getElem_cons_zero, List.getElem_cons_succ] at k10 k11 k12
      go_wp2
      refine bodyPost_ret (result_cell rfl rfl (load_gate (put_gate HC1.out))) rfl ?_
      exact ⟨rfl, by rw [hN]; exact below_gate HB.out (by omega)⟩
  · rw [decide_eq_false (by omega), Bool.and_false]
    clear hsh his
    obtain ⟨N, hN⟩ : ∃ N, w.heap.size = N := ⟨_, rfl⟩
    have HC0 : Hid (CellsAt N #[.bool c, .int .u64 l, .int .u64 h] ((w.alloc (.cells #[.bool c, .int .u64 l, .int .u64 h] 24)).alloc (.cells #[.bool false, .int .u64 0, .int .u64 0] 24))) := Lib.hid ((CellsAt.newAt #[.bool c, .int .u64 l, .int .u64 h] 24 w N hN.symm).past _)
    have HC1 : Hid (CellsAt (N + 1) #[.bool false, .int .u64 0, .int .u64 0] ((w.alloc (.cells #[.bool c, .int .u64 l, .int .u64 h] 24)).alloc (.cells #[.bool false, .int .u64 0, .int .u64 0] 24))) := Lib.hid (CellsAt.newAt #[.bool false, .int .u64 0, .int .u64 0] 24 _ _ (by simp [hN]))
    have HB : Hid (Below N w ((w.alloc (.cells #[.bool c, .int .u64 l, .int .u64 h] 24)).alloc (.cells #[.bool false, .int .u64 0, .int .u64 0] 24))) := Lib.hid (((Below.refl _ _).alloc (by omega) _).alloc (by simp; omega) _)
    have hsz : N + 2 ≤ ((w.alloc (.cells #[.bool c, .int .u64 l, .int .u64 h] 24)).alloc (.cells #[.bool false, .int .u64 0, .int .u64 0] 24)).heap.size := by simp [hN]
    have HS := Lib.hid hsz
    clear hsz
    go_enter Try.func12, Try.ntmps12
    go_wp2_with fail
    refine (hop _).mono ?_
    rintro e v1 ⟨rfl, hBx⟩
    have hsz := HS.out
    replace HS : Hid (N + 2 ≤ _) := Lib.hid (Nat.le_trans hsz hBx.size)
    replace HC0 := Lib.hid (HC0.out.below hBx)
    replace HC1 := Lib.hid (HC1.out.below hBx)
    replace HB := Lib.hid (HB.out.trans (hBx.mono (by omega)))
    clear hBx hsz
    clear hop
    have k10 := HC1.out.cell 0 _ rfl
    have f10 := HC1.out.fro 0 _ rfl
    have k11 := HC1.out.cell 1 _ rfl
    have f11 := HC1.out.fro 1 _ rfl
    have k12 := HC1.out.cell 2 _ rfl
    have f12 := HC1.out.fro 2 _ rfl
    have l1 := HC1.out.lt
    simp only [List.getElem_toArray, List.getElem_cons_zero, List.getElem_cons_succ] at k10 k11 k12
    go_wp2
    refine bodyPost_ret (result_cell rfl rfl (load_gate (put_gate HC1.out))) rfl ?_
    exact ⟨rfl, by rw [hN]; exact below_gate HB.out (by omega)⟩
set_option maxHeartbeats 4000000 in
theorem gset (c : Bool) (l h a b : Int) (w : World) : Calls Try.prog 14 #[.agg #[.bool c, .int .u64 l, .int .u64 h], .int .u64 a, .int .u64 b] w fun e w' => e = .returned (.agg #[.bool c, .int .u64 (min a b), .int .u64 b]) ∧ Below w.heap.size w w' := by
  have hnw := fun W => gnew a b W
  obtain ⟨M, hM⟩ : ∃ M, min a b = M := ⟨_, rfl⟩
  rw [hM] at hnw ⊢
  have hsh := fun W => gshut false M b W
  have his := fun W => gis c l h W
  clear hM
  cases c
  · obtain ⟨N, hN⟩ : ∃ N, w.heap.size = N := ⟨_, rfl⟩
    have HC0 : Hid (CellsAt N #[.bool false, .int .u64 l, .int .u64 h] ((w.alloc (.cells #[.bool false, .int .u64 l, .int .u64 h] 24)).alloc (.cells #[.bool false, .int .u64 0, .int .u64 0] 24))) := Lib.hid ((CellsAt.newAt #[.bool false, .int .u64 l, .int .u64 h] 24 w N hN.symm).past _)
    have HC1 : Hid (CellsAt (N + 1) #[.bool false, .int .u64 0, .int .u64 0] ((w.alloc (.cells #[.bool false, .int .u64 l, .int .u64 h] 24)).alloc (.cells #[.bool false, .int .u64 0, .int .u64 0] 24))) := Lib.hid (CellsAt.newAt #[.bool false, .int .u64 0, .int .u64 0] 24 _ _ (by simp [hN]))
    have HB : Hid (Below N w ((w.alloc (.cells #[.bool false, .int .u64 l, .int .u64 h] 24)).alloc (.cells #[.bool false, .int .u64 0, .int .u64 0] 24))) := Lib.hid (((Below.refl _ _).alloc (by omega) _).alloc (by simp; omega) _)
    have hsz : N + 2 ≤ ((w.alloc (.cells #[.bool false, .int .u64 l, .int .u64 h] 24)).alloc (.cells #[.bool false, .int .u64 0, .int .u64 0] 24)).heap.size := by simp [hN]
    have HS := Lib.hid hsz
    clear hsz
    go_enter Try.func14, Try.ntmps14
    go_wp2_with fail
    refine (hnw _).mono ?_
    rintro e v1 ⟨rfl, hBx⟩
    have hsz := HS.out
    replace HS : Hid (N + 2 ≤ _) := Lib.hid (Nat.le_trans hsz hBx.size)
    replace HC0 := Lib.hid (HC0.out.below hBx)
    replace HC1 := Lib.hid (HC1.out.below hBx)
    replace HB := Lib.hid (HB.out.trans (hBx.mono (by omega)))
    clear hBx hsz
    clear hnw
    have k00 := HC0.out.cell 0 _ rfl
    have f00 := HC0.out.fro 0 _ rfl
    have k01 := HC0.out.cell 1 _ rfl
    have f01 := HC0.out.fro 1 _ rfl
    have k02 := HC0.out.cell 2 _ rfl
    have f02 := HC0.out.fro 2 _ rfl
    have l0 := HC0.out.lt
    simp only [List.getElem_toArray, List.getElem_cons_zero, List.getElem_cons_succ] at k00 k01 k02
    have hs1 := HS.out
    obtain ⟨Q, hQ⟩ : ∃ Q, v1.heap.size = Q := ⟨_, rfl⟩
    rw [hQ] at l0
    have HC2 : Hid (CellsAt Q #[.bool false, .int .u64 M, .int .u64 b] (v1.alloc (.cells #[.bool false, .int .u64 M, .int .u64 b] 24))) := Lib.hid (CellsAt.newAt #[.bool false, .int .u64 M, .int .u64 b] 24 v1 Q hQ.symm)
    have hBn : Below v1.heap.size v1 (v1.alloc (.cells #[.bool false, .int .u64 M, .int .u64 b] 24)) := (Below.refl _ _).alloc (Nat.le_refl _) _
    replace HC0 := Lib.hid (HC0.out.below hBn)
    replace HC1 := Lib.hid (HC1.out.below hBn)
    replace HB := Lib.hid (HB.out.trans (hBn.mono (by omega)))
    replace HS : Hid (N + 2 ≤ _) := Lib.hid (Nat.le_trans hs1 hBn.size)
    clear hBn hs1
    go_wp2_with fail
    refine (his _).mono ?_
    rintro e v2 ⟨rfl, hBx⟩
    have hsz := HS.out
    replace HS : Hid (N + 2 ≤ _) := Lib.hid (Nat.le_trans hsz hBx.size)
    replace HC0 := Lib.hid (HC0.out.below hBx)
    replace HC1 := Lib.hid (HC1.out.below hBx)
    replace HC2 := Lib.hid (HC2.out.below hBx)
    replace HB := Lib.hid (HB.out.trans (hBx.mono (by omega)))
    clear hBx hsz
    clear his
    clear k00 f00 k01 f01 k02 f02 l0
    have k20 := HC2.out.cell 0 _ rfl
    have f20 := HC2.out.fro 0 _ rfl
    have k21 := HC2.out.cell 1 _ rfl
    have f21 := HC2.out.fro 1 _ rfl
    have k22 := HC2.out.cell 2 _ rfl
    have f22 := HC2.out.fro 2 _ rfl
    have l2 := HC2.out.lt
    simp only [List.getElem_toArray, List.getElem_cons_zero, List.getElem_cons_succ] at k20 k21 k22
    have k10 := HC1.out.cell 0 _ rfl
    have f10 := HC1.out.fro 0 _ rfl
    have k11 := HC1.out.cell 1 _ rfl
    have f11 := HC1.out.fro 1 _ rfl
    have k12 := HC1.out.cell 2 _ rfl
    have f12 := HC1.out.fro 2 _ rfl
    have l1 := HC1.out.lt
    simp only [List.getElem_toArray, List.getElem_cons_zero, List.getElem_cons_succ] at k10 k11 k12
    go_wp2
    refine bodyPost_ret (result_cell rfl rfl (load_gate (put_gate HC1.out))) rfl ?_
    exact ⟨rfl, by rw [hN]; exact below_gate HB.out (by omega)⟩
  · obtain ⟨N, hN⟩ : ∃ N, w.heap.size = N := ⟨_, rfl⟩
    have HC0 : Hid (CellsAt N #[.bool true, .int .u64 l, .int .u64 h] ((w.alloc (.cells #[.bool true, .int .u64 l, .int .u64 h] 24)).alloc (.cells #[.bool false, .int .u64 0, .int .u64 0] 24))) := Lib.hid ((CellsAt.newAt #[.bool true, .int .u64 l, .int .u64 h] 24 w N hN.symm).past _)
    have HC1 : Hid (CellsAt (N + 1) #[.bool false, .int .u64 0, .int .u64 0] ((w.alloc (.cells #[.bool true, .int .u64 l, .int .u64 h] 24)).alloc (.cells #[.bool false, .int .u64 0, .int .u64 0] 24))) := Lib.hid (CellsAt.newAt #[.bool false, .int .u64 0, .int .u64 0] 24 _ _ (by simp [hN]))
    have HB : Hid (Below N w ((w.alloc (.cells #[.bool true, .int .u64 l, .int .u64 h] 24)).alloc (.cells #[.bool false, .int .u64 0, .int .u64 0] 24))) := Lib.hid (((Below.refl _ _).alloc (by omega) _).alloc (by simp; omega) _)
    have hsz : N + 2 ≤ ((w.alloc (.cells #[.bool true, .int .u64 l, .int .u64 h] 24)).alloc (.cells #[.bool false, .int .u64 0, .int .u64 0] 24)).heap.size := by simp [hN]
    have HS := Lib.hid hsz
    clear hsz
    go_enter Try.func14, Try.ntmps14
    go_wp2_with fail
    refine (hnw _).mono ?_
    rintro e v1 ⟨rfl, hBx⟩
    have hsz := HS.out
    replace HS : Hid (N + 2 ≤ _) := Lib.hid (Nat.le_trans hsz hBx.size)
    replace HC0 := Lib.hid (HC0.out.below hBx)
    replace HC1 := Lib.hid (HC1.out.below hBx)
    replace HB := Lib.hid (HB.out.trans (hBx.mono (by omega)))
    clear hBx hsz
    clear hnw
    have k00 := HC0.out.cell 0 _ rfl
    have f00 := HC0.out.fro 0 _ rfl
    have k01 := HC0.out.cell 1 _ rfl
    have f01 := HC0.out.fro 1 _ rfl
    have k02 := HC0.out.cell 2 _ rfl
    have f02 := HC0.out.fro 2 _ rfl
    have l0 := HC0.out.lt
    simp only [List.getElem_toArray, List.getElem_cons_zero, List.getElem_cons_succ] at k00 k01 k02
    have hs1 := HS.out
    obtain ⟨Q, hQ⟩ : ∃ Q, v1.heap.size = Q := ⟨_, rfl⟩
    rw [hQ] at l0
    have HC2 : Hid (CellsAt Q #[.bool false, .int .u64 M, .int .u64 b] (v1.alloc (.cells #[.bool false, .int .u64 M, .int .u64 b] 24))) := Lib.hid (CellsAt.newAt #[.bool false, .int .u64 M, .int .u64 b] 24 v1 Q hQ.symm)
    have hBn : Below v1.heap.size v1 (v1.alloc (.cells #[.bool false, .int .u64 M, .int .u64 b] 24)) := (Below.refl _ _).alloc (Nat.le_refl _) _
    replace HC0 := Lib.hid (HC0.out.below hBn)
    replace HC1 := Lib.hid (HC1.out.below hBn)
    replace HB := Lib.hid (HB.out.trans (hBn.mono (by omega)))
    replace HS : Hid (N + 2 ≤ _) := Lib.hid (Nat.le_trans hs1 hBn.size)
    clear hBn hs1
    go_wp2_with fail
    refine (his _).mono ?_
    rintro e v2 ⟨rfl, hBx⟩
    have hsz := HS.out
    replace HS : Hid (N + 2 ≤ _) := Lib.hid (Nat.le_trans hsz hBx.size)
    replace HC0 := Lib.hid (HC0.out.below hBx)
    replace HC1 := Lib.hid (HC1.out.below hBx)
    replace HC2 := Lib.hid (HC2.out.below hBx)
    replace HB := Lib.hid (HB.out.trans (hBx.mono (by omega)))
    clear hBx hsz
    clear his
    clear k00 f00 k01 f01 k02 f02 l0
    have k20 := HC2.out.cell 0 _ rfl
    have f20 := HC2.out.fro 0 _ rfl
    have k21 := HC2.out.cell 1 _ rfl
    have f21 := HC2.out.fro 1 _ rfl
    have k22 := HC2.out.cell 2 _ rfl
    have f22 := HC2.out.fro 2 _ rfl
    have l2 := HC2.out.lt
    simp only [List.getElem_toArray, List.getElem_cons_zero, List.getElem_cons_succ] at k20 k21 k22
    go_wp2_with fail
    refine (hsh _).mono ?_
    rintro e v3 ⟨rfl, hBx⟩
    have hsz := HS.out
    replace HS : Hid (N + 2 ≤ _) := Lib.hid (Nat.le_trans hsz hBx.size)
    replace HC1 := Lib.hid (HC1.out.below hBx)
    replace HB := Lib.hid (HB.out.trans (hBx.mono (by omega)))
    clear hBx hsz
    clear hsh HC2
    clear k20 f20 k21 f21 k22 f22 l2
    have k10 := HC1.out.cell 0 _ rfl
    have f10 := HC1.out.fro 0 _ rfl
    have k11 := HC1.out.cell 1 _ rfl
    have f11 := HC1.out.fro 1 _ rfl
    have k12 := HC1.out.cell 2 _ rfl
    have f12 := HC1.out.fro 2 _ rfl
    have l1 := HC1.out.lt
    simp only [List.getElem_toArray, List.getElem_cons_zero, List.getElem_cons_succ] at k10 k11 k12
    go_wp2
    refine bodyPost_ret (result_cell rfl rfl (load_gate (put_gate HC1.out))) rfl ?_
    exact ⟨rfl, by rw [hN]; exact below_gate HB.out (by omega)⟩
end Go.Proofs.Ytmlmahkddmegiaa
