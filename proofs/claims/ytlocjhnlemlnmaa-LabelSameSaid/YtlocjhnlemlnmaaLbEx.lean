/- The chapter's own examples. -/
import Derived.Test.YtlocjhnlemlnmaaLbSm
namespace Go.Proofs.Ytlocjhnlemlnmaa.Lx
open Go Go.RowKit

theorem ex1 : keyE [97] [] = .ok [1, 97, 0] := by rfl
theorem ex2 : keyE [97] [([120], [49]), ([120], [50])] = .error 11 := by rfl
theorem ex3 : keyE [109] [([98], [49]), ([97], [50])] = .ok [1, 109, 2, 1, 97, 1, 50, 1, 98, 1, 49] := by rfl
theorem ex4 : splitP [1, 109, 2, 1, 97, 1, 50, 1, 98, 1, 49] = some ([109], [([97], [50]), ([98], [49])]) := by rfl
theorem ex5 : textS [1, 109, 2, 1, 97, 1, 50, 1, 98, 1, 49] = [109, 44, 97, 61, 50, 44, 98, 61, 49] := by rfl
theorem ex6 : metricS [1, 109, 2, 1, 97, 1, 50, 1, 98, 1, 49] = [109] := by rfl
theorem ex7 : textS [122, 122] = [] := by rfl

theorem lb_of {g : Nat} {ls : List LabB} {w : World} (h : CellsAt g (flatL ls).toArray w) (hs : Short ls) : LbAt (some ⟨g, 0, none⟩) ls w := fun k hk => by
  obtain ⟨h1, h2⟩ := flatL_at ls k hk
  obtain ⟨s1, s2⟩ := hs _ (List.getElem_mem hk)
  refine ⟨g, 0, rfl, h.lt, ?_, ?_, s1, s2⟩
  · rw [Nat.zero_add]; exact h.cell _ _ (by simpa using h1)
  · rw [Nat.zero_add]; exact h.cell _ _ (by simpa using h2)
theorem fit_tx : 64 ≤ maxLen := by unfold maxLen; omega

set_option maxRecDepth 100000 in
set_option maxHeartbeats 8000000 in
theorem examples_of (hT : TextOk) (w : World) : Calls Try.prog 9 #[] w fun e w' => e = .returned (.bool true) ∧ Below w.heap.size w w' := by
  have hk1 : ∀ w : World, Calls Try.prog 15 #[.string ⟨#[97]⟩, .slice none 0 0] w fun e w' => e = .returned (.tuple #[.string ⟨#[1, 97, 0]⟩, .int .i64 0]) ∧ Below w.heap.size w w' := fun w => by
    have h := key_any [97] (Nat.le_trans (by simp) fit_tx) none 0 [] (fun _ => rfl) (Nat.zero_le _) w (LbAt.nil _ _)
    rw [ex1] at h
    exact h
  have hk2 : ∀ w : World, Calls Try.prog 15 #[.string ⟨#[97]⟩, .slice (some ⟨w.heap.size, 0, none⟩) 2 2] (w.alloc (.cells #[.string ⟨#[120]⟩, .string ⟨#[49]⟩, .string ⟨#[120]⟩, .string ⟨#[50]⟩] 47)) fun e w' => e = .returned (.tuple #[.string ⟨#[]⟩, .int .i64 11]) ∧ Below w.heap.size w w' := fun w => by
    have h := key_any [97] (Nat.le_trans (by simp) fit_tx) (some ⟨w.heap.size, 0, none⟩) 2 [([120], [49]), ([120], [50])] (fun e => by cases e) (by unfold maxLab; simp) (w.alloc (.cells (flatL [([120], [49]), ([120], [50])]).toArray 47)) (lb_of (CellsAt.new _ _ w) (fun x hx => by simp at hx; rcases hx with rfl | rfl <;> (unfold maxLen; simp)))
    rw [ex2] at h
    exact h.mono fun e w' he => ⟨he.1, ((Below.refl _ _).alloc (Nat.le_refl _) _).trans (he.2.mono (by simp))⟩
  have hk3 : ∀ w : World, Calls Try.prog 15 #[.string ⟨#[109]⟩, .slice (some ⟨w.heap.size, 0, none⟩) 2 2] (w.alloc (.cells #[.string ⟨#[98]⟩, .string ⟨#[49]⟩, .string ⟨#[97]⟩, .string ⟨#[50]⟩] 47)) fun e w' => e = .returned (.tuple #[.string ⟨#[1, 109, 2, 1, 97, 1, 50, 1, 98, 1, 49]⟩, .int .i64 0]) ∧ Below w.heap.size w w' := fun w => by
    have h := key_any [109] (Nat.le_trans (by simp) fit_tx) (some ⟨w.heap.size, 0, none⟩) 2 [([98], [49]), ([97], [50])] (fun e => by cases e) (by unfold maxLab; simp) (w.alloc (.cells (flatL [([98], [49]), ([97], [50])]).toArray 47)) (lb_of (CellsAt.new _ _ w) (fun x hx => by simp at hx; rcases hx with rfl | rfl <;> (unfold maxLen; simp)))
    rw [ex3] at h
    exact h.mono fun e w' he => ⟨he.1, ((Below.refl _ _).alloc (Nat.le_refl _) _).trans (he.2.mono (by simp))⟩
  have hs4 : ∀ w : World, Calls Try.prog 20 #[.string ⟨#[1, 109, 2, 1, 97, 1, 50, 1, 98, 1, 49]⟩] w (SplitEnd w (some ([109], [([97], [50]), ([98], [49])]))) := fun w => by
    have h := split_of hT [1, 109, 2, 1, 97, 1, 50, 1, 98, 1, 49] (Nat.le_trans (by simp) fit_tx) w
    rw [ex4] at h
    exact h
  have ht5 : ∀ w : World, Calls Try.prog 22 #[.string ⟨#[1, 109, 2, 1, 97, 1, 50, 1, 98, 1, 49]⟩] w fun e w' => e = .returned (.string ⟨#[109, 44, 97, 61, 50, 44, 98, 61, 49]⟩) ∧ Below w.heap.size w w' := fun w => by
    have h := text_of [1, 109, 2, 1, 97, 1, 50, 1, 98, 1, 49] (fun w => split_of hT _ (Nat.le_trans (by simp) fit_tx) w) w
    rw [ex5] at h
    exact h
  have hm6 : ∀ w : World, Calls Try.prog 24 #[.string ⟨#[1, 109, 2, 1, 97, 1, 50, 1, 98, 1, 49]⟩] w fun e w' => e = .returned (.string ⟨#[109]⟩) ∧ Below w.heap.size w w' := fun w => by
    have h := metric_of [1, 109, 2, 1, 97, 1, 50, 1, 98, 1, 49] (fun w => split_of hT _ (Nat.le_trans (by simp) fit_tx) w) w
    rw [ex6] at h
    exact h
  have ht7 : ∀ w : World, Calls Try.prog 22 #[.string ⟨#[122, 122]⟩] w fun e w' => e = .returned (.string ⟨#[]⟩) ∧ Below w.heap.size w w' := fun w => by
    have h := text_of [122, 122] (fun w => split_of hT _ (Nat.le_trans (by simp) fit_tx) w) w
    rw [ex7] at h
    exact h
  have HB0 := Lib.hid (Below.refl w.heap.size w)
  clear hT
  go_enter Try.func9, Try.ntmps9
  go_wp2_with fail
  refine (hk1 _).mono ?_
  rintro e w1 ⟨rfl, hB⟩
  have HB1 := Lib.hid (HB0.out.trans hB)
  clear hB HB0 hk1
  go_wp2_with fail
  refine (hk2 _).mono ?_
  rintro e w2 ⟨rfl, hB⟩
  have HB2 := Lib.hid (HB1.out.trans (hB.mono HB1.out.size))
  clear hB HB1 hk2
  go_wp2_with fail
  refine (hk3 _).mono ?_
  rintro e w3 ⟨rfl, hB⟩
  have HB3 := Lib.hid (HB2.out.trans (hB.mono HB2.out.size))
  clear hB HB2 hk3
  go_wp2_with fail
  refine (hs4 _).mono ?_
  rintro e w4 ⟨v, he, hO, hB⟩
  have he : e = .returned (.tuple #[.string ⟨#[109]⟩, v, .bool true]) := he
  subst he
  have HB4 := Lib.hid (HB3.out.trans (hB.mono HB3.out.size))
  rcases OwnL.form hO with ⟨_, h0⟩ | ⟨g, cap, rfl, _, hg, _, hc⟩
  · cases h0
  have c0 := (hc 0 (by simp)).1
  have C0 : w4.cell? ⟨g, 0, none⟩ = some (.string ⟨#[97]⟩) := c0
  clear hB HB3 hs4 hO hc c0
  go_wp2_with fail
  refine (ht5 _).mono ?_
  rintro e w5 ⟨rfl, hB⟩
  have HB5 := Lib.hid (HB4.out.trans (hB.mono HB4.out.size))
  clear hB HB4 ht5 C0
  go_wp2_with fail
  refine (hm6 _).mono ?_
  rintro e w6 ⟨rfl, hB⟩
  have HB6 := Lib.hid (HB5.out.trans (hB.mono HB5.out.size))
  clear hB HB5 hm6
  go_wp2_with fail
  refine (ht7 _).mono ?_
  rintro e w7 ⟨rfl, hB⟩
  have HB7 := Lib.hid (HB6.out.trans (hB.mono HB6.out.size))
  clear hB HB6 ht7
  go_wp2
  go_ret
  exact ⟨rfl, HB7.out⟩
end Go.Proofs.Ytlocjhnlemlnmaa.Lx
