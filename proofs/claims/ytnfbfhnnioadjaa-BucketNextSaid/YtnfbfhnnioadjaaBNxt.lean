/- BucketNext, walked. -/
import Derived.Test.YtnfbfhnnioadjaaBEx
namespace Go.Proofs.Ytnfbfhnnioadjaa
open Go Go.RowKit

set_option maxRecDepth 100000 in
set_option maxHeartbeats 4000000 in
theorem BucketNext_walk (a0 : Int) (h0 : (Lit.int .u8 a0).wf = true) (n : Int) (hn : (Lit.int .i64 n).wf = true) (w : World) :
    Calls Try.prog 6 #[.int .u8 a0, .int .i64 n] w fun e w' => e = .returned (.bool true) ∧ Below w.heap.size w w' := by
  obtain ⟨a, rfl, ha⟩ := wf_u8 h0
  have iz := wf_in64 hn
  clear h0 hn
  obtain ⟨k, hk0⟩ : ∃ k, a % 5 = k := ⟨_, rfl⟩
  have hk : k ≤ 4 := by omega
  have hki : (a : Int) % 5 = (k : Int) := by omega
  have ff := of_fits k hk n iz
  have fs := fits_small k hk _ ff
  obtain ⟨i1, i2, i3⟩ := low_in k hk _ ff
  have h1 := of_any k hk n iz
  have h2 := bounds_any k hk _ ff
  have hm := most_any k hk
  obtain ⟨_, _, _, _, h9⟩ := hp_top k hk
  have hmn : ¬ Fits k ((mst k : Int) + 1) := by unfold Fits; omega
  have h4 := bounds_no k hk _ hmn
  have hlast := high_last k hk
  have hnl := next_low k hk _ ff
  have hb3 := bounds_any k hk (ofI k n + 1)
  obtain ⟨M, hM⟩ : ∃ M, mst k = M := ⟨_, rfl⟩
  have hff2 : ofI k n ≠ (M : Int) → Fits k (ofI k n + 1) := by
    intro h
    unfold Fits at ff ⊢
    rw [hM] at ff ⊢
    omega
  rw [hM] at hlast h4 hm h9
  generalize ofI k n = A at *
  by_cases hA : A = M
  · subst hA
    rw [hlast] at h2
    obtain ⟨L, hL⟩ : ∃ L, lowI k M = L := ⟨_, rfl⟩
    rw [hL] at h2
    have hM9 : M ≤ 1000 := by omega
    clear hnl hb3 hff2 hlast hmn ff fs i1 i2 i3 hL hM hk0 ha iz
    go_enter Try.func6, Try.ntmps6
    go_wp2_with fail
    refine (examples_any _).mono ?_
    rintro e w1 ⟨rfl, b1⟩
    go_wp2_with fail
    refine (h1 _).mono ?_
    rintro e w2 ⟨rfl, b2⟩
    replace b1 := below_on b1 b2 (Nat.le_refl _)
    go_wp2_with fail
    refine (h2 _).mono ?_
    rintro e w3 ⟨rfl, b2⟩
    replace b1 := below_on b1 b2 (Nat.le_refl _)
    go_wp2_with fail
    refine (h4 _).mono ?_
    rintro e w4 ⟨rfl, b2⟩
    replace b1 := below_on b1 b2 (Nat.le_refl _)
    go_wp2_with fail
    refine (hm _).mono ?_
    rintro e w5 ⟨rfl, b2⟩
    replace b1 := below_on b1 b2 (Nat.le_refl _)
    go_wp2_with fail
    refine (h4 _).mono ?_
    rintro e w6 ⟨rfl, b2⟩
    replace b1 := below_on b1 b2 (Nat.le_refl _)
    go_wp2
    go_ret
    exact ⟨rfl, b1⟩
  · have ff2 := hff2 hA
    have h3 := hb3 ff2
    obtain ⟨j1, j2, j3⟩ := low_in k hk _ ff2
    have e := hnl ff2
    rw [e] at h3 j1
    generalize highI k (A + 1) = H2 at *
    generalize lowI k A = L at *
    generalize highI k A = H at *
    unfold In64 at j1
    have j4 : -9223372036854775808 ≤ H + 1 := j1.1
    have j5 : H + 1 ≤ 9223372036854775807 := j1.2
    have hA1 : -1000 ≤ A := fs.1
    have hA2 : A ≤ 1000 := fs.2
    have hM9 : M ≤ 1000 := by omega
    clear hnl hb3 hff2 hlast hmn ff fs i1 i2 i3 hM hk0 ha iz ff2 hA j1 j2 j3 e
    go_enter Try.func6, Try.ntmps6
    go_wp2_with fail
    refine (examples_any _).mono ?_
    rintro e w1 ⟨rfl, b1⟩
    go_wp2_with fail
    refine (h1 _).mono ?_
    rintro e w2 ⟨rfl, b2⟩
    replace b1 := below_on b1 b2 (Nat.le_refl _)
    go_wp2_with fail
    refine (h2 _).mono ?_
    rintro e w3 ⟨rfl, b2⟩
    replace b1 := below_on b1 b2 (Nat.le_refl _)
    go_wp2_with fail
    refine (h3 _).mono ?_
    rintro e w4 ⟨rfl, b2⟩
    replace b1 := below_on b1 b2 (Nat.le_refl _)
    go_wp2_with fail
    refine (hm _).mono ?_
    rintro e w5 ⟨rfl, b2⟩
    replace b1 := below_on b1 b2 (Nat.le_refl _)
    go_wp2_with fail
    refine (h4 _).mono ?_
    rintro e w6 ⟨rfl, b2⟩
    replace b1 := below_on b1 b2 (Nat.le_refl _)
    go_wp2
    go_ret
    exact ⟨rfl, b1⟩
end Go.Proofs.Ytnfbfhnnioadjaa
