/- BucketFine, walked. -/
import Derived.Test.YtnfbfhnnioadjaaBEx
namespace Go.Proofs.Ytnfbfhnnioadjaa
open Go Go.RowKit

set_option maxRecDepth 100000 in
set_option maxHeartbeats 4000000 in
theorem fine_at (a k k1 : Nat) (hki : (a : Int) % 4 = (k : Int)) (hk : k ≤ 4) (hk1 : (k : Int) + 1 = (k1 : Int)) (hk5 : k1 ≤ 4) (m n A L H : Int) (u v : Bool) (huv : u = true → v = true) (hv : v = (decide (L ≤ n) && decide (n ≤ H)))
    (h1 : ∀ (w : World), Calls Try.prog 16 #[.int .i64 k1, .int .i64 m, .int .i64 n] w fun e w' => e = .returned (.bool u) ∧ Below w.heap.size w w')
    (h2 : ∀ (w : World), Calls Try.prog 16 #[.int .i64 k, .int .i64 m, .int .i64 n] w fun e w' => e = .returned (.bool v) ∧ Below w.heap.size w w')
    (h3 : ∀ (w : World), Calls Try.prog 11 #[.int .i64 k, .int .i64 m] w fun e w' => e = .returned (.tuple #[.int .i64 A, .bool true]) ∧ Below w.heap.size w w')
    (h4 : ∀ (w : World), Calls Try.prog 12 #[.int .i64 k, .int .i64 A] w fun e w' => e = .returned (.tuple #[.int .i64 L, .int .i64 H, .bool true]) ∧ Below w.heap.size w w') (w : World) :
    Calls Try.prog 8 #[.int .u8 a, .int .i64 m, .int .i64 n] w fun e w' => e = .returned (.bool true) ∧ Below w.heap.size w w' := by
  by_cases hL : L ≤ n
  · by_cases hH : n ≤ H
    · obtain rfl : v = true := by rw [hv]; simp [hL, hH]
      clear hv huv
      cases u
      all_goals
        go_enter Try.func8, Try.ntmps8
        go_wp2_with fail
        refine (examples_any _).mono ?_
        rintro e w1 ⟨rfl, b1⟩
        go_wp2_with fail
        refine (h1 _).mono ?_
        rintro e w2 ⟨rfl, b2⟩
        replace b1 := below_on b1 b2 (Nat.le_refl _)
        go_wp2_with fail
        refine (h2 _).mono ?_
        rintro e w3 ⟨rfl, b2⟩
        replace b1 := below_on b1 b2 (Nat.le_refl _)
        go_wp2_with fail
        refine (h3 _).mono ?_
        rintro e w4 ⟨rfl, b2⟩
        replace b1 := below_on b1 b2 (Nat.le_refl _)
        go_wp2_with fail
        refine (h4 _).mono ?_
        rintro e w5 ⟨rfl, b2⟩
        replace b1 := below_on b1 b2 (Nat.le_refl _)
        go_wp2
        go_ret
        exact ⟨rfl, b1⟩
    · obtain rfl : v = false := by rw [hv]; simp [hH]
      obtain rfl : u = false := by cases u <;> simp_all
      have hH2 : H < n := by omega
      have hHd : decide (n ≤ H) = false := by simp; omega
      clear hv huv hH
      go_enter Try.func8, Try.ntmps8
      go_wp2_with fail
      refine (examples_any _).mono ?_
      rintro e w1 ⟨rfl, b1⟩
      go_wp2_with fail
      refine (h1 _).mono ?_
      rintro e w2 ⟨rfl, b2⟩
      replace b1 := below_on b1 b2 (Nat.le_refl _)
      go_wp2_with fail
      refine (h2 _).mono ?_
      rintro e w3 ⟨rfl, b2⟩
      replace b1 := below_on b1 b2 (Nat.le_refl _)
      go_wp2_with fail
      refine (h3 _).mono ?_
      rintro e w4 ⟨rfl, b2⟩
      replace b1 := below_on b1 b2 (Nat.le_refl _)
      go_wp2_with fail
      refine (h4 _).mono ?_
      rintro e w5 ⟨rfl, b2⟩
      replace b1 := below_on b1 b2 (Nat.le_refl _)
      go_wp2
      go_ret
      exact ⟨rfl, b1⟩
  · obtain rfl : v = false := by rw [hv]; simp [hL]
    obtain rfl : u = false := by cases u <;> simp_all
    have hL2 : n < L := by omega
    have hLd : decide (L ≤ n) = false := by simp; omega
    clear hv huv hL
    go_enter Try.func8, Try.ntmps8
    go_wp2_with fail
    refine (examples_any _).mono ?_
    rintro e w1 ⟨rfl, b1⟩
    go_wp2_with fail
    refine (h1 _).mono ?_
    rintro e w2 ⟨rfl, b2⟩
    replace b1 := below_on b1 b2 (Nat.le_refl _)
    go_wp2_with fail
    refine (h2 _).mono ?_
    rintro e w3 ⟨rfl, b2⟩
    replace b1 := below_on b1 b2 (Nat.le_refl _)
    go_wp2_with fail
    refine (h3 _).mono ?_
    rintro e w4 ⟨rfl, b2⟩
    replace b1 := below_on b1 b2 (Nat.le_refl _)
    go_wp2_with fail
    refine (h4 _).mono ?_
    rintro e w5 ⟨rfl, b2⟩
    replace b1 := below_on b1 b2 (Nat.le_refl _)
    go_wp2
    go_ret
    exact ⟨rfl, b1⟩

theorem BucketFine_walk (a0 : Int) (h0 : (Lit.int .u8 a0).wf = true) (m : Int) (hm : (Lit.int .i64 m).wf = true) (n : Int) (hn : (Lit.int .i64 n).wf = true) (w : World) :
    Calls Try.prog 8 #[.int .u8 a0, .int .i64 m, .int .i64 n] w fun e w' => e = .returned (.bool true) ∧ Below w.heap.size w w' := by
  obtain ⟨a, rfl, ha⟩ := wf_u8 h0
  have im := wf_in64 hm
  have iz := wf_in64 hn
  obtain ⟨k, hk0⟩ : ∃ k, a % 4 = k := ⟨_, rfl⟩
  have hk : k ≤ 4 := by omega
  have hki : (a : Int) % 4 = (k : Int) := by omega
  have ff := of_fits k hk m im
  refine fine_at a k (k + 1) hki hk (by omega) (by omega) m n _ _ _ _ _ ?_ ?_ (near_any (k + 1) (by omega) m n im iz) (near_any k hk m n im iz) (of_any k hk m im) (bounds_any k hk _ ff) w
  · intro h
    have := of_fine k m n im iz (by simpa using h)
    simpa using this
  · have := of_iff k hk n iz _ ff
    rw [← Bool.decide_and, decide_eq_decide, ← this]
    exact eq_comm
end Go.Proofs.Ytnfbfhnnioadjaa
