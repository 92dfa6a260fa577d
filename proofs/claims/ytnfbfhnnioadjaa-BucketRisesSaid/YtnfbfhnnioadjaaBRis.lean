/- BucketRises, walked. -/
import Derived.Test.YtnfbfhnnioadjaaBEx
namespace Go.Proofs.Ytnfbfhnnioadjaa
open Go Go.RowKit

def RisOf (k : Nat) (n x : Int) : Prop := ∀ (w : World), Calls Try.prog 11 #[.int .i64 k, .int .i64 n] w fun e w' => e = .returned (.tuple #[.int .i64 x, .bool true]) ∧ Below w.heap.size w w'
def RisNear (k : Nat) (m n : Int) (u : Bool) : Prop := ∀ (w : World), Calls Try.prog 16 #[.int .i64 k, .int .i64 m, .int .i64 n] w fun e w' => e = .returned (.bool u) ∧ Below w.heap.size w w'

set_option maxRecDepth 100000 in
set_option maxHeartbeats 4000000 in
theorem rises_a_lt_s (a k : Nat) (hki : (a : Int) % 5 = (k : Int)) (hk : k ≤ 4) (m : Int) (n : Int)  (y : Int) (hy : -1000 ≤ y ∧ y ≤ 1000) (hnn : IntKind.i64.wrap (-n) = n) (hc : m < n) (q1 : ¬ n < m)  (h1 : RisOf k m y) (h2 : RisOf k n y) (h4 : RisNear k m n true) (w : World) :
    Calls Try.prog 5 #[.int .u8 a, .int .i64 m, .int .i64 n] w fun e w' => e = .returned (.bool true) ∧ Below w.heap.size w w' := by
  obtain ⟨y1, y2⟩ := hy

  go_enter Try.func5, Try.ntmps5
  go_wp2_with fail
  refine (examples_any _).mono ?_
  rintro e w1 ⟨rfl, b1⟩
  go_wp2_with fail
  refine (h1 _).mono ?_
  rintro e w2 ⟨rfl, b2⟩
  replace b1 := below_on b1 b2 (Nat.le_refl _)
  go_wp2_with fail
  refine (h2 _).mono ?_
  rintro e w3 ⟨rfl, b2⟩
  replace b1 := below_on b1 b2 (Nat.le_refl _)
  go_wp2_with fail
  refine (h2 _).mono ?_
  rintro e w4 ⟨rfl, b2⟩
  replace b1 := below_on b1 b2 (Nat.le_refl _)
  go_wp2_with fail
  refine (h4 _).mono ?_
  rintro e w5 ⟨rfl, b2⟩
  replace b1 := below_on b1 b2 (Nat.le_refl _)
  go_wp2
  go_ret
  exact ⟨rfl, b1⟩

set_option maxRecDepth 100000 in
set_option maxHeartbeats 4000000 in
theorem rises_a_lt_d (a k : Nat) (hki : (a : Int) % 5 = (k : Int)) (hk : k ≤ 4) (m : Int) (n : Int) (x : Int) (hx : -1000 ≤ x ∧ x ≤ 1000) (y : Int) (hy : -1000 ≤ y ∧ y ≤ 1000) (hnn : IntKind.i64.wrap (-n) = n) (hc : m < n) (q1 : ¬ n < m) (q2 : x ≤ y) (q3 : (x == y) = false) (h1 : RisOf k m x) (h2 : RisOf k n y) (h4 : RisNear k m n false) (w : World) :
    Calls Try.prog 5 #[.int .u8 a, .int .i64 m, .int .i64 n] w fun e w' => e = .returned (.bool true) ∧ Below w.heap.size w w' := by
  obtain ⟨y1, y2⟩ := hy
  obtain ⟨x1, x2⟩ := hx
  go_enter Try.func5, Try.ntmps5
  go_wp2_with fail
  refine (examples_any _).mono ?_
  rintro e w1 ⟨rfl, b1⟩
  go_wp2_with fail
  refine (h1 _).mono ?_
  rintro e w2 ⟨rfl, b2⟩
  replace b1 := below_on b1 b2 (Nat.le_refl _)
  go_wp2_with fail
  refine (h2 _).mono ?_
  rintro e w3 ⟨rfl, b2⟩
  replace b1 := below_on b1 b2 (Nat.le_refl _)
  go_wp2_with fail
  refine (h2 _).mono ?_
  rintro e w4 ⟨rfl, b2⟩
  replace b1 := below_on b1 b2 (Nat.le_refl _)
  go_wp2_with fail
  refine (h4 _).mono ?_
  rintro e w5 ⟨rfl, b2⟩
  replace b1 := below_on b1 b2 (Nat.le_refl _)
  go_wp2
  go_ret
  exact ⟨rfl, b1⟩

set_option maxRecDepth 100000 in
set_option maxHeartbeats 4000000 in
theorem rises_a_eq (a k : Nat) (hki : (a : Int) % 5 = (k : Int)) (hk : k ≤ 4)  (n : Int)  (y : Int) (hy : -1000 ≤ y ∧ y ≤ 1000) (hnn : IntKind.i64.wrap (-n) = n)     (h2 : RisOf k n y) (h4 : RisNear k n n true) (w : World) :
    Calls Try.prog 5 #[.int .u8 a, .int .i64 n, .int .i64 n] w fun e w' => e = .returned (.bool true) ∧ Below w.heap.size w w' := by
  obtain ⟨y1, y2⟩ := hy

  go_enter Try.func5, Try.ntmps5
  go_wp2_with fail
  refine (examples_any _).mono ?_
  rintro e w1 ⟨rfl, b1⟩
  go_wp2_with fail
  refine (h2 _).mono ?_
  rintro e w2 ⟨rfl, b2⟩
  replace b1 := below_on b1 b2 (Nat.le_refl _)
  go_wp2_with fail
  refine (h2 _).mono ?_
  rintro e w3 ⟨rfl, b2⟩
  replace b1 := below_on b1 b2 (Nat.le_refl _)
  go_wp2_with fail
  refine (h2 _).mono ?_
  rintro e w4 ⟨rfl, b2⟩
  replace b1 := below_on b1 b2 (Nat.le_refl _)
  go_wp2_with fail
  refine (h4 _).mono ?_
  rintro e w5 ⟨rfl, b2⟩
  replace b1 := below_on b1 b2 (Nat.le_refl _)
  go_wp2
  go_ret
  exact ⟨rfl, b1⟩

set_option maxRecDepth 100000 in
set_option maxHeartbeats 4000000 in
theorem rises_a_gt_s (a k : Nat) (hki : (a : Int) % 5 = (k : Int)) (hk : k ≤ 4) (m : Int) (n : Int)  (y : Int) (hy : -1000 ≤ y ∧ y ≤ 1000) (hnn : IntKind.i64.wrap (-n) = n) (hc : n < m) (q1 : ¬ m < n)  (h1 : RisOf k m y) (h2 : RisOf k n y) (h4 : RisNear k m n true) (w : World) :
    Calls Try.prog 5 #[.int .u8 a, .int .i64 m, .int .i64 n] w fun e w' => e = .returned (.bool true) ∧ Below w.heap.size w w' := by
  obtain ⟨y1, y2⟩ := hy

  go_enter Try.func5, Try.ntmps5
  go_wp2_with fail
  refine (examples_any _).mono ?_
  rintro e w1 ⟨rfl, b1⟩
  go_wp2_with fail
  refine (h1 _).mono ?_
  rintro e w2 ⟨rfl, b2⟩
  replace b1 := below_on b1 b2 (Nat.le_refl _)
  go_wp2_with fail
  refine (h2 _).mono ?_
  rintro e w3 ⟨rfl, b2⟩
  replace b1 := below_on b1 b2 (Nat.le_refl _)
  go_wp2_with fail
  refine (h2 _).mono ?_
  rintro e w4 ⟨rfl, b2⟩
  replace b1 := below_on b1 b2 (Nat.le_refl _)
  go_wp2_with fail
  refine (h4 _).mono ?_
  rintro e w5 ⟨rfl, b2⟩
  replace b1 := below_on b1 b2 (Nat.le_refl _)
  go_wp2
  go_ret
  exact ⟨rfl, b1⟩

set_option maxRecDepth 100000 in
set_option maxHeartbeats 4000000 in
theorem rises_a_gt_d (a k : Nat) (hki : (a : Int) % 5 = (k : Int)) (hk : k ≤ 4) (m : Int) (n : Int) (x : Int) (hx : -1000 ≤ x ∧ x ≤ 1000) (y : Int) (hy : -1000 ≤ y ∧ y ≤ 1000) (hnn : IntKind.i64.wrap (-n) = n) (hc : n < m) (q1 : ¬ m < n) (q2 : y ≤ x) (q3 : (x == y) = false) (h1 : RisOf k m x) (h2 : RisOf k n y) (h4 : RisNear k m n false) (w : World) :
    Calls Try.prog 5 #[.int .u8 a, .int .i64 m, .int .i64 n] w fun e w' => e = .returned (.bool true) ∧ Below w.heap.size w w' := by
  obtain ⟨y1, y2⟩ := hy
  obtain ⟨x1, x2⟩ := hx
  go_enter Try.func5, Try.ntmps5
  go_wp2_with fail
  refine (examples_any _).mono ?_
  rintro e w1 ⟨rfl, b1⟩
  go_wp2_with fail
  refine (h1 _).mono ?_
  rintro e w2 ⟨rfl, b2⟩
  replace b1 := below_on b1 b2 (Nat.le_refl _)
  go_wp2_with fail
  refine (h2 _).mono ?_
  rintro e w3 ⟨rfl, b2⟩
  replace b1 := below_on b1 b2 (Nat.le_refl _)
  go_wp2_with fail
  refine (h2 _).mono ?_
  rintro e w4 ⟨rfl, b2⟩
  replace b1 := below_on b1 b2 (Nat.le_refl _)
  go_wp2_with fail
  refine (h4 _).mono ?_
  rintro e w5 ⟨rfl, b2⟩
  replace b1 := below_on b1 b2 (Nat.le_refl _)
  go_wp2
  go_ret
  exact ⟨rfl, b1⟩

set_option maxRecDepth 100000 in
set_option maxHeartbeats 4000000 in
theorem rises_b_lt_s (a k : Nat) (hki : (a : Int) % 5 = (k : Int)) (hk : k ≤ 4) (m : Int) (n : Int)  (y : Int) (hy : -1000 ≤ y ∧ y ≤ 1000) (nn : Int) (hnn : IntKind.i64.wrap (-n) = nn) (hne : (n == nn) = false) (h3 : RisOf k nn (-y)) (hc : m < n) (q1 : ¬ n < m)  (h1 : RisOf k m y) (h2 : RisOf k n y) (h4 : RisNear k m n true) (w : World) :
    Calls Try.prog 5 #[.int .u8 a, .int .i64 m, .int .i64 n] w fun e w' => e = .returned (.bool true) ∧ Below w.heap.size w w' := by
  obtain ⟨y1, y2⟩ := hy

  go_enter Try.func5, Try.ntmps5
  go_wp2_with fail
  refine (examples_any _).mono ?_
  rintro e w1 ⟨rfl, b1⟩
  go_wp2_with fail
  refine (h1 _).mono ?_
  rintro e w2 ⟨rfl, b2⟩
  replace b1 := below_on b1 b2 (Nat.le_refl _)
  go_wp2_with fail
  refine (h2 _).mono ?_
  rintro e w3 ⟨rfl, b2⟩
  replace b1 := below_on b1 b2 (Nat.le_refl _)
  go_wp2_with fail
  refine (h3 _).mono ?_
  rintro e w4 ⟨rfl, b2⟩
  replace b1 := below_on b1 b2 (Nat.le_refl _)
  go_wp2_with fail
  refine (h4 _).mono ?_
  rintro e w5 ⟨rfl, b2⟩
  replace b1 := below_on b1 b2 (Nat.le_refl _)
  go_wp2
  go_ret
  exact ⟨rfl, b1⟩

set_option maxRecDepth 100000 in
set_option maxHeartbeats 4000000 in
theorem rises_b_lt_d (a k : Nat) (hki : (a : Int) % 5 = (k : Int)) (hk : k ≤ 4) (m : Int) (n : Int) (x : Int) (hx : -1000 ≤ x ∧ x ≤ 1000) (y : Int) (hy : -1000 ≤ y ∧ y ≤ 1000) (nn : Int) (hnn : IntKind.i64.wrap (-n) = nn) (hne : (n == nn) = false) (h3 : RisOf k nn (-y)) (hc : m < n) (q1 : ¬ n < m) (q2 : x ≤ y) (q3 : (x == y) = false) (h1 : RisOf k m x) (h2 : RisOf k n y) (h4 : RisNear k m n false) (w : World) :
    Calls Try.prog 5 #[.int .u8 a, .int .i64 m, .int .i64 n] w fun e w' => e = .returned (.bool true) ∧ Below w.heap.size w w' := by
  obtain ⟨y1, y2⟩ := hy
  obtain ⟨x1, x2⟩ := hx
  go_enter Try.func5, Try.ntmps5
  go_wp2_with fail
  refine (examples_any _).mono ?_
  rintro e w1 ⟨rfl, b1⟩
  go_wp2_with fail
  refine (h1 _).mono ?_
  rintro e w2 ⟨rfl, b2⟩
  replace b1 := below_on b1 b2 (Nat.le_refl _)
  go_wp2_with fail
  refine (h2 _).mono ?_
  rintro e w3 ⟨rfl, b2⟩
  replace b1 := below_on b1 b2 (Nat.le_refl _)
  go_wp2_with fail
  refine (h3 _).mono ?_
  rintro e w4 ⟨rfl, b2⟩
  replace b1 := below_on b1 b2 (Nat.le_refl _)
  go_wp2_with fail
  refine (h4 _).mono ?_
  rintro e w5 ⟨rfl, b2⟩
  replace b1 := below_on b1 b2 (Nat.le_refl _)
  go_wp2
  go_ret
  exact ⟨rfl, b1⟩

set_option maxRecDepth 100000 in
set_option maxHeartbeats 4000000 in
theorem rises_b_eq (a k : Nat) (hki : (a : Int) % 5 = (k : Int)) (hk : k ≤ 4)  (n : Int)  (y : Int) (hy : -1000 ≤ y ∧ y ≤ 1000) (nn : Int) (hnn : IntKind.i64.wrap (-n) = nn) (hne : (n == nn) = false) (h3 : RisOf k nn (-y))     (h2 : RisOf k n y) (h4 : RisNear k n n true) (w : World) :
    Calls Try.prog 5 #[.int .u8 a, .int .i64 n, .int .i64 n] w fun e w' => e = .returned (.bool true) ∧ Below w.heap.size w w' := by
  obtain ⟨y1, y2⟩ := hy

  go_enter Try.func5, Try.ntmps5
  go_wp2_with fail
  refine (examples_any _).mono ?_
  rintro e w1 ⟨rfl, b1⟩
  go_wp2_with fail
  refine (h2 _).mono ?_
  rintro e w2 ⟨rfl, b2⟩
  replace b1 := below_on b1 b2 (Nat.le_refl _)
  go_wp2_with fail
  refine (h2 _).mono ?_
  rintro e w3 ⟨rfl, b2⟩
  replace b1 := below_on b1 b2 (Nat.le_refl _)
  go_wp2_with fail
  refine (h3 _).mono ?_
  rintro e w4 ⟨rfl, b2⟩
  replace b1 := below_on b1 b2 (Nat.le_refl _)
  go_wp2_with fail
  refine (h4 _).mono ?_
  rintro e w5 ⟨rfl, b2⟩
  replace b1 := below_on b1 b2 (Nat.le_refl _)
  go_wp2
  go_ret
  exact ⟨rfl, b1⟩

set_option maxRecDepth 100000 in
set_option maxHeartbeats 4000000 in
theorem rises_b_gt_s (a k : Nat) (hki : (a : Int) % 5 = (k : Int)) (hk : k ≤ 4) (m : Int) (n : Int)  (y : Int) (hy : -1000 ≤ y ∧ y ≤ 1000) (nn : Int) (hnn : IntKind.i64.wrap (-n) = nn) (hne : (n == nn) = false) (h3 : RisOf k nn (-y)) (hc : n < m) (q1 : ¬ m < n)  (h1 : RisOf k m y) (h2 : RisOf k n y) (h4 : RisNear k m n true) (w : World) :
    Calls Try.prog 5 #[.int .u8 a, .int .i64 m, .int .i64 n] w fun e w' => e = .returned (.bool true) ∧ Below w.heap.size w w' := by
  obtain ⟨y1, y2⟩ := hy

  go_enter Try.func5, Try.ntmps5
  go_wp2_with fail
  refine (examples_any _).mono ?_
  rintro e w1 ⟨rfl, b1⟩
  go_wp2_with fail
  refine (h1 _).mono ?_
  rintro e w2 ⟨rfl, b2⟩
  replace b1 := below_on b1 b2 (Nat.le_refl _)
  go_wp2_with fail
  refine (h2 _).mono ?_
  rintro e w3 ⟨rfl, b2⟩
  replace b1 := below_on b1 b2 (Nat.le_refl _)
  go_wp2_with fail
  refine (h3 _).mono ?_
  rintro e w4 ⟨rfl, b2⟩
  replace b1 := below_on b1 b2 (Nat.le_refl _)
  go_wp2_with fail
  refine (h4 _).mono ?_
  rintro e w5 ⟨rfl, b2⟩
  replace b1 := below_on b1 b2 (Nat.le_refl _)
  go_wp2
  go_ret
  exact ⟨rfl, b1⟩

set_option maxRecDepth 100000 in
set_option maxHeartbeats 4000000 in
theorem rises_b_gt_d (a k : Nat) (hki : (a : Int) % 5 = (k : Int)) (hk : k ≤ 4) (m : Int) (n : Int) (x : Int) (hx : -1000 ≤ x ∧ x ≤ 1000) (y : Int) (hy : -1000 ≤ y ∧ y ≤ 1000) (nn : Int) (hnn : IntKind.i64.wrap (-n) = nn) (hne : (n == nn) = false) (h3 : RisOf k nn (-y)) (hc : n < m) (q1 : ¬ m < n) (q2 : y ≤ x) (q3 : (x == y) = false) (h1 : RisOf k m x) (h2 : RisOf k n y) (h4 : RisNear k m n false) (w : World) :
    Calls Try.prog 5 #[.int .u8 a, .int .i64 m, .int .i64 n] w fun e w' => e = .returned (.bool true) ∧ Below w.heap.size w w' := by
  obtain ⟨y1, y2⟩ := hy
  obtain ⟨x1, x2⟩ := hx
  go_enter Try.func5, Try.ntmps5
  go_wp2_with fail
  refine (examples_any _).mono ?_
  rintro e w1 ⟨rfl, b1⟩
  go_wp2_with fail
  refine (h1 _).mono ?_
  rintro e w2 ⟨rfl, b2⟩
  replace b1 := below_on b1 b2 (Nat.le_refl _)
  go_wp2_with fail
  refine (h2 _).mono ?_
  rintro e w3 ⟨rfl, b2⟩
  replace b1 := below_on b1 b2 (Nat.le_refl _)
  go_wp2_with fail
  refine (h3 _).mono ?_
  rintro e w4 ⟨rfl, b2⟩
  replace b1 := below_on b1 b2 (Nat.le_refl _)
  go_wp2_with fail
  refine (h4 _).mono ?_
  rintro e w5 ⟨rfl, b2⟩
  replace b1 := below_on b1 b2 (Nat.le_refl _)
  go_wp2
  go_ret
  exact ⟨rfl, b1⟩

theorem BucketRises_walk (a0 : Int) (h0 : (Lit.int .u8 a0).wf = true) (m : Int) (hm : (Lit.int .i64 m).wf = true) (n : Int) (hn : (Lit.int .i64 n).wf = true) (w : World) :
    Calls Try.prog 5 #[.int .u8 a0, .int .i64 m, .int .i64 n] w fun e w' => e = .returned (.bool true) ∧ Below w.heap.size w w' := by
  obtain ⟨a, rfl, ha⟩ := wf_u8 h0
  have im := wf_in64 hm
  have iz := wf_in64 hn
  obtain ⟨k, hk0⟩ : ∃ k, a % 5 = k := ⟨_, rfl⟩
  have hk : k ≤ 4 := by omega
  have hki : (a : Int) % 5 = (k : Int) := by omega
  obtain ⟨nn, hnn⟩ : ∃ nn, IntKind.i64.wrap (-n) = nn := ⟨_, rfl⟩
  have inn : In64 nn := by rw [← hnn, IntKind.wrap_i64]; unfold In64; omega
  have h1 : RisOf k m (ofI k m) := of_any k hk m im
  have h2 : RisOf k n (ofI k n) := of_any k hk n iz
  have h3 : RisOf k nn (ofI k nn) := of_any k hk nn inn
  have h4 : RisNear k m n (decide (ofI k m = ofI k n)) := near_any k hk m n im iz
  have f1 := fits_small k hk _ (of_fits k hk m im)
  have f2 := fits_small k hk _ (of_fits k hk n iz)
  have g1 : m ≤ n → ofI k m ≤ ofI k n := of_mono k m n im iz
  have g2 : n ≤ m → ofI k n ≤ ofI k m := of_mono k n m iz im
  have g3 : nn = n ∨ (n ≠ nn ∧ ofI k nn = -ofI k n) := by
    by_cases hx : nn = n
    · exact .inl hx
    · right
      have : nn = -n := by
        obtain ⟨_, _⟩ := iz
        by_cases hz : n = -9223372036854775808
        · exfalso
          apply hx
          rw [← hnn, IntKind.wrap_i64]
          omega
        · rw [← hnn, IntKind.wrap_i64]
          omega
      refine ⟨fun h => hx h.symm, ?_⟩
      rw [this, of_neg]
  have g4 : m = n → ofI k m = ofI k n := by rintro rfl; rfl
  generalize ofI k m = x at *
  generalize ofI k n = y at *
  generalize ofI k nn = z at *
  rcases g3 with rfl | ⟨hne, rfl⟩
  · rcases Int.lt_trichotomy m nn with hc | hc | hc
    · by_cases hxy : x = y
      · subst hxy
        exact rises_a_lt_s a k hki hk m _ x f2 hnn hc (by omega) h1 h2 (by simpa using h4) w
      · exact rises_a_lt_d a k hki hk m _ x f1 y f2 hnn hc (by omega) (g1 (by omega)) (by simpa using hxy) h1 h2 (by simpa [hxy] using h4) w
    · subst hc
      obtain rfl := g4 rfl
      exact rises_a_eq a k hki hk _ _ f2 hnn h2 (by simpa using h4) w
    · by_cases hxy : x = y
      · subst hxy
        exact rises_a_gt_s a k hki hk m _ x f2 hnn hc (by omega) h1 h2 (by simpa using h4) w
      · exact rises_a_gt_d a k hki hk m _ x f1 y f2 hnn hc (by omega) (g2 (by omega)) (by simpa using hxy) h1 h2 (by simpa [hxy] using h4) w
  · rcases Int.lt_trichotomy m n with hc | hc | hc
    · by_cases hxy : x = y
      · subst hxy
        exact rises_b_lt_s a k hki hk m _ x f2 nn hnn (by simpa using hne) h3 hc (by omega) h1 h2 (by simpa using h4) w
      · exact rises_b_lt_d a k hki hk m _ x f1 y f2 nn hnn (by simpa using hne) h3 hc (by omega) (g1 (by omega)) (by simpa using hxy) h1 h2 (by simpa [hxy] using h4) w
    · subst hc
      obtain rfl := g4 rfl
      exact rises_b_eq a k hki hk _ _ f2 nn hnn (by simpa using hne) h3 h2 (by simpa using h4) w
    · by_cases hxy : x = y
      · subst hxy
        exact rises_b_gt_s a k hki hk m _ x f2 nn hnn (by simpa using hne) h3 hc (by omega) h1 h2 (by simpa using h4) w
      · exact rises_b_gt_d a k hki hk m _ x f1 y f2 nn hnn (by simpa using hne) h3 hc (by omega) (g2 (by omega)) (by simpa using hxy) h1 h2 (by simpa [hxy] using h4) w
end Go.Proofs.Ytnfbfhnnioadjaa
