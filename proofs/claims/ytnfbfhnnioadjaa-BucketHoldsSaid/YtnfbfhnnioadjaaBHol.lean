/- BucketHolds, walked. -/
import Derived.Test.YtnfbfhnnioadjaaBEx
namespace Go.Proofs.Ytnfbfhnnioadjaa
open Go Go.RowKit

set_option maxRecDepth 100000 in
set_option maxHeartbeats 4000000 in
theorem BucketHolds_walk (a0 : Int) (h0 : (Lit.int .u8 a0).wf = true) (n : Int) (hn : (Lit.int .i64 n).wf = true) (w : World) :
    Calls Try.prog 4 #[.int .u8 a0, .int .i64 n] w fun e w' => e = .returned (.bool true) ∧ Below w.heap.size w w' := by
  obtain ⟨a, rfl, ha⟩ := wf_u8 h0
  have iz := wf_in64 hn
  clear h0 hn
  obtain ⟨k, hk0⟩ : ∃ k, a % 5 = k := ⟨_, rfl⟩
  have hk : k ≤ 4 := by omega
  have hki : (a : Int) % 5 = (k : Int) := by omega
  have ff := of_fits k hk n iz
  obtain ⟨i1, i2, i3⟩ := low_in k hk _ ff
  have p1 := (of_iff k hk n iz _ ff).1 rfl
  have p2 := (of_iff k hk _ i1 _ ff).2 ⟨Int.le_refl _, i3⟩
  have p3 := (of_iff k hk _ i2 _ ff).2 ⟨i3, Int.le_refl _⟩
  have pw := of_wide k hk n iz
  have h1 := of_any k hk n iz
  have h2 := bounds_any k hk _ ff
  have h3 := of_any k hk _ i1
  have h4 := of_any k hk _ i2
  have h5 := near_any k hk _ _ i1 i2
  rw [p2] at h3
  rw [p3] at h4
  rw [p2, p3] at h5
  have h5' : (decide (ofI k n = ofI k n)) = true := by simp
  rw [h5'] at h5
  have lneg : ¬ n < 0 → 0 ≤ lowI k (ofI k n) := by
    intro h
    unfold lowI ofI
    rw [if_neg h, if_neg (by omega)]
    omega
  have hneg : n < 0 → highI k (ofI k n) ≤ 0 := by
    intro h
    have := pl_pos k n.natAbs (by omega) (by obtain ⟨_, _⟩ := iz; omega)
    unfold highI ofI
    rw [if_pos h, if_pos (by omega)]
    omega
  generalize ofI k n = A at *
  generalize lowI k A = L at *
  generalize highI k A = H at *
  clear p2 p3 ff h5'
  unfold In64 at i1 i2
  obtain ⟨hLn, hnH⟩ := p1
  obtain ⟨NR, hNR⟩ : ∃ NR, (if n < 0 then -H else L).toNat = NR := ⟨_, rfl⟩
  rw [hNR] at pw
  obtain ⟨Q, hQ⟩ : ∃ Q, NR / 2 ^ k = Q := ⟨_, rfl⟩
  rw [hQ] at pw
  have hQi : (NR : Int) / 2 ^ k = (Q : Int) := by rw [← hQ]; push_cast; rfl
  obtain ⟨W, hW⟩ : ∃ W : Nat, H - L = W := ⟨(H - L).toNat, by omega⟩
  have hWi : IntKind.u64.wrap (IntKind.u64.wrap H - IntKind.u64.wrap L) = (W : Int) := by rw [IntKind.wrap_u64, IntKind.wrap_u64, IntKind.wrap_u64]; omega
  have pw2 : W = 0 ∨ W < Q := by omega
  clear pw hQ hk0 ha iz
  by_cases hs : n < 0
  · rw [if_pos hs] at hNR
    have hNi : IntKind.u64.wrap (-IntKind.u64.wrap H) = (NR : Int) := by
      have := hneg hs
      rw [IntKind.wrap_u64, IntKind.wrap_u64]
      omega
    clear lneg hneg hNR hW i1 i2
    go_enter Try.func4, Try.ntmps4
    go_wp2_with fail
    refine (examples_any _).mono ?_
    rintro e w1 ⟨rfl, b1⟩
    go_wp2_with fail
    refine (h1 _).mono ?_
    rintro e w2 ⟨rfl, b2⟩
    replace b1 := below_on b1 b2 (Nat.le_refl _)
    go_wp2_with fail
    refine (h2 _).mono ?_
    rintro e w3 ⟨rfl, b2⟩
    replace b1 := below_on b1 b2 (Nat.le_refl _)
    go_wp2_with fail
    refine (h3 _).mono ?_
    rintro e w4 ⟨rfl, b2⟩
    replace b1 := below_on b1 b2 (Nat.le_refl _)
    go_wp2_with fail
    refine (h4 _).mono ?_
    rintro e w5 ⟨rfl, b2⟩
    replace b1 := below_on b1 b2 (Nat.le_refl _)
    by_cases hw0 : (W : Int) = 0
    · go_wp2_with fail
      refine (h5 _).mono ?_
      rintro e w6 ⟨rfl, b2⟩
      replace b1 := below_on b1 b2 (Nat.le_refl _)
      go_wp2
      trace_state
      go_ret
      exact ⟨rfl, b1⟩
    · have hwQ : (W : Int) < (Q : Int) := by omega
      clear pw2
      go_wp2_with fail
      refine (h5 _).mono ?_
      rintro e w6 ⟨rfl, b2⟩
      replace b1 := below_on b1 b2 (Nat.le_refl _)
      go_wp2
      trace_state
      go_ret
      exact ⟨rfl, b1⟩
  · rw [if_neg hs] at hNR
    have hNi : IntKind.u64.wrap L = (NR : Int) := by
      have := lneg hs
      rw [IntKind.wrap_u64]
      omega
    have hWj : IntKind.u64.wrap (IntKind.u64.wrap H - (NR : Int)) = (W : Int) := by rw [← hNi]; exact hWi
    clear lneg hneg hNR hW i1 i2
    go_enter Try.func4, Try.ntmps4
    go_wp2_with fail
    refine (examples_any _).mono ?_
    rintro e w1 ⟨rfl, b1⟩
    go_wp2_with fail
    refine (h1 _).mono ?_
    rintro e w2 ⟨rfl, b2⟩
    replace b1 := below_on b1 b2 (Nat.le_refl _)
    go_wp2_with fail
    refine (h2 _).mono ?_
    rintro e w3 ⟨rfl, b2⟩
    replace b1 := below_on b1 b2 (Nat.le_refl _)
    go_wp2_with fail
    refine (h3 _).mono ?_
    rintro e w4 ⟨rfl, b2⟩
    replace b1 := below_on b1 b2 (Nat.le_refl _)
    go_wp2_with fail
    refine (h4 _).mono ?_
    rintro e w5 ⟨rfl, b2⟩
    replace b1 := below_on b1 b2 (Nat.le_refl _)
    by_cases hw0 : (W : Int) = 0
    · go_wp2_with fail
      refine (h5 _).mono ?_
      rintro e w6 ⟨rfl, b2⟩
      replace b1 := below_on b1 b2 (Nat.le_refl _)
      go_wp2
      trace_state
      go_ret
      exact ⟨rfl, b1⟩
    · have hwQ : (W : Int) < (Q : Int) := by omega
      clear pw2
      go_wp2_with fail
      refine (h5 _).mono ?_
      rintro e w6 ⟨rfl, b2⟩
      replace b1 := below_on b1 b2 (Nat.le_refl _)
      go_wp2
      trace_state
      go_ret
      exact ⟨rfl, b1⟩
end Go.Proofs.Ytnfbfhnnioadjaa
