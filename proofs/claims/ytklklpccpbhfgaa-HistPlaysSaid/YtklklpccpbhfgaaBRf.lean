/- The chapter's own Of. -/
import Derived.Test.YtklklpccpbhfgaaBBd
import Derived.Deep.LoopGhost
namespace Go.Proofs.Ytklklpccpbhfgaa
open Go Go.RowKit

theorem below_hv (k d j : Nat) (hd : d < 18446744073709551616) (hj : j < hv k d) : 2 * 2 ^ k ≤ d / 2 ^ j := by
  have h := (hv_spec k d hd).2 (by omega)
  rw [Nat.le_div_iff_mul_le (Nat.two_pow_pos _)] at h ⊢
  have h2 : 2 * 2 ^ j ≤ 2 ^ hv k d := by
    rw [Nat.mul_comm, ← Nat.pow_succ]
    exact Nat.pow_le_pow_right (by omega) (by omega)
  have h3 := Nat.mul_le_mul_left (2 ^ k) h2
  have e : 2 ^ k * (2 * 2 ^ j) = 2 * 2 ^ k * 2 ^ j := by rw [Nat.mul_comm 2 (2 ^ k), Nat.mul_assoc]
  omega
theorem at_hv (k d : Nat) (hd : d < 18446744073709551616) : d / 2 ^ hv k d < 2 * 2 ^ k := by
  have h := (hv_spec k d hd).1
  rw [Nat.pow_succ, Nat.mul_comm] at h
  exact h

set_option maxRecDepth 100000 in
set_option maxHeartbeats 4000000 in
theorem ref_of_out (b : Int) (h : b < 0 ∨ 4 < b) (n : Int) (w : World) :
    Calls Try.prog 40 #[.int .i64 b, .int .i64 n] w fun e w' => e = .returned (.tuple #[.int .i64 0, .bool false]) ∧ Below w.heap.size w w' := by
  by_cases h0 : b < 0
  · clear h
    go_enter Try.func40, Try.ntmps40
    go_wp2
    go_ret2
    exact ⟨rfl, Below.refl _ _⟩
  · have h1 : 0 ≤ b := by omega
    have h2 : 4 < b := by omega
    clear h
    go_enter Try.func40, Try.ntmps40
    go_wp2
    go_ret2
    exact ⟨rfl, Below.refl _ _⟩

set_option maxRecDepth 100000 in
set_option maxHeartbeats 4000000 in
theorem ref_of_any (k : Nat) (hk : k ≤ 4) (n : Int) (hn : In64 n) (w : World) :
    Calls Try.prog 40 #[.int .i64 k, .int .i64 n] w fun e w' => e = .returned (.tuple #[.int .i64 (ofI k n), .bool true]) ∧ Below w.heap.size w w' := by
  obtain ⟨n1, n2⟩ := hn
  obtain ⟨d, hd⟩ : ∃ d : Nat, n.natAbs = d := ⟨_, rfl⟩
  have hd9 : d ≤ 9223372036854775808 := by omega
  have hh := hv_le k d hd9
  have hlo := fun j => below_hv k d j (by omega)
  have hat := at_hv k d (by omega)
  obtain ⟨m, hm⟩ : ∃ m, d / 2 ^ hv k d = m := ⟨_, rfl⟩
  obtain ⟨A, hA⟩ : ∃ A, hv k d * 2 ^ k = A := ⟨_, rfl⟩
  obtain ⟨W, hW⟩ : ∃ W, 2 * 2 ^ k = W := ⟨_, rfl⟩
  have hW2 : W ≤ 32 := by
    rw [← hW, Nat.mul_comm, ← Nat.pow_succ]
    exact Nat.le_trans (Nat.pow_le_pow_right (by omega) (show k + 1 ≤ 5 by omega)) (by decide)
  have hWi : (2 : Int) * 2 ^ k = (W : Int) := by rw [← hW]; push_cast; rfl
  have hpl : A + m = pl k d := by rw [← hA, ← hm]; rfl
  have hpl2 : (A : Int) + (m : Int) = (pl k d : Int) := by omega
  have htop := pl_top k d hk hd9
  have hsm := (hp_top k hk).2.2.2.2
  have e1 : (hv k d : Int) * 2 ^ k = (A : Int) := by rw [← hA]; push_cast; rfl
  have e2 : (d : Int) / 2 ^ hv k d = (m : Int) := by rw [← hm]; push_cast; rfl
  have hA9 : A ≤ 1000 := by omega
  have hm9 : m ≤ 1000 := by omega
  have hp9 : pl k d ≤ 1000 := by omega
  have hb0 : (0 : Int) ≤ (k : Int) := by omega
  have hb4 : (k : Int) ≤ 4 := by omega
  rw [hm, hW] at hat
  have hatI : (m : Int) < (W : Int) := by omega
  have hlo2 : ∀ j, j < hv k d → ∃ q : Nat, (d : Int) / 2 ^ j = (q : Int) ∧ W ≤ q ∧ q < 18446744073709551616 := by
    intro j hj
    refine ⟨d / 2 ^ j, by push_cast; rfl, ?_, ?_⟩
    · rw [← hW]; exact hlo j hj
    · exact Nat.lt_of_le_of_lt (Nat.div_le_self _ _) (by omega)
  by_cases hs : n < 0
  · have hof : ofI k n = -(pl k d : Int) := by unfold ofI; rw [if_pos hs, hd]
    have hwr : IntKind.u64.wrap (-IntKind.u64.wrap n) = (d : Int) := by rw [IntKind.wrap_u64, IntKind.wrap_u64]; omega
    rw [hof]
    generalize pl k d = P at *
    generalize hv k d = h at *
    clear hm hA hpl htop hsm hlo hof hW hd hat
    have HLO := Lib.hid hlo2
    clear hlo2
    go_enter Try.func40, Try.ntmps40
    go_wp2
    go_loopg [7] h (fun g x wx => ∃ j : Nat, j + g = h ∧ x = .int .i64 j ∧ Below w.heap.size w wx)
    case atStart => exact ⟨0, by omega, rfl, Below.refl _ _⟩
    case round =>
      obtain ⟨j, hjg, rfl, hB⟩ := hrel
      cases gk with
      | zero =>
        obtain rfl : j = h := by omega
        clear hjg
        go_wp2
        go_quiet (fail)
        go_wp2
        go_quiet (fail)
        go_wp2
        go_ret2
        exact ⟨rfl, below_on hB (below_drewN _ _ _) (Nat.le_refl _)⟩
      | succ g =>
        obtain ⟨q, hq, hqW, hq9⟩ := HLO.out j (by omega)
        have hj63 : j ≤ 62 := by omega
        have hqI : (W : Int) ≤ (q : Int) := by omega
        go_wp2
        go_quiet (fail)
        go_wp2
        go_roundg g
        case measure => omega
        case rel => exact ⟨j + 1, by omega, by go_num, below_on hB (below_drewN _ _ _) (Nat.le_refl _)⟩
  · have hof : ofI k n = (pl k d : Int) := by unfold ofI; rw [if_neg hs, hd]
    obtain rfl : n = d := by omega
    have hwr : IntKind.u64.wrap (d : Int) = (d : Int) := IntWalk.u64_in _ (by omega)
    have hs' : ¬ (d : Int) < 0 := hs
    rw [hof]
    generalize pl k d = P at *
    generalize hv k d = h at *
    clear hm hA hpl htop hsm hlo hof hW hd hat hs
    have HLO := Lib.hid hlo2
    clear hlo2
    go_enter Try.func40, Try.ntmps40
    go_wp2
    go_loopg [7] h (fun g x wx => ∃ j : Nat, j + g = h ∧ x = .int .i64 j ∧ Below w.heap.size w wx)
    case atStart => exact ⟨0, by omega, rfl, Below.refl _ _⟩
    case round =>
      obtain ⟨j, hjg, rfl, hB⟩ := hrel
      cases gk with
      | zero =>
        obtain rfl : j = h := by omega
        clear hjg
        go_wp2
        go_quiet (fail)
        go_wp2
        go_quiet (fail)
        go_wp2
        go_ret2
        exact ⟨rfl, below_on hB (below_drewN _ _ _) (Nat.le_refl _)⟩
      | succ g =>
        obtain ⟨q, hq, hqW, hq9⟩ := HLO.out j (by omega)
        have hj63 : j ≤ 62 := by omega
        have hqI : (W : Int) ≤ (q : Int) := by omega
        go_wp2
        go_quiet (fail)
        go_wp2
        go_roundg g
        case measure => omega
        case rel => exact ⟨j + 1, by omega, by go_num, below_on hB (below_drewN _ _ _) (Nat.le_refl _)⟩
end Go.Proofs.Ytklklpccpbhfgaa
