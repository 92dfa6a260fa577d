/- Most, Bounds, Near; the chapter's examples. -/
import Derived.Test.YtklklpccpbhfgaaBFn
import Derived.OwnWalk
namespace Go.Proofs.Ytklklpccpbhfgaa
open Go Go.RowKit

set_option maxRecDepth 100000 in
set_option maxHeartbeats 4000000 in
theorem most_out (b : Int) (h : b < 0 ∨ 4 < b) (w : World) :
    Calls Try.prog 34 #[.int .i64 b] w fun e w' => e = .returned (.int .i64 (-1)) ∧ Below w.heap.size w w' := by
  have ho := of_out b h
  clear h
  go_enter Try.func34, Try.ntmps34
  go_wp2_with fail
  refine (ho _ _).mono ?_
  rintro e w1 ⟨rfl, hB⟩
  go_wp2
  go_ret
  exact ⟨rfl, hB⟩

set_option maxRecDepth 100000 in
set_option maxHeartbeats 4000000 in
theorem most_any (k : Nat) (hk : k ≤ 4) (w : World) :
    Calls Try.prog 34 #[.int .i64 k] w fun e w' => e = .returned (.int .i64 (mst k)) ∧ Below w.heap.size w w' := by
  have ho := of_any k hk 9223372036854775807 (by constructor <;> decide)
  rw [of_last k hk] at ho
  clear hk
  go_enter Try.func34, Try.ntmps34
  go_wp2_with fail
  refine (ho _).mono ?_
  rintro e w1 ⟨rfl, hB⟩
  go_wp2
  go_ret
  exact ⟨rfl, hB⟩

set_option maxRecDepth 100000 in
set_option maxHeartbeats 4000000 in
theorem near_any (k : Nat) (hk : k ≤ 4) (a b : Int) (ha : In64 a) (hb : In64 b) (w : World) :
    Calls Try.prog 32 #[.int .i64 k, .int .i64 a, .int .i64 b] w fun e w' => e = .returned (.bool (decide (ofI k a = ofI k b))) ∧ Below w.heap.size w w' := by
  have h1 := of_any k hk a ha
  have h2 := of_any k hk b hb
  generalize ofI k a = x at *
  generalize ofI k b = y at *
  clear ha hb hk
  go_enter Try.func32, Try.ntmps32
  go_wp2_with fail
  refine (h1 _).mono ?_
  rintro e w1 ⟨rfl, hB1⟩
  go_wp2_with fail
  refine (h2 _).mono ?_
  rintro e w2 ⟨rfl, hB2⟩
  go_wp2
  go_ret
  exact ⟨rfl, hB1.trans (hB2.mono hB1.size)⟩

set_option maxRecDepth 100000 in
set_option maxHeartbeats 4000000 in
theorem near_out (k : Int) (h : k < 0 ∨ 4 < k) (a b : Int) (w : World) :
    Calls Try.prog 32 #[.int .i64 k, .int .i64 a, .int .i64 b] w fun e w' => e = .returned (.bool false) ∧ Below w.heap.size w w' := by
  have ho := of_out k h
  clear h
  go_enter Try.func32, Try.ntmps32
  go_wp2_with fail
  refine (ho _ _).mono ?_
  rintro e w1 ⟨rfl, hB1⟩
  go_wp2_with fail
  refine (ho _ _).mono ?_
  rintro e w2 ⟨rfl, hB2⟩
  go_wp2
  go_ret
  exact ⟨rfl, hB1.trans (hB2.mono hB1.size)⟩

set_option maxRecDepth 100000 in
set_option maxHeartbeats 4000000 in
theorem bounds_bits (k : Int) (h : k < 0 ∨ 4 < k) (a : Int) (w : World) :
    Calls Try.prog 44 #[.int .i64 k, .int .i64 a] w fun e w' => e = .returned (.tuple #[.int .i64 0, .int .i64 0, .bool false]) ∧ Below w.heap.size w w' := by
  have ho := of_out k h
  clear h
  go_enter Try.func44, Try.ntmps44
  go_wp2_with fail
  refine (ho _ _).mono ?_
  rintro e w1 ⟨rfl, hB1⟩
  go_wp2
  go_ret3
  exact ⟨rfl, hB1⟩

set_option maxRecDepth 100000 in
set_option maxHeartbeats 4000000 in
theorem bounds_no (k : Nat) (hk : k ≤ 4) (a : Int) (hn : ¬ Fits k a) (w : World) :
    Calls Try.prog 44 #[.int .i64 k, .int .i64 a] w fun e w' => e = .returned (.tuple #[.int .i64 0, .int .i64 0, .bool false]) ∧ Below w.heap.size w w' := by
  have ho := of_any k hk (-9223372036854775808) (by constructor <;> decide)
  rw [of_first k hk] at ho
  have hm := most_any k hk
  obtain ⟨_, _, _, _, h9⟩ := hp_top k hk
  unfold Fits at hn
  generalize mst k = M at *
  obtain ⟨F, hF⟩ : ∃ F : Int, -(M : Int) - 1 = F := ⟨_, rfl⟩
  rw [hF] at hn ho
  clear hk
  by_cases h1 : a < F
  · clear hn hF
    go_enter Try.func44, Try.ntmps44
    go_wp2_with fail
    refine (ho _).mono ?_
    rintro e w1 ⟨rfl, hB1⟩
    go_wp2
    go_ret3
    exact ⟨rfl, hB1⟩
  · have h2 : (M : Int) < a := by omega
    clear hn hF
    go_enter Try.func44, Try.ntmps44
    go_wp2_with fail
    refine (ho _).mono ?_
    rintro e w1 ⟨rfl, hB1⟩
    go_wp2_with fail
    refine (hm _).mono ?_
    rintro e w2 ⟨rfl, hB2⟩
    go_wp2
    go_ret3
    exact ⟨rfl, hB1.trans (hB2.mono hB1.size)⟩

set_option maxRecDepth 100000 in
set_option maxHeartbeats 4000000 in
theorem bounds_any (k : Nat) (hk : k ≤ 4) (a : Int) (hf : Fits k a) (w : World) :
    Calls Try.prog 44 #[.int .i64 k, .int .i64 a] w fun e w' => e = .returned (.tuple #[.int .i64 (lowI k a), .int .i64 (highI k a), .bool true]) ∧ Below w.heap.size w w' := by
  have ho := of_any k hk (-9223372036854775808) (by constructor <;> decide)
  rw [of_first k hk] at ho
  have hm := most_any k hk
  obtain ⟨_, _, _, _, h9⟩ := hp_top k hk
  have hf' := hf
  obtain ⟨f1, f2⟩ := hf'
  have hen := ends_any k a.natAbs hk (by omega)
  have hnt := nr_top k a.natAbs hk (by omega)
  have hnp := nr_pos k a.natAbs
  have hns := nr_lt (k := k) (p := a.natAbs) (q := a.natAbs + 1) (by omega)
  by_cases hs : a < 0
  · have e1 : lowI k a = -((min (nr k (a.natAbs + 1) - 1) 9223372036854775808 : Nat) : Int) := by unfold lowI; rw [if_pos hs]
    have e2 : highI k a = -(nr k a.natAbs : Int) := by unfold highI; rw [if_pos hs]
    rw [e1, e2]
    obtain ⟨p, hp⟩ : ∃ p, a.natAbs = p := ⟨_, rfl⟩
    have hap : a = -(p : Int) := by omega
    rw [hp] at hen hnt hnp hns ⊢
    obtain ⟨U, hU⟩ : ∃ U, nr k (p + 1) - 1 = U := ⟨_, rfl⟩
    have hU2 : U ≤ 18446744073709551615 := by omega
    rw [hU] at hen ⊢
    obtain ⟨X, hX⟩ : ∃ X, min U 9223372036854775808 = X := ⟨_, rfl⟩
    have hX2 : min (U : Int) 9223372036854775808 = (X : Int) := by omega
    have hX9 : X ≤ 9223372036854775808 := by omega
    rw [hX]
    clear hns hnp hU hX
    generalize nr k p = N at *
    generalize mst k = M at *
    have r1 : IntKind.i64.wrap (IntKind.u64.wrap (-(X : Int))) = -(X : Int) := by rw [IntKind.wrap_u64, IntKind.wrap_i64]; omega
    have r2 : IntKind.i64.wrap (IntKind.u64.wrap (-(N : Int))) = -(N : Int) := by rw [IntKind.wrap_u64, IntKind.wrap_i64]; omega
    have hap2 : -a = (p : Int) := by omega
    have hp9 : p ≤ 1000 := by omega
    have g1 : ¬ a < -(M : Int) - 1 := by omega
    have g2 : ¬ (M : Int) < a := by omega
    clear hf hp hap e1 e2 hk f1 f2
    go_enter Try.func44, Try.ntmps44
    go_wp2_with fail
    refine (ho _).mono ?_
    rintro e w1 ⟨rfl, hB1⟩
    go_wp2_with fail
    refine (hm _).mono ?_
    rintro e w2 ⟨rfl, hB2⟩
    go_wp2_with fail
    refine (hen _).mono ?_
    rintro e w3 ⟨rfl, hB3⟩
    go_wp2
    go_ret3
    exact ⟨rfl, (hB1.trans (hB2.mono hB1.size)).trans (hB3.mono (Nat.le_trans hB1.size hB2.size))⟩
  · have e1 : lowI k a = (nr k a.natAbs : Int) := by unfold lowI; rw [if_neg hs]
    have e2 : highI k a = (nr k (a.natAbs + 1) : Int) - 1 := by unfold highI; rw [if_neg hs]
    rw [e1, e2]
    have hnt2 := nr_top' k a.natAbs hk (by omega)
    obtain ⟨p, rfl⟩ : ∃ p : Nat, a = p := ⟨a.toNat, by omega⟩
    rw [Int.natAbs_natCast] at *
    obtain ⟨U, hU⟩ : ∃ U, nr k (p + 1) - 1 = U := ⟨_, rfl⟩
    have hU2 : U ≤ 9223372036854775807 := by omega
    have hU3 : (nr k (p + 1) : Int) - 1 = (U : Int) := by omega
    rw [hU] at hen
    rw [hU3]
    have hN : nr k p ≤ 9223372036854775807 := by omega
    clear hns hnp hU hnt hnt2 hU3
    generalize nr k p = N at *
    generalize mst k = M at *
    have r1 : IntKind.i64.wrap (U : Int) = (U : Int) := IntWalk.i64_in _ (by omega)
    have r2 : IntKind.i64.wrap (N : Int) = (N : Int) := IntWalk.i64_in _ (by omega)
    have g1 : ¬ (p : Int) < -(M : Int) - 1 := by omega
    have g2 : ¬ (M : Int) < (p : Int) := by omega
    have hs' : ¬ (p : Int) < 0 := hs
    clear hf e1 e2 hk f1 f2
    go_enter Try.func44, Try.ntmps44
    go_wp2_with fail
    refine (ho _).mono ?_
    rintro e w1 ⟨rfl, hB1⟩
    go_wp2_with fail
    refine (hm _).mono ?_
    rintro e w2 ⟨rfl, hB2⟩
    go_wp2_with fail
    refine (hen _).mono ?_
    rintro e w3 ⟨rfl, hB3⟩
    go_wp2
    go_ret3
    exact ⟨rfl, (hB1.trans (hB2.mono hB1.size)).trans (hB3.mono (Nat.le_trans hB1.size hB2.size))⟩
theorem below_on {B : Nat} {w w' w'' : World} (h : Below B w w') (h' : Below w'.heap.size w' w'') (hB : B ≤ w.heap.size) : Below B w w'' := h.trans (h'.mono (Nat.le_trans hB h.size))

end Go.Proofs.Ytklklpccpbhfgaa
