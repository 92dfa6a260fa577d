/- placeOf, ends, the closure that tells which bits may be, Of. -/
import Derived.Test.YtklklpccpbhfgaaChecked
import Derived.Test.YtklklpccpbhfgaaShelf
import Derived.Test.YtklklpccpbhfgaaBInt
import Derived.WalkKit
import Derived.Below
import Derived.IntWalk
import Derived.Lib.Hide
import Derived.Deep.QuietTactic
import Derived.BigQuiet
import Derived.RegionTactic
import Derived.BigRegion
namespace Go.Proofs.Ytklklpccpbhfgaa
open Go Go.RowKit

theorem below_drewN (B : Nat) (w : World) (n : Nat) : Below B w (w.drewN n) := ⟨rfl, rfl, rfl, Nat.le_refl _, fun _ _ => rfl⟩
theorem hv_le (k d : Nat) (hd : d ≤ 9223372036854775808) : hv k d ≤ 63 := by
  have hl : Lib.bitLen d ≤ 64 := Lib.bitLen_le d 64 (by omega) (by omega)
  unfold hv
  omega

set_option maxRecDepth 100000 in
set_option maxHeartbeats 4000000 in
theorem place_any (k d : Nat) (hk : k ≤ 4) (hd : d ≤ 9223372036854775808) (w : World) :
    Calls Try.prog 53 #[.int .i64 k, .int .u64 d] w fun e w' => e = .returned (.int .i64 (pl k d)) ∧ Below w.heap.size w w' := by
  have hlen := Try.bits_Len64 (d : Int) w (by omega) (by omega)
  have hl : Lib.bitLen d ≤ 64 := Lib.bitLen_le d 64 (by omega) (by omega)
  have hmax : max (0 : Int) ((Lib.bitLen d : Int) - 1 - (k : Int)) = (hv k d : Int) := by unfold hv; omega
  have hh := hv_le k d hd
  obtain ⟨m, hm⟩ : ∃ m, d / 2 ^ hv k d = m := ⟨_, rfl⟩
  obtain ⟨A, hA⟩ : ∃ A, hv k d * 2 ^ k = A := ⟨_, rfl⟩
  have hpl : A + m = pl k d := by rw [← hA, ← hm]; rfl
  have hpl2 : (A : Int) + (m : Int) = (pl k d : Int) := by omega
  have htop := pl_top k d hk hd
  have hsm := (hp_top k hk).2.2.2.2
  have e1 : (hv k d : Int) * 2 ^ k = (A : Int) := by rw [← hA]; push_cast; rfl
  have e2 : (d : Int) / 2 ^ hv k d = (m : Int) := by rw [← hm]; push_cast; rfl
  have hA9 : A ≤ 1000 := by omega
  have hm9 : m ≤ 1000 := by omega
  have hp9 : pl k d ≤ 1000 := by omega
  have htn : ((d : Int)).toNat = d := rfl
  rw [htn] at hlen
  generalize Lib.bitLen d = L at *
  generalize pl k d = P at *
  generalize hv k d = h at *
  clear hm hA hpl htop hsm
  go_enter Try.func53, Try.ntmps53
  go_wp2_with fail
  refine hlen.mono ?_
  rintro e w1 ⟨rfl, rfl⟩
  go_wp2
  go_quiet (fail)
  go_wp2
  go_ret
  exact ⟨rfl, below_drewN _ _ _⟩

set_option maxRecDepth 100000 in
set_option maxHeartbeats 4000000 in
theorem ends_any (k p : Nat) (hk : k ≤ 4) (hp' : p ≤ mst k + 1) (w : World) :
    Calls Try.prog 59 #[.int .i64 k, .int .i64 p] w fun e w' => e = .returned (.tuple #[.int .u64 (nr k p), .int .u64 (nr k (p + 1) - 1 : Nat)]) ∧ Below w.heap.size w w' := by
  obtain ⟨hn1, hn2⟩ := nr_top k p hk hp'
  have hsm := (hp_top k hk)
  have hs := nr_succ k p
  have hpos := Nat.two_pow_pos (hp k p)
  have hle : hp k p * 2 ^ k ≤ p := Nat.le_trans (Nat.mul_le_mul_right _ (Nat.sub_le _ _)) (Nat.div_mul_le_self p _)
  have hh : hp k p ≤ 63 := by
    have : p / 2 ^ k ≤ (mst k + 1) / 2 ^ k := Nat.div_le_div_right hp'
    have h0 := hsm.1
    unfold hp at *
    omega
  obtain ⟨q, hq⟩ : ∃ q, p / 2 ^ k = q := ⟨_, rfl⟩
  have hmax : max (0 : Int) ((q : Int) - 1) = (hp k p : Int) := by unfold hp; omega
  obtain ⟨A, hA⟩ : ∃ A, hp k p * 2 ^ k = A := ⟨_, rfl⟩
  obtain ⟨m, hm⟩ : ∃ m, p - A = m := ⟨_, rfl⟩
  obtain ⟨W, hW⟩ : ∃ W, 2 ^ hp k p = W := ⟨_, rfl⟩
  have hs2 : nr k (p + 1) = nr k p + W := by rw [hs, hW]
  rw [hs2] at hn2
  rw [hs2]
  rw [hW] at hpos
  have hW9 : W ≤ 9223372036854775808 := hW ▸ Nat.pow_le_pow_right (by omega) hh
  have hnr : m * 2 ^ hp k p = nr k p := by rw [← hm, ← hA]; rfl
  have hsm' := hsm.2.2.2.2
  have hq9 : q ≤ 1000 := by have := Nat.div_le_self p (2 ^ k); omega
  have hp9 : p ≤ 1000 := by omega
  rw [hA] at hle
  have hm2 : (p : Int) - (A : Int) = (m : Int) := by omega
  have hm9 : m ≤ 1000 := by omega
  have e0 : (p : Int) / 2 ^ k = (q : Int) := by rw [← hq]; push_cast; rfl
  have e1 : (hp k p : Int) * 2 ^ k = (A : Int) := by rw [← hA]; push_cast; rfl
  have e2 : (m : Int) * (W : Int) = (nr k p : Int) := by rw [← hnr, ← hW]; push_cast; rfl
  have e3 : (2 : Int) ^ hp k p = (W : Int) := by rw [← hW]; push_cast; rfl
  have r0 : IntKind.u64.wrap (W : Int) = (W : Int) := IntWalk.u64_in _ (by omega)
  have r1 : IntKind.u64.wrap (nr k p : Int) = (nr k p : Int) := IntWalk.u64_in _ (by omega)
  have r2 : IntKind.u64.wrap (IntKind.u64.wrap ((nr k p : Int) + (W : Int)) - 1) = ((nr k p + W - 1 : Nat) : Int) := by rw [IntKind.wrap_u64, IntKind.wrap_u64]; omega
  have hA9 : A ≤ 1000 := by omega
  generalize hp k p = h at *
  generalize nr k p = N0 at *
  clear hq hA hm hW hnr hsm hsm' hp' hs hs2
  go_enter Try.func59, Try.ntmps59
  go_wp2
  go_quiet (fail)
  go_wp2
  go_ret2
  exact ⟨rfl, below_drewN _ _ _⟩

set_option maxRecDepth 100000 in
set_option maxHeartbeats 4000000 in
theorem of_out (b : Int) (h : b < 0 ∨ 4 < b) (n : Int) (w : World) :
    Calls Try.prog 29 #[.int .i64 b, .int .i64 n] w fun e w' => e = .returned (.tuple #[.int .i64 0, .bool false]) ∧ Below w.heap.size w w' := by
  by_cases h0 : b < 0
  · have h1 : ¬ 0 ≤ b := by omega
    clear h
    go_enter Try.func29, Try.ntmps29
    go_wp2
    go_ret2
    exact ⟨rfl, (Below.refl _ _).alloc (Nat.le_refl _) _⟩
  · have h1 : 0 ≤ b := by omega
    have h2 : ¬ b ≤ 4 := by omega
    clear h
    go_enter Try.func29, Try.ntmps29
    go_wp2
    go_ret2
    exact ⟨rfl, (Below.refl _ _).alloc (Nat.le_refl _) _⟩

set_option maxRecDepth 100000 in
set_option maxHeartbeats 4000000 in
theorem of_any (k : Nat) (hk : k ≤ 4) (n : Int) (hn : In64 n) (w : World) :
    Calls Try.prog 29 #[.int .i64 k, .int .i64 n] w fun e w' => e = .returned (.tuple #[.int .i64 (ofI k n), .bool true]) ∧ Below w.heap.size w w' := by
  obtain ⟨n1, n2⟩ := hn
  have hf := fits_small k hk (ofI k n) (of_fits k hk n ⟨n1, n2⟩)
  have hb0 : (0 : Int) ≤ (k : Int) := by omega
  have hb4 : (k : Int) ≤ 4 := by omega
  by_cases hs : n < 0
  · obtain ⟨d, hd⟩ : ∃ d : Nat, n.natAbs = d := ⟨_, rfl⟩
    have e1 : IntKind.u64.wrap (-IntKind.u64.wrap n) = (d : Int) := by rw [IntKind.wrap_u64, IntKind.wrap_u64]; omega
    have e2 : ofI k n = -(pl k d : Int) := by unfold ofI; rw [if_pos hs, hd]
    have hp9 : pl k d ≤ 1000 := by omega
    have hpl := place_any k d hk (by omega)
    rw [e2]
    generalize pl k d = P at *
    clear hf e2
    go_enter Try.func29, Try.ntmps29
    go_wp2_with (first | (go_at_call 53; refine (hpl _).mono ?_; rintro e w1 ⟨rfl, hB⟩) | go_in)
    go_wp2
    go_ret2
    exact ⟨rfl, ((Below.refl _ _).alloc (Nat.le_refl _) _).trans (hB.mono (by simp))⟩
  · obtain ⟨d, rfl⟩ : ∃ d : Nat, n = d := ⟨n.toNat, by omega⟩
    have e1 : IntKind.u64.wrap (d : Int) = (d : Int) := IntWalk.u64_in _ (by omega)
    have e2 : ofI k d = (pl k d : Int) := by unfold ofI; rw [if_neg hs, Int.natAbs_natCast]
    have hpl := place_any k d hk (by omega)
    rw [e2]
    have hs' : ¬ (d : Int) < 0 := hs
    clear hf e2
    go_enter Try.func29, Try.ntmps29
    go_wp2_with (first | (go_at_call 53; refine (hpl _).mono ?_; rintro e w1 ⟨rfl, hB⟩) | go_in)
    go_wp2
    go_ret2
    exact ⟨rfl, ((Below.refl _ _).alloc (Nat.le_refl _) _).trans (hB.mono (by simp))⟩
end Go.Proofs.Ytklklpccpbhfgaa
