/- Several rounds; a word mixed in; the sum at the end; the four words at first. -/
import Derived.Test.YtiiadoeohmcfiaaSipA
import Derived.LoopTactic
import Derived.Deep.QuietTactic
import Derived.BigQuiet
import Derived.Laws.ResultCell
namespace Go.Proofs.Ytiiadoeohmcfiaa
open Go Go.RowKit

abbrev W4 := Int × Int × Int × Int
/-- So many rounds. -/
def srounds : Nat → W4 → W4
  | 0, x => x
  | n + 1, x => sround (srounds n x)
abbrev OwnX (b : Nat) (x : W4) (w : World) : Prop := Own4 b x.1 x.2.1 x.2.2.1 x.2.2.2 w
theorem round_x (b : Nat) (x : W4) (w : World) (hO : OwnX b x w) :
    Calls Try.prog 39 #[.pointer (some ⟨b, 0, none⟩)] w fun e w' => e = .returned (.tuple #[]) ∧ Below b w w' ∧ OwnX b (sround x) w' :=
  round_any b x.1 x.2.1 x.2.2.1 x.2.2.2 w hO

def RoundsRel (b : Nat) (x : W4) (k : Nat) (w w' : World) : Prop := Below b w w' ∧ OwnX b (srounds k x) w'
set_option maxHeartbeats 1000000 in
theorem rounds_any (b : Nat) (x : W4) (n : Nat) (hn : n ≤ 1000) (w : World) (hO : OwnX b x w) :
    Calls Try.prog 38 #[.pointer (some ⟨b, 0, none⟩), .int .i64 n] w fun e w' => e = .returned (.tuple #[]) ∧ Below b w w' ∧ OwnX b (srounds n x) w' := by
  have HO := Lib.hid hO
  clear hO
  go_enter Try.func38, Try.ntmps38
  go_wp2
  go_loopw [5] (fun i wr => ∃ k : Nat, k ≤ n ∧ i = .int .i64 k ∧ RoundsRel b x k w wr) (fun i _ => n - (intOf i).toNat)
  case atStart => exact ⟨0, by omega, rfl, Below.refl _ _, HO.out⟩
  case round =>
    obtain ⟨k, hk, rfl, hR⟩ := hrel
    by_cases hlt : k < n
    · go_wp2_with (go_at_call 39; refine (round_x b (srounds k x) _ hR.2).mono ?_; rintro e w1 ⟨rfl, hB1, hO1⟩)
      go_roundw
      case rel => exact ⟨k + 1, by omega, by go_num, hR.1.trans hB1, hO1⟩
      case measure => simp [intOf]; omega
    · obtain rfl : k = n := by omega
      go_wp2
      go_end0
      exact ⟨rfl, hR.1, hR.2⟩

/-- A word mixed in. -/
def smix (x : W4) (m : Int) : W4 :=
  let y := srounds 2 (x.1, x.2.1, x.2.2.1, xor64 x.2.2.2 m)
  (xor64 y.1 m, y.2.1, y.2.2.1, y.2.2.2)
set_option maxHeartbeats 1000000 in
theorem mix_any (b : Nat) (x : W4) (m : Int) (w : World) (hO : OwnX b x w) :
    Calls Try.prog 34 #[.pointer (some ⟨b, 0, none⟩), .int .u64 m] w fun e w' => e = .returned (.tuple #[]) ∧ Below b w w' ∧ OwnX b (smix x m) w' := by
  obtain ⟨x0, x1, x2, x3⟩ := x
  have hB := Below.refl b w
  obtain ⟨c0, c1, c2, c3, f0, f1, f2, f3⟩ := (show Own4 b x0 x1 x2 x3 w from hO)
  go_enter Try.func34, Try.ntmps34
  go_wp2
  go_region
  go_wp2_with fail
  refine (rounds_any b (x0, x1, x2, xor64 x3 m) 2 (by omega) _ ((show Own4 b x0 x1 x2 x3 w from hO).set3 _).drew).mono ?_
  rintro e w1 ⟨rfl, hB1, hO1⟩
  replace hB1 := ((hB.setCell (p := ⟨b, 3, none⟩) (Nat.le_refl _) (.int .u64 (xor64 x3 m))).drew).trans hB1
  clear c0 c1 c2 c3 f0 f1 f2 f3 hO hB
  generalize hy : srounds 2 (x0, x1, x2, xor64 x3 m) = y at hO1
  have Hy := Lib.hid hy
  clear hy
  obtain ⟨c0, c1, c2, c3, f0, f1, f2, f3⟩ := id hO1
  go_wp2
  go_region
  go_wp2
  go_end0
  refine ⟨rfl, (hB1.setCell (Nat.le_refl _) _).drew, ?_⟩
  have : smix (x0, x1, x2, x3) m = (xor64 y.1 m, y.2.1, y.2.2.1, y.2.2.2) := by unfold smix; simp only []; rw [Hy.out]
  rw [this]
  exact (hO1.set0 _).drew

/-- The sum at the end. -/
def sfin (x : W4) : Int :=
  let y := srounds 4 (x.1, x.2.1, xor64 x.2.2.1 255, x.2.2.2)
  xor64 (xor64 (xor64 y.1 y.2.1) y.2.2.1) y.2.2.2
set_option maxHeartbeats 1000000 in
theorem finish_any (b : Nat) (x : W4) (w : World) (hO : OwnX b x w) :
    Calls Try.prog 37 #[.pointer (some ⟨b, 0, none⟩)] w fun e w' => e = .returned (.int .u64 (sfin x)) ∧ Below b w w' := by
  obtain ⟨x0, x1, x2, x3⟩ := x
  have hB := Below.refl b w
  obtain ⟨c0, c1, c2, c3, f0, f1, f2, f3⟩ := (show Own4 b x0 x1 x2 x3 w from hO)
  go_enter Try.func37, Try.ntmps37
  go_wp2
  go_region
  go_wp2_with fail
  refine (rounds_any b (x0, x1, xor64 x2 255, x3) 4 (by omega) _ ((show Own4 b x0 x1 x2 x3 w from hO).set2 _).drew).mono ?_
  rintro e w1 ⟨rfl, hB1, hO1⟩
  replace hB1 := ((hB.setCell (p := ⟨b, 2, none⟩) (Nat.le_refl _) (.int .u64 (xor64 x2 255))).drew).trans hB1
  clear c0 c1 c2 c3 f0 f1 f2 f3 hO hB
  generalize hy : srounds 4 (x0, x1, xor64 x2 255, x3) = y at hO1
  have Hy := Lib.hid hy
  clear hy
  obtain ⟨c0, c1, c2, c3, f0, f1, f2, f3⟩ := id hO1
  go_wp2
  go_quiet (fail)
  go_wp2
  go_ret
  refine ⟨?_, hB1.trans ⟨rfl, rfl, rfl, Nat.le_refl _, fun _ _ => rfl⟩⟩
  have : sfin (x0, x1, x2, x3) = xor64 (xor64 (xor64 y.1 y.2.1) y.2.2.1) y.2.2.2 := by unfold sfin; simp only []; rw [Hy.out]
  rw [this]
  rfl

/-- The four words at first. -/
def sbegin (k0 k1 : Int) : W4 := (xor64 k0 0x736f6d6570736575, xor64 k1 0x646f72616e646f6d, xor64 k0 0x6c7967656e657261, xor64 k1 0x7465646279746573)
theorem begin_any (k0 k1 : Int) (w : World) :
    Calls Try.prog 33 #[.int .u64 k0, .int .u64 k1] w fun e w' => e = .returned (.agg #[.int .u64 (sbegin k0 k1).1, .int .u64 (sbegin k0 k1).2.1, .int .u64 (sbegin k0 k1).2.2.1, .int .u64 (sbegin k0 k1).2.2.2]) ∧ Below w.heap.size w w' := by
  go_enter Try.func33, Try.ntmps33
  go_wp2
  exact bodyPost_ret (v := .agg #[.int .u64 (sbegin k0 k1).1, .int .u64 (sbegin k0 k1).2.1, .int .u64 (sbegin k0 k1).2.2.1, .int .u64 (sbegin k0 k1).2.2.2]) (by simp [results, Try.results33, go_sem, sbegin, xor64]) rfl ⟨rfl, (Below.refl _ _).alloc (Nat.le_refl _) _⟩
end Go.Proofs.Ytiiadoeohmcfiaa
