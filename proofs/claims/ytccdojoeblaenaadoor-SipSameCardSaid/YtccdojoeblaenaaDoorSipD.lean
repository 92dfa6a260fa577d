/- The rank of a number's first bit. -/
import Derived.Test.YtccdojoeblaenaaDoorChecked
import Derived.WalkKit
import Derived.Below
import Derived.IntWalk
import Derived.Laws.Bits64
import Derived.Laws.Bits64b
import Derived.Lib.TrailingZeros
import Derived.Lib.Hide
import Derived.Deep.QuietTactic
import Derived.BigQuiet
namespace Go.Proofs.YtccdojoeblaenaaDoor
open Go Go.RowKit

/-- The library's table lies as its text lays it. -/
def Tab (w : World) : Prop := ∀ j, j < 64 → w.cell? ⟨0, j, none⟩ = some (.int .u8 (Lib.deBruijn64tab.getD j 0 : Nat))
theorem Tab.below {w w' : World} (h : Tab w) (hB : Below w.heap.size w w') : Tab w' := fun j hj => by
  have hc := h j hj
  rw [← hc]
  exact hB.cell (World.block_lt_of_cell? _ _ hc)

set_option maxHeartbeats 1000000 in
theorem tz_core (x k idx : Nat) (w : World) (hx0 : ((x : Int) == 0) = false)
    (key : IntKind.u64.wrap (bits BinOp.and IntKind.u64 (x : Int) (IntKind.u64.wrap (-(x : Int))) * 285870213051353865) / 288230376151711744 = (idx : Int))
    (hi : idx < 64) (hcell : w.cell? ⟨0, idx, none⟩ = some (.int .u8 k)) (hk : k < 64) :
    Calls Tryd.prog 22 #[.int .u64 x] w fun e w' => e = .returned (.int .i64 k) ∧ w = w' := by
  go_enter Tryd.func22, Tryd.ntmps22
  go_wp2_with (simp only [key])
  go_ret
  exact ⟨rfl, rfl⟩
theorem tz_zero (w : World) :
    Calls Tryd.prog 22 #[.int .u64 0] w fun e w' => e = .returned (.int .i64 64) ∧ w = w' := by
  go_enter Tryd.func22, Tryd.ntmps22
  go_wp2
  go_ret
  exact ⟨rfl, rfl⟩
theorem tz_key (x a : Nat) (hx : x < 18446744073709551616) (hx0 : x ≠ 0) (hlow : x &&& (18446744073709551616 - x) = a) :
    IntKind.u64.wrap (bits BinOp.and IntKind.u64 (x : Int) (IntKind.u64.wrap (-(x : Int))) * 285870213051353865) / 288230376151711744 = ((a * 285870213051353865 % 18446744073709551616 / 288230376151711744 : Nat) : Int) := by
  have e1 : IntKind.u64.wrap (-(x : Int)) = ((18446744073709551616 - x : Nat) : Int) := by rw [IntKind.wrap_u64]; omega
  rw [e1, bits_and_u64_nat x _ hx (by omega), hlow, IntKind.wrap_u64]
  omega
theorem tz_any (x : Nat) (hx : x < 18446744073709551616) (w : World) (hT : Tab w) :
    Calls Tryd.prog 22 #[.int .u64 x] w fun e w' => e = .returned (.int .i64 (Lib.ctz 64 x)) ∧ w = w' := by
  by_cases hx0 : x = 0
  · subst hx0
    exact tz_zero w
  · obtain ⟨hlow, hk⟩ := Lib.lowest_bit 64 x hx0 hx
    obtain ⟨hi, htab⟩ := Lib.deBruijn64_at _ hk
    have hcell := hT _ hi
    rw [htab] at hcell
    exact tz_core x _ _ w (by simp; omega) (tz_key x _ hx hx0 hlow) hi hcell hk

def srank (h : Nat) (f : Int) : Int := if 0 ≤ f ∧ f < 64 then min (Lib.ctz 64 (h / 2 ^ f.toNat) : Int) (64 - f) + 1 else 0
theorem ctz_le (x : Nat) (hx : x < 18446744073709551616) : Lib.ctz 64 x ≤ 64 := by
  by_cases h : x = 0
  · subst h; simp [Lib.ctz]
  · exact Nat.le_of_lt (Lib.lowest_bit 64 x h hx).2
set_option maxHeartbeats 1000000 in
theorem rank_in (h : Nat) (hh : h < 18446744073709551616) (f : Nat) (hf : f < 64) (w : World) (hT : Tab w) :
    Calls Tryd.prog 13 #[.int .u64 h, .int .i64 f] w fun e w' => e = .returned (.int .i64 (srank h f)) ∧ w = w' := by
  have HT := Lib.hid hT
  clear hT
  go_enter Tryd.func13, Tryd.ntmps13
  go_wp2_with fail
  have hd : h / 2 ^ f < 18446744073709551616 := Nat.lt_of_le_of_lt (Nat.div_le_self _ _) hh
  rw [show ((h : Int) / 2 ^ f) = ((h / 2 ^ f : Nat) : Int) from by push_cast; rfl]
  refine (tz_any _ hd _ HT.out).mono ?_
  rintro e w1 ⟨rfl, rfl⟩
  have hz := ctz_le _ hd
  have hr : srank h f = min (Lib.ctz 64 (h / 2 ^ f) : Int) (64 - f) + 1 := by
    unfold srank; rw [if_pos (by omega)]; simp
  generalize Lib.ctz 64 (h / 2 ^ f) = z at *
  have Hr := Lib.hid hr
  clear hr
  go_wp2
  all_goals
    go_ret
    refine ⟨?_, rfl⟩
    rw [Hr.out]
    refine congrArg (fun n => Ending.returned (.int .i64 n)) ?_
    omega
theorem rank_out (h : Int) (f : Int) (hf : f < 0 ∨ 64 ≤ f) (w : World) :
    Calls Tryd.prog 13 #[.int .u64 h, .int .i64 f] w fun e w' => e = .returned (.int .i64 0) ∧ w = w' := by
  rcases hf with hf | hf
  · go_enter Tryd.func13, Tryd.ntmps13
    go_wp2
    go_ret
    exact ⟨rfl, rfl⟩
  · have h0 : ¬ f < 0 := by omega
    go_enter Tryd.func13, Tryd.ntmps13
    go_wp2
    go_ret
    exact ⟨rfl, rfl⟩
end Go.Proofs.YtccdojoeblaenaaDoor
