/- The rank of a number's first bit. -/
import Derived.Test.YtdcjfefnkjdchaaDoorChecked
import Derived.WalkKit
import Derived.Below
import Derived.IntWalk
import Derived.Laws.Bits64
import Derived.Laws.Bits64b
import Derived.Lib.TrailingZeros
import Derived.Lib.Hide
import Derived.Laws.IdiomStrings
import Derived.Deep.QuietTactic
import Derived.BigQuiet
namespace Go.Proofs.YtdcjfefnkjdchaaDoor
open Go Go.RowKit

/-- The library's table lies as its text lays it. -/
def Tab (w : World) : Prop := ∀ j, j < 64 → w.cell? ⟨0, j, none⟩ = some (.int .u8 (Lib.deBruijn64tab.getD j 0 : Nat))
theorem Tab.below {w w' : World} (h : Tab w) (hB : Below w.heap.size w w') : Tab w' := fun j hj => by
  have hc := h j hj
  rw [← hc]
  exact hB.cell (World.block_lt_of_cell? _ _ hc)

set_option maxHeartbeats 1000000 in
theorem tz_core (x k idx : Nat) (w : World) (hx0 : ((x : Int) == 0) = false)
    (key : IntKind.u64.wrap (bits BinOp.and IntKind.u64 (x : Int) (IntKind.u64.wrap (-(x : Int))) * 285870213051353865) / 288230376151711744 = (idx : Int))
    (hi : idx < 64) (hcell : w.cell? ⟨0, idx, none⟩ = some (.int .u8 k)) (hk : k < 64) :
    Calls Tryd.prog 36 #[.int .u64 x] w fun e w' => e = .returned (.int .i64 k) ∧ w = w' := by
  go_enter Tryd.func36, Tryd.ntmps36
  go_wp2_with (simp only [key])
  go_ret
  exact ⟨rfl, rfl⟩
theorem tz_zero (w : World) :
    Calls Tryd.prog 36 #[.int .u64 0] w fun e w' => e = .returned (.int .i64 64) ∧ w = w' := by
  go_enter Tryd.func36, Tryd.ntmps36
  go_wp2
  go_ret
  exact ⟨rfl, rfl⟩
theorem tz_key (x a : Nat) (hx : x < 18446744073709551616) (hx0 : x ≠ 0) (hlow : x &&& (18446744073709551616 - x) = a) :
    IntKind.u64.wrap (bits BinOp.and IntKind.u64 (x : Int) (IntKind.u64.wrap (-(x : Int))) * 285870213051353865) / 288230376151711744 = ((a * 285870213051353865 % 18446744073709551616 / 288230376151711744 : Nat) : Int) := by
  have e1 : IntKind.u64.wrap (-(x : Int)) = ((18446744073709551616 - x : Nat) : Int) := by rw [IntKind.wrap_u64]; omega
  rw [e1, bits_and_u64_nat x _ hx (by omega), hlow, IntKind.wrap_u64]
  omega
theorem tz_any (x : Nat) (hx : x < 18446744073709551616) (w : World) (hT : Tab w) :
    Calls Tryd.prog 36 #[.int .u64 x] w fun e w' => e = .returned (.int .i64 (Lib.ctz 64 x)) ∧ w = w' := by
  by_cases hx0 : x = 0
  · subst hx0
    exact tz_zero w
  · obtain ⟨hlow, hk⟩ := Lib.lowest_bit 64 x hx0 hx
    obtain ⟨hi, htab⟩ := Lib.deBruijn64_at _ hk
    have hcell := hT _ hi
    rw [htab] at hcell
    exact tz_core x _ _ w (by simp; omega) (tz_key x _ hx hx0 hlow) hi hcell hk

def srank (h : Nat) (f : Int) : Int := if 0 ≤ f ∧ f < 64 then min (Lib.ctz 64 (h / 2 ^ f.toNat) : Int) (64 - f) + 1 else 0
theorem ctz_le (x : Nat) (hx : x < 18446744073709551616) : Lib.ctz 64 x ≤ 64 := by
  by_cases h : x = 0
  · subst h; simp [Lib.ctz]
  · exact Nat.le_of_lt (Lib.lowest_bit 64 x h hx).2
set_option maxHeartbeats 1000000 in
theorem rank_in (h : Nat) (hh : h < 18446744073709551616) (f : Nat) (hf : f < 64) (w : World) (hT : Tab w) :
    Calls Tryd.prog 29 #[.int .u64 h, .int .i64 f] w fun e w' => e = .returned (.int .i64 (srank h f)) ∧ w = w' := by
  have HT := Lib.hid hT
  clear hT
  go_enter Tryd.func29, Tryd.ntmps29
  go_wp2_with fail
  have hd : h / 2 ^ f < 18446744073709551616 := Nat.lt_of_le_of_lt (Nat.div_le_self _ _) hh
  rw [show ((h : Int) / 2 ^ f) = ((h / 2 ^ f : Nat) : Int) from by push_cast; rfl]
  refine (tz_any _ hd _ HT.out).mono ?_
  rintro e w1 ⟨rfl, rfl⟩
  have hz := ctz_le _ hd
  have hr : srank h f = min (Lib.ctz 64 (h / 2 ^ f) : Int) (64 - f) + 1 := by
    unfold srank; rw [if_pos (by omega)]; simp
  generalize Lib.ctz 64 (h / 2 ^ f) = z at *
  have Hr := Lib.hid hr
  clear hr
  go_wp2
  all_goals
    go_ret
    refine ⟨?_, rfl⟩
    rw [Hr.out]
    refine congrArg (fun n => Ending.returned (.int .i64 n)) ?_
    omega
theorem rank_out (h : Int) (f : Int) (hf : f < 0 ∨ 64 ≤ f) (w : World) :
    Calls Tryd.prog 29 #[.int .u64 h, .int .i64 f] w fun e w' => e = .returned (.int .i64 0) ∧ w = w' := by
  rcases hf with hf | hf
  · go_enter Tryd.func29, Tryd.ntmps29
    go_wp2
    go_ret
    exact ⟨rfl, rfl⟩
  · have h0 : ¬ f < 0 := by omega
    go_enter Tryd.func29, Tryd.ntmps29
    go_wp2
    go_ret
    exact ⟨rfl, rfl⟩
theorem bit_low (c m j : Nat) (h : j < c) : 2 ^ c * (2 * m + 1) / 2 ^ j % 2 = 0 := by
  have e : 2 ^ c = 2 ^ j * (2 * 2 ^ (c - j - 1)) := by
    rw [Nat.mul_comm 2, ← Nat.pow_succ, ← Nat.pow_add]; congr 1; omega
  rw [e, Nat.mul_assoc, Nat.mul_div_cancel_left _ (Nat.pow_pos (by decide)), Nat.mul_assoc]
  omega
theorem bit_at (c m : Nat) : 2 ^ c * (2 * m + 1) / 2 ^ c % 2 = 1 := by
  rw [Nat.mul_div_cancel_left _ (Nat.pow_pos (by decide))]; omega
theorem ctz_first (x : Nat) (hx : x < 18446744073709551616) (m : Nat) (h0 : ∀ j, j < m → x / 2 ^ j % 2 = 0) (h1 : x / 2 ^ m % 2 = 1) : Lib.ctz 64 x = m := by
  have hx0 : x ≠ 0 := by intro h; subst h; simp at h1
  unfold Lib.ctz
  rw [if_neg hx0]
  obtain ⟨q, hq, hc⟩ := Lib.ctzFrom_spec 64 x (by omega) hx
  generalize Lib.ctzFrom 64 x = c at *
  rcases Nat.lt_trichotomy c m with h | h | h
  · have := h0 c h; rw [hq, bit_at] at this; omega
  · exact h
  · rw [hq, bit_low c q m h] at h1; omega
theorem ctz_none (x : Nat) (hx : x < 18446744073709551616) (m : Nat) (h0 : ∀ j, j < m → x / 2 ^ j % 2 = 0) : m ≤ Lib.ctz 64 x ∨ 64 < m := by
  by_cases hx0 : x = 0
  · subst hx0; simp [Lib.ctz]; omega
  · unfold Lib.ctz
    rw [if_neg hx0]
    obtain ⟨q, hq, hc⟩ := Lib.ctzFrom_spec 64 x (by omega) hx
    generalize Lib.ctzFrom 64 x = c at *
    left
    rcases Nat.lt_or_ge c m with h | h
    · have := h0 c h; rw [hq, bit_at] at this; omega
    · exact h
theorem bit_test (h n : Nat) : ((h : Int) / 2 ^ n).tmod 2 = 1 ↔ h / 2 ^ n % 2 = 1 := by
  rw [show ((h : Int) / 2 ^ n) = ((h / 2 ^ n : Nat) : Int) from by push_cast; rfl]
  generalize h / 2 ^ n = q
  rw [Int.tmod_eq_emod_of_nonneg (Int.natCast_nonneg _)]
  omega
def LowZero (h f k : Nat) : Prop := ∀ j, j < k → h / 2 ^ f / 2 ^ j % 2 = 0
set_option maxHeartbeats 1000000 in
theorem ref_rank_in (h : Nat) (hh : h < 18446744073709551616) (f : Nat) (hf : f < 64) (w : World) :
    Calls Tryd.prog 30 #[.int .u64 h, .int .i64 f] w fun e w' => e = .returned (.int .i64 (srank h f)) ∧ w = w' := by
  go_enter Tryd.func30, Tryd.ntmps30
  go_wp2
  go_loop [5, 6] (fun n i => ∃ k : Nat, f + k ≤ 64 ∧ n = .int .i64 ((k : Int) + 1) ∧ i = .int .i64 ((f : Int) + k) ∧ LowZero h f k) (fun _ i => 64 - (intOf i).toNat)
  case atStart => exact ⟨0, by omega, rfl, by simp, fun j hj => by omega⟩
  case round =>
    obtain ⟨k, hk, rfl, rfl, hz⟩ := hrel
    by_cases hlt : (f : Int) + k < 64
    · have ht := bit_test h (f + k)
      have hb : h / 2 ^ (f + k) = h / 2 ^ f / 2 ^ k := by rw [Nat.pow_add, Nat.div_div_eq_div_mul]
      have Ht := Lib.hid ht
      have Hb := Lib.hid hb
      clear ht hb
      go_wp2
      · have h1 : (((h : Int) / 2 ^ (f + k)).tmod 2 == 1) = true := by assumption
        have h2 : h / 2 ^ f / 2 ^ k % 2 = 1 := by rw [← Hb.out]; exact Ht.out.1 (by simpa using h1)
        have hc := ctz_first _ (Nat.lt_of_le_of_lt (Nat.div_le_self h (2 ^ f)) hh) k hz h2
        go_ret
        refine ⟨congrArg (fun n => Ending.returned (.int .i64 n)) ?_, rfl⟩
        unfold srank
        rw [if_pos (by omega), Int.toNat_natCast, hc]
        omega
      · have h1 : (((h : Int) / 2 ^ (f + k)).tmod 2 == 1) = false := by assumption
        have h2 : h / 2 ^ f / 2 ^ k % 2 = 0 := by
          rw [← Hb.out]
          have := mt Ht.out.2 (by simpa using h1)
          omega
        refine ⟨⟨k + 1, by omega, by go_num, by rw [show ((f : Int) + (k + 1 : Nat)) = f + k + 1 from by omega], ?_⟩, by simp [intOf]; omega⟩
        intro j hj
        rcases Nat.lt_or_ge j k with h | h
        · exact hz j h
        · rw [show j = k from by omega]; exact h2
    · have hk2 : f + k = 64 := by omega
      have Hk := Lib.hid hk2
      clear hk2
      go_wp2
      go_ret
      refine ⟨congrArg (fun n => Ending.returned (.int .i64 n)) ?_, rfl⟩
      have hc := ctz_none _ (Nat.lt_of_le_of_lt (Nat.div_le_self h (2 ^ f)) hh) k hz
      have := Hk.out
      unfold srank
      rw [if_pos (by omega), Int.toNat_natCast]
      omega
theorem ref_rank_out (h : Int) (f : Int) (hf : f < 0 ∨ 64 ≤ f) (w : World) :
    Calls Tryd.prog 30 #[.int .u64 h, .int .i64 f] w fun e w' => e = .returned (.int .i64 0) ∧ w = w' := by
  rcases hf with hf | hf
  · go_enter Tryd.func30, Tryd.ntmps30
    go_wp2
    go_ret
    exact ⟨rfl, rfl⟩
  · have h0 : ¬ f < 0 := by omega
    go_enter Tryd.func30, Tryd.ntmps30
    go_wp2
    go_ret
    exact ⟨rfl, rfl⟩

theorem u64_nat {a : Int} (h : (Lit.int .u64 a).wf = true) : ∃ n : Nat, a = n ∧ n < 18446744073709551616 := by
  have hx : 0 ≤ a ∧ a ≤ 18446744073709551615 := by simpa [Lit.wf, IntKind.min, IntKind.max, IntKind.signed, IntKind.bits] using h
  exact ⟨a.toNat, by omega, by omega⟩
/-- The rank of h from bit b on. -/
def rk (b h : Nat) : Nat := min (Lib.ctz 64 (h / 2 ^ b)) (64 - b) + 1
theorem srank_rk (b h : Nat) (hb : b ≤ 10) : srank h b = rk b h := by
  unfold srank rk
  rw [if_pos (by omega), Int.toNat_natCast]
  omega
theorem rk_lo (b h : Nat) : 1 ≤ rk b h := by unfold rk; omega
theorem rk_hi (b h : Nat) : rk b h ≤ 65 := by unfold rk; omega
theorem rank_nat (b h : Nat) (hb : b ≤ 10) (hh : h < 18446744073709551616) (w : World) (hT : Tab w) :
    Calls Tryd.prog 29 #[.int .u64 h, .int .i64 b] w fun e w' => e = .returned (.int .i64 (rk b h : Nat)) ∧ w = w' := by
  rw [← srank_rk b h hb]
  exact rank_in h hh b (by omega) w hT
theorem ref_rank_nat (b h : Nat) (hb : b ≤ 10) (hh : h < 18446744073709551616) (w : World) :
    Calls Tryd.prog 30 #[.int .u64 h, .int .i64 b] w fun e w' => e = .returned (.int .i64 (rk b h : Nat)) ∧ w = w' := by
  rw [← srank_rk b h hb]
  exact ref_rank_in h hh b (by omega) w
end Go.Proofs.YtdcjfefnkjdchaaDoor
