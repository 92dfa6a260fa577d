/- The chapter's statements, walked: SipBounds. -/
import Derived.Test.YtccdojoeblaenaaDoorSipH
namespace Go.Proofs.YtccdojoeblaenaaDoor
open Go Go.RowKit

theorem u8_nat {a : Int} (h : (Lit.int .u8 a).wf = true) : ∃ n : Nat, a = n ∧ n < 256 := by
  have hx : 0 ≤ a ∧ a ≤ 255 := by simpa [Lit.wf, IntKind.min, IntKind.max, IntKind.signed, IntKind.bits] using h
  exact ⟨a.toNat, by omega, by omega⟩
theorem first_bit (x : Nat) (hx : x < 18446744073709551616) :
    (∀ j, j < Lib.ctz 64 x → x / 2 ^ j % 2 = 0) ∧ (Lib.ctz 64 x < 64 → x / 2 ^ Lib.ctz 64 x % 2 = 1) := by
  by_cases hx0 : x = 0
  · subst hx0
    exact ⟨fun j _ => by simp, fun h => by simp [Lib.ctz] at h⟩
  · unfold Lib.ctz
    rw [if_neg hx0]
    obtain ⟨q, hq, hc⟩ := Lib.ctzFrom_spec 64 x (Nat.pos_of_ne_zero hx0) hx
    generalize Lib.ctzFrom 64 x = c at *
    subst hq
    exact ⟨fun j hj => bit_low c q j hj, fun _ => bit_at c q⟩
/-- The first bit: those below it are 0; it is 1, or there is none. -/
theorem srank_spec (h : Nat) (hh : h < 18446744073709551616) (f : Nat) (hf : f < 64) :
    ∃ r : Nat, srank h f = r ∧ 1 ≤ r ∧ r ≤ 65 - f ∧ (∀ j, f ≤ j → j + 1 < f + r → h / 2 ^ j % 2 = 0) ∧ (r ≠ 65 - f → h / 2 ^ (f + r - 1) % 2 = 1) := by
  have hx : h / 2 ^ f < 18446744073709551616 := Nat.lt_of_le_of_lt (Nat.div_le_self _ _) hh
  have hs := first_bit (h / 2 ^ f) hx
  have hd : ∀ m, h / 2 ^ (f + m) = h / 2 ^ f / 2 ^ m := fun m => by rw [Nat.pow_add, Nat.div_div_eq_div_mul]
  refine ⟨min (Lib.ctz 64 (h / 2 ^ f)) (64 - f) + 1, ?_, by omega, by omega, ?_, ?_⟩
  · unfold srank
    rw [if_pos (by omega), Int.toNat_natCast]
    omega
  · intro j h1 h2
    rw [show j = f + (j - f) from by omega, hd]
    exact hs.1 _ (by omega)
  · intro h1
    rw [show f + (min (Lib.ctz 64 (h / 2 ^ f)) (64 - f) + 1) - 1 = f + Lib.ctz 64 (h / 2 ^ f) from by omega, hd]
    exact hs.2 (by omega)
theorem bit_test_zero (h n : Nat) (hb : h / 2 ^ n % 2 = 0) : (((h : Int) / 2 ^ n).tmod 2 == 1) = false := by
  have := bit_test h n
  rw [beq_eq_false_iff_ne]
  intro h1
  have := this.1 h1
  omega
theorem bit_test_one (h n : Nat) (hb : h / 2 ^ n % 2 = 1) : (((h : Int) / 2 ^ n).tmod 2 == 1) = true := by
  rw [beq_iff_eq]
  exact (bit_test h n).2 hb

def ZeroTo (h f r : Nat) : Prop := ∀ j, f ≤ j → j + 1 < f + r → h / 2 ^ j % 2 = 0
set_option maxHeartbeats 1000000 in
theorem SipBounds_walk (a : Int) (ha : (Lit.int .u64 a).wf = true) (c : Int) (hc : (Lit.int .u8 c).wf = true) (w : World) (hT : Tab w) :
    Calls Tryd.prog 6 #[.int .u64 a, .int .u8 c] w fun e w' => e = .returned (.bool true) ∧ Below w.heap.size w w' := by
  obtain ⟨h, rfl, hh⟩ := u64_nat ha
  obtain ⟨f, rfl, hf⟩ := u8_nat hc
  obtain ⟨r, hr, hr1, hr2, hz, ho⟩ := srank_spec h hh (f % 64) (by omega)
  have HT := Lib.hid hT
  have HZ : Hid (ZeroTo h (f % 64) r) := hz
  have HO := Lib.hid ho
  have HR := Lib.hid hr
  clear hT ha hc hz ho hr
  go_enter Tryd.func6, Tryd.ntmps6
  go_wp2_with fail
  refine (examples_any _ HT.out).mono ?_
  rintro e w1 ⟨rfl, hB1⟩
  go_wp2_with fail
  rw [show (f : Int) % 64 = ((f % 64 : Nat) : Int) from by omega]
  have hg : f % 64 < 64 := by omega
  generalize f % 64 = g at *
  refine (rank_any h hh _ _ (HT.out.below hB1)).mono ?_
  rintro e w2 ⟨rfl, rfl⟩
  rw [HR.out]
  go_wp2
  go_loop [8] (fun i => ∃ j : Nat, g ≤ j ∧ j + 1 ≤ g + r ∧ i = .int .i64 j) (fun i => g + r - (intOf i).toNat)
  case atStart => exact ⟨g, by omega, by omega, rfl⟩
  case round =>
    obtain ⟨j, hj1, hj2, rfl⟩ := hrel
    by_cases hlt : (j : Int) < (g : Int) + r - 1
    · have hb := bit_test_zero h j (HZ.out j hj1 (by omega))
      go_wp2
      go_round
      case rel => exact ⟨j + 1, by omega, by omega, by go_num⟩
      case measure => simp [intOf]; omega
    · have hj : j = g + r - 1 := by omega
      have hj3 : (g : Int) + r - 1 = (j : Nat) := by omega
      by_cases h65 : (r : Int) = 65 - g
      · have hq : ((r : Int) == 65 - g) = true := by simpa using h65
        have HQ := Lib.hid h65
        clear h65 hj3 hj
        go_wp2
        go_ret
        exact ⟨rfl, hB1⟩
      · have hq : ((r : Int) == 65 - g) = false := by simpa using h65
        have hb := bit_test_one h j (by rw [hj]; exact HO.out (by omega))
        clear h65 hj
        go_wp2
        go_ret
        exact ⟨rfl, hB1⟩
end Go.Proofs.YtccdojoeblaenaaDoor
