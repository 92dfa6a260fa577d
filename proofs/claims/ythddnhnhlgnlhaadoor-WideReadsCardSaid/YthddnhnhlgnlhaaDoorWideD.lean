/- math/bits.Div64 at ten to the nineteenth: the quotient and what is left. -/
import Derived.Test.YthddnhnhlgnlhaaDoorShelf
import Derived.Test.YthddnhnhlgnlhaaDoorWideA
import Derived.Lib.Hide
import Derived.IntWalk
import Derived.Laws.Bits64
import Derived.Laws.Bits64b
import Derived.LoopTactic
import Derived.Laws.BitsAllLaws
import Derived.Deep.LoopGhost
import Derived.Deep.DeepCutAuto
import Derived.Deep.CutBlock
namespace Go.Proofs.YthddnhnhlgnlhaaDoor
open Go Go.RowKit

theorem clz_ten (y : Int) (hy : y = 10000000000000000000) (w : World) : Calls Tryd.prog 44 #[.int .u64 y] w fun e w' => e = .returned (.int .i64 0) ∧ w = w' := by
  refine (Tryd.bits_LeadingZeros64 y w (by omega) (by omega)).mono ?_
  rintro e w' ⟨rfl, rfl⟩
  refine ⟨?_, rfl⟩
  have : Lib.bitLen y.toNat = 64 := by rw [hy]; decide +kernel
  rw [this]
  rfl

/-- What holds of the guess at each round: q digits too many at most. -/
def Guess (y n lo q r : Int) : Prop := q * 2328306436 + r = n ∧ n * 4294967296 + lo < q * y + y ∧ r < 4294967296 ∧ 0 ≤ r ∧ 0 ≤ q
theorem guess_start {y n lo : Int} (hy : y = 10000000000000000000) (h0 : 0 ≤ n) (hn : n < y) (l0 : 0 ≤ lo) (hl : lo < 4294967296) : Guess y n lo (n / 2328306436) (n % 2328306436) := by
  subst hy; unfold Guess; omega
theorem guess_on {y n lo q r : Int} (hy : y = 10000000000000000000) (hn : n < y) (l0 : 0 ≤ lo) (hl : lo < 4294967296) (h : Guess y n lo q r) (hc : 4294967296 ≤ q ∨ (4294967296 * r + lo < q * 2313682944)) :
    1 ≤ q ∧ (q - 1) * 2328306436 + (r + 2328306436) = n ∧ n * 4294967296 + lo < (q - 1) * y + y := by
  subst hy; unfold Guess at h; omega
theorem guess_next {y n lo q r : Int} (h1 : 1 ≤ q ∧ (q - 1) * 2328306436 + (r + 2328306436) = n ∧ n * 4294967296 + lo < (q - 1) * y + y) (h : Guess y n lo q r) (hr : r + 2328306436 < 4294967296) : Guess y n lo (q - 1) (r + 2328306436) := by
  unfold Guess at *; omega
theorem guess_break {y n lo q r : Int} (hy : y = 10000000000000000000) (hn : n < y) (l0 : 0 ≤ lo) (h1 : (q - 1) * 2328306436 + (r + 2328306436) = n) (hr : 4294967296 ≤ r + 2328306436) : (q - 1) * y ≤ n * 4294967296 + lo := by
  subst hy; omega
theorem guess_stop {y n lo q r : Int} (hy : y = 10000000000000000000) (h : Guess y n lo q r) (h2 : q * 2313682944 ≤ 4294967296 * r + lo) : q * y ≤ n * 4294967296 + lo := by
  subst hy; unfold Guess at h; omega

def Div1 (y n lo q : Int) : Prop := q * y ≤ n * 4294967296 + lo ∧ n * 4294967296 + lo < q * y + y ∧ 0 ≤ q ∧ q < 4294967296
theorem div1_break {y n lo q r : Int} (hy : y = 10000000000000000000) (hn : n < y) (l0 : 0 ≤ lo) (h : 1 ≤ q ∧ (q - 1) * 2328306436 + (r + 2328306436) = n ∧ n * 4294967296 + lo < (q - 1) * y + y) (hr : 4294967296 ≤ r + 2328306436) :
    Hid (Div1 y n lo (q - 1)) := by
  subst hy; refine Lib.hid ?_; unfold Div1; omega
theorem div1_stop {y n lo q r : Int} (hy : y = 10000000000000000000) (hn : n < y) (l0 : 0 ≤ lo) (hl : lo < 4294967296) (h : Guess y n lo q r) (h2 : q * 2313682944 ≤ 4294967296 * r + lo) : Hid (Div1 y n lo q) := by
  subst hy; refine Lib.hid ?_; unfold Div1; unfold Guess at h; omega
theorem div_fin {y hi l1 l0 q n p : Int} (hy : y = 10000000000000000000) (h1 : Div1 y hi l1 q) (h2 : Div1 y n l0 p) (hn : hi * 4294967296 + l1 - q * y = n) :
    q * 4294967296 + p = (hi * 18446744073709551616 + (l1 * 4294967296 + l0)) / y ∧ n * 4294967296 + l0 - p * y = (hi * 18446744073709551616 + (l1 * 4294967296 + l0)) % y ∧ 0 ≤ n * 4294967296 + l0 - p * y ∧ n * 4294967296 + l0 - p * y < y := by
  subst hy; unfold Div1 at *; omega
set_option maxRecDepth 100000 in
set_option maxHeartbeats 2000000 in
theorem div_ten (hi l1 l0 y : Int) (hy : y = 10000000000000000000) (h0 : 0 < hi) (h1 : hi < y) (a1 : 0 ≤ l1) (b1 : l1 < 4294967296) (a0 : 0 ≤ l0) (b0 : l0 < 4294967296) (w : World) :
    Calls Tryd.prog 39 #[.int .u64 hi, .int .u64 (l1 * 4294967296 + l0), .int .u64 y] w fun e w' =>
      e = .returned (.tuple #[.int .u64 ((hi * 18446744073709551616 + (l1 * 4294967296 + l0)) / y), .int .u64 ((hi * 18446744073709551616 + (l1 * 4294967296 + l0)) % y)]) ∧ w = w' := by
  obtain ⟨lo, hlo⟩ : ∃ lo, l1 * 4294967296 + l0 = lo := ⟨_, rfl⟩
  have e1 : lo / 4294967296 = l1 := by omega
  have e0 : bits .and .u64 lo 4294967295 = l0 := by
    obtain ⟨n, rfl⟩ := Int.eq_ofNat_of_zero_le (show 0 ≤ lo by omega)
    have h := u64_and_nat n 4294967295 (by omega) (by omega)
    have e : n &&& 4294967295 = n % 4294967296 := Nat.and_two_pow_sub_one_eq_mod n 32
    rw [e] at h
    have h' : bits .and .u64 (n : Int) 4294967295 = ((n % 4294967296 : Nat) : Int) := h
    rw [h']; omega
  have e2 : lo / 18446744073709551616 = 0 := by omega
  have e3 : bits .or .u64 hi 0 = hi := by
    obtain ⟨n, rfl⟩ := Int.eq_ofNat_of_zero_le (Int.le_of_lt h0)
    have h := u64_or_nat n 0 (by omega) (by omega)
    simpa using h
  have e4 : IntKind.u64.wrap y = y := by rw [IntKind.wrap_u64]; omega
  have e5 : IntKind.u64.wrap hi = hi := by rw [IntKind.wrap_u64]; omega
  have e6 : y / 4294967296 = 2328306436 := by rw [hy]; rfl
  have e7 : bits .and .u64 y 4294967295 = 2313682944 := by rw [hy]; decide +kernel
  have e8 : IntKind.u64.wrap (hi - hi / 2328306436 * 2328306436) = hi % 2328306436 := by rw [IntKind.wrap_u64]; omega
  have hlo' : lo ≤ 18446744073709551615 := by omega
  have hlo0 : 0 ≤ lo := by omega
  rw [hlo]
  have hG := guess_start hy (Int.le_of_lt h0) h1 a1 b1
  have HG := Lib.hid hG
  have HLO := Lib.hid hlo
  have y0 : (y == 0) = false := by rw [hy]; decide
  have y1 : decide (y ≤ hi) = false := by simpa using h1
  have z0 : (hi == 0) = false := by simp; omega
  have HY := Lib.hid hy
  clear hy hG hlo
  go_enter Tryd.func39, Tryd.ntmps39
  go_upto_block 0 with (go_at_call 44; refine (clz_ten _ HY.out _).mono ?_; rintro e w' ⟨rfl, rfl⟩)
  go_cut [15, 16] from 67 to 85 (fun a b wx => w = wx ∧ ∃ q r : Int, a = .int .u64 q ∧ b = .int .u64 r ∧ Hid (Div1 y hi l1 q))
  case first =>
    go_wp2_with fail
    go_loop [15, 16] (fun a b => ∃ q r : Int, a = .int .u64 q ∧ b = .int .u64 r ∧ Hid (Guess y hi l1 q r)) (fun a _ => (intOf a).toNat)
    case atStart => exact ⟨_, _, rfl, rfl, HG⟩
    case round =>
      clear HG e8
      obtain ⟨q, r, rfl, rfl, HG⟩ := hrel
      have hg : 0 ≤ q ∧ 0 ≤ r ∧ r < 4294967296 ∧ q < 9223372036854775808 := by have := HG.out; have := HY.out; unfold Guess at *; omega
      obtain ⟨q0, r0, r1, q1⟩ := hg
      have w1 : IntKind.u64.wrap (4294967296 * r) = 4294967296 * r := by rw [IntKind.wrap_u64]; omega
      have w2 : IntKind.u64.wrap (4294967296 * r + l1) = 4294967296 * r + l1 := by rw [IntKind.wrap_u64]; omega
      by_cases hb : 4294967296 ≤ q
      · have hc : decide (4294967296 ≤ q) = true := by simpa using hb
        have hon := guess_on HY.out h1 a1 b1 HG.out (Or.inl hb)
        obtain ⟨o1, _⟩ := id hon
        have HO := Lib.hid hon
        clear hon
        by_cases hr : r + 2328306436 < 4294967296
        · go_wp2
          all_goals go_round
          case rel => exact ⟨q - 1, r + 2328306436, rfl, rfl, guess_next HO.out HG.out hr⟩
          case measure => simp [intOf]; omega
        · go_wp2
          all_goals (go_meet; exact ⟨rfl, q - 1, r + 2328306436, rfl, rfl, div1_break HY.out h1 a1 HO.out (by omega)⟩)
      · have hc : decide (4294967296 ≤ q) = false := by simpa using hb
        by_cases hd : 4294967296 * r + l1 < q * 2313682944
        · have hon := guess_on HY.out h1 a1 b1 HG.out (Or.inr hd)
          obtain ⟨o1, _⟩ := id hon
          have HO := Lib.hid hon
          clear hon
          by_cases hr : r + 2328306436 < 4294967296
          · go_wp2
            all_goals go_round
            case rel => exact ⟨q - 1, r + 2328306436, rfl, rfl, guess_next HO.out HG.out hr⟩
            case measure => simp [intOf]; omega
          · go_wp2
            all_goals (go_meet; exact ⟨rfl, q - 1, r + 2328306436, rfl, rfl, div1_break HY.out h1 a1 HO.out (by omega)⟩)
        · go_wp2
          all_goals (go_meet; exact ⟨rfl, q, r, rfl, rfl, div1_stop HY.out h1 a1 b1 HG.out (by omega)⟩)
  case rest =>
    obtain ⟨rfl, q, r, rfl, rfl, HD⟩ := hcut
    clear HG e8
    obtain ⟨n, hn⟩ : ∃ n, hi * 4294967296 + l1 - q * y = n := ⟨_, rfl⟩
    have hd : 0 ≤ n ∧ n < y ∧ 0 ≤ q ∧ q < 4294967296 := by have := HD.out; unfold Div1 at this; omega
    obtain ⟨n0, n1, q0, q1⟩ := hd
    have e9 : IntKind.u64.wrap (IntKind.u64.wrap (IntKind.u64.wrap (hi * 4294967296) + l1) - IntKind.u64.wrap (q * y)) = n := by
      have hy := HY.out
      rw [IntKind.wrap_u64, IntKind.wrap_u64, IntKind.wrap_u64, IntKind.wrap_u64]; subst hy; omega
    have e10 : IntKind.u64.wrap (n - n / 2328306436 * 2328306436) = n % 2328306436 := by
      have hy := HY.out
      rw [IntKind.wrap_u64]; omega
    have HG := Lib.hid (guess_start HY.out n0 n1 a0 b0)
    have HN := Lib.hid hn
    clear hn
    go_upto_block 2 with fail
    go_cut [18, 16] from 102 to 120 (fun a b wx => w = wx ∧ ∃ q r : Int, a = .int .u64 q ∧ b = .int .u64 r ∧ Hid (Div1 y n l0 q))
    case first =>
      go_wp2_with fail
      go_loop [18, 16] (fun a b => ∃ q r : Int, a = .int .u64 q ∧ b = .int .u64 r ∧ Hid (Guess y n l0 q r)) (fun a _ => (intOf a).toNat)
      case atStart => exact ⟨_, _, rfl, rfl, HG⟩
      case round =>
        clear HG e10
        obtain ⟨q, r, rfl, rfl, HG⟩ := hrel
        have hg : 0 ≤ q ∧ 0 ≤ r ∧ r < 4294967296 ∧ q < 9223372036854775808 := by have := HG.out; have := HY.out; unfold Guess at *; omega
        obtain ⟨q0, r0, r1, q1⟩ := hg
        have w1 : IntKind.u64.wrap (4294967296 * r) = 4294967296 * r := by rw [IntKind.wrap_u64]; omega
        have w2 : IntKind.u64.wrap (4294967296 * r + l0) = 4294967296 * r + l0 := by rw [IntKind.wrap_u64]; omega
        by_cases hb : 4294967296 ≤ q
        · have hc : decide (4294967296 ≤ q) = true := by simpa using hb
          have hon := guess_on HY.out n1 a0 b0 HG.out (Or.inl hb)
          obtain ⟨o1, _⟩ := id hon
          have HO := Lib.hid hon
          clear hon
          by_cases hr : r + 2328306436 < 4294967296
          · go_wp2
            all_goals go_round
            case rel => exact ⟨q - 1, r + 2328306436, rfl, rfl, guess_next HO.out HG.out hr⟩
            case measure => simp [intOf]; omega
          · go_wp2
            all_goals (go_meet; exact ⟨rfl, q - 1, r + 2328306436, rfl, rfl, div1_break HY.out n1 a0 HO.out (by omega)⟩)
        · have hc : decide (4294967296 ≤ q) = false := by simpa using hb
          by_cases hd : 4294967296 * r + l0 < q * 2313682944
          · have hon := guess_on HY.out n1 a0 b0 HG.out (Or.inr hd)
            obtain ⟨o1, _⟩ := id hon
            have HO := Lib.hid hon
            clear hon
            by_cases hr : r + 2328306436 < 4294967296
            · go_wp2
              all_goals go_round
              case rel => exact ⟨q - 1, r + 2328306436, rfl, rfl, guess_next HO.out HG.out hr⟩
              case measure => simp [intOf]; omega
            · go_wp2
              all_goals (go_meet; exact ⟨rfl, q - 1, r + 2328306436, rfl, rfl, div1_break HY.out n1 a0 HO.out (by omega)⟩)
          · go_wp2
            all_goals (go_meet; exact ⟨rfl, q, r, rfl, rfl, div1_stop HY.out n1 a0 b0 HG.out (by omega)⟩)
    case rest =>
      obtain ⟨rfl, p, r, rfl, rfl, HE⟩ := hcut
      clear HG e10 e9
      have hfin := div_fin HY.out HD.out HE.out HN.out
      obtain ⟨f1, f2, f3, f4⟩ := hfin
      rw [HLO.out] at f1 f2
      have hp : 0 ≤ p ∧ p < 4294967296 := ⟨HE.out.2.2.1, HE.out.2.2.2⟩
      have e11 : IntKind.u64.wrap (q * 4294967296 + p) = (hi * 18446744073709551616 + lo) / y := by rw [← f1, IntKind.wrap_u64]; omega
      have e12 : IntKind.u64.wrap (IntKind.u64.wrap (IntKind.u64.wrap (n * 4294967296) + l0) - IntKind.u64.wrap (p * y)) = (hi * 18446744073709551616 + lo) % y := by
        rw [← f2]
        have hy := HY.out
        rw [IntKind.wrap_u64, IntKind.wrap_u64, IntKind.wrap_u64, IntKind.wrap_u64]; subst hy; omega
      clear f1 f2
      go_wp2
      go_ret2
      exact ⟨rfl, rfl⟩
end Go.Proofs.YthddnhnhlgnlhaaDoor
