/- math/bits.Div64 at ten to the nineteenth: the quotient and what is left. strconv.FormatUint at base 10: a number's digits. A sum's digits, and its text. A sum's text; ten times a sum. -/
import Derived.Test.YtmjipafhahggpaaDoorShelf
import Derived.Test.YtmjipafhahggpaaDoorMwA
import Derived.Lib.Hide
import Derived.IntWalk
import Derived.Laws.Bits64
import Derived.Laws.Bits64b
import Derived.LoopTactic
import Derived.Laws.BitsAllLaws
import Derived.Deep.LoopGhost
import Derived.Deep.DeepCutAuto
import Derived.Deep.CutBlock
import Derived.Test.YtmjipafhahggpaaDoorMCells
import Derived.Lib.ItoaMem
import Derived.Lib.AppendIntMem
import Derived.Shelf.Strconv.Itoa3
import Derived.Deep.QuietTactic
import Derived.BigQuiet
namespace Go.Proofs.YtmjipafhahggpaaDoor.Wi
open Go Go.RowKit

theorem clz_ten (y : Int) (hy : y = 10000000000000000000) (w : World) : Calls Tryd.prog 72 #[.int .u64 y] w fun e w' => e = .returned (.int .i64 0) ∧ w = w' := by
  refine (Tryd.bits_LeadingZeros64 y w (by omega) (by omega)).mono ?_
  rintro e w' ⟨rfl, rfl⟩
  refine ⟨?_, rfl⟩
  have : Lib.bitLen y.toNat = 64 := by rw [hy]; decide +kernel
  rw [this]
  rfl

/-- What holds of the guess at each round: q digits too many at most. -/
def Guess (y n lo q r : Int) : Prop := q * 2328306436 + r = n ∧ n * 4294967296 + lo < q * y + y ∧ r < 4294967296 ∧ 0 ≤ r ∧ 0 ≤ q
theorem guess_start {y n lo : Int} (hy : y = 10000000000000000000) (h0 : 0 ≤ n) (hn : n < y) (l0 : 0 ≤ lo) (hl : lo < 4294967296) : Guess y n lo (n / 2328306436) (n % 2328306436) := by
  subst hy; unfold Guess; omega
theorem guess_on {y n lo q r : Int} (hy : y = 10000000000000000000) (hn : n < y) (l0 : 0 ≤ lo) (hl : lo < 4294967296) (h : Guess y n lo q r) (hc : 4294967296 ≤ q ∨ (4294967296 * r + lo < q * 2313682944)) :
    1 ≤ q ∧ (q - 1) * 2328306436 + (r + 2328306436) = n ∧ n * 4294967296 + lo < (q - 1) * y + y := by
  subst hy; unfold Guess at h; omega
theorem guess_next {y n lo q r : Int} (h1 : 1 ≤ q ∧ (q - 1) * 2328306436 + (r + 2328306436) = n ∧ n * 4294967296 + lo < (q - 1) * y + y) (h : Guess y n lo q r) (hr : r + 2328306436 < 4294967296) : Guess y n lo (q - 1) (r + 2328306436) := by
  unfold Guess at *; omega
theorem guess_break {y n lo q r : Int} (hy : y = 10000000000000000000) (hn : n < y) (l0 : 0 ≤ lo) (h1 : (q - 1) * 2328306436 + (r + 2328306436) = n) (hr : 4294967296 ≤ r + 2328306436) : (q - 1) * y ≤ n * 4294967296 + lo := by
  subst hy; omega
theorem guess_stop {y n lo q r : Int} (hy : y = 10000000000000000000) (h : Guess y n lo q r) (h2 : q * 2313682944 ≤ 4294967296 * r + lo) : q * y ≤ n * 4294967296 + lo := by
  subst hy; unfold Guess at h; omega

def Div1 (y n lo q : Int) : Prop := q * y ≤ n * 4294967296 + lo ∧ n * 4294967296 + lo < q * y + y ∧ 0 ≤ q ∧ q < 4294967296
theorem div1_break {y n lo q r : Int} (hy : y = 10000000000000000000) (hn : n < y) (l0 : 0 ≤ lo) (h : 1 ≤ q ∧ (q - 1) * 2328306436 + (r + 2328306436) = n ∧ n * 4294967296 + lo < (q - 1) * y + y) (hr : 4294967296 ≤ r + 2328306436) :
    Hid (Div1 y n lo (q - 1)) := by
  subst hy; refine Lib.hid ?_; unfold Div1; omega
theorem div1_stop {y n lo q r : Int} (hy : y = 10000000000000000000) (hn : n < y) (l0 : 0 ≤ lo) (hl : lo < 4294967296) (h : Guess y n lo q r) (h2 : q * 2313682944 ≤ 4294967296 * r + lo) : Hid (Div1 y n lo q) := by
  subst hy; refine Lib.hid ?_; unfold Div1; unfold Guess at h; omega
theorem div_fin {y hi l1 l0 q n p : Int} (hy : y = 10000000000000000000) (h1 : Div1 y hi l1 q) (h2 : Div1 y n l0 p) (hn : hi * 4294967296 + l1 - q * y = n) :
    q * 4294967296 + p = (hi * 18446744073709551616 + (l1 * 4294967296 + l0)) / y ∧ n * 4294967296 + l0 - p * y = (hi * 18446744073709551616 + (l1 * 4294967296 + l0)) % y ∧ 0 ≤ n * 4294967296 + l0 - p * y ∧ n * 4294967296 + l0 - p * y < y := by
  subst hy; unfold Div1 at *; omega
set_option maxRecDepth 100000 in
set_option maxHeartbeats 2000000 in
theorem div_ten (hi l1 l0 y : Int) (hy : y = 10000000000000000000) (h0 : 0 < hi) (h1 : hi < y) (a1 : 0 ≤ l1) (b1 : l1 < 4294967296) (a0 : 0 ≤ l0) (b0 : l0 < 4294967296) (w : World) :
    Calls Tryd.prog 58 #[.int .u64 hi, .int .u64 (l1 * 4294967296 + l0), .int .u64 y] w fun e w' =>
      e = .returned (.tuple #[.int .u64 ((hi * 18446744073709551616 + (l1 * 4294967296 + l0)) / y), .int .u64 ((hi * 18446744073709551616 + (l1 * 4294967296 + l0)) % y)]) ∧ w = w' := by
  obtain ⟨lo, hlo⟩ : ∃ lo, l1 * 4294967296 + l0 = lo := ⟨_, rfl⟩
  have e1 : lo / 4294967296 = l1 := by omega
  have e0 : bits .and .u64 lo 4294967295 = l0 := by
    obtain ⟨n, rfl⟩ := Int.eq_ofNat_of_zero_le (show 0 ≤ lo by omega)
    have h := u64_and_nat n 4294967295 (by omega) (by omega)
    have e : n &&& 4294967295 = n % 4294967296 := Nat.and_two_pow_sub_one_eq_mod n 32
    rw [e] at h
    have h' : bits .and .u64 (n : Int) 4294967295 = ((n % 4294967296 : Nat) : Int) := h
    rw [h']; omega
  have e2 : lo / 18446744073709551616 = 0 := by omega
  have e3 : bits .or .u64 hi 0 = hi := by
    obtain ⟨n, rfl⟩ := Int.eq_ofNat_of_zero_le (Int.le_of_lt h0)
    have h := u64_or_nat n 0 (by omega) (by omega)
    simpa using h
  have e4 : IntKind.u64.wrap y = y := by rw [IntKind.wrap_u64]; omega
  have e5 : IntKind.u64.wrap hi = hi := by rw [IntKind.wrap_u64]; omega
  have e6 : y / 4294967296 = 2328306436 := by rw [hy]; rfl
  have e7 : bits .and .u64 y 4294967295 = 2313682944 := by rw [hy]; decide +kernel
  have e8 : IntKind.u64.wrap (hi - hi / 2328306436 * 2328306436) = hi % 2328306436 := by rw [IntKind.wrap_u64]; omega
  have hlo' : lo ≤ 18446744073709551615 := by omega
  have hlo0 : 0 ≤ lo := by omega
  rw [hlo]
  have hG := guess_start hy (Int.le_of_lt h0) h1 a1 b1
  have HG := Lib.hid hG
  have HLO := Lib.hid hlo
  have y0 : (y == 0) = false := by rw [hy]; decide
  have y1 : decide (y ≤ hi) = false := by simpa using h1
  have z0 : (hi == 0) = false := by simp; omega
  have HY := Lib.hid hy
  clear hy hG hlo
  go_enter Tryd.func58, Tryd.ntmps58
  go_upto_block 0 with (go_at_call 72; refine (clz_ten _ HY.out _).mono ?_; rintro e w' ⟨rfl, rfl⟩)
  go_cut [15, 16] from 67 to 85 (fun a b wx => w = wx ∧ ∃ q r : Int, a = .int .u64 q ∧ b = .int .u64 r ∧ Hid (Div1 y hi l1 q))
  case first =>
    go_wp2_with fail
    go_loop [15, 16] (fun a b => ∃ q r : Int, a = .int .u64 q ∧ b = .int .u64 r ∧ Hid (Guess y hi l1 q r)) (fun a _ => (intOf a).toNat)
    case atStart => exact ⟨_, _, rfl, rfl, HG⟩
    case round =>
      clear HG e8
      obtain ⟨q, r, rfl, rfl, HG⟩ := hrel
      have hg : 0 ≤ q ∧ 0 ≤ r ∧ r < 4294967296 ∧ q < 9223372036854775808 := by have := HG.out; have := HY.out; unfold Guess at *; omega
      obtain ⟨q0, r0, r1, q1⟩ := hg
      have w1 : IntKind.u64.wrap (4294967296 * r) = 4294967296 * r := by rw [IntKind.wrap_u64]; omega
      have w2 : IntKind.u64.wrap (4294967296 * r + l1) = 4294967296 * r + l1 := by rw [IntKind.wrap_u64]; omega
      by_cases hb : 4294967296 ≤ q
      · have hc : decide (4294967296 ≤ q) = true := by simpa using hb
        have hon := guess_on HY.out h1 a1 b1 HG.out (Or.inl hb)
        obtain ⟨o1, _⟩ := id hon
        have HO := Lib.hid hon
        clear hon
        by_cases hr : r + 2328306436 < 4294967296
        · go_wp2
          all_goals go_round
          case rel => exact ⟨q - 1, r + 2328306436, rfl, rfl, guess_next HO.out HG.out hr⟩
          case measure => simp [intOf]; omega
        · go_wp2
          all_goals (go_meet; exact ⟨rfl, q - 1, r + 2328306436, rfl, rfl, div1_break HY.out h1 a1 HO.out (by omega)⟩)
      · have hc : decide (4294967296 ≤ q) = false := by simpa using hb
        by_cases hd : 4294967296 * r + l1 < q * 2313682944
        · have hon := guess_on HY.out h1 a1 b1 HG.out (Or.inr hd)
          obtain ⟨o1, _⟩ := id hon
          have HO := Lib.hid hon
          clear hon
          by_cases hr : r + 2328306436 < 4294967296
          · go_wp2
            all_goals go_round
            case rel => exact ⟨q - 1, r + 2328306436, rfl, rfl, guess_next HO.out HG.out hr⟩
            case measure => simp [intOf]; omega
          · go_wp2
            all_goals (go_meet; exact ⟨rfl, q - 1, r + 2328306436, rfl, rfl, div1_break HY.out h1 a1 HO.out (by omega)⟩)
        · go_wp2
          all_goals (go_meet; exact ⟨rfl, q, r, rfl, rfl, div1_stop HY.out h1 a1 b1 HG.out (by omega)⟩)
  case rest =>
    obtain ⟨rfl, q, r, rfl, rfl, HD⟩ := hcut
    clear HG e8
    obtain ⟨n, hn⟩ : ∃ n, hi * 4294967296 + l1 - q * y = n := ⟨_, rfl⟩
    have hd : 0 ≤ n ∧ n < y ∧ 0 ≤ q ∧ q < 4294967296 := by have := HD.out; unfold Div1 at this; omega
    obtain ⟨n0, n1, q0, q1⟩ := hd
    have e9 : IntKind.u64.wrap (IntKind.u64.wrap (IntKind.u64.wrap (hi * 4294967296) + l1) - IntKind.u64.wrap (q * y)) = n := by
      have hy := HY.out
      rw [IntKind.wrap_u64, IntKind.wrap_u64, IntKind.wrap_u64, IntKind.wrap_u64]; subst hy; omega
    have e10 : IntKind.u64.wrap (n - n / 2328306436 * 2328306436) = n % 2328306436 := by
      have hy := HY.out
      rw [IntKind.wrap_u64]; omega
    have HG := Lib.hid (guess_start HY.out n0 n1 a0 b0)
    have HN := Lib.hid hn
    clear hn
    go_upto_block 2 with fail
    go_cut [18, 16] from 102 to 120 (fun a b wx => w = wx ∧ ∃ q r : Int, a = .int .u64 q ∧ b = .int .u64 r ∧ Hid (Div1 y n l0 q))
    case first =>
      go_wp2_with fail
      go_loop [18, 16] (fun a b => ∃ q r : Int, a = .int .u64 q ∧ b = .int .u64 r ∧ Hid (Guess y n l0 q r)) (fun a _ => (intOf a).toNat)
      case atStart => exact ⟨_, _, rfl, rfl, HG⟩
      case round =>
        clear HG e10
        obtain ⟨q, r, rfl, rfl, HG⟩ := hrel
        have hg : 0 ≤ q ∧ 0 ≤ r ∧ r < 4294967296 ∧ q < 9223372036854775808 := by have := HG.out; have := HY.out; unfold Guess at *; omega
        obtain ⟨q0, r0, r1, q1⟩ := hg
        have w1 : IntKind.u64.wrap (4294967296 * r) = 4294967296 * r := by rw [IntKind.wrap_u64]; omega
        have w2 : IntKind.u64.wrap (4294967296 * r + l0) = 4294967296 * r + l0 := by rw [IntKind.wrap_u64]; omega
        by_cases hb : 4294967296 ≤ q
        · have hc : decide (4294967296 ≤ q) = true := by simpa using hb
          have hon := guess_on HY.out n1 a0 b0 HG.out (Or.inl hb)
          obtain ⟨o1, _⟩ := id hon
          have HO := Lib.hid hon
          clear hon
          by_cases hr : r + 2328306436 < 4294967296
          · go_wp2
            all_goals go_round
            case rel => exact ⟨q - 1, r + 2328306436, rfl, rfl, guess_next HO.out HG.out hr⟩
            case measure => simp [intOf]; omega
          · go_wp2
            all_goals (go_meet; exact ⟨rfl, q - 1, r + 2328306436, rfl, rfl, div1_break HY.out n1 a0 HO.out (by omega)⟩)
        · have hc : decide (4294967296 ≤ q) = false := by simpa using hb
          by_cases hd : 4294967296 * r + l0 < q * 2313682944
          · have hon := guess_on HY.out n1 a0 b0 HG.out (Or.inr hd)
            obtain ⟨o1, _⟩ := id hon
            have HO := Lib.hid hon
            clear hon
            by_cases hr : r + 2328306436 < 4294967296
            · go_wp2
              all_goals go_round
              case rel => exact ⟨q - 1, r + 2328306436, rfl, rfl, guess_next HO.out HG.out hr⟩
              case measure => simp [intOf]; omega
            · go_wp2
              all_goals (go_meet; exact ⟨rfl, q - 1, r + 2328306436, rfl, rfl, div1_break HY.out n1 a0 HO.out (by omega)⟩)
          · go_wp2
            all_goals (go_meet; exact ⟨rfl, q, r, rfl, rfl, div1_stop HY.out n1 a0 b0 HG.out (by omega)⟩)
    case rest =>
      obtain ⟨rfl, p, r, rfl, rfl, HE⟩ := hcut
      clear HG e10 e9
      have hfin := div_fin HY.out HD.out HE.out HN.out
      obtain ⟨f1, f2, f3, f4⟩ := hfin
      rw [HLO.out] at f1 f2
      have hp : 0 ≤ p ∧ p < 4294967296 := ⟨HE.out.2.2.1, HE.out.2.2.2⟩
      have e11 : IntKind.u64.wrap (q * 4294967296 + p) = (hi * 18446744073709551616 + lo) / y := by rw [← f1, IntKind.wrap_u64]; omega
      have e12 : IntKind.u64.wrap (IntKind.u64.wrap (IntKind.u64.wrap (n * 4294967296) + l0) - IntKind.u64.wrap (p * y)) = (hi * 18446744073709551616 + lo) % y := by
        rw [← f2]
        have hy := HY.out
        rw [IntKind.wrap_u64, IntKind.wrap_u64, IntKind.wrap_u64, IntKind.wrap_u64]; subst hy; omega
      clear f1 f2
      go_wp2
      go_ret2
      exact ⟨rfl, rfl⟩
end Go.Proofs.YtmjipafhahggpaaDoor.Wi

namespace Go.Proofs.YtmjipafhahggpaaDoor.Wi
open Go Go.RowKit Go.Sort Go.Lib

/-- The table of powers of ten lies as the library lays it. -/
abbrev Tens (w : World) : Prop := Lib.TabIs Tryd.prog w "internal/strconv.uint64pow10" .u64 Lib.pow10Tab

theorem holds_zero0 (w : World) (T : TypeId) (nd : Nat) (hs : nd ≤ 24) : Holds (fun (b : UInt8) => Value.int .u8 (b.toNat : Int)) (w.alloc (.cells Lib.zeros24 T)) w.heap.size 0 (Array.replicate nd (0 : UInt8)) := fun j hj => by
  have hj' : j < nd := by simpa using hj
  refine ⟨?_, World.frozen?_alloc_new _ _ _ _⟩
  rw [World.cell?_alloc_new, Lib.zeros24_at _ (by omega), getElem!_pos _ j hj]
  simp
theorem below_putRow (w : World) (o : Obj) (dk : Array UInt8) (k : Nat) : Below w.heap.size w ((putRow (fun (b : UInt8) => Value.int .u8 (b.toNat : Int)) (w.alloc o) w.heap.size 0 dk).drewN k) := by
  rw [alloc_eq_grow]
  obtain ⟨os', _, e⟩ := putRow_grow_new (fun (b : UInt8) => Value.int .u8 (b.toNat : Int)) w #[o] w.heap.size 0 dk (Nat.le_refl _)
  rw [e]
  exact Lib.below_grow w.heap.size w (Nat.le_refl _) k os'

set_option maxHeartbeats 2000000 in
set_option maxRecDepth 100000 in
theorem formatUint_in (u : Nat) (hu : u < 18446744073709551616) (w : World) (htab : Tens w) :
    Calls Tryd.prog 73 #[.int .u64 u, .int .i64 10] w fun e w' => e = .returned (.string ⟨(Lib.decDigits u).toArray⟩) ∧ Below w.heap.size w w' := by
  by_cases hs : u < 100
  · go_enter Tryd.func73, Tryd.ntmps73
    go_wp2_with (go_at_call 85; refine (Tryd.internal_strconv_small u hs _).mono ?_; rintro e w' ⟨rfl, rfl⟩)
    go_ret
    exact ⟨rfl, Below.refl _ _⟩
  · have hu1 : 1 ≤ u := by omega
    have hnd20 : Lib.nDigits u ≤ 20 := by have := Lib.numDigits_eq u hu1 hu; split at this <;> omega
    have hal : Tryd.prog.arrayLen 125 = 24 := by kernel_rfl
    have hsl1 : ∀ W, (Instr.sliceAt 125 (.pointer (some ⟨w.heap.size, 0, none⟩)) none (some (.int .i64 (Lib.nDigits u : Int))) none).run Tryd.prog W = .ok (.slice (some ⟨w.heap.size, 0, none⟩) (Lib.nDigits u) 24) W := fun W => by
      rw [run_sliceAt_array_h W 125 ⟨w.heap.size, 0, none⟩ (by simp [Program.arrayLen, Program.elem, Tryd.underlying125]) .i64 (Lib.nDigits u : Int) (by omega) (by rw [hal]; omega)]
      go_simp
    have hH0 := holds_zero0 w 125 (Lib.nDigits u) (by omega)
    have hfmt := Tryd.internal_strconv_formatBase10 w.heap.size 0 24 u (Array.replicate (Lib.nDigits u) 0) (w.alloc (.cells Lib.zeros24 125)) hH0 (by rw [Array.size_replicate]; exact Lib.lt_pow_nDigits u) hu (by rw [Array.size_replicate]; omega)
    rw [Array.size_replicate] at hfmt
    have HH0 := Lib.hid hH0
    clear hH0 hal
    go_enter Tryd.func73, Tryd.ntmps73
    go_wp2_with (first
      | (go_at_call 86; refine (Tryd.internal_strconv_numDigits u hu1 hu _ (Lib.tabIs_alloc htab _)).mono ?_; rintro e w' ⟨rfl, rfl⟩))
    go_at_call 87
    refine hfmt.mono ?_
    rintro e w' ⟨rfl, k, v', dk, rfl, hF⟩
    have hcv : (convert 81 9 (.slice (some ⟨w.heap.size, 0, none⟩) (Lib.nDigits u) 24)).run Tryd.prog ((putRow (fun (b : UInt8) => Value.int .u8 (b.toNat : Int)) (w.alloc (.cells Lib.zeros24 125)) w.heap.size 0 dk).drewN k) = .ok (.string ⟨(Lib.decDigits u).toArray⟩) ((putRow (fun (b : UInt8) => Value.int .u8 (b.toNat : Int)) (w.alloc (.cells Lib.zeros24 125)) w.heap.size 0 dk).drewN k) := by
      have h := run_convert_bytes_back (P := Tryd.prog) ((putRow (fun (b : UInt8) => Value.int .u8 (b.toNat : Int)) (w.alloc (.cells Lib.zeros24 125)) w.heap.size 0 dk).drewN k) 81 9 5 ⟨w.heap.size, 0, none⟩ 24 (Lib.decDigits u) Tryd.underlying81 Tryd.underlying5 Tryd.underlying9 (fun j hj => by
        rw [Lib.row_is_numeral hF j hj, Lib.add_plain, World.cell?_drewN]
        exact cell?_putRow (fun (b : UInt8) => Value.int .u8 (b.toNat : Int)) _ w.heap.size 0 _ dk HH0.out (by rw [hF.size, Array.size_replicate]) j (by rw [hF.size]; rw [Lib.decDigits_length] at hj; exact hj))
      rw [Lib.decDigits_length] at h
      exact h
    go_wp2
    go_ret
    exact ⟨rfl, below_putRow _ _ _ _⟩

theorem formatUint_any (u : Nat) (hu : u < 18446744073709551616) (w : World) (htab : Tens w) :
    Calls Tryd.prog 59 #[.int .u64 u, .int .i64 10] w fun e w' => e = .returned (.string ⟨(Lib.decDigits u).toArray⟩) ∧ Below w.heap.size w w' := by
  go_enter Tryd.func59, Tryd.ntmps59
  go_wp2_with (go_at_call 73; refine (formatUint_in u hu _ htab).mono ?_; rintro e w' ⟨rfl, hB⟩)
  go_ret
  exact ⟨rfl, hB⟩
end Go.Proofs.YtmjipafhahggpaaDoor.Wi

namespace Go.Proofs.YtmjipafhahggpaaDoor.Wi
open Go Go.RowKit

/-- The last k digits, zeros ahead. -/
def padDigits : Nat → Nat → List UInt8
  | 0, _ => []
  | k + 1, n => padDigits k (n / 10) ++ [UInt8.ofNat (48 + n % 10)]
theorem decDigits_big {u : Nat} (h : ¬ u < 10) : Lib.decDigits u = Lib.decDigits (u / 10) ++ [UInt8.ofNat (48 + u % 10)] := by
  rw [Lib.decDigits, dif_neg h]
theorem decDigits_pad : ∀ (k u n : Nat), 1 ≤ u → n < 10 ^ k → Lib.decDigits (u * 10 ^ k + n) = Lib.decDigits u ++ padDigits k n
  | 0, u, n, _, hn => by
    have : n = 0 := by simpa using hn
    subst this
    simp [padDigits]
  | k + 1, u, n, hu, hn => by
    have hp : 10 ^ (k + 1) = 10 * 10 ^ k := by rw [Nat.pow_succ, Nat.mul_comm]
    have hpos : 0 < 10 ^ k := Nat.pow_pos (by decide)
    have e : u * 10 ^ (k + 1) = 10 * (u * 10 ^ k) := by rw [hp, ← Nat.mul_assoc, Nat.mul_comm u 10, Nat.mul_assoc]
    have hup : 1 ≤ u * 10 ^ k := Nat.mul_pos hu hpos
    rw [decDigits_big (by omega), padDigits, ← List.append_assoc, ← decDigits_pad k u (n / 10) hu (by omega), e,
      show (10 * (u * 10 ^ k) + n) / 10 = u * 10 ^ k + n / 10 by omega, show (10 * (u * 10 ^ k) + n) % 10 = n % 10 by omega]
theorem padDigits_zero : ∀ k, padDigits k 0 = List.replicate k 48
  | 0 => rfl
  | k + 1 => by
    rw [padDigits, show 0 / 10 = 0 from rfl, padDigits_zero k, show UInt8.ofNat (48 + 0 % 10) = 48 from rfl, ← List.replicate_succ']
theorem pad_dec : ∀ (k n : Nat), 1 ≤ k → n < 10 ^ k → padDigits k n = List.replicate (k - Lib.nDigits n) 48 ++ Lib.decDigits n
  | 0, _, h, _ => by omega
  | 1, n, _, hn => by
    have hn : n < 10 := by simpa using hn
    rw [Lib.nDigits_small hn, Lib.decDigits_one hn]
    simp [padDigits, Nat.mod_eq_of_lt hn]
  | k + 2, n, _, hn => by
    have hp : 10 ^ (k + 2) = 10 * 10 ^ (k + 1) := by rw [Nat.pow_succ, Nat.mul_comm]
    by_cases h10 : n < 10
    · rw [padDigits, show n / 10 = 0 by omega, padDigits_zero, Lib.nDigits_small h10, Lib.decDigits_one h10, Nat.mod_eq_of_lt h10]
      rfl
    · rw [padDigits, pad_dec (k + 1) (n / 10) (by omega) (by omega), Lib.nDigits_big h10, decDigits_big h10, List.append_assoc]
      congr 2
      omega
theorem dec_two {u n : Nat} (hu : 1 ≤ u) (hn : n < 10000000000000000000) : Lib.decDigits (u * 10000000000000000000 + n) = Lib.decDigits u ++ (List.replicate (19 - Lib.nDigits n) 48 ++ Lib.decDigits n) := by
  have h := decDigits_pad 19 u n hu (by simpa using hn)
  rw [pad_dec 19 n (by decide) (by simpa using hn)] at h
  exact h
theorem nDigits_le : ∀ (k n : Nat), 1 ≤ k → n < 10 ^ k → Lib.nDigits n ≤ k
  | 0, _, h, _ => by omega
  | 1, n, _, hn => by rw [Lib.nDigits_small (by simpa using hn)]; decide
  | k + 2, n, _, hn => by
    have hp : 10 ^ (k + 2) = 10 * 10 ^ (k + 1) := by rw [Nat.pow_succ, Nat.mul_comm]
    by_cases h10 : n < 10
    · rw [Lib.nDigits_small h10]; omega
    · rw [Lib.nDigits_big h10]
      have := nDigits_le (k + 1) (n / 10) (by omega) (by omega)
      omega

theorem div_ten_any (hi lo y : Int) (hy : y = 10000000000000000000) (h0 : 0 ≤ hi) (h1 : hi < y) (l0 : 0 ≤ lo) (l1 : lo ≤ 18446744073709551615) (w : World) :
    Calls Tryd.prog 58 #[.int .u64 hi, .int .u64 lo, .int .u64 y] w fun e w' =>
      e = .returned (.tuple #[.int .u64 ((hi * 18446744073709551616 + lo) / y), .int .u64 ((hi * 18446744073709551616 + lo) % y)]) ∧ Below w.heap.size w w' := by
  by_cases hz : hi = 0
  · subst hz
    have y0 : (y == 0) = false := by rw [hy]; decide
    have y1 : decide (y ≤ 0) = false := by rw [hy]; decide
    have y2 : y ≠ 0 := by omega
    have y3 : 0 < y := by omega
    have e : (0 : Int) * 18446744073709551616 + lo = lo := by omega
    rw [e]
    clear hy e
    go_enter Tryd.func58, Tryd.ntmps58
    go_wp2
    go_quiet (fail)
    go_wp2
    go_ret2
    exact ⟨rfl, ⟨rfl, rfl, rfl, Nat.le_refl _, fun _ _ => rfl⟩⟩
  · have h := div_ten hi (lo / 4294967296) (lo % 4294967296) y hy (by omega) h1 (by omega) (by omega) (by omega) (by omega) w
    rw [show lo / 4294967296 * 4294967296 + lo % 4294967296 = lo by omega] at h
    refine h.mono ?_
    rintro e w' ⟨rfl, rfl⟩
    exact ⟨rfl, Below.refl _ _⟩

theorem repeat_zero (n : Nat) (hn : n ≤ 19) (w : World) :
    Calls Tryd.prog 60 #[.string ⟨#[48]⟩, .int .i64 (19 - (n : Int))] w fun e w' => e = .returned (.string ⟨(List.replicate (19 - n) 48).toArray⟩) ∧ Below w.heap.size w w' := by
  have h := Tryd.strings_Repeat ⟨#[48]⟩ (19 - n) w (by omega) (by show 1 * (19 - n) ≤ _; omega)
  rw [show ((19 - n : Nat) : Int) = 19 - (n : Int) by omega] at h
  have e : Lib.repeatL (⟨#[48]⟩ : ByteArray).data.toList (19 - n) = List.replicate (19 - n) 48 := by
    have := Lib.repeatL_replicate 48 1 (19 - n)
    simpa using this
  rwa [e] at h

/-- A text out of its bytes. -/
abbrev tx (l : List UInt8) : ByteArray := ⟨l.toArray⟩
theorem tx_size (l : List UInt8) : (tx l).size = l.length := by simp [ByteArray.size]
theorem tx_append (a b : List UInt8) : tx a ++ tx b = tx (a ++ b) := by
  apply ByteArray.ext
  simp
theorem Tens.below {w w' : World} (h : Tens w) (hB : Below w.heap.size w w') : Tens w' := by
  unfold Tens Lib.TabIs World.var? at *
  cases hg : Tryd.prog.globalNamed "internal/strconv.uint64pow10" with
  | none => simp [hg] at h
  | some g =>
    simp only [hg, Option.bind_some] at h ⊢
    have hlt : g < w.heap.size := by
      rcases Nat.lt_or_ge g w.heap.size with h' | h'
      · exact h'
      · rw [Array.getElem?_eq_none h'] at h; simp at h
    rw [hB.block g hlt]
    exact h

set_option maxHeartbeats 2000000 in
theorem digits_any (h l : Int) (m : Nat) (hm : m ≤ 170141183460469231731687303715884105728) (_ : -9223372036854775808 ≤ h) (_ : h ≤ 9223372036854775807) (l1 : 0 ≤ l) (l2 : l ≤ 18446744073709551615)
    (he : IntKind.u64.wrap h * 18446744073709551616 + l = m) (w : World) (hT : Tens w) :
    Calls Tryd.prog 44 #[.agg #[.int .i64 h, .int .u64 l]] w fun e w' => e = .returned (.string (tx (Lib.decDigits m))) ∧ Below w.heap.size w w' := by
  have hu : 0 ≤ IntKind.u64.wrap h ∧ IntKind.u64.wrap h ≤ 9223372036854775808 := by rw [IntKind.wrap_u64] at he ⊢; omega
  have hdiv := div_ten_any (IntKind.u64.wrap h) l 10000000000000000000 rfl hu.1 (by omega) l1 l2
  rw [he] at hdiv
  obtain ⟨u, hu'⟩ : ∃ u, m / 10000000000000000000 = u := ⟨_, rfl⟩
  obtain ⟨n, hn'⟩ : ∃ n, m % 10000000000000000000 = n := ⟨_, rfl⟩
  rw [show (m : Int) / 10000000000000000000 = (u : Nat) by omega, show (m : Int) % 10000000000000000000 = (n : Nat) by omega] at hdiv
  have hn : n < 10000000000000000000 := by omega
  have hub : u < 18446744073709551616 := by omega
  have hmm : m = u * 10000000000000000000 + n := by omega
  have hnd := nDigits_le 19 n (by decide) (by simpa using hn)
  have hts : (tx (Lib.decDigits n)).size = Lib.nDigits n := by rw [tx_size, Lib.decDigits_length]
  have hzs : (tx (List.replicate (19 - Lib.nDigits n) 48)).size ≤ 19 := by rw [tx_size, List.length_replicate]; omega
  have hus : (tx (Lib.decDigits u)).size ≤ 20 := by rw [tx_size, Lib.decDigits_length]; exact nDigits_le 20 u (by decide) (by omega)
  have HT := Lib.hid hT
  have hfmt : ∀ w, Tens w → Calls Tryd.prog 59 #[.int .u64 n, .int .i64 10] w fun e w' => e = .returned (.string (tx (Lib.decDigits n))) ∧ Below w.heap.size w w' := fun w h => formatUint_any n (by omega) w h
  have hfmu : ∀ w, Tens w → Calls Tryd.prog 59 #[.int .u64 u, .int .i64 10] w fun e w' => e = .returned (.string (tx (Lib.decDigits u))) ∧ Below w.heap.size w w' := fun w h => formatUint_any u hub w h
  have hrep : ∀ w, Calls Tryd.prog 60 #[.string ⟨#[48]⟩, .int .i64 (19 - (Lib.nDigits n : Int))] w fun e w' => e = .returned (.string (tx (List.replicate (19 - Lib.nDigits n) 48))) ∧ Below w.heap.size w w' := repeat_zero (Lib.nDigits n) hnd
  obtain ⟨t, ht⟩ : ∃ t, tx (Lib.decDigits n) = t := ⟨_, rfl⟩
  obtain ⟨tu, htu⟩ : ∃ t, tx (Lib.decDigits u) = t := ⟨_, rfl⟩
  obtain ⟨z, hz⟩ : ∃ t, tx (List.replicate (19 - Lib.nDigits n) 48) = t := ⟨_, rfl⟩
  obtain ⟨d, hd⟩ : ∃ d, Lib.nDigits n = d := ⟨_, rfl⟩
  have hfin0 : u = 0 → t = tx (Lib.decDigits m) := fun h0 => by rw [← ht, hmm, h0]; simp
  have hfin1 : u ≠ 0 → tu ++ z ++ t = tx (Lib.decDigits m) := fun h0 => by rw [← htu, ← hz, ← ht, tx_append, tx_append, hmm, dec_two (by omega) hn, List.append_assoc]
  rw [ht] at hfmt hts
  rw [htu] at hfmu hus
  rw [hz] at hrep hzs
  rw [hd] at hrep
  rw [hd] at hts hnd
  clear hT he hu' hn' hmm hm ht htu hz hd
  by_cases hu0 : u = 0
  · subst hu0
    have hf := hfin0 rfl
    rw [← hf]
    clear hfin0 hfin1 hf hfmu hrep
    go_enter Tryd.func44, Tryd.ntmps44
    go_wp2_with fail
    refine (hdiv _).mono ?_
    rintro e w1 ⟨rfl, hB1⟩
    have hE1 : Below w.heap.size w w1 := ((Below.refl _ _).alloc (Nat.le_refl _) _).trans (hB1.mono (by simp))
    go_wp2_with fail
    refine (hfmt _ (HT.out.below hE1)).mono ?_
    rintro e w2 ⟨rfl, hB2⟩
    have hE2 := hE1.trans (hB2.mono hE1.size)
    clear hdiv hfmt
    go_wp2
    go_ret
    exact ⟨rfl, hE2⟩
  · have hf := hfin1 hu0
    rw [← hf]
    have hu1 : ((u : Int) == 0) = false := by simp; omega
    clear hfin0 hfin1 hf
    go_enter Tryd.func44, Tryd.ntmps44
    go_wp2_with fail
    refine (hdiv _).mono ?_
    rintro e w1 ⟨rfl, hB1⟩
    have hE1 : Below w.heap.size w w1 := ((Below.refl _ _).alloc (Nat.le_refl _) _).trans (hB1.mono (by simp))
    go_wp2_with fail
    refine (hfmt _ (HT.out.below hE1)).mono ?_
    rintro e w2 ⟨rfl, hB2⟩
    have hE2 := hE1.trans (hB2.mono hE1.size)
    clear hdiv hfmt
    go_wp2_with fail
    refine (hrep _).mono ?_
    rintro e w3 ⟨rfl, hB3⟩
    have hE3 := hE2.trans (hB3.mono hE2.size)
    go_wp2_with fail
    refine (hfmu _ (HT.out.below hE3)).mono ?_
    rintro e w4 ⟨rfl, hB4⟩
    have hE4 := hE3.trans (hB4.mono hE3.size)
    clear hrep hfmu
    have s1 : tu.size + z.size ≤ 9223372036854775807 := by omega
    have s2 : tu.size + z.size + d ≤ 9223372036854775807 := by omega
    have s3 : (tu ++ z).size + t.size ≤ 9223372036854775807 := by rw [ByteArray.size_append]; omega
    go_wp2
    go_ret
    exact ⟨rfl, hE4⟩
end Go.Proofs.YtmjipafhahggpaaDoor.Wi

namespace Go.Proofs.YtmjipafhahggpaaDoor.Wi
open Go Go.RowKit

theorem itoa_neg' {a : Int} (h : a < 0) : Lib.itoa a = 45 :: Lib.decDigits (-a).toNat := by
  unfold Lib.itoa; rw [if_pos h]; congr 2; omega
theorem itoa_pos' {a : Int} (h : ¬ a < 0) : Lib.itoa a = Lib.decDigits a.toNat := by
  unfold Lib.itoa; rw [if_neg h]

theorem digits_sv (a : Int) (m : Nat) (ha : InS a) (he : IntKind.u64.wrap (shi a) * 18446744073709551616 + slo a = m) (hm : m ≤ 170141183460469231731687303715884105728) (w : World) (hT : Tens w) :
    Calls Tryd.prog 44 #[sv a] w fun e w' => e = .returned (.string (tx (Lib.decDigits m))) ∧ Below w.heap.size w w' :=
  digits_any (shi a) (slo a) m hm (shi_lo ha) (shi_hi ha) (slo_lo a) (slo_hi a) he w hT
theorem mag_pos {a : Int} (ha : InS a) (h : ¬ a < 0) : IntKind.u64.wrap (shi a) * 18446744073709551616 + slo a = (a.toNat : Int) ∧ a.toNat ≤ 170141183460469231731687303715884105728 := by
  rw [IntKind.wrap_u64]; unfold InS shi slo at *; omega
theorem mag_neg {a : Int} (ha : InS a) (h : a < 0) : IntKind.u64.wrap (shi (w128 (-a))) * 18446744073709551616 + slo (w128 (-a)) = ((-a).toNat : Int) ∧ (-a).toNat ≤ 170141183460469231731687303715884105728 := by
  rw [IntKind.wrap_u64]; unfold InS shi slo w128 at *; omega

theorem text_any (a : Int) (ha : InS a) (w : World) (hT : Tens w) :
    Calls Tryd.prog 26 #[sv a] w fun e w' => e = .returned (.string (tx (Lib.itoa a))) ∧ Below w.heap.size w w' := by
  have HT := Lib.hid hT
  have HA := Lib.hid ha
  have a1 := shi_lo ha
  have a2 := shi_hi ha
  have a3 := slo_lo a
  have a4 := slo_hi a
  clear hT
  by_cases hn : a < 0
  · rw [itoa_neg' hn]
    obtain ⟨m, hm⟩ : ∃ m, (-a).toNat = m := ⟨_, rfl⟩
    have hmag := mag_neg ha hn
    rw [hm] at hmag ⊢
    have hdig := fun w h => digits_sv (w128 (-a)) m (w128_in _) hmag.1 hmag.2 w h
    have hsg : ssgn a = -1 := by unfold ssgn; rw [if_pos hn]
    have hlen : (Lib.decDigits m).length ≤ 40 := by rw [Lib.decDigits_length]; exact nDigits_le 40 m (by decide) (by have := hmag.2; simp; omega)
    have hap : tx (45 :: Lib.decDigits m) = (⟨#[45]⟩ : ByteArray) ++ tx (Lib.decDigits m) := by
      rw [show (⟨#[45]⟩ : ByteArray) = tx [45] from rfl, tx_append]; rfl
    rw [hap]
    have hsz : (tx (Lib.decDigits m)).size ≤ 40 := by rw [tx_size]; exact hlen
    obtain ⟨t, ht⟩ : ∃ t, tx (Lib.decDigits m) = t := ⟨_, rfl⟩
    rw [ht] at hsz ⊢
    rw [ht] at hdig
    have hs1 : (⟨#[45]⟩ : ByteArray).size + t.size ≤ 9223372036854775807 := by show 1 + t.size ≤ _; omega
    have hs2 : 1 + t.size ≤ 9223372036854775807 := by omega
    have hsgn := fun w => sign_any a HA.out w
    rw [hsg] at hsgn
    have hneg := fun w => neg_any a HA.out w
    clear hmag hm hn hsg hlen hap ha ht
    go_enter Tryd.func26, Tryd.ntmps26
    go_wp2_with fail
    refine (hsgn _).mono ?_
    rintro e w1 ⟨rfl, hB1⟩
    have hE1 : Below w.heap.size w w1 := ((Below.refl _ _).alloc (Nat.le_refl _) _).trans (hB1.mono (by simp))
    have hc : CellsAt w.heap.size #[.int .i64 (shi a), .int .u64 (slo a)] w1 := (CellsAt.new _ _ _).below hB1
    have c0 := hc.cell 0 (.int .i64 (shi a)) rfl
    have c1 := hc.cell 1 (.int .u64 (slo a)) rfl
    clear hsgn
    go_wp2_with fail
    refine (hneg _).mono ?_
    rintro e w2 ⟨rfl, hB2⟩
    have hE2 := hE1.trans (hB2.mono hE1.size)
    clear hneg
    go_wp2_with fail
    refine (hdig _ (HT.out.below hE2)).mono ?_
    rintro e w3 ⟨rfl, hB3⟩
    have hE3 := hE2.trans (hB3.mono hE2.size)
    clear hdig
    go_wp2
    go_ret
    exact ⟨rfl, hE3⟩
  · rw [itoa_pos' hn]
    obtain ⟨m, hm⟩ : ∃ m, a.toNat = m := ⟨_, rfl⟩
    have hmag := mag_pos ha hn
    rw [hm] at hmag ⊢
    have hdig := fun w h => digits_sv a m ha hmag.1 hmag.2 w h
    have hsg : decide (ssgn a < 0) = false := by unfold ssgn; rw [if_neg hn]; split <;> rfl
    obtain ⟨g, hg⟩ : ∃ g, ssgn a = g := ⟨_, rfl⟩
    rw [hg] at hsg
    have hsgn := fun w => sign_any a HA.out w
    rw [hg] at hsgn
    clear hmag hm hn hg ha
    go_enter Tryd.func26, Tryd.ntmps26
    go_wp2_with fail
    refine (hsgn _).mono ?_
    rintro e w1 ⟨rfl, hB1⟩
    have hE1 : Below w.heap.size w w1 := ((Below.refl _ _).alloc (Nat.le_refl _) _).trans (hB1.mono (by simp))
    have hc : CellsAt w.heap.size #[.int .i64 (shi a), .int .u64 (slo a)] w1 := (CellsAt.new _ _ _).below hB1
    have c0 := hc.cell 0 (.int .i64 (shi a)) rfl
    have c1 := hc.cell 1 (.int .u64 (slo a)) rfl
    clear hsgn
    go_wp2_with fail
    refine (hdig _ (HT.out.below hE1)).mono ?_
    rintro e w3 ⟨rfl, hB3⟩
    have hE3 := hE1.trans (hB3.mono hE1.size)
    clear hdig
    go_wp2
    go_ret
    exact ⟨rfl, hE3⟩

theorem mul_ten (x : Int) (h0 : 0 ≤ x) (h1 : x ≤ 18446744073709551615) (w : World) :
    Calls Tryd.prog 83 #[.int .u64 x, .int .u64 10] w fun e w' => e = .returned (.tuple #[.int .u64 (x * 10 / 18446744073709551616), .int .u64 (x * 10 % 18446744073709551616)]) ∧ w = w' := by
  obtain ⟨n, rfl⟩ := Int.eq_ofNat_of_zero_le h0
  refine (Tryd.bits_Mul64 n 10 (by omega) (by decide) w).mono ?_
  rintro e w' ⟨rfl, rfl⟩
  refine ⟨?_, rfl⟩
  rw [show ((n * 10 / 18446744073709551616 : Nat) : Int) = (n : Int) * 10 / 18446744073709551616 by omega, show ((n * 10 % 18446744073709551616 : Nat) : Int) = (n : Int) * 10 % 18446744073709551616 by omega]
theorem shi_w128 (X d : Int) (h0 : 0 ≤ d) (h1 : d < 18446744073709551616) : shi (w128 (X * 18446744073709551616 + d)) = wrap64 X := by
  unfold wrap64 shi w128
  omega
theorem wrap64_add (x y : Int) : wrap64 (wrap64 x + y) = wrap64 (x + y) := by unfold wrap64; omega
theorem ten_hi (a : Int) (_ha : InS a) : wrap64 (wrap64 (shi a * 10) + slo a * 10 / 18446744073709551616) = shi (w128 (a * 10)) := by
  have e : a * 10 = (shi a * 10 + slo a * 10 / 18446744073709551616) * 18446744073709551616 + slo a * 10 % 18446744073709551616 := by
    have := of_parts a
    omega
  rw [e, shi_w128 _ _ (by omega) (by omega), wrap64_add]
theorem ten_lo (a : Int) : slo a * 10 % 18446744073709551616 = slo (w128 (a * 10)) := by
  unfold slo w128
  omega
end Go.Proofs.YtmjipafhahggpaaDoor.Wi

