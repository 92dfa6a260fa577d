/- A sum is added to a sketch. -/
import Derived.Test.YtdcjfefnkjdchaaDoorHMath
import Derived.Test.YtdcjfefnkjdchaaDoorHNew
import Derived.Laws.Bits64
import Derived.Laws.Bits64b
namespace Go.Proofs.YtdcjfefnkjdchaaDoor
open Go Go.RowKit

theorem used_M (B : Nat) (b : Nat) (lo : 4 ≤ b) (hi : b ≤ 10) (M : Nat) (hM : 2 ^ b = M) (w : World) (h : w.cell? ⟨B, 0, none⟩ = some (.int .i64 b)) :
    Calls Tryd.prog 28 #[.pointer (some ⟨B, 0, none⟩)] w fun e w' => e = .returned (.slice (some ⟨B, 1, none⟩) M M) ∧ w = w' := by
  subst hM
  exact used_any B b lo hi w h
theorem pow_hi {b : Nat} (lo : 4 ≤ b) (hi : b ≤ 10) : 16 ≤ 2 ^ b ∧ 2 ^ b ≤ 1024 :=
  ⟨Nat.pow_le_pow_right (n := 2) (by decide) lo, Nat.pow_le_pow_right (n := 2) (by decide) hi⟩
theorem hand_eq (h b : Nat) (hh : h < 18446744073709551616) (hi : b ≤ 10) : bits BinOp.and IntKind.u64 (h : Int) (((2 ^ b : Nat) : Int) - 1) = ((h % 2 ^ b : Nat) : Int) := by
  have hp : 0 < 2 ^ b := Nat.pow_pos (by decide)
  have h10 : 2 ^ b ≤ 1024 := Nat.pow_le_pow_right (n := 2) (by decide) hi
  rw [show ((2 ^ b : Nat) : Int) - 1 = ((2 ^ b - 1 : Nat) : Int) from by omega, bits_and_u64_nat h _ hh (by omega), Nat.and_two_pow_sub_one_eq_mod]

set_option maxRecDepth 100000 in
set_option maxHeartbeats 2000000 in
theorem add_yes (B b : Nat) (lo : 4 ≤ b) (hi : b ≤ 10) (h : Nat) (hh : h < 18446744073709551616) (x : Int) (w : World) (hT : Tab w)
    (hc : w.cell? ⟨B, 0, none⟩ = some (.int .i64 b)) (hx : w.cell? ⟨B, 1 + hp b h, none⟩ = some (.int .u8 x)) (hf : w.frozen? ⟨B, 1 + hp b h, none⟩ = false) (hlt : x < hr b h) :
    Calls Tryd.prog 13 #[.pointer (some ⟨B, 0, none⟩), .int .u64 h] w fun e w' => e = .returned (.bool true) ∧ w.setCell ⟨B, 1 + hp b h, none⟩ (.int .u8 (hr b h : Nat)) = w' := by
  have hand := hand_eq h b hh hi
  have hpl := hp_lt b h
  have hM := pow_hi lo hi
  have hu := fun w => used_M B b lo hi (2 ^ b) rfl w
  have hrk := fun w hT => rank_nat b h hi hh w hT
  rw [show h % 2 ^ b = hp b h from rfl] at hand
  have hrl := rk_lo b h
  have hrh := rk_hi b h
  have hmin : min (rk b h) 26 = hr b h := rfl
  generalize hp b h = p at *
  generalize hr b h = r at *
  generalize rk b h = q at *
  generalize 2 ^ b = M at *
  obtain ⟨hM1, hM2⟩ := hM
  have HT := Lib.hid hT
  clear hT
  by_cases hq : q ≤ 26
  · obtain rfl : q = r := by omega
    clear hmin
    go_enter Tryd.func13, Tryd.ntmps13
    go_wp2_with fail
    refine (hu _ hc).mono ?_
    rintro e w1 ⟨rfl, rfl⟩
    go_wp2_with fail
    refine (hrk _ HT.out).mono ?_
    rintro e w1 ⟨rfl, rfl⟩
    go_wp2_with fail
    go_ret
    exact ⟨rfl, rfl⟩
  · obtain rfl : r = 26 := by omega
    clear hmin
    go_enter Tryd.func13, Tryd.ntmps13
    go_wp2_with fail
    refine (hu _ hc).mono ?_
    rintro e w1 ⟨rfl, rfl⟩
    go_wp2_with fail
    refine (hrk _ HT.out).mono ?_
    rintro e w1 ⟨rfl, rfl⟩
    go_wp2_with fail
    go_ret
    exact ⟨rfl, rfl⟩
set_option maxRecDepth 100000 in
set_option maxHeartbeats 2000000 in
theorem add_no (B b : Nat) (lo : 4 ≤ b) (hi : b ≤ 10) (h : Nat) (hh : h < 18446744073709551616) (x : Int) (w : World) (hT : Tab w)
    (hc : w.cell? ⟨B, 0, none⟩ = some (.int .i64 b)) (hx : w.cell? ⟨B, 1 + hp b h, none⟩ = some (.int .u8 x)) (hf : w.frozen? ⟨B, 1 + hp b h, none⟩ = false) (hlt : (hr b h : Int) ≤ x) :
    Calls Tryd.prog 13 #[.pointer (some ⟨B, 0, none⟩), .int .u64 h] w fun e w' => e = .returned (.bool false) ∧ w = w' := by
  have hand := hand_eq h b hh hi
  have hpl := hp_lt b h
  have hM := pow_hi lo hi
  have hu := fun w => used_M B b lo hi (2 ^ b) rfl w
  have hrk := fun w hT => rank_nat b h hi hh w hT
  rw [show h % 2 ^ b = hp b h from rfl] at hand
  have hrl := rk_lo b h
  have hrh := rk_hi b h
  have hmin : min (rk b h) 26 = hr b h := rfl
  generalize hp b h = p at *
  generalize hr b h = r at *
  generalize rk b h = q at *
  generalize 2 ^ b = M at *
  obtain ⟨hM1, hM2⟩ := hM
  have HT := Lib.hid hT
  clear hT
  by_cases hq : q ≤ 26
  · obtain rfl : q = r := by omega
    clear hmin
    go_enter Tryd.func13, Tryd.ntmps13
    go_wp2_with fail
    refine (hu _ hc).mono ?_
    rintro e w1 ⟨rfl, rfl⟩
    go_wp2_with fail
    refine (hrk _ HT.out).mono ?_
    rintro e w1 ⟨rfl, rfl⟩
    go_wp2_with fail
    go_ret
    exact ⟨rfl, rfl⟩
  · obtain rfl : r = 26 := by omega
    clear hmin
    go_enter Tryd.func13, Tryd.ntmps13
    go_wp2_with fail
    refine (hu _ hc).mono ?_
    rintro e w1 ⟨rfl, rfl⟩
    go_wp2_with fail
    refine (hrk _ HT.out).mono ?_
    rintro e w1 ⟨rfl, rfl⟩
    go_wp2_with fail
    go_ret
    exact ⟨rfl, rfl⟩
/-- A sum is added. -/
theorem add_any {B b : Nat} {l : List UInt8} (h : Nat) (hh : h < 18446744073709551616) {w : World} (hT : Tab w) (hS : Sk B b l w) :
    Calls Tryd.prog 13 #[.pointer (some ⟨B, 0, none⟩), .int .u64 h] w fun e w' => e = .returned (.bool (addB b h l)) ∧ Chg B w w' ∧ Sk B b (addL b h l) w' := by
  have hpl : hp b h < l.length := by rw [hS.len]; exact hp_lt b h
  have hx := hS.cell _ hpl
  have hf := hS.fro _ hpl
  have hg : (l.getD (hp b h) 0).toNat = l[hp b h].toNat := by rw [List.getD_eq_getElem?_getD, List.getElem?_eq_getElem hpl]; rfl
  by_cases hlt : (l[hp b h].toNat : Int) < hr b h
  · have hb : addB b h l = true := by unfold addB; rw [hg]; simpa using hlt
    refine (add_yes B b hS.lo hS.hi h hh _ w hT hS.bits hx hf hlt).mono ?_
    rintro e w' ⟨rfl, rfl⟩
    refine ⟨by rw [hb], (Chg.refl _ _).set _ _, ?_⟩
    unfold addL
    rw [if_pos hb]
    have := hS.set (hp b h) (UInt8.ofNat (hr b h)) hpl
    rwa [ofNat_toNat (hr_hi b h)] at this
  · have hb : addB b h l = false := by unfold addB; rw [hg]; simpa using hlt
    refine (add_no B b hS.lo hS.hi h hh _ w hT hS.bits hx hf (by omega)).mono ?_
    rintro e w' ⟨rfl, rfl⟩
    refine ⟨by rw [hb], Chg.refl _ _, ?_⟩
    unfold addL
    rw [hb]
    exact hS
end Go.Proofs.YtdcjfefnkjdchaaDoor
