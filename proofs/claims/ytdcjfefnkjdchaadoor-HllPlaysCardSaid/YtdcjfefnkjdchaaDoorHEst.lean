/- What is estimated of registers. -/
import Derived.Test.YtdcjfefnkjdchaaDoorHOfY
namespace Go.Proofs.YtdcjfefnkjdchaaDoor
open Go Go.RowKit

def factorOf (b : Nat) : Nat := if b = 4 then 6730 else if b = 5 then 6970 else if b = 6 then 7090 else 72130000 * 2 ^ b / (10000 * 2 ^ b + 10790)
def sumOf : List UInt8 → Nat
  | [] => 0
  | x :: r => 2 ^ (26 - x.toNat) + sumOf r
theorem sumOf_append (a c : List UInt8) : sumOf (a ++ c) = sumOf a + sumOf c := by
  induction a with
  | nil => simp [sumOf]
  | cons x r ih => rw [List.cons_append, sumOf, sumOf, ih]; omega
theorem sumOf_le (l : List UInt8) : sumOf l ≤ 67108864 * l.length := by
  induction l with
  | nil => simp [sumOf]
  | cons x r ih =>
    rw [sumOf, List.length_cons]
    have : 2 ^ (26 - x.toNat) ≤ 2 ^ 26 := Nat.pow_le_pow_right (by decide) (by omega)
    omega
theorem sumOf_take {l : List UInt8} (k : Nat) (hk : k < l.length) : sumOf (l.take (k + 1)) = sumOf (l.take k) + 2 ^ (26 - l[k].toNat) := by
  rw [List.take_add_one, List.getElem?_eq_getElem hk, sumOf_append]
  simp [sumOf]
theorem sumOf_ge (l : List UInt8) : l.length ≤ sumOf l := by
  induction l with
  | nil => simp [sumOf]
  | cons x r ih =>
    rw [sumOf, List.length_cons]
    have : 0 < 2 ^ (26 - x.toNat) := Nat.pow_pos (by decide)
    omega
def rawOf (f M S : Nat) : Nat := f * M * M * 67108864 / (10000 * S)
theorem factor_any (b : Nat) (lo : 4 ≤ b) (hi : b ≤ 10) (w : World) :
    Calls Tryd.prog 33 #[.int .i64 b] w fun e w' => e = .returned (.int .u64 (factorOf b : Nat)) ∧ w = w' := by
  have : b = 4 ∨ b = 5 ∨ b = 6 ∨ b = 7 ∨ b = 8 ∨ b = 9 ∨ b = 10 := by omega
  rcases this with rfl | rfl | rfl | rfl | rfl | rfl | rfl
  all_goals
    clear lo hi
    go_enter Tryd.func33, Tryd.ntmps33
    go_wp2
    go_ret
    exact ⟨rfl, rfl⟩
theorem factor_bd (b : Nat) (lo : 4 ≤ b) (hi : b ≤ 10) : 6730 ≤ factorOf b ∧ factorOf b ≤ 7213 := by
  have : b = 4 ∨ b = 5 ∨ b = 6 ∨ b = 7 ∨ b = 8 ∨ b = 9 ∨ b = 10 := by omega
  rcases this with rfl | rfl | rfl | rfl | rfl | rfl | rfl <;> decide
theorem raw_eq (f k S : Nat) (hf : f ≤ 7213) (hk : k ≤ 1024) (h0 : 1 ≤ S) :
    IntKind.u64.wrap ((IntKind.u64.wrap (IntKind.u64.wrap (IntKind.u64.wrap ((f : Int) * k) * k) * 67108864)).tdiv (10000 * (S : Int))) = (rawOf f k S : Nat) := by
  have h1 : f * k ≤ 7213 * 1024 := Nat.mul_le_mul hf hk
  have h2 : f * k * k ≤ 7213 * 1024 * 1024 := Nat.mul_le_mul h1 hk
  have h3 : f * k * k * 67108864 / (10000 * S) ≤ f * k * k * 67108864 := Nat.div_le_self _ _
  have e1 : IntKind.u64.wrap ((f : Int) * k) = ((f * k : Nat) : Int) := by rw [IntKind.wrap_u64, ← Int.natCast_mul]; omega
  have e2 : IntKind.u64.wrap (((f * k : Nat) : Int) * k) = ((f * k * k : Nat) : Int) := by rw [IntKind.wrap_u64, ← Int.natCast_mul]; omega
  have e3 : IntKind.u64.wrap (((f * k * k : Nat) : Int) * 67108864) = ((f * k * k * 67108864 : Nat) : Int) := by
    rw [IntKind.wrap_u64]; generalize f * k * k = p at *; omega
  rw [e1, e2, e3, show (10000 * (S : Int)) = ((10000 * S : Nat) : Int) by omega, Int.tdiv_eq_ediv_of_nonneg (Int.natCast_nonneg _), ← Int.natCast_ediv, IntKind.wrap_u64]
  unfold rawOf
  generalize f * k * k * 67108864 / (10000 * S) = q at *
  omega
theorem sum_eq (S x : Nat) (hS : S ≤ 68719476736) : IntKind.u64.wrap ((S : Int) + IntKind.u64.wrap (2 ^ (26 - x))) = ((S + 2 ^ (26 - x) : Nat) : Int) := by
  have h1 : 2 ^ (26 - x) ≤ 2 ^ 26 := Nat.pow_le_pow_right (by decide) (by omega)
  have e : (2 : Int) ^ (26 - x) = ((2 ^ (26 - x) : Nat) : Int) := by push_cast; rfl
  rw [e]
  generalize 2 ^ (26 - x) = p at *
  rw [IntKind.wrap_u64, IntKind.wrap_u64]
  omega
set_option maxRecDepth 100000 in
set_option maxHeartbeats 4000000 in
theorem raw_any {B b : Nat} {l : List UInt8} {w : World} (hS : Sk B b l w) (hL : Low l) (f : Nat) (hf : f ≤ 7213) :
    Calls Tryd.prog 32 #[.slice (some ⟨B, 1, none⟩) (2 ^ b) (2 ^ b), .int .u64 f] w fun e w' => e = .returned (.int .u64 (rawOf f (2 ^ b) (sumOf l) : Nat)) ∧ w = w' := by
  have hM := pow_hi hS.lo hS.hi
  have hl := hS.len
  have hc := hS.cell
  generalize 2 ^ b = M at *
  obtain ⟨hM1, hM2⟩ := hM
  have HL := Lib.hid hl
  have HLow := Lib.hid hL
  have HC := Lib.hid hc
  clear hL hl hc hS
  go_enter Tryd.func32, Tryd.ntmps32
  go_wp2
  go_loop [5, 11] (fun s i => ∃ k : Nat, k ≤ M ∧ i = .int .i64 k ∧ s = .int .u64 (sumOf (l.take k) : Nat)) (fun _ i => M - (intOf i).toNat)
  case atStart => exact ⟨0, Nat.zero_le _, rfl, rfl⟩
  case round =>
    obtain ⟨k, hk, rfl, rfl⟩ := hrel
    have hbd := sumOf_le (l.take k)
    rw [List.length_take] at hbd
    by_cases hlt : k < M
    · have hkl : k < l.length := by rw [HL.out]; exact hlt
      have hx := HC.out k hkl
      have hlow := HLow.out l[k] (List.getElem_mem _)
      have hst := sumOf_take k hkl
      have HST := Lib.hid hst
      clear hst
      obtain ⟨x, hxe⟩ : ∃ x : Nat, l[k].toNat = x := ⟨_, rfl⟩
      rw [hxe] at hx hlow
      have HX := Lib.hid hxe
      clear hxe
      generalize sumOf (l.take k) = S at *
      go_wp2
      refine ⟨⟨k + 1, by omega, by go_num, ?_⟩, by simp [intOf]; omega⟩
      rw [sum_eq S x (by omega), HST.out, HX.out]
    · obtain rfl : k = M := by omega
      have htk : l.take k = l := List.take_of_length_le (by rw [HL.out]; exact Nat.le_refl _)
      rw [htk] at hbd ⊢
      have hge := sumOf_ge l
      rw [HL.out] at hge hbd
      have hraw := raw_eq f k (sumOf l) hf (by omega) (by omega)
      have HR := Lib.hid hraw
      clear htk hraw
      obtain ⟨S, hSe⟩ : ∃ S, sumOf l = S := ⟨_, rfl⟩
      have HSE := Lib.hid hSe
      rw [hSe] at hbd hge ⊢
      clear hSe
      go_wp2
      go_ret
      exact ⟨congrArg (fun n => Ending.returned (.int .u64 n)) (by rw [← HR.out, HSE.out]), rfl⟩
/-- What is summed for a few. -/
def fewSum (M z : Nat) : Nat → Nat
  | 0 => 0
  | j + 1 => fewSum M z j + M * 65536 / (z + 1 + j)
theorem fewSum_le (M z : Nat) (hM : M ≤ 1024) (j : Nat) : fewSum M z j ≤ 67108864 * j := by
  induction j with
  | zero => exact Nat.le_refl _
  | succ j ih =>
    rw [fewSum]
    have : M * 65536 / (z + 1 + j) ≤ M * 65536 := Nat.div_le_self _ _
    omega
def fewOf (M z : Nat) : Nat := fewSum M z (M - z) / 65536
theorem few_eq (M z j F : Nat) (hM : M ≤ 1024) (hF : F ≤ 68719476736) (hz : z + 1 + j ≤ 2000) :
    IntKind.u64.wrap ((F : Int) + (M : Int) * 65536 / ((z : Int) + 1 + j)) = ((F + M * 65536 / (z + 1 + j) : Nat) : Int) := by
  have : M * 65536 / (z + 1 + j) ≤ M * 65536 := Nat.div_le_self _ _
  rw [show ((M : Int) * 65536) = ((M * 65536 : Nat) : Int) by omega, show ((z : Int) + 1 + j) = ((z + 1 + j : Nat) : Int) by omega, ← Int.natCast_ediv]
  generalize M * 65536 / (z + 1 + j) = q at *
  rw [IntKind.wrap_u64]
  omega
set_option maxRecDepth 100000 in
set_option maxHeartbeats 4000000 in
theorem few_any (M z : Nat) (hM : M ≤ 1024) (hz : z ≤ M) (w : World) :
    Calls Tryd.prog 34 #[.int .u64 M, .int .u64 z] w fun e w' => e = .returned (.int .u64 (fewOf M z : Nat)) ∧ w = w' := by
  go_enter Tryd.func34, Tryd.ntmps34
  go_wp2
  go_loop [5, 6] (fun s i => ∃ j : Nat, z + j ≤ M ∧ i = .int .u64 ((z : Int) + 1 + j) ∧ s = .int .u64 (fewSum M z j : Nat)) (fun _ i => M + 1 - (intOf i).toNat)
  case atStart => exact ⟨0, by omega, by simp, rfl⟩
  case round =>
    obtain ⟨j, hj, rfl, rfl⟩ := hrel
    have hbd := fewSum_le M z hM j
    by_cases hlt : z + j < M
    · have hst : fewSum M z (j + 1) = fewSum M z j + M * 65536 / (z + 1 + j) := rfl
      have hfe := few_eq M z j (fewSum M z j) hM (by omega) (by omega)
      have HST := Lib.hid hst
      have HFE := Lib.hid hfe
      clear hst hfe
      generalize fewSum M z j = F at *
      go_wp2
      refine ⟨⟨j + 1, by omega, ?_, ?_⟩, by simp [intOf]; omega⟩
      · exact congrArg (fun n => Value.int .u64 n) (by omega)
      · rw [HFE.out, HST.out]
    · have hjm : M - z = j := by omega
      have HJ := Lib.hid hjm
      clear hjm
      have hend : fewOf M z = fewSum M z j / 65536 := by unfold fewOf; rw [HJ.out]
      have HE := Lib.hid hend
      clear hend
      generalize fewSum M z j = F at *
      go_wp2
      go_ret
      exact ⟨congrArg (fun n => Ending.returned (.int .u64 n)) (by rw [HE.out]; omega), rfl⟩
end Go.Proofs.YtdcjfefnkjdchaaDoor
