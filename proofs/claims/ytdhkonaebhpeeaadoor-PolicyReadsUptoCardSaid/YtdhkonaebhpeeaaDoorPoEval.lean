/- The laws' own texts: what they are read as. No model in this text. -/
import Derived.Test.YtdhkonaebhpeeaaDoorPoMath
namespace Go.Proofs.YtdhkonaebhpeeaaDoor.Po
open Go

def base0Z : List Int × List Int × Nat := (baseZ.n, baseZ.t, 0)
/-! The examples. -/
theorem ex_one : readZ [115, 108, 111, 116, 115, 61, 50, 32, 108, 111, 119, 61, 49, 32, 104, 105, 103, 104, 61, 50, 32, 116, 105, 101, 114, 115, 61, 49, 47, 53] = ([2, 1, 2, 8, 6, 2, 2, 60, 30, 5], [1, 5], 0) := by decide +kernel
theorem ex_two : readZ [115, 108, 111, 116, 115, 61, 50, 32, 115, 108, 111, 116, 115, 61, 51] = (zeroN, [], 2) := by decide +kernel
theorem ex_zero : readZ [115, 108, 111, 116, 115, 61, 48] = (zeroN, [], 1) := by decide +kernel
theorem ex_none : readZ [] = base0Z := rfl
theorem ex_right : rightZ baseZ.n baseZ.t = true := by decide +kernel
theorem ex_text : textZ [2, 1, 2, 8, 6, 2, 2, 60, 30, 5] [1, 5] = [115, 108, 111, 116, 115, 61, 50, 32, 108, 111, 119, 61, 49, 32, 104, 105, 103, 104, 61, 50, 32, 116, 111, 112, 61, 56, 32, 115, 107, 101, 116, 99, 104, 61, 54, 32, 102, 105, 110, 101, 61, 50, 32, 105, 100, 108, 101, 61, 50, 32, 119, 105, 110, 100, 111, 119, 61, 54, 48, 32, 108, 97, 116, 101, 61, 51, 48, 32, 102, 117, 116, 117, 114, 101, 61, 53, 32, 116, 105, 101, 114, 115, 61, 49, 47, 53] := by decide +kernel

/-! The words. -/
def wordL : List (List UInt8) :=
  [[115, 108, 111, 116, 115, 61, 57],
   [108, 111, 119, 61, 51],
   [104, 105, 103, 104, 61, 55, 48],
   [116, 111, 112, 61, 50],
   [115, 107, 101, 116, 99, 104, 61, 53],
   [102, 105, 110, 101, 61, 49],
   [105, 100, 108, 101, 61, 51],
   [119, 105, 110, 100, 111, 119, 61, 55],
   [108, 97, 116, 101, 61, 49],
   [102, 117, 116, 117, 114, 101, 61, 50],
   [116, 105, 101, 114, 115, 61, 51, 47, 57]]
def wordAt (k : Nat) : List UInt8 := wordL.getD k []
theorem words_one : ∀ a : Fin 11, (readZ (wordAt a)).2.2 = 0 ∧ readZ (wordAt a) ≠ base0Z := by decide +kernel
theorem words_same : ∀ a : Fin 11, readZ (wordAt a ++ 32 :: wordAt a) = (zeroN, [], 2) := by decide +kernel
theorem words_two : ∀ a b : Fin 11, a ≠ b → (readZ (wordAt a ++ 32 :: wordAt b)).2.2 = 0 ∧ readZ (wordAt a ++ 32 :: wordAt b) = readZ (wordAt b ++ 32 :: wordAt a) ∧ readZ (wordAt a ++ 32 :: wordAt b) ≠ readZ (wordAt a) := by decide +kernel

/-! What is refused. -/
def wrongL : List (List UInt8) :=
  [[120, 61, 49],
   [115, 108, 111, 116, 115],
   [115, 108, 111, 116, 115, 61],
   [115, 108, 111, 116, 115, 61, 120],
   [115, 108, 111, 116, 115, 61, 49, 46, 53],
   [115, 108, 111, 116, 115, 61, 49, 32, 32, 108, 111, 119, 61, 48],
   [32, 115, 108, 111, 116, 115, 61, 49],
   [115, 108, 111, 116, 115, 61, 49, 32],
   [116, 105, 101, 114, 115, 61],
   [116, 105, 101, 114, 115, 61, 49, 47],
   [116, 105, 101, 114, 115, 61, 49, 47, 47, 50],
   [115, 108, 111, 116, 115, 61, 49, 61, 49],
   [61, 49],
   [115, 108, 111, 116, 115, 61, 57, 57, 57, 57, 57, 57, 57, 57, 57, 57, 57, 57, 57, 57, 57, 57, 57, 57, 57, 57]]
def wrongAt (k : Nat) : List UInt8 := wrongL.getD k []
theorem wrong_all : ∀ a : Fin 14, readZ (wrongAt a) = (zeroN, [], 2) := by decide +kernel
theorem wrong_tiers : readZ [116, 105, 101, 114, 115, 61, 50, 47, 51] = (zeroN, [], 1) := by decide +kernel
theorem wrong_low : readZ [108, 111, 119, 61, 54, 53] = (zeroN, [], 1) := by decide +kernel
theorem wrong_zeros : readZ [115, 108, 111, 116, 115, 61, 48, 48, 55, 32, 108, 111, 119, 61, 45, 48] = ([7, 0, 64, 8, 6, 2, 2, 60, 30, 5], [10, 60], 0) := by decide +kernel

/-! The bounds. -/
def lowN : List Int := baseZ.n.set 1 0
def leastZ : List Int := [1, 0, 0, 1, 4, 0, 1, 1, 0, 0]
def mostZ : List Int := [256, 64, 1000000, 16, 10, 4, 100, 1000000000, 1000000000, 1000000000]
theorem bounds_least : ∀ k : Fin 10, rightZ (lowN.set k (leastZ.getD k 0)) baseZ.t = true ∧ rightZ (lowN.set k (leastZ.getD k 0 - 1)) baseZ.t = false := by decide +kernel
theorem bounds_most : ∀ k : Fin 10, rightZ (lowN.set k (mostZ.getD k 0)) baseZ.t = true ∧ rightZ (lowN.set k (mostZ.getD k 0 + 1)) baseZ.t = false := by decide +kernel

/-! The tiers. -/
theorem base_bound : boundZ baseZ.n = true := by decide +kernel
theorem right_base (t : List Int) : rightZ baseZ.n t = (tiersZ none t && (decide (1 ≤ t.length) && decide (t.length ≤ 3))) := by
  unfold rightZ
  rw [base_bound, Bool.and_true]
theorem tiers_none : rightZ baseZ.n [] = false := by decide +kernel
theorem tiers_one {a : Int} (ha : a ≤ 1000000000) : rightZ baseZ.n [a] = decide (1 ≤ a) := by
  rw [right_base, Bool.eq_iff_iff]
  simp [tiersZ, inZ]
  omega
theorem tiers_two {a b : Int} (ha : a ≤ 1000000000) (hb : b ≤ 1000000000) : rightZ baseZ.n [a, b] = (decide (1 ≤ a) && (decide (1 ≤ b) && (decide (a < b) && decide (b % a = 0)))) := by
  rw [right_base, Bool.eq_iff_iff]
  simp [tiersZ, inZ]
  omega
theorem tiers_three {a b c : Int} (ha : a ≤ 1000000000) (hb : b ≤ 1000000000) (hc : c ≤ 1000000000) : rightZ baseZ.n [a, b, c] = (decide (1 ≤ a) && (decide (1 ≤ b) && (decide (a < b) && decide (b % a = 0)) && (decide (1 ≤ c) && (decide (b < c) && decide (c % b = 0))))) := by
  rw [right_base, Bool.eq_iff_iff]
  simp [tiersZ, inZ]
  omega
theorem tiers_four {a b c d : Int} : rightZ baseZ.n [a, b, c, d] = false := by
  rw [right_base]
  simp
end Go.Proofs.YtdhkonaebhpeeaaDoor.Po

