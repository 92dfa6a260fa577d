/- The law's wish: what it makes of its numbers is right. -/
import Derived.Test.YtcgkgdhbipbnfaaGreatDoorPoWi
namespace Go.Proofs.YtcgkgdhbipbnfaaGreatDoor.Po
open Go Go.RowKit

def hA (hs : List Nat) (i : Nat) : Nat := hs.getD i 0
def wishN (hs : List Nat) : List Int :=
  [1 + (hA hs 0 : Int) % 20, (hA hs 9 : Int) % ((hA hs 1 : Int) % 40 + 1), (hA hs 1 : Int) % 40, 1 + (hA hs 2 : Int) % 16, 4 + (hA hs 3 : Int) % 7, (hA hs 4 : Int) % 5, 1 + (hA hs 5 : Int) % 4, 1 + (hA hs 6 : Int) % 40, (hA hs 7 : Int) % 30, (hA hs 8 : Int) % 10]
def factW (hs : List Nat) (i : Nat) : Int := 2 + (hA hs (12 + i) : Int) % 4
/-- The tiers after so many rounds. -/
def wishT (hs : List Nat) : Nat → List Int
  | 0 => [1 + (hA hs 10 : Int) % 12]
  | 1 => [1 + (hA hs 10 : Int) % 12, (1 + (hA hs 10 : Int) % 12) * factW hs 0]
  | _ => [1 + (hA hs 10 : Int) % 12, (1 + (hA hs 10 : Int) % 12) * factW hs 0, (1 + (hA hs 10 : Int) % 12) * factW hs 0 * factW hs 1]
theorem fact_in (hs : List Nat) (i : Nat) : 2 ≤ factW hs i ∧ factW hs i ≤ 5 := by unfold factW; omega
theorem wish_bound (hs : List Nat) : boundZ (wishN hs) = true := by
  unfold boundZ wishN inZ
  have h1 := Int.emod_nonneg (hA hs 9 : Int) (show ((hA hs 1 : Int) % 40 + 1) ≠ 0 by omega)
  have h2 := Int.emod_lt_of_pos (hA hs 9 : Int) (show 0 < ((hA hs 1 : Int) % 40 + 1) by omega)
  generalize (hA hs 9 : Int) % ((hA hs 1 : Int) % 40 + 1) = x at *
  simp only [Bool.and_eq_true, decide_eq_true_eq]
  omega
theorem step_in {a f : Int} (ha : 1 ≤ a) (h : 2 ≤ f ∧ f ≤ 5) : a < a * f ∧ a * f ≤ a * 5 ∧ (a * f) % a = 0 := by
  refine ⟨?_, Int.mul_le_mul_of_nonneg_left h.2 (by omega), Int.mul_emod_right a f⟩
  have : a * 2 ≤ a * f := Int.mul_le_mul_of_nonneg_left h.1 (by omega)
  omega
theorem wish_tiers (hs : List Nat) (k : Nat) : tiersZ none (wishT hs k) = true ∧ 1 ≤ (wishT hs k).length ∧ (wishT hs k).length ≤ 3 := by
  have ha : 1 ≤ 1 + (hA hs 10 : Int) % 12 ∧ 1 + (hA hs 10 : Int) % 12 ≤ 12 := by omega
  have f0 := fact_in hs 0
  have f1 := fact_in hs 1
  obtain ⟨a, hae⟩ : ∃ a, 1 + (hA hs 10 : Int) % 12 = a := ⟨_, rfl⟩
  have s0 := step_in (a := a) (by omega) f0
  have s1 := step_in (a := a * factW hs 0) (by omega) f1
  match k with
  | 0 => simp only [wishT, hae, tiersZ, inZ]; refine ⟨?_, by simp, by simp⟩; simp; omega
  | 1 =>
    simp only [wishT, hae, tiersZ, inZ]
    refine ⟨?_, by simp, by simp⟩
    generalize a * factW hs 0 = b at *
    simp only [Bool.and_eq_true, decide_eq_true_eq, and_true]
    omega
  | n + 2 =>
    simp only [wishT, hae, tiersZ, inZ]
    refine ⟨?_, by simp, by simp⟩
    generalize a * factW hs 0 = b at *
    generalize b * factW hs 1 = c at *
    simp only [Bool.and_eq_true, decide_eq_true_eq, and_true]
    omega
theorem wish_right (hs : List Nat) (k : Nat) : rightZ (wishN hs) (wishT hs k) = true := by
  obtain ⟨h1, h2, h3⟩ := wish_tiers hs k
  unfold rightZ
  rw [wish_bound, h1, decide_eq_true h2, decide_eq_true h3]
  rfl
end Go.Proofs.YtcgkgdhbipbnfaaGreatDoor.Po

