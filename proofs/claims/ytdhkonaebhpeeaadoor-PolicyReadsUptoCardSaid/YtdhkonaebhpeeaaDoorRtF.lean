/- The law's wish: its numbers. The law's wish: what it makes of its numbers is right. -/
import Derived.Test.YtdhkonaebhpeeaaDoorPoRd
namespace Go.Proofs.YtdhkonaebhpeeaaDoor.Po
open Go Go.RowKit

/-- Numbers of sixteen bits that lie somewhere. -/
def Shorts (p : Option Addr) (hs : List Nat) (w : World) : Prop :=
  ∀ k (h : k < hs.length), ∃ C off, p = some ⟨C, off, none⟩ ∧ C < w.heap.size ∧ w.cell? ⟨C, off + k, none⟩ = some (.int .u16 (hs[k] : Int)) ∧ hs[k] < 65536
theorem Shorts.below {p : Option Addr} {hs : List Nat} {w w' : World} (h : Shorts p hs w) (hB : Below w.heap.size w w') : Shorts p hs w' := fun k hk => by
  obtain ⟨C, off, h1, h2, h3, h4⟩ := h k hk
  exact ⟨C, off, h1, Nat.lt_of_lt_of_le h2 hB.size, (hB.cell (p := ⟨C, off + k, none⟩) h2).trans h3, h4⟩
theorem wish1_any (C : Nat) (p : Option Addr) (hs : List Nat) (c i : Nat) (w : World) (_ : hs.length ≤ 9223372036854775807) (_hC : C < w.heap.size) (hN : w.cell? ⟨C, 12, none⟩ = some (.slice p hs.length c)) (hS : Shorts p hs w) :
    Calls Tryd.prog 28 #[.int .i64 (i : Int), .pointer (some ⟨C, 0, none⟩)] w fun e w' => e = .returned (.int .i64 (hs.getD i 0 : Nat)) ∧ w' = w := by
  by_cases h : i < hs.length
  · obtain ⟨D, off, rfl, hD, hx, hb⟩ := hS i h
    have e : hs.getD i 0 = hs[i] := by rw [List.getD_eq_getElem?_getD, List.getElem?_eq_getElem h]; rfl
    rw [e]
    have hi : (i : Int) < (hs.length : Int) := by omega
    have hi2 : ¬ (hs.length : Int) ≤ (i : Int) := by omega
    have hbi : (hs[i] : Int) < 65536 := by omega
    clear e hS
    generalize hs[i] = x at *
    go_enter Tryd.func28, Tryd.ntmps28
    go_wp2
    go_ret
    exact ⟨rfl, rfl⟩
  · have e : hs.getD i 0 = 0 := by rw [List.getD_eq_getElem?_getD, List.getElem?_eq_none (by omega)]; rfl
    rw [e]
    have hi2 : (hs.length : Int) ≤ (i : Int) := by omega
    clear e hS
    go_enter Tryd.func28, Tryd.ntmps28
    go_wp2
    go_ret
    exact ⟨rfl, rfl⟩
end Go.Proofs.YtdhkonaebhpeeaaDoor.Po

namespace Go.Proofs.YtdhkonaebhpeeaaDoor.Po
open Go Go.RowKit

def hA (hs : List Nat) (i : Nat) : Nat := hs.getD i 0
def wishN (hs : List Nat) : List Int :=
  [1 + (hA hs 0 : Int) % 20, (hA hs 9 : Int) % ((hA hs 1 : Int) % 40 + 1), (hA hs 1 : Int) % 40, 1 + (hA hs 2 : Int) % 16, 4 + (hA hs 3 : Int) % 7, (hA hs 4 : Int) % 5, 1 + (hA hs 5 : Int) % 4, 1 + (hA hs 6 : Int) % 40, (hA hs 7 : Int) % 30, (hA hs 8 : Int) % 10]
def factW (hs : List Nat) (i : Nat) : Int := 2 + (hA hs (12 + i) : Int) % 4
/-- The tiers after so many rounds. -/
def wishT (hs : List Nat) : Nat → List Int
  | 0 => [1 + (hA hs 10 : Int) % 12]
  | 1 => [1 + (hA hs 10 : Int) % 12, (1 + (hA hs 10 : Int) % 12) * factW hs 0]
  | _ => [1 + (hA hs 10 : Int) % 12, (1 + (hA hs 10 : Int) % 12) * factW hs 0, (1 + (hA hs 10 : Int) % 12) * factW hs 0 * factW hs 1]
theorem fact_in (hs : List Nat) (i : Nat) : 2 ≤ factW hs i ∧ factW hs i ≤ 5 := by unfold factW; omega
theorem wish_bound (hs : List Nat) : boundZ (wishN hs) = true := by
  unfold boundZ wishN inZ
  have h1 := Int.emod_nonneg (hA hs 9 : Int) (show ((hA hs 1 : Int) % 40 + 1) ≠ 0 by omega)
  have h2 := Int.emod_lt_of_pos (hA hs 9 : Int) (show 0 < ((hA hs 1 : Int) % 40 + 1) by omega)
  generalize (hA hs 9 : Int) % ((hA hs 1 : Int) % 40 + 1) = x at *
  simp only [Bool.and_eq_true, decide_eq_true_eq]
  omega
theorem step_in {a f : Int} (ha : 1 ≤ a) (h : 2 ≤ f ∧ f ≤ 5) : a < a * f ∧ a * f ≤ a * 5 ∧ (a * f) % a = 0 := by
  refine ⟨?_, Int.mul_le_mul_of_nonneg_left h.2 (by omega), Int.mul_emod_right a f⟩
  have : a * 2 ≤ a * f := Int.mul_le_mul_of_nonneg_left h.1 (by omega)
  omega
theorem wish_tiers (hs : List Nat) (k : Nat) : tiersZ none (wishT hs k) = true ∧ 1 ≤ (wishT hs k).length ∧ (wishT hs k).length ≤ 3 := by
  have ha : 1 ≤ 1 + (hA hs 10 : Int) % 12 ∧ 1 + (hA hs 10 : Int) % 12 ≤ 12 := by omega
  have f0 := fact_in hs 0
  have f1 := fact_in hs 1
  obtain ⟨a, hae⟩ : ∃ a, 1 + (hA hs 10 : Int) % 12 = a := ⟨_, rfl⟩
  have s0 := step_in (a := a) (by omega) f0
  have s1 := step_in (a := a * factW hs 0) (by omega) f1
  match k with
  | 0 => simp only [wishT, hae, tiersZ, inZ]; refine ⟨?_, by simp, by simp⟩; simp; omega
  | 1 =>
    simp only [wishT, hae, tiersZ, inZ]
    refine ⟨?_, by simp, by simp⟩
    generalize a * factW hs 0 = b at *
    simp only [Bool.and_eq_true, decide_eq_true_eq, and_true]
    omega
  | n + 2 =>
    simp only [wishT, hae, tiersZ, inZ]
    refine ⟨?_, by simp, by simp⟩
    generalize a * factW hs 0 = b at *
    generalize b * factW hs 1 = c at *
    simp only [Bool.and_eq_true, decide_eq_true_eq, and_true]
    omega
theorem wish_right (hs : List Nat) (k : Nat) : rightZ (wishN hs) (wishT hs k) = true := by
  obtain ⟨h1, h2, h3⟩ := wish_tiers hs k
  unfold rightZ
  rw [wish_bound, h1, decide_eq_true h2, decide_eq_true h3]
  rfl
end Go.Proofs.YtdhkonaebhpeeaaDoor.Po

