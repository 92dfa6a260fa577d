/- The chapter's examples. -/
import Derived.Test.YtdcjfefnkjdchaaDoorHEsti
namespace Go.Proofs.YtdcjfefnkjdchaaDoor
open Go Go.RowKit

def l0 : List UInt8 := List.replicate (2 ^ 4) 0
def l1 : List UInt8 := 1 :: List.replicate 15 0
theorem l0_est : estOf 4 l0 = 0 := by decide +kernel
theorem l1_est : estOf 4 l1 = 1 := by decide +kernel
theorem l0_add : addB 4 16 l0 = true ∧ addL 4 16 l0 = l1 := by decide +kernel
theorem l1_add : addB 4 16 l1 = false ∧ addL 4 16 l1 = l1 := by decide +kernel
theorem l0_low : Low l0 := Low.zero _
theorem l1_low : Low l1 := by unfold Low; decide
theorem Tab.belowOf {w w' : World} {B : Nat} (h : Tab w) (hB : Below w.heap.size w w') : Tab w' := h.below hB
def xx : ByteArray := ⟨#[120, 120]⟩
theorem xx_bad : ∀ b, ¬ Regd b xx := by
  rintro b ⟨h1, _, h2, _⟩
  have := Nat.pow_le_pow_right (n := 2) (by decide) h1
  have h3 : xx.size = 2 := rfl
  omega
theorem est_is {B b : Nat} {l : List UInt8} {w : World} (hS : Sk B b l w) (hL : Low l) {n : Nat} (hn : estOf b l = n) :
    Calls Tryd.prog 20 #[.pointer (some ⟨B, 0, none⟩)] w fun e w' => e = .returned (.int .u64 n) ∧ Below w.heap.size w w' := by
  subst hn
  exact est_any hS hL
theorem add_is {B b : Nat} {l l' : List UInt8} {w : World} (hS : Sk B b l w) (hT : Tab w) (h : Nat) (hh : h < 18446744073709551616) {v : Bool} (hv : addB b h l = v ∧ addL b h l = l') :
    Calls Tryd.prog 13 #[.pointer (some ⟨B, 0, none⟩), .int .u64 h] w fun e w' => e = .returned (.bool v) ∧ Chg B w w' ∧ Sk B b l' w' := by
  obtain ⟨rfl, rfl⟩ := hv
  exact add_any h hh hT hS
theorem below_chg {B C : Nat} {w a c : World} (h : Below B w a) (hC : Chg C a c) (h1 : B ≤ C) (h2 : B ≤ w.heap.size) : Below B w c := h.trans (hC.below h1 (Nat.le_trans h2 h.size))
theorem below_on {B : Nat} {w a c : World} (h : Below B w a) (hC : Below a.heap.size a c) (h2 : B ≤ w.heap.size) : Below B w c := h.trans (hC.mono (Nat.le_trans h2 h.size))
set_option maxRecDepth 100000 in
set_option maxHeartbeats 4000000 in
theorem examples_any (w : World) (hT : Tab w) :
    Calls Tryd.prog 10 #[] w fun e w' => e = .returned (.bool true) ∧ Below w.heap.size w w' := by
  have HT := Lib.hid hT
  clear hT
  have hn3 := new_out 3 (by decide)
  have hn4 := new_any 4 (by decide) (by decide)
  have hxx := of_bad xx (by decide) xx_bad
  rw [show List.replicate (2 ^ 4) (0 : UInt8) = l0 from rfl] at hn4
  unfold xx at hxx
  obtain ⟨t, ht⟩ : ∃ t, tx l1 = t := ⟨_, rfl⟩
  have htz : t.size = 16 := by rw [← ht]; rfl
  have HTX := Lib.hid ht
  clear ht
  go_enter Tryd.func10, Tryd.ntmps10
  go_wp2_with fail
  refine (hn3 _).mono ?_
  rintro e w1 ⟨rfl, rfl⟩
  go_wp2_with fail
  refine (hn4 _).mono ?_
  rintro e W1 ⟨rfl, hB, hS⟩
  generalize hRR : w.heap.size = R at hS hB ⊢
  have HRR := Lib.hid hRR
  have H0 := Lib.hid (Nat.le_of_eq hRR.symm)
  clear hRR
  go_wp2_with fail
  refine (est_is hS l0_low l0_est).mono ?_
  rintro e W2 ⟨rfl, hB2⟩
  replace hS := hS.below hB2
  replace hB := below_on hB hB2 H0.out
  clear hB2
  go_wp2_with fail
  refine (add_is hS (HT.out.below (HRR.out ▸ hB)) 16 (by decide) l0_add).mono ?_
  rintro e W3 ⟨rfl, hC, hS'⟩
  replace hB := below_chg hB hC (Nat.le_refl _) H0.out
  replace hS := hS'
  clear hC hS'
  go_wp2_with fail
  refine (add_is hS (HT.out.below (HRR.out ▸ hB)) 16 (by decide) l1_add).mono ?_
  rintro e W4 ⟨rfl, hC, hS'⟩
  replace hB := below_chg hB hC (Nat.le_refl _) H0.out
  replace hS := hS'
  clear hC hS'
  go_wp2_with fail
  refine (hxx _).mono ?_
  rintro e W5 ⟨rfl, hB2⟩
  replace hS := hS.below hB2
  replace hB := below_on hB hB2 H0.out
  clear hB2
  go_wp2_with fail
  refine (est_is hS l1_low l1_est).mono ?_
  rintro e W6 ⟨rfl, hB2⟩
  replace hS := hS.below hB2
  replace hB := below_on hB hB2 H0.out
  clear hB2
  go_wp2_with fail
  refine (bits_any R 4 _ hS.bits).mono ?_
  rintro e W7 ⟨rfl, rfl⟩
  go_wp2_with fail
  refine (registers_any hS).mono ?_
  rintro e W8 ⟨rfl, rfl⟩
  rw [HTX.out]
  go_wp2
  go_ret
  exact ⟨rfl, HRR.out ▸ hB⟩
end Go.Proofs.YtdcjfefnkjdchaaDoor
