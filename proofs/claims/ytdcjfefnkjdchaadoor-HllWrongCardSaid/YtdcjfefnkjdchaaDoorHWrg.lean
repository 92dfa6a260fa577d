/- HllWrong, walked. -/
import Derived.Test.YtdcjfefnkjdchaaDoorHMake
namespace Go.Proofs.YtdcjfefnkjdchaaDoor
open Go Go.RowKit

theorem low_zeros (n : Nat) : Low (List.replicate n 0) := Low.zero n
theorem regd_zeros (n b : Nat) (h4 : 4 ≤ b) (h10 : b ≤ 10) (h : 2 ^ b = n) : Regd b (tx (List.replicate n 0)) :=
  ⟨h4, h10, by rw [tx_size, List.length_replicate]; exact h, by simpa [tx] using low_zeros n⟩
/-- May there be n registers? -/
def mayB (n : Nat) : Bool := n == 16 || n == 32 || n == 64 || n == 128 || n == 256 || n == 512 || n == 1024
theorem may_no (n : Nat) (h : mayB n = false) : ∀ b, ¬ Regd b (tx (List.replicate n 0)) := by
  rintro b ⟨h4, h10, hs, _⟩
  rw [tx_size, List.length_replicate] at hs
  subst hs
  have : b = 4 ∨ b = 5 ∨ b = 6 ∨ b = 7 ∨ b = 8 ∨ b = 9 ∨ b = 10 := by omega
  rcases this with rfl | rfl | rfl | rfl | rfl | rfl | rfl <;> exact absurd h (by decide)
/-- What Of comes to, of n zeros: which error; the pointer is left open. -/
theorem of_zeros (n : Nat) (hn : n ≤ 2000) (w : World) : ∃ (q : Value) (c : Int), ((c == 0) = mayB n) ∧ ((c == 2) = !mayB n) ∧
    Calls Tryd.prog 25 #[.string (tx (List.replicate n 0))] w fun e w' => e = .returned (.tuple #[q, .int .i64 c]) ∧ Below w.heap.size w w' := by
  cases hm : mayB n with
  | true =>
    obtain ⟨b, h4, h10, hb⟩ : ∃ b, 4 ≤ b ∧ b ≤ 10 ∧ 2 ^ b = n := by
      simp only [mayB, Bool.or_eq_true, beq_iff_eq] at hm
      rcases hm with (((((rfl | rfl) | rfl) | rfl) | rfl) | rfl) | rfl
      · exact ⟨4, by decide, by decide, by decide⟩
      · exact ⟨5, by decide, by decide, by decide⟩
      · exact ⟨6, by decide, by decide, by decide⟩
      · exact ⟨7, by decide, by decide, by decide⟩
      · exact ⟨8, by decide, by decide, by decide⟩
      · exact ⟨9, by decide, by decide, by decide⟩
      · exact ⟨10, by decide, by decide, by decide⟩
    refine ⟨_, 0, rfl, rfl, (of_good _ b (regd_zeros n b h4 h10 hb) w).mono fun e w' h => ⟨h.1, h.2.1⟩⟩
  | false =>
    exact ⟨_, 2, rfl, rfl, of_bad _ (by rw [tx_size, List.length_replicate]; omega) (may_no n hm) w⟩
/-- Of 64 registers, one of them any byte. -/
theorem of_byte (i : Nat) (hi : i < 64) (y : Nat) (hy : y < 256) (w : World) : ∃ (q : Value) (c : Int), ((c == 0) = decide ((y : Int) ≤ 26)) ∧
    Calls Tryd.prog 25 #[.string (tx ((List.replicate 64 0).set i (UInt8.ofNat y)))] w fun e w' => e = .returned (.tuple #[q, .int .i64 c]) ∧ Below w.heap.size w w' := by
  have hyt : (UInt8.ofNat y).toNat = y := by rw [UInt8.toNat_ofNat']; omega
  have hsz : (tx ((List.replicate 64 0).set i (UInt8.ofNat y))).size = 64 := by rw [tx_size, List.length_set, List.length_replicate]
  have hdl : (tx ((List.replicate 64 0).set i (UInt8.ofNat y))).data.toList = (List.replicate 64 0).set i (UInt8.ofNat y) := by simp [tx]
  by_cases h : y ≤ 26
  · refine ⟨_, 0, (decide_eq_true (show (y : Int) ≤ 26 by omega)).symm, (of_good _ 6 ⟨by decide, by decide, by rw [hsz], ?_⟩ w).mono fun e w' h => ⟨h.1, h.2.1⟩⟩
    rw [hdl]
    intro x hx
    rcases List.mem_or_eq_of_mem_set hx with h1 | h1
    · rw [List.eq_of_mem_replicate h1]; decide
    · rw [h1, hyt]; exact h
  · refine ⟨_, 2, (decide_eq_false (show ¬ (y : Int) ≤ 26 by omega)).symm, of_bad _ (by rw [hsz]; decide) ?_ w⟩
    rintro b ⟨_, _, _, hl⟩
    rw [hdl] at hl
    have := hl (UInt8.ofNat y) (List.mem_set (by simpa using hi) _)
    rw [hyt] at this
    exact h this
/-- A new sketch of any bits. -/
theorem new_bits (x : Int) (w : World) : ∃ (q : Value) (c : Int), ((c == 0) = (decide (4 ≤ x) && decide (x ≤ 10))) ∧
    Calls Tryd.prog 11 #[.int .i64 x] w fun e w' => e = .returned (.tuple #[q, .int .i64 c]) ∧ Below w.heap.size w w' := by
  by_cases h : 4 ≤ x ∧ x ≤ 10
  · refine ⟨.pointer (some ⟨w.heap.size, 0, none⟩), 0, by simp [h], ?_⟩
    refine (new_in x h.1 h.2 w).mono ?_
    rintro e w' ⟨rfl, rfl⟩
    exact ⟨rfl, (Below.refl _ _).alloc (Nat.le_refl _) _⟩
  · refine ⟨.pointer none, 1, ?_, ?_⟩
    · by_cases h4 : 4 ≤ x
      · have : ¬ x ≤ 10 := fun h5 => h ⟨h4, h5⟩
        simp [h4, this]
      · simp [h4]
    · refine (new_out x (by omega) w).mono ?_
      rintro e w' ⟨rfl, rfl⟩
      exact ⟨rfl, Below.refl _ _⟩
end Go.Proofs.YtdcjfefnkjdchaaDoor
