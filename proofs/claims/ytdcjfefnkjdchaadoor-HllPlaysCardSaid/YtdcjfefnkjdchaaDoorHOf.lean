/- A sketch of its registers. -/
import Derived.Test.YtdcjfefnkjdchaaDoorHMerge
import Derived.Test.YtdcjfefnkjdchaaDoorShelf
namespace Go.Proofs.YtdcjfefnkjdchaaDoor
open Go Go.RowKit

/-- How many bits the registers of a text of n bytes would have. -/
def obits (n : Nat) : Int := (Lib.bitLen n : Int) - 1
theorem len_any (n : Nat) (hn : n ≤ 9223372036854775807) (w : World) :
    Calls Tryd.prog 35 #[.int .u64 n] w fun e w' => e = .returned (.int .i64 (Lib.bitLen n)) ∧ w = w' := by
  refine (Tryd.bits_Len n w (by omega) (by omega)).mono ?_
  rintro e w' ⟨rfl, rfl⟩
  exact ⟨by simp, rfl⟩
theorem bitLen_log (n k : Nat) (h1 : 2 ^ k ≤ n) (h2 : n < 2 ^ (k + 1)) (hn : n < 2 ^ 64) : Lib.bitLen n = k + 1 := by
  rw [Lib.bitLen_shift k n h1 hn]
  have : n / 2 ^ k = 1 := by
    have hp : 0 < 2 ^ k := Nat.pow_pos (by decide)
    have ha : 1 ≤ n / 2 ^ k := (Nat.le_div_iff_mul_le hp).2 (by omega)
    have hb : n / 2 ^ k < 2 := (Nat.div_lt_iff_lt_mul hp).2 (by rw [Nat.pow_succ] at h2; omega)
    omega
  rw [this, show Lib.bitLen 1 = 1 from by decide]
theorem obits_cases (n : Nat) (hn : n ≤ 9223372036854775807) : n = 0 ∧ obits n = -1 ∨ ∃ k : Nat, k < 64 ∧ 2 ^ k ≤ n ∧ n < 2 ^ (k + 1) ∧ obits n = k := by
  by_cases h0 : n = 0
  · subst h0
    exact .inl ⟨rfl, by decide⟩
  · refine .inr ⟨Nat.log2 n, ?_, Nat.log2_self_le h0, Nat.lt_log2_self, ?_⟩
    · exact (Nat.log2_lt h0).2 (by omega)
    · have := bitLen_log n (Nat.log2 n) (Nat.log2_self_le h0) Nat.lt_log2_self (by omega)
      unfold obits
      rw [this]
      omega
theorem obits_le (n : Nat) (hn : n ≤ 9223372036854775807) : -1 ≤ obits n ∧ obits n < 64 := by
  rcases obits_cases n hn with ⟨_, h⟩ | ⟨k, hk, _, _, h⟩ <;> omega
theorem obits_pow (b : Nat) (hb : b ≤ 10) : obits (2 ^ b) = b := by
  have hp : 2 ^ b ≤ 2 ^ 10 := Nat.pow_le_pow_right (by decide) hb
  unfold obits
  rw [bitLen_log (2 ^ b) b (Nat.le_refl _) (by rw [Nat.pow_succ]; have := Nat.pow_pos (n := b) (show 0 < 2 by decide); omega) (by omega)]
  omega
set_option maxRecDepth 100000 in
set_option maxHeartbeats 2000000 in
theorem of_no (s : ByteArray) (hs : s.size ≤ 9223372036854775807) (h : obits s.size < 4 ∨ 10 < obits s.size) (w : World) :
    Calls Tryd.prog 25 #[.string s] w fun e w' => e = .returned (.tuple #[.pointer none, .int .i64 2]) ∧ Below w.heap.size w w' := by
  have hl := len_any s.size hs
  have hb := obits_le s.size hs
  have hn := new_out (obits s.size) h
  unfold obits at hn hb
  obtain ⟨n, hsn⟩ : ∃ n, s.size = n := ⟨_, rfl⟩
  rw [hsn] at hs hl hb hn
  clear h
  generalize Lib.bitLen n = x at *
  go_enter Tryd.func25, Tryd.ntmps25
  go_wp2_with fail
  refine (hl _).mono ?_
  rintro e w' ⟨rfl, rfl⟩
  go_wp2_with fail
  refine (hn _).mono ?_
  rintro e w' ⟨rfl, rfl⟩
  go_wp2
  go_ret2
  exact ⟨rfl, Below.refl _ _⟩
set_option maxRecDepth 100000 in
set_option maxHeartbeats 2000000 in
theorem of_odd (s : ByteArray) (hs : s.size ≤ 9223372036854775807) (b : Nat) (lo : 4 ≤ b) (hi : b ≤ 10) (h : obits s.size = b) (hne : ¬ 2 ^ b = s.size) (w : World) :
    Calls Tryd.prog 25 #[.string s] w fun e w' => e = .returned (.tuple #[.pointer none, .int .i64 2]) ∧ Below w.heap.size w w' := by
  have hl := len_any s.size hs
  have hn := new_any b lo hi
  have hu := fun B w => used_M B b lo hi (2 ^ b) rfl w
  have hM := pow_hi lo hi
  obtain ⟨n, hsn⟩ : ∃ n, s.size = n := ⟨_, rfl⟩
  rw [hsn] at hs hl h hne
  have hb : (Lib.bitLen n : Int) = (b : Int) + 1 := by unfold obits at h; omega
  generalize 2 ^ b = M at *
  rw [hb] at hl
  clear h hb
  have hne2 : ((M : Int) != (n : Int)) = true := by
    rw [bne_iff_ne]; omega
  go_enter Tryd.func25, Tryd.ntmps25
  go_wp2_with fail
  refine (hl _).mono ?_
  rintro e w' ⟨rfl, rfl⟩
  go_wp2_with fail
  refine (hn _).mono ?_
  rintro e w' ⟨rfl, hB, hS⟩
  go_wp2_with fail
  refine (hu _ _ hS.bits).mono ?_
  rintro e w1 ⟨rfl, rfl⟩
  go_wp2
  go_ret2
  exact ⟨rfl, hB⟩
end Go.Proofs.YtdcjfefnkjdchaaDoor
