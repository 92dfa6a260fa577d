/- The chapter's statements, walked: SipSame. -/
import Derived.Test.YtccdojoeblaenaaDoorSipJ
namespace Go.Proofs.YtccdojoeblaenaaDoor
open Go Go.RowKit

theorem mod_bit (x j : Nat) (h : j < 64) : x % 18446744073709551616 / 2 ^ j % 2 = x / 2 ^ j % 2 := by
  have h1 := Nat.testBit_eq_decide_div_mod_eq (x := x % 2 ^ 64) (i := j)
  have h2 := Nat.testBit_eq_decide_div_mod_eq (x := x) (i := j)
  rw [Nat.testBit_mod_two_pow] at h1
  simp only [h, decide_true, Bool.true_and] at h1
  rw [h2] at h1
  have h3 := decide_eq_decide.1 h1
  rw [show (18446744073709551616 : Nat) = 2 ^ 64 from rfl]
  omega
/-- The first bit of a number that is turned up by n places. -/
theorem ctz_moved (h : Nat) (hh : h < 18446744073709551616) (n : Nat) :
    Lib.ctz 64 (h * 2 ^ n % 18446744073709551616) = min (Lib.ctz 64 h + n) 64 := by
  have hlt : h * 2 ^ n % 18446744073709551616 < 18446744073709551616 := Nat.mod_lt _ (by decide)
  by_cases h0 : h = 0
  · subst h0; simp [Lib.ctz]
  · obtain ⟨q, hq, hc⟩ := Lib.ctzFrom_spec 64 h (Nat.pos_of_ne_zero h0) hh
    have e : Lib.ctz 64 h = Lib.ctzFrom 64 h := by unfold Lib.ctz; rw [if_neg h0]
    rw [e]
    generalize Lib.ctzFrom 64 h = c at *
    have hx : h * 2 ^ n = 2 ^ (c + n) * (2 * q + 1) := by rw [hq, Nat.pow_add]; simp only [Nat.mul_comm, Nat.mul_left_comm]
    rcases Nat.lt_or_ge (c + n) 64 with h1 | h1
    · rw [Nat.min_eq_left (by omega)]
      apply ctz_first _ hlt
      · intro j hj
        rw [mod_bit _ _ (by omega), hx]
        exact bit_low _ _ _ hj
      · rw [mod_bit _ _ h1, hx]
        exact bit_at _ _
    · rw [Nat.min_eq_right (by omega)]
      have : h * 2 ^ n % 18446744073709551616 = 0 := by
        rw [hx, show c + n = 64 + (c + n - 64) from by omega, Nat.pow_add, Nat.mul_assoc]
        exact Nat.mul_mod_right _ _
      rw [this]
      rfl
theorem same_rank (h : Nat) (hh : h < 18446744073709551616) (n : Nat) (hn : n < 64) :
    ∃ r : Nat, 1 ≤ r ∧ r ≤ 65 ∧ srank h 0 = r ∧ srank (h * 2 ^ n % 18446744073709551616) 0 = min ((r : Int) + n) 65 ∧ srank (h * 2 ^ n % 18446744073709551616) n = min (r : Int) (65 - n) := by
  have hlt : h * 2 ^ n % 18446744073709551616 < 18446744073709551616 := Nat.mod_lt _ (by decide)
  have hm := ctz_moved h hh n
  have hz := ctz_le h hh
  refine ⟨Lib.ctz 64 h + 1, by omega, by omega, ?_, ?_, ?_⟩
  · unfold srank
    rw [if_pos (by omega)]
    simp
    omega
  · unfold srank
    rw [if_pos (by omega)]
    simp only [Int.toNat_zero, Nat.pow_zero, Nat.div_one]
    rw [hm]
    omega
  · have hd : Lib.ctz 64 (h * 2 ^ n % 18446744073709551616 / 2 ^ n) = if Lib.ctz 64 h + n < 64 then Lib.ctz 64 h else 64 := by
      have hd2 : h * 2 ^ n % 18446744073709551616 / 2 ^ n < 18446744073709551616 := Nat.lt_of_le_of_lt (Nat.div_le_self _ _) hlt
      have hf := first_bit _ hlt
      rw [hm] at hf
      have hb : ∀ m, h * 2 ^ n % 18446744073709551616 / 2 ^ n / 2 ^ m = h * 2 ^ n % 18446744073709551616 / 2 ^ (n + m) := fun m => by rw [Nat.pow_add, Nat.div_div_eq_div_mul]
      split
      · rename_i h1
        rw [Nat.min_eq_left (by omega)] at hf
        apply ctz_first _ hd2
        · intro j hj
          rw [hb]
          exact hf.1 _ (by omega)
        · rw [hb, Nat.add_comm]
          exact hf.2 h1
      · rename_i h1
        have h2 : h * 2 ^ n % 18446744073709551616 = 0 := by
          by_cases h0 : h * 2 ^ n % 18446744073709551616 = 0
          · exact h0
          · have := (Lib.lowest_bit 64 _ h0 hlt).2
            omega
        rw [h2]
        simp [Lib.ctz]
    unfold srank
    rw [if_pos (by omega), Int.toNat_natCast, hd]
    split <;> omega

def bytesCap (s : ByteArray) (w : World) : Nat := grownCap w s.size 0 5
def bytesW (s : ByteArray) (w : World) : World :=
  w.drew.alloc (.cells (bytesRow s (grownCap w s.size 0 5)) 5 ((bytesRow s (grownCap w s.size 0 5)).size, (bytesRow s (grownCap w s.size 0 5)).size + 1))
theorem bytes_run (s : ByteArray) (w : World) : (convert 9 30 (.string s)).run Tryd.prog w = .ok (.slice (some ⟨w.heap.size, 0, none⟩) s.size (bytesCap s w)) (bytesW s w) :=
  run_bytes_of_string w 9 30 5 s Tryd.underlying9 Tryd.underlying30 Tryd.underlying5
theorem bytesW_below (s : ByteArray) (w : World) : Below w.heap.size w (bytesW s w) := (Below.refl _ _).drew.alloc (Nat.le_refl _) _
/-- The bytes of s lie in block b of W. -/
def BytesIn (s : ByteArray) (b : Nat) (W : World) : Prop := BytesAt W b s.data.toList ∧ b < W.heap.size
theorem bytesW_in (s : ByteArray) (w : World) : BytesIn s w.heap.size (bytesW s w) := by
  refine ⟨?_, by show w.heap.size < (w.heap.push _).size; simp⟩
  intro j hj
  have hb := bytesRow_at s (grownCap w s.size 0 5) j (by simpa using hj)
  unfold World.cell? bytesW
  rw [heap_drew_alloc]
  simpa using hb
theorem BytesIn.below {s : ByteArray} {b : Nat} {w w' : World} (h : BytesIn s b w) (hB : Below w.heap.size w w') : BytesIn s b w' :=
  ⟨h.1.below h.2 hB, Nat.lt_of_lt_of_le h.2 hB.size⟩
theorem BytesIn.back {s : ByteArray} {b : Nat} {W : World} (h : BytesIn s b W) (cap : Nat) : (convert 30 9 (.slice (some ⟨b, 0, none⟩) s.size cap)).run Tryd.prog W = .ok (.string s) W := by
  have := h.1.back cap s.size (by simp)
  rw [this]
def SumPost (s : ByteArray) (v : Int) (w : World) (e : Ending) (w' : World) : Prop := e = .returned (.int .u64 v) ∧ Below w.heap.size w w' ∧ ∀ b, BytesIn s b w → BytesIn s b w'
theorem sum_keep (k0 k1 : Int) (s : ByteArray) (w : World) (hs : s.size ≤ maxLen) :
    Calls Tryd.prog 11 #[.int .u64 k0, .int .u64 k1, .string s] w (SumPost s (ssum k0 k1 s.data.toList) w) :=
  (sum_any k0 k1 s w hs).mono fun _ _ ⟨he, hB⟩ => ⟨he, hB, fun _ h => h.below hB⟩

end Go.Proofs.YtccdojoeblaenaaDoor
