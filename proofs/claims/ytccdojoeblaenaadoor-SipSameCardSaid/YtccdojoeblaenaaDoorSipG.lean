/- The document's own rank; the chapter's examples. -/
import Derived.Test.YtccdojoeblaenaaDoorSipF
import Derived.Laws.IdiomStrings
namespace Go.Proofs.YtccdojoeblaenaaDoor
open Go Go.RowKit

theorem bit_low (c m j : Nat) (h : j < c) : 2 ^ c * (2 * m + 1) / 2 ^ j % 2 = 0 := by
  have e : 2 ^ c = 2 ^ j * (2 * 2 ^ (c - j - 1)) := by
    rw [Nat.mul_comm 2, ← Nat.pow_succ, ← Nat.pow_add]; congr 1; omega
  rw [e, Nat.mul_assoc, Nat.mul_div_cancel_left _ (Nat.pow_pos (by decide)), Nat.mul_assoc]
  omega
theorem bit_at (c m : Nat) : 2 ^ c * (2 * m + 1) / 2 ^ c % 2 = 1 := by
  rw [Nat.mul_div_cancel_left _ (Nat.pow_pos (by decide))]; omega
theorem ctz_first (x : Nat) (hx : x < 18446744073709551616) (m : Nat) (h0 : ∀ j, j < m → x / 2 ^ j % 2 = 0) (h1 : x / 2 ^ m % 2 = 1) : Lib.ctz 64 x = m := by
  have hx0 : x ≠ 0 := by intro h; subst h; simp at h1
  unfold Lib.ctz
  rw [if_neg hx0]
  obtain ⟨q, hq, hc⟩ := Lib.ctzFrom_spec 64 x (by omega) hx
  generalize Lib.ctzFrom 64 x = c at *
  rcases Nat.lt_trichotomy c m with h | h | h
  · have := h0 c h; rw [hq, bit_at] at this; omega
  · exact h
  · rw [hq, bit_low c q m h] at h1; omega
theorem ctz_none (x : Nat) (hx : x < 18446744073709551616) (m : Nat) (h0 : ∀ j, j < m → x / 2 ^ j % 2 = 0) : m ≤ Lib.ctz 64 x ∨ 64 < m := by
  by_cases hx0 : x = 0
  · subst hx0; simp [Lib.ctz]; omega
  · unfold Lib.ctz
    rw [if_neg hx0]
    obtain ⟨q, hq, hc⟩ := Lib.ctzFrom_spec 64 x (by omega) hx
    generalize Lib.ctzFrom 64 x = c at *
    left
    rcases Nat.lt_or_ge c m with h | h
    · have := h0 c h; rw [hq, bit_at] at this; omega
    · exact h
theorem bit_test (h n : Nat) : ((h : Int) / 2 ^ n).tmod 2 = 1 ↔ h / 2 ^ n % 2 = 1 := by
  rw [show ((h : Int) / 2 ^ n) = ((h / 2 ^ n : Nat) : Int) from by push_cast; rfl]
  generalize h / 2 ^ n = q
  rw [Int.tmod_eq_emod_of_nonneg (Int.natCast_nonneg _)]
  omega
def LowZero (h f k : Nat) : Prop := ∀ j, j < k → h / 2 ^ f / 2 ^ j % 2 = 0
set_option maxHeartbeats 1000000 in
theorem ref_rank_in (h : Nat) (hh : h < 18446744073709551616) (f : Nat) (hf : f < 64) (w : World) :
    Calls Tryd.prog 14 #[.int .u64 h, .int .i64 f] w fun e w' => e = .returned (.int .i64 (srank h f)) ∧ w = w' := by
  go_enter Tryd.func14, Tryd.ntmps14
  go_wp2
  go_loop [5, 6] (fun n i => ∃ k : Nat, f + k ≤ 64 ∧ n = .int .i64 ((k : Int) + 1) ∧ i = .int .i64 ((f : Int) + k) ∧ LowZero h f k) (fun _ i => 64 - (intOf i).toNat)
  case atStart => exact ⟨0, by omega, rfl, by simp, fun j hj => by omega⟩
  case round =>
    obtain ⟨k, hk, rfl, rfl, hz⟩ := hrel
    by_cases hlt : (f : Int) + k < 64
    · have ht := bit_test h (f + k)
      have hb : h / 2 ^ (f + k) = h / 2 ^ f / 2 ^ k := by rw [Nat.pow_add, Nat.div_div_eq_div_mul]
      have Ht := Lib.hid ht
      have Hb := Lib.hid hb
      clear ht hb
      go_wp2
      · have h1 : (((h : Int) / 2 ^ (f + k)).tmod 2 == 1) = true := by assumption
        have h2 : h / 2 ^ f / 2 ^ k % 2 = 1 := by rw [← Hb.out]; exact Ht.out.1 (by simpa using h1)
        have hc := ctz_first _ (Nat.lt_of_le_of_lt (Nat.div_le_self h (2 ^ f)) hh) k hz h2
        go_ret
        refine ⟨congrArg (fun n => Ending.returned (.int .i64 n)) ?_, rfl⟩
        unfold srank
        rw [if_pos (by omega), Int.toNat_natCast, hc]
        omega
      · have h1 : (((h : Int) / 2 ^ (f + k)).tmod 2 == 1) = false := by assumption
        have h2 : h / 2 ^ f / 2 ^ k % 2 = 0 := by
          rw [← Hb.out]
          have := mt Ht.out.2 (by simpa using h1)
          omega
        refine ⟨⟨k + 1, by omega, by go_num, by rw [show ((f : Int) + (k + 1 : Nat)) = f + k + 1 from by omega], ?_⟩, by simp [intOf]; omega⟩
        intro j hj
        rcases Nat.lt_or_ge j k with h | h
        · exact hz j h
        · rw [show j = k from by omega]; exact h2
    · have hk2 : f + k = 64 := by omega
      have Hk := Lib.hid hk2
      clear hk2
      go_wp2
      go_ret
      refine ⟨congrArg (fun n => Ending.returned (.int .i64 n)) ?_, rfl⟩
      have hc := ctz_none _ (Nat.lt_of_le_of_lt (Nat.div_le_self h (2 ^ f)) hh) k hz
      have := Hk.out
      unfold srank
      rw [if_pos (by omega), Int.toNat_natCast]
      omega
theorem ref_rank_out (h : Int) (f : Int) (hf : f < 0 ∨ 64 ≤ f) (w : World) :
    Calls Tryd.prog 14 #[.int .u64 h, .int .i64 f] w fun e w' => e = .returned (.int .i64 0) ∧ w = w' := by
  rcases hf with hf | hf
  · go_enter Tryd.func14, Tryd.ntmps14
    go_wp2
    go_ret
    exact ⟨rfl, rfl⟩
  · have h0 : ¬ f < 0 := by omega
    go_enter Tryd.func14, Tryd.ntmps14
    go_wp2
    go_ret
    exact ⟨rfl, rfl⟩

def fifteen (k : Nat) : List UInt8 := (List.range k).map fun n => UInt8.ofNat n
theorem rank_8_0 (w : World) (hT : Tab w) : Calls Tryd.prog 13 #[.int .u64 8, .int .i64 0] w fun e w' => e = .returned (.int .i64 4) ∧ w = w' := by
  have h := rank_in 8 (by decide) 0 (by decide) w hT
  rw [show srank 8 ((0 : Nat) : Int) = 4 from by decide +kernel] at h
  exact h
theorem rank_0_60 (w : World) (hT : Tab w) : Calls Tryd.prog 13 #[.int .u64 0, .int .i64 60] w fun e w' => e = .returned (.int .i64 5) ∧ w = w' := by
  have h := rank_in 0 (by decide) 60 (by decide) w hT
  rw [show srank 0 ((60 : Nat) : Int) = 5 from by decide +kernel] at h
  exact h
theorem rank_1_64 (w : World) : Calls Tryd.prog 13 #[.int .u64 1, .int .i64 64] w fun e w' => e = .returned (.int .i64 0) ∧ w = w' :=
  rank_out 1 64 (Or.inr (by decide)) w
theorem sum_fifteen (w : World) : Calls Tryd.prog 11 #[.int .u64 506097522914230528, .int .u64 1084818905618843912, .string (ByteArray.mk (fifteen 15).toArray)] w fun e w' => e = .returned (.int .u64 11613035633349379557) ∧ Below w.heap.size w w' := by
  have h := sum_any 506097522914230528 1084818905618843912 (ByteArray.mk (fifteen 15).toArray) w (by decide +kernel)
  rw [show ssum 506097522914230528 1084818905618843912 (ByteArray.mk (fifteen 15).toArray).data.toList = 11613035633349379557 from by decide +kernel] at h
  exact h
set_option maxHeartbeats 1000000 in
theorem examples_any (w : World) (hT : Tab w) :
    Calls Tryd.prog 9 #[] w fun e w' => e = .returned (.bool true) ∧ Below w.heap.size w w' := by
  go_enter Tryd.func9, Tryd.ntmps9
  go_wp2_with fail
  refine (key_any _ _ (by decide)).mono ?_
  rintro e w1 ⟨rfl, hB1⟩
  have HT := Lib.hid hT
  clear hT
  go_wp2_with fail
  go_loopw [3, 4] (fun t i wr => ∃ k : Nat, k ≤ 15 ∧ t = .string (ByteArray.mk (fifteen k).toArray) ∧ i = .int .i64 k ∧ Below w.heap.size w wr) (fun _ i _ => 15 - (intOf i).toNat)
  case atStart => exact ⟨0, by omega, rfl, rfl, hB1⟩
  case round =>
    obtain ⟨k, hk, rfl, rfl, hB⟩ := hrel
    by_cases hlt : (k : Int) < 15
    · have hcv : (convert 30 9 (.slice (some ⟨wr.heap.size, 0, none⟩) 1 1)).run Tryd.prog (wr.alloc (.cells #[.int .u8 (k : Int)] 5)) = .ok (.string (ByteArray.mk #[UInt8.ofNat k])) (wr.alloc (.cells #[.int .u8 (k : Int)] 5)) := by
        refine run_convert_bytes_back _ _ _ 5 _ 1 [UInt8.ofNat k] Tryd.underlying30 Tryd.underlying5 Tryd.underlying9 ?_
        intro j hj
        have hj0 : j = 0 := by simpa using hj
        subst hj0
        have : (UInt8.ofNat k).toNat = k := by simp; omega
        simp only [List.getElem_cons_zero, this]
        simp [Addr.add]
      have hf : fifteen (k + 1) = fifteen k ++ [UInt8.ofNat k] := by simp [fifteen, List.range_succ]
      have hfl : (fifteen k).length ≤ 15 := by simp [fifteen]; omega
      have Hf := Lib.hid hf
      clear hf
      go_wp2
      go_roundw
      case rel => exact ⟨k + 1, by omega, by rw [Hf.out]; exact congrArg Value.string (ByteArray.ext (by simp)), by go_num, hB.alloc hB.size _⟩
      case measure => simp [intOf]; omega
    · have hk : k = 15 := by omega
      subst hk
      have hT := HT.out.below hB1
      have hT1 := HT.out.below hB
      have hne : (ssum 0 0 [120] == ssum 1 0 [120]) = false := by decide +kernel
      have hne2 : (ssum 0 0 [120] != ssum 1 0 [120]) = true := by decide +kernel
      have HT1 := Lib.hid hT1
      clear hT hT1 HT
      go_wp2_with fail
      refine (rank_8_0 _ HT1.out).mono ?_
      rintro e w' ⟨rfl, rfl⟩
      go_wp2_with fail
      refine (rank_0_60 _ HT1.out).mono ?_
      rintro e w' ⟨rfl, rfl⟩
      go_wp2_with fail
      refine (rank_1_64 _).mono ?_
      rintro e w' ⟨rfl, rfl⟩
      go_wp2_with fail
      refine (sum_fifteen _).mono ?_
      rintro e w4 ⟨rfl, hB4⟩
      go_wp2_with fail
      refine (sum_any 0 0 _ _ (by decide)).mono ?_
      rintro e w5 ⟨rfl, hB5⟩
      go_wp2_with fail
      refine (sum_any 1 0 _ _ (by decide)).mono ?_
      rintro e w6 ⟨rfl, hB6⟩
      have hB7 := (hB.trans (hB4.mono hB.size))
      have hB8 := (hB7.trans (hB5.mono hB7.size))
      have hB9 := (hB8.trans (hB6.mono hB8.size))
      clear hB1 hB hB4 hB5 hB6 hB7 hB8
      go_wp2
      go_ret
      exact ⟨rfl, hB9⟩
end Go.Proofs.YtccdojoeblaenaaDoor
