/- FixedEnds, walked. -/
import Derived.Test.YtpbphocpkmkoeaaDoorFxBak
namespace Go.Proofs.YtpbphocpkmkoeaaDoor
open Go Go.RowKit

theorem u32_in {n : Int} (h : (Lit.int .u32 n).wf = true) : 0 ≤ n ∧ n ≤ 4294967295 := by
  simpa [Lit.wf, IntKind.min, IntKind.max, IntKind.signed, IntKind.bits] using h
theorem en0 : readF [57, 50, 50, 51, 51, 55, 50, 48, 51, 54, 56, 53, 52, 46, 55, 55, 53, 56, 48, 55] = (9223372036854775807, 0) := by decide +kernel
theorem en1 : readF [57, 50, 50, 51, 51, 55, 50, 48, 51, 54, 56, 53, 52, 46, 55, 55, 53, 56, 48, 56] = (0, 7) := by decide +kernel
theorem en2 : readF [45, 57, 50, 50, 51, 51, 55, 50, 48, 51, 54, 56, 53, 52, 46, 55, 55, 53, 56, 48, 56] = (-9223372036854775808, 0) := by decide +kernel
theorem en3 : readF [45, 57, 50, 50, 51, 51, 55, 50, 48, 51, 54, 56, 53, 52, 46, 55, 55, 53, 56, 48, 57] = (0, 7) := by decide +kernel
theorem val_48 (P : List UInt8) : val ([48] ++ P) = val P := by rw [val_app]; simp [val, valFrom]
theorem en_odd (z m : Nat) (hz : 6 ≤ z) (hz2 : z ≤ 14) (hm : m < 4294967296) : readF ([48, 46] ++ List.replicate z 48 ++ Lib.decDigits m ++ [49]) = (0, 7) := by
  have h10 : (Lib.decDigits m).length ≤ 10 := dec_le (k := 9) (by omega)
  have hP : AllDig ((List.replicate z 48 ++ Lib.decDigits m) ++ [49]) := ((AllDig.zeros z).app (dec_all m)).app (fun c hc => by rw [List.mem_singleton.1 hc]; decide)
  have := read_pt (s := []) (W := [48]) (P := (List.replicate z 48 ++ Lib.decDigits m) ++ [49]) (x := []) SgT.none (fun c hc => by rw [List.mem_singleton.1 hc]; decide) hP (by simp) ExT.none (by simp; omega)
  have e : [48, 46] ++ List.replicate z 48 ++ Lib.decDigits m ++ [49] = ([] : List UInt8) ++ ([48] ++ 46 :: ((List.replicate z 48 ++ Lib.decDigits m) ++ [49] ++ [])) := by simp
  rw [e, this, val_48]
  refine shV_odd ?_ (by simp; omega)
  rw [val_snoc, show ((49 : UInt8)).toNat = 49 from rfl]
  omega
theorem en_zero (z : Nat) (hz : 6 ≤ z) (hz2 : z ≤ 14) : readF ([48, 46] ++ List.replicate z 48) = (0, 0) := by
  have := read_pt (s := []) (W := [48]) (P := List.replicate z 48) (x := []) SgT.none (fun c hc => by rw [List.mem_singleton.1 hc]; decide) (AllDig.zeros z) (by intro h; have := congrArg List.length h; simp at this; omega) ExT.none (by simp; omega)
  have e : [48, 46] ++ List.replicate z 48 = ([] : List UInt8) ++ ([48] ++ 46 :: (List.replicate z 48 ++ [])) := by simp
  rw [e, this, val_48, val_zeros]
  rfl

set_option maxHeartbeats 8000000 in
set_option maxRecDepth 100000 in
theorem FixedEnds_walk (n : Int) (hn : (Lit.int .u32 n).wf = true) (y : Int) (hy : (Lit.int .u8 y).wf = true) (w : World) (hT : Tens w) :
    Calls Tryd.prog 7 #[.int .u32 n, .int .u8 y] w fun e w' => e = .returned (.bool true) ∧ Below w.heap.size w w' := by
  have HT := Lib.hid hT
  obtain ⟨y0, y1⟩ := u8_in hy
  obtain ⟨n0, n1⟩ := u32_in hn
  obtain ⟨m, rfl⟩ : ∃ m : Nat, n = (m : Int) := ⟨n.toNat, by omega⟩
  obtain ⟨z, hz⟩ : ∃ z : Nat, 6 + y % 9 = (z : Int) := ⟨(6 + y % 9).toNat, by omega⟩
  have hz6 : 6 ≤ z := by omega
  have hz14 : z ≤ 14 := by omega
  have e0 := fun w => readL_any [57, 50, 50, 51, 51, 55, 50, 48, 51, 54, 56, 53, 52, 46, 55, 55, 53, 56, 48, 55] (by unfold maxLen; decide) w
  rw [en0] at e0
  have e1 := fun w => readL_any [57, 50, 50, 51, 51, 55, 50, 48, 51, 54, 56, 53, 52, 46, 55, 55, 53, 56, 48, 56] (by unfold maxLen; decide) w
  rw [en1] at e1
  have e2 := fun w => readL_any [45, 57, 50, 50, 51, 51, 55, 50, 48, 51, 54, 56, 53, 52, 46, 55, 55, 53, 56, 48, 56] (by unfold maxLen; decide) w
  rw [en2] at e2
  have e3 := fun w => readL_any [45, 57, 50, 50, 51, 51, 55, 50, 48, 51, 54, 56, 53, 52, 46, 55, 55, 53, 56, 48, 57] (by unfold maxLen; decide) w
  rw [en3] at e3
  have hD := fun w => digits19 m (by omega) w
  have h10 : (Lib.decDigits m).length ≤ 10 := dec_le (k := 9) (by omega)
  have hA := fun w => readL_any ([48, 46] ++ List.replicate z 48 ++ Lib.decDigits m ++ [49]) (by unfold maxLen; simp; omega) w
  have hB := fun w => readL_any ([48, 46] ++ List.replicate z 48) (by unfold maxLen; simp; omega) w
  rw [en_odd z m hz6 hz14 (by omega), ← tx_app, ← tx_app] at hA
  rw [en_zero z hz6 hz14] at hB
  have hsz : ∀ k : Nat, (tx ([48, 46] ++ List.replicate k 48)).size = k + 2 := fun k => by rw [tx_len]; simp
  obtain ⟨R, hR⟩ : ∃ R, tx ([48, 46] ++ List.replicate z 48) = R := ⟨_, rfl⟩
  have hRs := hsz z
  rw [hR] at hA hB hRs
  have hDs : (tx (Lib.decDigits m)).size ≤ 10 := by rw [tx_len]; exact h10
  have s1 : R.size + (tx (Lib.decDigits m)).size ≤ 9223372036854775807 := by omega
  have s2 : (R ++ tx (Lib.decDigits m)).size + (⟨#[49]⟩ : ByteArray).size ≤ 9223372036854775807 := by rw [ByteArray.size_append]; show R.size + (tx (Lib.decDigits m)).size + 1 ≤ _; omega
  generalize tx (Lib.decDigits m) = D at hD hA s1 s2 hDs
  have HSZ := Lib.hid hsz
  have HR := Lib.hid hR
  clear hsz hR h10 hRs hDs hT hn hy
  go_enter Tryd.func7, Tryd.ntmps7
  go_wp2_with fail
  refine (examples_any _ HT.out).mono ?_
  rintro e w1 ⟨rfl, hB1⟩
  have hE1 := hB1
  clear hB1
  go_wp2_with fail
  refine (e0 _).mono ?_
  rintro e w2 ⟨rfl, hB2⟩
  have hE2 := hE1.trans (hB2.mono hE1.size)
  clear hB2 hE1
  go_wp2_with fail
  refine (e1 _).mono ?_
  rintro e w3 ⟨rfl, hB3⟩
  have hE3 := hE2.trans (hB3.mono hE2.size)
  clear hB3 hE2
  go_wp2_with fail
  refine (e2 _).mono ?_
  rintro e w4 ⟨rfl, hB4⟩
  have hE4 := hE3.trans (hB4.mono hE3.size)
  clear hB4 hE3
  go_wp2_with fail
  refine (e3 _).mono ?_
  rintro e w5 ⟨rfl, hB5⟩
  have hE5 := hE4.trans (hB5.mono hE4.size)
  clear hB5 hE4
  clear e0 e1 e2 e3
  go_wp2
  go_loop [14, 15] (fun s8 i => ∃ k : Nat, k ≤ z ∧ i = .int .i64 k ∧ s8 = .string (tx ([48, 46] ++ List.replicate k 48))) (fun _ i => z - (intOf i).toNat)
  case atStart => exact ⟨0, Nat.zero_le _, rfl, rfl⟩
  case round =>
    obtain ⟨k, hk, rfl, rfl⟩ := hrel
    by_cases hlt : k < z
    · have hs3 : (tx ([48, 46] ++ List.replicate k 48)).size + (⟨#[48]⟩ : ByteArray).size ≤ 9223372036854775807 := by rw [HSZ.out]; show k + 2 + 1 ≤ _; omega
      go_wp2
      go_round
      case rel => exact ⟨k + 1, by omega, by go_num, by rw [List.replicate_succ', ← List.append_assoc]; exact congrArg Value.string (tx_app _ [48])⟩
      case measure => simp [intOf]; omega
    · obtain rfl : k = z := by omega
      rw [HR.out]
      clear hlt hk
      go_wp2_with fail
      refine (hD _).mono ?_
      rintro e w6 ⟨rfl, hB6⟩
      have hE6 := hE5.trans (hB6.mono hE5.size)
      clear hB6 hE5
      go_wp2_with fail
      refine (hA _).mono ?_
      rintro e w7 ⟨rfl, hB7⟩
      have hE7 := hE6.trans (hB7.mono hE6.size)
      clear hB7 hE6
      go_wp2_with fail
      refine (hB _).mono ?_
      rintro e w8 ⟨rfl, hB8⟩
      have hE8 := hE7.trans (hB8.mono hE7.size)
      clear hB8 hE7
      clear hA hB hD
      go_wp2
      try go_ret
      exact ⟨rfl, hE8⟩
end Go.Proofs.YtpbphocpkmkoeaaDoor
