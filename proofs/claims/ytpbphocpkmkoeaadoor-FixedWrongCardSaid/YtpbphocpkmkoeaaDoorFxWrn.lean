/- FixedWrong, walked: a theorem for each text. -/
import Derived.Test.YtpbphocpkmkoeaaDoorFxWrg
namespace Go.Proofs.YtpbphocpkmkoeaaDoor
open Go Go.RowKit

theorem whole_plus (D : List UInt8) : wholeF ([43] ++ D) = (0, 2) := whole_head D (by decide) (by decide)

set_option maxHeartbeats 4000000 in
set_option maxRecDepth 100000 in
theorem wrong_0 (y : Int) (y0 : 0 ≤ y) (y1 : y ≤ 255) (hm : y % 18 = 0) (m : Nat) (hmm : m < 4294967296) (w : World) (hT : Tens w) :
    Calls Tryd.prog 8 #[.int .u8 y, .int .u32 m] w fun e w' => e = .returned (.bool true) ∧ Below w.heap.size w w' := by
  have HT := Lib.hid hT
  have h10 : (Lib.decDigits m).length ≤ 10 := dec_le (k := 9) (by omega)
  have hD := fun w => digits19 m (by omega) w
  have hq := wr0
  have h1 := fun w => readL_any ([]) (by unfold maxLen; simp; try omega) w
  have h2 := fun w => wholeL_any ([]) (by unfold maxLen; simp; try omega) w
  have h3 := fun w => wholeL_any ([43] ++ Lib.decDigits m) (by unfold maxLen; simp; omega) w
  have h4 := fun w => readL_any [46, 53] (by unfold maxLen; decide) w
  rw [hq.1] at h1
  rw [hq.2] at h2
  rw [whole_plus] at h3
  rw [half] at h4
  rw [← tx_app] at h3
  have hDs : (tx (Lib.decDigits m)).size ≤ 10 := by rw [tx_len]; exact h10
  have hmb : (m : Int) ≤ 4294967295 := by omega
  generalize tx (Lib.decDigits m) = D at *
  have q : ∀ b : ByteArray, b.size ≤ 10 → D.size + b.size ≤ 9223372036854775807 ∧ b.size + D.size ≤ 9223372036854775807 := fun b h => by omega
  clear hT hq h10 q hmm
  go_enter Tryd.func8, Tryd.ntmps8
  go_wp2_with fail
  refine (examples_any _ HT.out).mono ?_
  rintro e w1 ⟨rfl, hB1⟩
  have hE1 := hB1
  clear hB1
  go_wp2_with fail
  refine (hD _).mono ?_
  rintro e w2 ⟨rfl, hB2⟩
  have hE2 := hE1.trans (hB2.mono hE1.size)
  clear hB2 hE1
  clear hD
  have hE3 := hE2.alloc hE2.size (.cells #[.string ⟨#[]⟩, .string ⟨#[45]⟩, .string ⟨#[43]⟩, .string (D ++ ⟨#[46]⟩), .string ⟨#[46]⟩, .string (D ++ ⟨#[46, 49, 46, 50]⟩), .string (D ++ ⟨#[101]⟩), .string (D ++ ⟨#[101, 43]⟩), .string (D ++ ⟨#[101, 48, 48, 48, 48, 49]⟩), .string (⟨#[120]⟩ ++ D), .string (D ++ ⟨#[120]⟩), .string (⟨#[32]⟩ ++ D), .string (D ++ ⟨#[32]⟩), .string (⟨#[45, 45]⟩ ++ D), .string (D ++ ⟨#[101, 49, 46, 53]⟩), .string (⟨#[101]⟩ ++ D), .string (⟨#[48, 120]⟩ ++ D), .string (D ++ ⟨#[95, 49]⟩)] 9)
  go_wp2_with fail
  refine (h1 _).mono ?_
  rintro e w4 ⟨rfl, hB4⟩
  have hE4 := hE3.trans (hB4.mono hE3.size)
  clear hE2 hE3 hB4 h1
  go_wp2_with fail
  refine (h2 _).mono ?_
  rintro e w5 ⟨rfl, hB5⟩
  have hE5 := hE4.trans (hB5.mono hE4.size)
  clear hE4 hB5 h2
  go_wp2_with fail
  refine (h3 _).mono ?_
  rintro e w6 ⟨rfl, hB6⟩
  have hE6 := hE5.trans (hB6.mono hE5.size)
  clear hE5 hB6 h3
  go_wp2_with fail
  refine (h4 _).mono ?_
  rintro e w7 ⟨rfl, hB7⟩
  have hE7 := hE6.trans (hB7.mono hE6.size)
  go_wp2
  try go_ret
  exact ⟨rfl, hE7⟩

set_option maxHeartbeats 4000000 in
set_option maxRecDepth 100000 in
theorem wrong_1 (y : Int) (y0 : 0 ≤ y) (y1 : y ≤ 255) (hm : y % 18 = 1) (m : Nat) (hmm : m < 4294967296) (w : World) (hT : Tens w) :
    Calls Tryd.prog 8 #[.int .u8 y, .int .u32 m] w fun e w' => e = .returned (.bool true) ∧ Below w.heap.size w w' := by
  have HT := Lib.hid hT
  have h10 : (Lib.decDigits m).length ≤ 10 := dec_le (k := 9) (by omega)
  have hD := fun w => digits19 m (by omega) w
  have hq := wr1
  have h1 := fun w => readL_any ([45]) (by unfold maxLen; simp; try omega) w
  have h2 := fun w => wholeL_any ([45]) (by unfold maxLen; simp; try omega) w
  have h3 := fun w => wholeL_any ([43] ++ Lib.decDigits m) (by unfold maxLen; simp; omega) w
  have h4 := fun w => readL_any [46, 53] (by unfold maxLen; decide) w
  rw [hq.1] at h1
  rw [hq.2] at h2
  rw [whole_plus] at h3
  rw [half] at h4
  rw [← tx_app] at h3
  have hDs : (tx (Lib.decDigits m)).size ≤ 10 := by rw [tx_len]; exact h10
  have hmb : (m : Int) ≤ 4294967295 := by omega
  generalize tx (Lib.decDigits m) = D at *
  have q : ∀ b : ByteArray, b.size ≤ 10 → D.size + b.size ≤ 9223372036854775807 ∧ b.size + D.size ≤ 9223372036854775807 := fun b h => by omega
  clear hT hq h10 q hmm
  go_enter Tryd.func8, Tryd.ntmps8
  go_wp2_with fail
  refine (examples_any _ HT.out).mono ?_
  rintro e w1 ⟨rfl, hB1⟩
  have hE1 := hB1
  clear hB1
  go_wp2_with fail
  refine (hD _).mono ?_
  rintro e w2 ⟨rfl, hB2⟩
  have hE2 := hE1.trans (hB2.mono hE1.size)
  clear hB2 hE1
  clear hD
  have hE3 := hE2.alloc hE2.size (.cells #[.string ⟨#[]⟩, .string ⟨#[45]⟩, .string ⟨#[43]⟩, .string (D ++ ⟨#[46]⟩), .string ⟨#[46]⟩, .string (D ++ ⟨#[46, 49, 46, 50]⟩), .string (D ++ ⟨#[101]⟩), .string (D ++ ⟨#[101, 43]⟩), .string (D ++ ⟨#[101, 48, 48, 48, 48, 49]⟩), .string (⟨#[120]⟩ ++ D), .string (D ++ ⟨#[120]⟩), .string (⟨#[32]⟩ ++ D), .string (D ++ ⟨#[32]⟩), .string (⟨#[45, 45]⟩ ++ D), .string (D ++ ⟨#[101, 49, 46, 53]⟩), .string (⟨#[101]⟩ ++ D), .string (⟨#[48, 120]⟩ ++ D), .string (D ++ ⟨#[95, 49]⟩)] 9)
  go_wp2_with fail
  refine (h1 _).mono ?_
  rintro e w4 ⟨rfl, hB4⟩
  have hE4 := hE3.trans (hB4.mono hE3.size)
  clear hE2 hE3 hB4 h1
  go_wp2_with fail
  refine (h2 _).mono ?_
  rintro e w5 ⟨rfl, hB5⟩
  have hE5 := hE4.trans (hB5.mono hE4.size)
  clear hE4 hB5 h2
  go_wp2_with fail
  refine (h3 _).mono ?_
  rintro e w6 ⟨rfl, hB6⟩
  have hE6 := hE5.trans (hB6.mono hE5.size)
  clear hE5 hB6 h3
  go_wp2_with fail
  refine (h4 _).mono ?_
  rintro e w7 ⟨rfl, hB7⟩
  have hE7 := hE6.trans (hB7.mono hE6.size)
  go_wp2
  try go_ret
  exact ⟨rfl, hE7⟩

set_option maxHeartbeats 4000000 in
set_option maxRecDepth 100000 in
theorem wrong_2 (y : Int) (y0 : 0 ≤ y) (y1 : y ≤ 255) (hm : y % 18 = 2) (m : Nat) (hmm : m < 4294967296) (w : World) (hT : Tens w) :
    Calls Tryd.prog 8 #[.int .u8 y, .int .u32 m] w fun e w' => e = .returned (.bool true) ∧ Below w.heap.size w w' := by
  have HT := Lib.hid hT
  have h10 : (Lib.decDigits m).length ≤ 10 := dec_le (k := 9) (by omega)
  have hD := fun w => digits19 m (by omega) w
  have hq := wr2
  have h1 := fun w => readL_any ([43]) (by unfold maxLen; simp; try omega) w
  have h2 := fun w => wholeL_any ([43]) (by unfold maxLen; simp; try omega) w
  have h3 := fun w => wholeL_any ([43] ++ Lib.decDigits m) (by unfold maxLen; simp; omega) w
  have h4 := fun w => readL_any [46, 53] (by unfold maxLen; decide) w
  rw [hq.1] at h1
  rw [hq.2] at h2
  rw [whole_plus] at h3
  rw [half] at h4
  rw [← tx_app] at h3
  have hDs : (tx (Lib.decDigits m)).size ≤ 10 := by rw [tx_len]; exact h10
  have hmb : (m : Int) ≤ 4294967295 := by omega
  generalize tx (Lib.decDigits m) = D at *
  have q : ∀ b : ByteArray, b.size ≤ 10 → D.size + b.size ≤ 9223372036854775807 ∧ b.size + D.size ≤ 9223372036854775807 := fun b h => by omega
  clear hT hq h10 q hmm
  go_enter Tryd.func8, Tryd.ntmps8
  go_wp2_with fail
  refine (examples_any _ HT.out).mono ?_
  rintro e w1 ⟨rfl, hB1⟩
  have hE1 := hB1
  clear hB1
  go_wp2_with fail
  refine (hD _).mono ?_
  rintro e w2 ⟨rfl, hB2⟩
  have hE2 := hE1.trans (hB2.mono hE1.size)
  clear hB2 hE1
  clear hD
  have hE3 := hE2.alloc hE2.size (.cells #[.string ⟨#[]⟩, .string ⟨#[45]⟩, .string ⟨#[43]⟩, .string (D ++ ⟨#[46]⟩), .string ⟨#[46]⟩, .string (D ++ ⟨#[46, 49, 46, 50]⟩), .string (D ++ ⟨#[101]⟩), .string (D ++ ⟨#[101, 43]⟩), .string (D ++ ⟨#[101, 48, 48, 48, 48, 49]⟩), .string (⟨#[120]⟩ ++ D), .string (D ++ ⟨#[120]⟩), .string (⟨#[32]⟩ ++ D), .string (D ++ ⟨#[32]⟩), .string (⟨#[45, 45]⟩ ++ D), .string (D ++ ⟨#[101, 49, 46, 53]⟩), .string (⟨#[101]⟩ ++ D), .string (⟨#[48, 120]⟩ ++ D), .string (D ++ ⟨#[95, 49]⟩)] 9)
  go_wp2_with fail
  refine (h1 _).mono ?_
  rintro e w4 ⟨rfl, hB4⟩
  have hE4 := hE3.trans (hB4.mono hE3.size)
  clear hE2 hE3 hB4 h1
  go_wp2_with fail
  refine (h2 _).mono ?_
  rintro e w5 ⟨rfl, hB5⟩
  have hE5 := hE4.trans (hB5.mono hE4.size)
  clear hE4 hB5 h2
  go_wp2_with fail
  refine (h3 _).mono ?_
  rintro e w6 ⟨rfl, hB6⟩
  have hE6 := hE5.trans (hB6.mono hE5.size)
  clear hE5 hB6 h3
  go_wp2_with fail
  refine (h4 _).mono ?_
  rintro e w7 ⟨rfl, hB7⟩
  have hE7 := hE6.trans (hB7.mono hE6.size)
  go_wp2
  try go_ret
  exact ⟨rfl, hE7⟩

set_option maxHeartbeats 4000000 in
set_option maxRecDepth 100000 in
theorem wrong_3 (y : Int) (y0 : 0 ≤ y) (y1 : y ≤ 255) (hm : y % 18 = 3) (m : Nat) (hmm : m < 4294967296) (w : World) (hT : Tens w) :
    Calls Tryd.prog 8 #[.int .u8 y, .int .u32 m] w fun e w' => e = .returned (.bool true) ∧ Below w.heap.size w w' := by
  have HT := Lib.hid hT
  have h10 : (Lib.decDigits m).length ≤ 10 := dec_le (k := 9) (by omega)
  have hD := fun w => digits19 m (by omega) w
  have hq := wr3 (dec_all m) (dec_ne m)
  have h1 := fun w => readL_any (Lib.decDigits m ++ [46]) (by unfold maxLen; simp; try omega) w
  have h2 := fun w => wholeL_any (Lib.decDigits m ++ [46]) (by unfold maxLen; simp; try omega) w
  have h3 := fun w => wholeL_any ([43] ++ Lib.decDigits m) (by unfold maxLen; simp; omega) w
  have h4 := fun w => readL_any [46, 53] (by unfold maxLen; decide) w
  rw [hq.1] at h1
  rw [hq.2] at h2
  rw [whole_plus] at h3
  rw [half] at h4
  rw [← tx_app] at h3 h1 h2
  have hDs : (tx (Lib.decDigits m)).size ≤ 10 := by rw [tx_len]; exact h10
  have hmb : (m : Int) ≤ 4294967295 := by omega
  generalize tx (Lib.decDigits m) = D at *
  have q : ∀ b : ByteArray, b.size ≤ 10 → D.size + b.size ≤ 9223372036854775807 ∧ b.size + D.size ≤ 9223372036854775807 := fun b h => by omega
  clear hT hq h10 q hmm
  go_enter Tryd.func8, Tryd.ntmps8
  go_wp2_with fail
  refine (examples_any _ HT.out).mono ?_
  rintro e w1 ⟨rfl, hB1⟩
  have hE1 := hB1
  clear hB1
  go_wp2_with fail
  refine (hD _).mono ?_
  rintro e w2 ⟨rfl, hB2⟩
  have hE2 := hE1.trans (hB2.mono hE1.size)
  clear hB2 hE1
  clear hD
  have hE3 := hE2.alloc hE2.size (.cells #[.string ⟨#[]⟩, .string ⟨#[45]⟩, .string ⟨#[43]⟩, .string (D ++ ⟨#[46]⟩), .string ⟨#[46]⟩, .string (D ++ ⟨#[46, 49, 46, 50]⟩), .string (D ++ ⟨#[101]⟩), .string (D ++ ⟨#[101, 43]⟩), .string (D ++ ⟨#[101, 48, 48, 48, 48, 49]⟩), .string (⟨#[120]⟩ ++ D), .string (D ++ ⟨#[120]⟩), .string (⟨#[32]⟩ ++ D), .string (D ++ ⟨#[32]⟩), .string (⟨#[45, 45]⟩ ++ D), .string (D ++ ⟨#[101, 49, 46, 53]⟩), .string (⟨#[101]⟩ ++ D), .string (⟨#[48, 120]⟩ ++ D), .string (D ++ ⟨#[95, 49]⟩)] 9)
  go_wp2_with fail
  refine (h1 _).mono ?_
  rintro e w4 ⟨rfl, hB4⟩
  have hE4 := hE3.trans (hB4.mono hE3.size)
  clear hE2 hE3 hB4 h1
  go_wp2_with fail
  refine (h2 _).mono ?_
  rintro e w5 ⟨rfl, hB5⟩
  have hE5 := hE4.trans (hB5.mono hE4.size)
  clear hE4 hB5 h2
  go_wp2_with fail
  refine (h3 _).mono ?_
  rintro e w6 ⟨rfl, hB6⟩
  have hE6 := hE5.trans (hB6.mono hE5.size)
  clear hE5 hB6 h3
  go_wp2_with fail
  refine (h4 _).mono ?_
  rintro e w7 ⟨rfl, hB7⟩
  have hE7 := hE6.trans (hB7.mono hE6.size)
  go_wp2
  try go_ret
  exact ⟨rfl, hE7⟩

set_option maxHeartbeats 4000000 in
set_option maxRecDepth 100000 in
theorem wrong_4 (y : Int) (y0 : 0 ≤ y) (y1 : y ≤ 255) (hm : y % 18 = 4) (m : Nat) (hmm : m < 4294967296) (w : World) (hT : Tens w) :
    Calls Tryd.prog 8 #[.int .u8 y, .int .u32 m] w fun e w' => e = .returned (.bool true) ∧ Below w.heap.size w w' := by
  have HT := Lib.hid hT
  have h10 : (Lib.decDigits m).length ≤ 10 := dec_le (k := 9) (by omega)
  have hD := fun w => digits19 m (by omega) w
  have hq := wr4
  have h1 := fun w => readL_any ([46]) (by unfold maxLen; simp; try omega) w
  have h2 := fun w => wholeL_any ([46]) (by unfold maxLen; simp; try omega) w
  have h3 := fun w => wholeL_any ([43] ++ Lib.decDigits m) (by unfold maxLen; simp; omega) w
  have h4 := fun w => readL_any [46, 53] (by unfold maxLen; decide) w
  rw [hq.1] at h1
  rw [hq.2] at h2
  rw [whole_plus] at h3
  rw [half] at h4
  rw [← tx_app] at h3
  have hDs : (tx (Lib.decDigits m)).size ≤ 10 := by rw [tx_len]; exact h10
  have hmb : (m : Int) ≤ 4294967295 := by omega
  generalize tx (Lib.decDigits m) = D at *
  have q : ∀ b : ByteArray, b.size ≤ 10 → D.size + b.size ≤ 9223372036854775807 ∧ b.size + D.size ≤ 9223372036854775807 := fun b h => by omega
  clear hT hq h10 q hmm
  go_enter Tryd.func8, Tryd.ntmps8
  go_wp2_with fail
  refine (examples_any _ HT.out).mono ?_
  rintro e w1 ⟨rfl, hB1⟩
  have hE1 := hB1
  clear hB1
  go_wp2_with fail
  refine (hD _).mono ?_
  rintro e w2 ⟨rfl, hB2⟩
  have hE2 := hE1.trans (hB2.mono hE1.size)
  clear hB2 hE1
  clear hD
  have hE3 := hE2.alloc hE2.size (.cells #[.string ⟨#[]⟩, .string ⟨#[45]⟩, .string ⟨#[43]⟩, .string (D ++ ⟨#[46]⟩), .string ⟨#[46]⟩, .string (D ++ ⟨#[46, 49, 46, 50]⟩), .string (D ++ ⟨#[101]⟩), .string (D ++ ⟨#[101, 43]⟩), .string (D ++ ⟨#[101, 48, 48, 48, 48, 49]⟩), .string (⟨#[120]⟩ ++ D), .string (D ++ ⟨#[120]⟩), .string (⟨#[32]⟩ ++ D), .string (D ++ ⟨#[32]⟩), .string (⟨#[45, 45]⟩ ++ D), .string (D ++ ⟨#[101, 49, 46, 53]⟩), .string (⟨#[101]⟩ ++ D), .string (⟨#[48, 120]⟩ ++ D), .string (D ++ ⟨#[95, 49]⟩)] 9)
  go_wp2_with fail
  refine (h1 _).mono ?_
  rintro e w4 ⟨rfl, hB4⟩
  have hE4 := hE3.trans (hB4.mono hE3.size)
  clear hE2 hE3 hB4 h1
  go_wp2_with fail
  refine (h2 _).mono ?_
  rintro e w5 ⟨rfl, hB5⟩
  have hE5 := hE4.trans (hB5.mono hE4.size)
  clear hE4 hB5 h2
  go_wp2_with fail
  refine (h3 _).mono ?_
  rintro e w6 ⟨rfl, hB6⟩
  have hE6 := hE5.trans (hB6.mono hE5.size)
  clear hE5 hB6 h3
  go_wp2_with fail
  refine (h4 _).mono ?_
  rintro e w7 ⟨rfl, hB7⟩
  have hE7 := hE6.trans (hB7.mono hE6.size)
  go_wp2
  try go_ret
  exact ⟨rfl, hE7⟩

set_option maxHeartbeats 4000000 in
set_option maxRecDepth 100000 in
theorem wrong_5 (y : Int) (y0 : 0 ≤ y) (y1 : y ≤ 255) (hm : y % 18 = 5) (m : Nat) (hmm : m < 4294967296) (w : World) (hT : Tens w) :
    Calls Tryd.prog 8 #[.int .u8 y, .int .u32 m] w fun e w' => e = .returned (.bool true) ∧ Below w.heap.size w w' := by
  have HT := Lib.hid hT
  have h10 : (Lib.decDigits m).length ≤ 10 := dec_le (k := 9) (by omega)
  have hD := fun w => digits19 m (by omega) w
  have hq := wr5 (dec_all m) (dec_ne m)
  have h1 := fun w => readL_any (Lib.decDigits m ++ [46, 49, 46, 50]) (by unfold maxLen; simp; try omega) w
  have h2 := fun w => wholeL_any (Lib.decDigits m ++ [46, 49, 46, 50]) (by unfold maxLen; simp; try omega) w
  have h3 := fun w => wholeL_any ([43] ++ Lib.decDigits m) (by unfold maxLen; simp; omega) w
  have h4 := fun w => readL_any [46, 53] (by unfold maxLen; decide) w
  rw [hq.1] at h1
  rw [hq.2] at h2
  rw [whole_plus] at h3
  rw [half] at h4
  rw [← tx_app] at h3 h1 h2
  have hDs : (tx (Lib.decDigits m)).size ≤ 10 := by rw [tx_len]; exact h10
  have hmb : (m : Int) ≤ 4294967295 := by omega
  generalize tx (Lib.decDigits m) = D at *
  have q : ∀ b : ByteArray, b.size ≤ 10 → D.size + b.size ≤ 9223372036854775807 ∧ b.size + D.size ≤ 9223372036854775807 := fun b h => by omega
  clear hT hq h10 q hmm
  go_enter Tryd.func8, Tryd.ntmps8
  go_wp2_with fail
  refine (examples_any _ HT.out).mono ?_
  rintro e w1 ⟨rfl, hB1⟩
  have hE1 := hB1
  clear hB1
  go_wp2_with fail
  refine (hD _).mono ?_
  rintro e w2 ⟨rfl, hB2⟩
  have hE2 := hE1.trans (hB2.mono hE1.size)
  clear hB2 hE1
  clear hD
  have hE3 := hE2.alloc hE2.size (.cells #[.string ⟨#[]⟩, .string ⟨#[45]⟩, .string ⟨#[43]⟩, .string (D ++ ⟨#[46]⟩), .string ⟨#[46]⟩, .string (D ++ ⟨#[46, 49, 46, 50]⟩), .string (D ++ ⟨#[101]⟩), .string (D ++ ⟨#[101, 43]⟩), .string (D ++ ⟨#[101, 48, 48, 48, 48, 49]⟩), .string (⟨#[120]⟩ ++ D), .string (D ++ ⟨#[120]⟩), .string (⟨#[32]⟩ ++ D), .string (D ++ ⟨#[32]⟩), .string (⟨#[45, 45]⟩ ++ D), .string (D ++ ⟨#[101, 49, 46, 53]⟩), .string (⟨#[101]⟩ ++ D), .string (⟨#[48, 120]⟩ ++ D), .string (D ++ ⟨#[95, 49]⟩)] 9)
  go_wp2_with fail
  refine (h1 _).mono ?_
  rintro e w4 ⟨rfl, hB4⟩
  have hE4 := hE3.trans (hB4.mono hE3.size)
  clear hE2 hE3 hB4 h1
  go_wp2_with fail
  refine (h2 _).mono ?_
  rintro e w5 ⟨rfl, hB5⟩
  have hE5 := hE4.trans (hB5.mono hE4.size)
  clear hE4 hB5 h2
  go_wp2_with fail
  refine (h3 _).mono ?_
  rintro e w6 ⟨rfl, hB6⟩
  have hE6 := hE5.trans (hB6.mono hE5.size)
  clear hE5 hB6 h3
  go_wp2_with fail
  refine (h4 _).mono ?_
  rintro e w7 ⟨rfl, hB7⟩
  have hE7 := hE6.trans (hB7.mono hE6.size)
  go_wp2
  try go_ret
  exact ⟨rfl, hE7⟩

set_option maxHeartbeats 4000000 in
set_option maxRecDepth 100000 in
theorem wrong_6 (y : Int) (y0 : 0 ≤ y) (y1 : y ≤ 255) (hm : y % 18 = 6) (m : Nat) (hmm : m < 4294967296) (w : World) (hT : Tens w) :
    Calls Tryd.prog 8 #[.int .u8 y, .int .u32 m] w fun e w' => e = .returned (.bool true) ∧ Below w.heap.size w w' := by
  have HT := Lib.hid hT
  have h10 : (Lib.decDigits m).length ≤ 10 := dec_le (k := 9) (by omega)
  have hD := fun w => digits19 m (by omega) w
  have hq := wr6 (dec_all m) (dec_ne m)
  have h1 := fun w => readL_any (Lib.decDigits m ++ [101]) (by unfold maxLen; simp; try omega) w
  have h2 := fun w => wholeL_any (Lib.decDigits m ++ [101]) (by unfold maxLen; simp; try omega) w
  have h3 := fun w => wholeL_any ([43] ++ Lib.decDigits m) (by unfold maxLen; simp; omega) w
  have h4 := fun w => readL_any [46, 53] (by unfold maxLen; decide) w
  rw [hq.1] at h1
  rw [hq.2] at h2
  rw [whole_plus] at h3
  rw [half] at h4
  rw [← tx_app] at h3 h1 h2
  have hDs : (tx (Lib.decDigits m)).size ≤ 10 := by rw [tx_len]; exact h10
  have hmb : (m : Int) ≤ 4294967295 := by omega
  generalize tx (Lib.decDigits m) = D at *
  have q : ∀ b : ByteArray, b.size ≤ 10 → D.size + b.size ≤ 9223372036854775807 ∧ b.size + D.size ≤ 9223372036854775807 := fun b h => by omega
  clear hT hq h10 q hmm
  go_enter Tryd.func8, Tryd.ntmps8
  go_wp2_with fail
  refine (examples_any _ HT.out).mono ?_
  rintro e w1 ⟨rfl, hB1⟩
  have hE1 := hB1
  clear hB1
  go_wp2_with fail
  refine (hD _).mono ?_
  rintro e w2 ⟨rfl, hB2⟩
  have hE2 := hE1.trans (hB2.mono hE1.size)
  clear hB2 hE1
  clear hD
  have hE3 := hE2.alloc hE2.size (.cells #[.string ⟨#[]⟩, .string ⟨#[45]⟩, .string ⟨#[43]⟩, .string (D ++ ⟨#[46]⟩), .string ⟨#[46]⟩, .string (D ++ ⟨#[46, 49, 46, 50]⟩), .string (D ++ ⟨#[101]⟩), .string (D ++ ⟨#[101, 43]⟩), .string (D ++ ⟨#[101, 48, 48, 48, 48, 49]⟩), .string (⟨#[120]⟩ ++ D), .string (D ++ ⟨#[120]⟩), .string (⟨#[32]⟩ ++ D), .string (D ++ ⟨#[32]⟩), .string (⟨#[45, 45]⟩ ++ D), .string (D ++ ⟨#[101, 49, 46, 53]⟩), .string (⟨#[101]⟩ ++ D), .string (⟨#[48, 120]⟩ ++ D), .string (D ++ ⟨#[95, 49]⟩)] 9)
  go_wp2_with fail
  refine (h1 _).mono ?_
  rintro e w4 ⟨rfl, hB4⟩
  have hE4 := hE3.trans (hB4.mono hE3.size)
  clear hE2 hE3 hB4 h1
  go_wp2_with fail
  refine (h2 _).mono ?_
  rintro e w5 ⟨rfl, hB5⟩
  have hE5 := hE4.trans (hB5.mono hE4.size)
  clear hE4 hB5 h2
  go_wp2_with fail
  refine (h3 _).mono ?_
  rintro e w6 ⟨rfl, hB6⟩
  have hE6 := hE5.trans (hB6.mono hE5.size)
  clear hE5 hB6 h3
  go_wp2_with fail
  refine (h4 _).mono ?_
  rintro e w7 ⟨rfl, hB7⟩
  have hE7 := hE6.trans (hB7.mono hE6.size)
  go_wp2
  try go_ret
  exact ⟨rfl, hE7⟩

set_option maxHeartbeats 4000000 in
set_option maxRecDepth 100000 in
theorem wrong_7 (y : Int) (y0 : 0 ≤ y) (y1 : y ≤ 255) (hm : y % 18 = 7) (m : Nat) (hmm : m < 4294967296) (w : World) (hT : Tens w) :
    Calls Tryd.prog 8 #[.int .u8 y, .int .u32 m] w fun e w' => e = .returned (.bool true) ∧ Below w.heap.size w w' := by
  have HT := Lib.hid hT
  have h10 : (Lib.decDigits m).length ≤ 10 := dec_le (k := 9) (by omega)
  have hD := fun w => digits19 m (by omega) w
  have hq := wr7 (dec_all m) (dec_ne m)
  have h1 := fun w => readL_any (Lib.decDigits m ++ [101, 43]) (by unfold maxLen; simp; try omega) w
  have h2 := fun w => wholeL_any (Lib.decDigits m ++ [101, 43]) (by unfold maxLen; simp; try omega) w
  have h3 := fun w => wholeL_any ([43] ++ Lib.decDigits m) (by unfold maxLen; simp; omega) w
  have h4 := fun w => readL_any [46, 53] (by unfold maxLen; decide) w
  rw [hq.1] at h1
  rw [hq.2] at h2
  rw [whole_plus] at h3
  rw [half] at h4
  rw [← tx_app] at h3 h1 h2
  have hDs : (tx (Lib.decDigits m)).size ≤ 10 := by rw [tx_len]; exact h10
  have hmb : (m : Int) ≤ 4294967295 := by omega
  generalize tx (Lib.decDigits m) = D at *
  have q : ∀ b : ByteArray, b.size ≤ 10 → D.size + b.size ≤ 9223372036854775807 ∧ b.size + D.size ≤ 9223372036854775807 := fun b h => by omega
  clear hT hq h10 q hmm
  go_enter Tryd.func8, Tryd.ntmps8
  go_wp2_with fail
  refine (examples_any _ HT.out).mono ?_
  rintro e w1 ⟨rfl, hB1⟩
  have hE1 := hB1
  clear hB1
  go_wp2_with fail
  refine (hD _).mono ?_
  rintro e w2 ⟨rfl, hB2⟩
  have hE2 := hE1.trans (hB2.mono hE1.size)
  clear hB2 hE1
  clear hD
  have hE3 := hE2.alloc hE2.size (.cells #[.string ⟨#[]⟩, .string ⟨#[45]⟩, .string ⟨#[43]⟩, .string (D ++ ⟨#[46]⟩), .string ⟨#[46]⟩, .string (D ++ ⟨#[46, 49, 46, 50]⟩), .string (D ++ ⟨#[101]⟩), .string (D ++ ⟨#[101, 43]⟩), .string (D ++ ⟨#[101, 48, 48, 48, 48, 49]⟩), .string (⟨#[120]⟩ ++ D), .string (D ++ ⟨#[120]⟩), .string (⟨#[32]⟩ ++ D), .string (D ++ ⟨#[32]⟩), .string (⟨#[45, 45]⟩ ++ D), .string (D ++ ⟨#[101, 49, 46, 53]⟩), .string (⟨#[101]⟩ ++ D), .string (⟨#[48, 120]⟩ ++ D), .string (D ++ ⟨#[95, 49]⟩)] 9)
  go_wp2_with fail
  refine (h1 _).mono ?_
  rintro e w4 ⟨rfl, hB4⟩
  have hE4 := hE3.trans (hB4.mono hE3.size)
  clear hE2 hE3 hB4 h1
  go_wp2_with fail
  refine (h2 _).mono ?_
  rintro e w5 ⟨rfl, hB5⟩
  have hE5 := hE4.trans (hB5.mono hE4.size)
  clear hE4 hB5 h2
  go_wp2_with fail
  refine (h3 _).mono ?_
  rintro e w6 ⟨rfl, hB6⟩
  have hE6 := hE5.trans (hB6.mono hE5.size)
  clear hE5 hB6 h3
  go_wp2_with fail
  refine (h4 _).mono ?_
  rintro e w7 ⟨rfl, hB7⟩
  have hE7 := hE6.trans (hB7.mono hE6.size)
  go_wp2
  try go_ret
  exact ⟨rfl, hE7⟩

set_option maxHeartbeats 4000000 in
set_option maxRecDepth 100000 in
theorem wrong_8 (y : Int) (y0 : 0 ≤ y) (y1 : y ≤ 255) (hm : y % 18 = 8) (m : Nat) (hmm : m < 4294967296) (w : World) (hT : Tens w) :
    Calls Tryd.prog 8 #[.int .u8 y, .int .u32 m] w fun e w' => e = .returned (.bool true) ∧ Below w.heap.size w w' := by
  have HT := Lib.hid hT
  have h10 : (Lib.decDigits m).length ≤ 10 := dec_le (k := 9) (by omega)
  have hD := fun w => digits19 m (by omega) w
  have hq := wr8 (dec_all m) (dec_ne m)
  have h1 := fun w => readL_any (Lib.decDigits m ++ [101, 48, 48, 48, 48, 49]) (by unfold maxLen; simp; try omega) w
  have h2 := fun w => wholeL_any (Lib.decDigits m ++ [101, 48, 48, 48, 48, 49]) (by unfold maxLen; simp; try omega) w
  have h3 := fun w => wholeL_any ([43] ++ Lib.decDigits m) (by unfold maxLen; simp; omega) w
  have h4 := fun w => readL_any [46, 53] (by unfold maxLen; decide) w
  rw [hq.1] at h1
  rw [hq.2] at h2
  rw [whole_plus] at h3
  rw [half] at h4
  rw [← tx_app] at h3 h1 h2
  have hDs : (tx (Lib.decDigits m)).size ≤ 10 := by rw [tx_len]; exact h10
  have hmb : (m : Int) ≤ 4294967295 := by omega
  generalize tx (Lib.decDigits m) = D at *
  have q : ∀ b : ByteArray, b.size ≤ 10 → D.size + b.size ≤ 9223372036854775807 ∧ b.size + D.size ≤ 9223372036854775807 := fun b h => by omega
  clear hT hq h10 q hmm
  go_enter Tryd.func8, Tryd.ntmps8
  go_wp2_with fail
  refine (examples_any _ HT.out).mono ?_
  rintro e w1 ⟨rfl, hB1⟩
  have hE1 := hB1
  clear hB1
  go_wp2_with fail
  refine (hD _).mono ?_
  rintro e w2 ⟨rfl, hB2⟩
  have hE2 := hE1.trans (hB2.mono hE1.size)
  clear hB2 hE1
  clear hD
  have hE3 := hE2.alloc hE2.size (.cells #[.string ⟨#[]⟩, .string ⟨#[45]⟩, .string ⟨#[43]⟩, .string (D ++ ⟨#[46]⟩), .string ⟨#[46]⟩, .string (D ++ ⟨#[46, 49, 46, 50]⟩), .string (D ++ ⟨#[101]⟩), .string (D ++ ⟨#[101, 43]⟩), .string (D ++ ⟨#[101, 48, 48, 48, 48, 49]⟩), .string (⟨#[120]⟩ ++ D), .string (D ++ ⟨#[120]⟩), .string (⟨#[32]⟩ ++ D), .string (D ++ ⟨#[32]⟩), .string (⟨#[45, 45]⟩ ++ D), .string (D ++ ⟨#[101, 49, 46, 53]⟩), .string (⟨#[101]⟩ ++ D), .string (⟨#[48, 120]⟩ ++ D), .string (D ++ ⟨#[95, 49]⟩)] 9)
  go_wp2_with fail
  refine (h1 _).mono ?_
  rintro e w4 ⟨rfl, hB4⟩
  have hE4 := hE3.trans (hB4.mono hE3.size)
  clear hE2 hE3 hB4 h1
  go_wp2_with fail
  refine (h2 _).mono ?_
  rintro e w5 ⟨rfl, hB5⟩
  have hE5 := hE4.trans (hB5.mono hE4.size)
  clear hE4 hB5 h2
  go_wp2_with fail
  refine (h3 _).mono ?_
  rintro e w6 ⟨rfl, hB6⟩
  have hE6 := hE5.trans (hB6.mono hE5.size)
  clear hE5 hB6 h3
  go_wp2_with fail
  refine (h4 _).mono ?_
  rintro e w7 ⟨rfl, hB7⟩
  have hE7 := hE6.trans (hB7.mono hE6.size)
  go_wp2
  try go_ret
  exact ⟨rfl, hE7⟩

set_option maxHeartbeats 4000000 in
set_option maxRecDepth 100000 in
theorem wrong_9 (y : Int) (y0 : 0 ≤ y) (y1 : y ≤ 255) (hm : y % 18 = 9) (m : Nat) (hmm : m < 4294967296) (w : World) (hT : Tens w) :
    Calls Tryd.prog 8 #[.int .u8 y, .int .u32 m] w fun e w' => e = .returned (.bool true) ∧ Below w.heap.size w w' := by
  have HT := Lib.hid hT
  have h10 : (Lib.decDigits m).length ≤ 10 := dec_le (k := 9) (by omega)
  have hD := fun w => digits19 m (by omega) w
  have hq := wr9 (D := Lib.decDigits m)
  have h1 := fun w => readL_any ([120] ++ Lib.decDigits m) (by unfold maxLen; simp; try omega) w
  have h2 := fun w => wholeL_any ([120] ++ Lib.decDigits m) (by unfold maxLen; simp; try omega) w
  have h3 := fun w => wholeL_any ([43] ++ Lib.decDigits m) (by unfold maxLen; simp; omega) w
  have h4 := fun w => readL_any [46, 53] (by unfold maxLen; decide) w
  rw [hq.1] at h1
  rw [hq.2] at h2
  rw [whole_plus] at h3
  rw [half] at h4
  rw [← tx_app] at h3 h1 h2
  have hDs : (tx (Lib.decDigits m)).size ≤ 10 := by rw [tx_len]; exact h10
  have hmb : (m : Int) ≤ 4294967295 := by omega
  generalize tx (Lib.decDigits m) = D at *
  have q : ∀ b : ByteArray, b.size ≤ 10 → D.size + b.size ≤ 9223372036854775807 ∧ b.size + D.size ≤ 9223372036854775807 := fun b h => by omega
  clear hT hq h10 q hmm
  go_enter Tryd.func8, Tryd.ntmps8
  go_wp2_with fail
  refine (examples_any _ HT.out).mono ?_
  rintro e w1 ⟨rfl, hB1⟩
  have hE1 := hB1
  clear hB1
  go_wp2_with fail
  refine (hD _).mono ?_
  rintro e w2 ⟨rfl, hB2⟩
  have hE2 := hE1.trans (hB2.mono hE1.size)
  clear hB2 hE1
  clear hD
  have hE3 := hE2.alloc hE2.size (.cells #[.string ⟨#[]⟩, .string ⟨#[45]⟩, .string ⟨#[43]⟩, .string (D ++ ⟨#[46]⟩), .string ⟨#[46]⟩, .string (D ++ ⟨#[46, 49, 46, 50]⟩), .string (D ++ ⟨#[101]⟩), .string (D ++ ⟨#[101, 43]⟩), .string (D ++ ⟨#[101, 48, 48, 48, 48, 49]⟩), .string (⟨#[120]⟩ ++ D), .string (D ++ ⟨#[120]⟩), .string (⟨#[32]⟩ ++ D), .string (D ++ ⟨#[32]⟩), .string (⟨#[45, 45]⟩ ++ D), .string (D ++ ⟨#[101, 49, 46, 53]⟩), .string (⟨#[101]⟩ ++ D), .string (⟨#[48, 120]⟩ ++ D), .string (D ++ ⟨#[95, 49]⟩)] 9)
  go_wp2_with fail
  refine (h1 _).mono ?_
  rintro e w4 ⟨rfl, hB4⟩
  have hE4 := hE3.trans (hB4.mono hE3.size)
  clear hE2 hE3 hB4 h1
  go_wp2_with fail
  refine (h2 _).mono ?_
  rintro e w5 ⟨rfl, hB5⟩
  have hE5 := hE4.trans (hB5.mono hE4.size)
  clear hE4 hB5 h2
  go_wp2_with fail
  refine (h3 _).mono ?_
  rintro e w6 ⟨rfl, hB6⟩
  have hE6 := hE5.trans (hB6.mono hE5.size)
  clear hE5 hB6 h3
  go_wp2_with fail
  refine (h4 _).mono ?_
  rintro e w7 ⟨rfl, hB7⟩
  have hE7 := hE6.trans (hB7.mono hE6.size)
  go_wp2
  try go_ret
  exact ⟨rfl, hE7⟩

set_option maxHeartbeats 4000000 in
set_option maxRecDepth 100000 in
theorem wrong_10 (y : Int) (y0 : 0 ≤ y) (y1 : y ≤ 255) (hm : y % 18 = 10) (m : Nat) (hmm : m < 4294967296) (w : World) (hT : Tens w) :
    Calls Tryd.prog 8 #[.int .u8 y, .int .u32 m] w fun e w' => e = .returned (.bool true) ∧ Below w.heap.size w w' := by
  have HT := Lib.hid hT
  have h10 : (Lib.decDigits m).length ≤ 10 := dec_le (k := 9) (by omega)
  have hD := fun w => digits19 m (by omega) w
  have hq := wr10 (dec_all m) (dec_ne m)
  have h1 := fun w => readL_any (Lib.decDigits m ++ [120]) (by unfold maxLen; simp; try omega) w
  have h2 := fun w => wholeL_any (Lib.decDigits m ++ [120]) (by unfold maxLen; simp; try omega) w
  have h3 := fun w => wholeL_any ([43] ++ Lib.decDigits m) (by unfold maxLen; simp; omega) w
  have h4 := fun w => readL_any [46, 53] (by unfold maxLen; decide) w
  rw [hq.1] at h1
  rw [hq.2] at h2
  rw [whole_plus] at h3
  rw [half] at h4
  rw [← tx_app] at h3 h1 h2
  have hDs : (tx (Lib.decDigits m)).size ≤ 10 := by rw [tx_len]; exact h10
  have hmb : (m : Int) ≤ 4294967295 := by omega
  generalize tx (Lib.decDigits m) = D at *
  have q : ∀ b : ByteArray, b.size ≤ 10 → D.size + b.size ≤ 9223372036854775807 ∧ b.size + D.size ≤ 9223372036854775807 := fun b h => by omega
  clear hT hq h10 q hmm
  go_enter Tryd.func8, Tryd.ntmps8
  go_wp2_with fail
  refine (examples_any _ HT.out).mono ?_
  rintro e w1 ⟨rfl, hB1⟩
  have hE1 := hB1
  clear hB1
  go_wp2_with fail
  refine (hD _).mono ?_
  rintro e w2 ⟨rfl, hB2⟩
  have hE2 := hE1.trans (hB2.mono hE1.size)
  clear hB2 hE1
  clear hD
  have hE3 := hE2.alloc hE2.size (.cells #[.string ⟨#[]⟩, .string ⟨#[45]⟩, .string ⟨#[43]⟩, .string (D ++ ⟨#[46]⟩), .string ⟨#[46]⟩, .string (D ++ ⟨#[46, 49, 46, 50]⟩), .string (D ++ ⟨#[101]⟩), .string (D ++ ⟨#[101, 43]⟩), .string (D ++ ⟨#[101, 48, 48, 48, 48, 49]⟩), .string (⟨#[120]⟩ ++ D), .string (D ++ ⟨#[120]⟩), .string (⟨#[32]⟩ ++ D), .string (D ++ ⟨#[32]⟩), .string (⟨#[45, 45]⟩ ++ D), .string (D ++ ⟨#[101, 49, 46, 53]⟩), .string (⟨#[101]⟩ ++ D), .string (⟨#[48, 120]⟩ ++ D), .string (D ++ ⟨#[95, 49]⟩)] 9)
  go_wp2_with fail
  refine (h1 _).mono ?_
  rintro e w4 ⟨rfl, hB4⟩
  have hE4 := hE3.trans (hB4.mono hE3.size)
  clear hE2 hE3 hB4 h1
  go_wp2_with fail
  refine (h2 _).mono ?_
  rintro e w5 ⟨rfl, hB5⟩
  have hE5 := hE4.trans (hB5.mono hE4.size)
  clear hE4 hB5 h2
  go_wp2_with fail
  refine (h3 _).mono ?_
  rintro e w6 ⟨rfl, hB6⟩
  have hE6 := hE5.trans (hB6.mono hE5.size)
  clear hE5 hB6 h3
  go_wp2_with fail
  refine (h4 _).mono ?_
  rintro e w7 ⟨rfl, hB7⟩
  have hE7 := hE6.trans (hB7.mono hE6.size)
  go_wp2
  try go_ret
  exact ⟨rfl, hE7⟩

set_option maxHeartbeats 4000000 in
set_option maxRecDepth 100000 in
theorem wrong_11 (y : Int) (y0 : 0 ≤ y) (y1 : y ≤ 255) (hm : y % 18 = 11) (m : Nat) (hmm : m < 4294967296) (w : World) (hT : Tens w) :
    Calls Tryd.prog 8 #[.int .u8 y, .int .u32 m] w fun e w' => e = .returned (.bool true) ∧ Below w.heap.size w w' := by
  have HT := Lib.hid hT
  have h10 : (Lib.decDigits m).length ≤ 10 := dec_le (k := 9) (by omega)
  have hD := fun w => digits19 m (by omega) w
  have hq := wr11 (D := Lib.decDigits m)
  have h1 := fun w => readL_any ([32] ++ Lib.decDigits m) (by unfold maxLen; simp; try omega) w
  have h2 := fun w => wholeL_any ([32] ++ Lib.decDigits m) (by unfold maxLen; simp; try omega) w
  have h3 := fun w => wholeL_any ([43] ++ Lib.decDigits m) (by unfold maxLen; simp; omega) w
  have h4 := fun w => readL_any [46, 53] (by unfold maxLen; decide) w
  rw [hq.1] at h1
  rw [hq.2] at h2
  rw [whole_plus] at h3
  rw [half] at h4
  rw [← tx_app] at h3 h1 h2
  have hDs : (tx (Lib.decDigits m)).size ≤ 10 := by rw [tx_len]; exact h10
  have hmb : (m : Int) ≤ 4294967295 := by omega
  generalize tx (Lib.decDigits m) = D at *
  have q : ∀ b : ByteArray, b.size ≤ 10 → D.size + b.size ≤ 9223372036854775807 ∧ b.size + D.size ≤ 9223372036854775807 := fun b h => by omega
  clear hT hq h10 q hmm
  go_enter Tryd.func8, Tryd.ntmps8
  go_wp2_with fail
  refine (examples_any _ HT.out).mono ?_
  rintro e w1 ⟨rfl, hB1⟩
  have hE1 := hB1
  clear hB1
  go_wp2_with fail
  refine (hD _).mono ?_
  rintro e w2 ⟨rfl, hB2⟩
  have hE2 := hE1.trans (hB2.mono hE1.size)
  clear hB2 hE1
  clear hD
  have hE3 := hE2.alloc hE2.size (.cells #[.string ⟨#[]⟩, .string ⟨#[45]⟩, .string ⟨#[43]⟩, .string (D ++ ⟨#[46]⟩), .string ⟨#[46]⟩, .string (D ++ ⟨#[46, 49, 46, 50]⟩), .string (D ++ ⟨#[101]⟩), .string (D ++ ⟨#[101, 43]⟩), .string (D ++ ⟨#[101, 48, 48, 48, 48, 49]⟩), .string (⟨#[120]⟩ ++ D), .string (D ++ ⟨#[120]⟩), .string (⟨#[32]⟩ ++ D), .string (D ++ ⟨#[32]⟩), .string (⟨#[45, 45]⟩ ++ D), .string (D ++ ⟨#[101, 49, 46, 53]⟩), .string (⟨#[101]⟩ ++ D), .string (⟨#[48, 120]⟩ ++ D), .string (D ++ ⟨#[95, 49]⟩)] 9)
  go_wp2_with fail
  refine (h1 _).mono ?_
  rintro e w4 ⟨rfl, hB4⟩
  have hE4 := hE3.trans (hB4.mono hE3.size)
  clear hE2 hE3 hB4 h1
  go_wp2_with fail
  refine (h2 _).mono ?_
  rintro e w5 ⟨rfl, hB5⟩
  have hE5 := hE4.trans (hB5.mono hE4.size)
  clear hE4 hB5 h2
  go_wp2_with fail
  refine (h3 _).mono ?_
  rintro e w6 ⟨rfl, hB6⟩
  have hE6 := hE5.trans (hB6.mono hE5.size)
  clear hE5 hB6 h3
  go_wp2_with fail
  refine (h4 _).mono ?_
  rintro e w7 ⟨rfl, hB7⟩
  have hE7 := hE6.trans (hB7.mono hE6.size)
  go_wp2
  try go_ret
  exact ⟨rfl, hE7⟩

set_option maxHeartbeats 4000000 in
set_option maxRecDepth 100000 in
theorem wrong_12 (y : Int) (y0 : 0 ≤ y) (y1 : y ≤ 255) (hm : y % 18 = 12) (m : Nat) (hmm : m < 4294967296) (w : World) (hT : Tens w) :
    Calls Tryd.prog 8 #[.int .u8 y, .int .u32 m] w fun e w' => e = .returned (.bool true) ∧ Below w.heap.size w w' := by
  have HT := Lib.hid hT
  have h10 : (Lib.decDigits m).length ≤ 10 := dec_le (k := 9) (by omega)
  have hD := fun w => digits19 m (by omega) w
  have hq := wr12 (dec_all m) (dec_ne m)
  have h1 := fun w => readL_any (Lib.decDigits m ++ [32]) (by unfold maxLen; simp; try omega) w
  have h2 := fun w => wholeL_any (Lib.decDigits m ++ [32]) (by unfold maxLen; simp; try omega) w
  have h3 := fun w => wholeL_any ([43] ++ Lib.decDigits m) (by unfold maxLen; simp; omega) w
  have h4 := fun w => readL_any [46, 53] (by unfold maxLen; decide) w
  rw [hq.1] at h1
  rw [hq.2] at h2
  rw [whole_plus] at h3
  rw [half] at h4
  rw [← tx_app] at h3 h1 h2
  have hDs : (tx (Lib.decDigits m)).size ≤ 10 := by rw [tx_len]; exact h10
  have hmb : (m : Int) ≤ 4294967295 := by omega
  generalize tx (Lib.decDigits m) = D at *
  have q : ∀ b : ByteArray, b.size ≤ 10 → D.size + b.size ≤ 9223372036854775807 ∧ b.size + D.size ≤ 9223372036854775807 := fun b h => by omega
  clear hT hq h10 q hmm
  go_enter Tryd.func8, Tryd.ntmps8
  go_wp2_with fail
  refine (examples_any _ HT.out).mono ?_
  rintro e w1 ⟨rfl, hB1⟩
  have hE1 := hB1
  clear hB1
  go_wp2_with fail
  refine (hD _).mono ?_
  rintro e w2 ⟨rfl, hB2⟩
  have hE2 := hE1.trans (hB2.mono hE1.size)
  clear hB2 hE1
  clear hD
  have hE3 := hE2.alloc hE2.size (.cells #[.string ⟨#[]⟩, .string ⟨#[45]⟩, .string ⟨#[43]⟩, .string (D ++ ⟨#[46]⟩), .string ⟨#[46]⟩, .string (D ++ ⟨#[46, 49, 46, 50]⟩), .string (D ++ ⟨#[101]⟩), .string (D ++ ⟨#[101, 43]⟩), .string (D ++ ⟨#[101, 48, 48, 48, 48, 49]⟩), .string (⟨#[120]⟩ ++ D), .string (D ++ ⟨#[120]⟩), .string (⟨#[32]⟩ ++ D), .string (D ++ ⟨#[32]⟩), .string (⟨#[45, 45]⟩ ++ D), .string (D ++ ⟨#[101, 49, 46, 53]⟩), .string (⟨#[101]⟩ ++ D), .string (⟨#[48, 120]⟩ ++ D), .string (D ++ ⟨#[95, 49]⟩)] 9)
  go_wp2_with fail
  refine (h1 _).mono ?_
  rintro e w4 ⟨rfl, hB4⟩
  have hE4 := hE3.trans (hB4.mono hE3.size)
  clear hE2 hE3 hB4 h1
  go_wp2_with fail
  refine (h2 _).mono ?_
  rintro e w5 ⟨rfl, hB5⟩
  have hE5 := hE4.trans (hB5.mono hE4.size)
  clear hE4 hB5 h2
  go_wp2_with fail
  refine (h3 _).mono ?_
  rintro e w6 ⟨rfl, hB6⟩
  have hE6 := hE5.trans (hB6.mono hE5.size)
  clear hE5 hB6 h3
  go_wp2_with fail
  refine (h4 _).mono ?_
  rintro e w7 ⟨rfl, hB7⟩
  have hE7 := hE6.trans (hB7.mono hE6.size)
  go_wp2
  try go_ret
  exact ⟨rfl, hE7⟩

set_option maxHeartbeats 4000000 in
set_option maxRecDepth 100000 in
theorem wrong_13 (y : Int) (y0 : 0 ≤ y) (y1 : y ≤ 255) (hm : y % 18 = 13) (m : Nat) (hmm : m < 4294967296) (w : World) (hT : Tens w) :
    Calls Tryd.prog 8 #[.int .u8 y, .int .u32 m] w fun e w' => e = .returned (.bool true) ∧ Below w.heap.size w w' := by
  have HT := Lib.hid hT
  have h10 : (Lib.decDigits m).length ≤ 10 := dec_le (k := 9) (by omega)
  have hD := fun w => digits19 m (by omega) w
  have hq := wr13 (D := Lib.decDigits m)
  have h1 := fun w => readL_any ([45, 45] ++ Lib.decDigits m) (by unfold maxLen; simp; try omega) w
  have h2 := fun w => wholeL_any ([45, 45] ++ Lib.decDigits m) (by unfold maxLen; simp; try omega) w
  have h3 := fun w => wholeL_any ([43] ++ Lib.decDigits m) (by unfold maxLen; simp; omega) w
  have h4 := fun w => readL_any [46, 53] (by unfold maxLen; decide) w
  rw [hq.1] at h1
  rw [hq.2] at h2
  rw [whole_plus] at h3
  rw [half] at h4
  rw [← tx_app] at h3 h1 h2
  have hDs : (tx (Lib.decDigits m)).size ≤ 10 := by rw [tx_len]; exact h10
  have hmb : (m : Int) ≤ 4294967295 := by omega
  generalize tx (Lib.decDigits m) = D at *
  have q : ∀ b : ByteArray, b.size ≤ 10 → D.size + b.size ≤ 9223372036854775807 ∧ b.size + D.size ≤ 9223372036854775807 := fun b h => by omega
  clear hT hq h10 q hmm
  go_enter Tryd.func8, Tryd.ntmps8
  go_wp2_with fail
  refine (examples_any _ HT.out).mono ?_
  rintro e w1 ⟨rfl, hB1⟩
  have hE1 := hB1
  clear hB1
  go_wp2_with fail
  refine (hD _).mono ?_
  rintro e w2 ⟨rfl, hB2⟩
  have hE2 := hE1.trans (hB2.mono hE1.size)
  clear hB2 hE1
  clear hD
  have hE3 := hE2.alloc hE2.size (.cells #[.string ⟨#[]⟩, .string ⟨#[45]⟩, .string ⟨#[43]⟩, .string (D ++ ⟨#[46]⟩), .string ⟨#[46]⟩, .string (D ++ ⟨#[46, 49, 46, 50]⟩), .string (D ++ ⟨#[101]⟩), .string (D ++ ⟨#[101, 43]⟩), .string (D ++ ⟨#[101, 48, 48, 48, 48, 49]⟩), .string (⟨#[120]⟩ ++ D), .string (D ++ ⟨#[120]⟩), .string (⟨#[32]⟩ ++ D), .string (D ++ ⟨#[32]⟩), .string (⟨#[45, 45]⟩ ++ D), .string (D ++ ⟨#[101, 49, 46, 53]⟩), .string (⟨#[101]⟩ ++ D), .string (⟨#[48, 120]⟩ ++ D), .string (D ++ ⟨#[95, 49]⟩)] 9)
  go_wp2_with fail
  refine (h1 _).mono ?_
  rintro e w4 ⟨rfl, hB4⟩
  have hE4 := hE3.trans (hB4.mono hE3.size)
  clear hE2 hE3 hB4 h1
  go_wp2_with fail
  refine (h2 _).mono ?_
  rintro e w5 ⟨rfl, hB5⟩
  have hE5 := hE4.trans (hB5.mono hE4.size)
  clear hE4 hB5 h2
  go_wp2_with fail
  refine (h3 _).mono ?_
  rintro e w6 ⟨rfl, hB6⟩
  have hE6 := hE5.trans (hB6.mono hE5.size)
  clear hE5 hB6 h3
  go_wp2_with fail
  refine (h4 _).mono ?_
  rintro e w7 ⟨rfl, hB7⟩
  have hE7 := hE6.trans (hB7.mono hE6.size)
  go_wp2
  try go_ret
  exact ⟨rfl, hE7⟩

set_option maxHeartbeats 4000000 in
set_option maxRecDepth 100000 in
theorem wrong_14 (y : Int) (y0 : 0 ≤ y) (y1 : y ≤ 255) (hm : y % 18 = 14) (m : Nat) (hmm : m < 4294967296) (w : World) (hT : Tens w) :
    Calls Tryd.prog 8 #[.int .u8 y, .int .u32 m] w fun e w' => e = .returned (.bool true) ∧ Below w.heap.size w w' := by
  have HT := Lib.hid hT
  have h10 : (Lib.decDigits m).length ≤ 10 := dec_le (k := 9) (by omega)
  have hD := fun w => digits19 m (by omega) w
  have hq := wr14 (dec_all m) (dec_ne m)
  have h1 := fun w => readL_any (Lib.decDigits m ++ [101, 49, 46, 53]) (by unfold maxLen; simp; try omega) w
  have h2 := fun w => wholeL_any (Lib.decDigits m ++ [101, 49, 46, 53]) (by unfold maxLen; simp; try omega) w
  have h3 := fun w => wholeL_any ([43] ++ Lib.decDigits m) (by unfold maxLen; simp; omega) w
  have h4 := fun w => readL_any [46, 53] (by unfold maxLen; decide) w
  rw [hq.1] at h1
  rw [hq.2] at h2
  rw [whole_plus] at h3
  rw [half] at h4
  rw [← tx_app] at h3 h1 h2
  have hDs : (tx (Lib.decDigits m)).size ≤ 10 := by rw [tx_len]; exact h10
  have hmb : (m : Int) ≤ 4294967295 := by omega
  generalize tx (Lib.decDigits m) = D at *
  have q : ∀ b : ByteArray, b.size ≤ 10 → D.size + b.size ≤ 9223372036854775807 ∧ b.size + D.size ≤ 9223372036854775807 := fun b h => by omega
  clear hT hq h10 q hmm
  go_enter Tryd.func8, Tryd.ntmps8
  go_wp2_with fail
  refine (examples_any _ HT.out).mono ?_
  rintro e w1 ⟨rfl, hB1⟩
  have hE1 := hB1
  clear hB1
  go_wp2_with fail
  refine (hD _).mono ?_
  rintro e w2 ⟨rfl, hB2⟩
  have hE2 := hE1.trans (hB2.mono hE1.size)
  clear hB2 hE1
  clear hD
  have hE3 := hE2.alloc hE2.size (.cells #[.string ⟨#[]⟩, .string ⟨#[45]⟩, .string ⟨#[43]⟩, .string (D ++ ⟨#[46]⟩), .string ⟨#[46]⟩, .string (D ++ ⟨#[46, 49, 46, 50]⟩), .string (D ++ ⟨#[101]⟩), .string (D ++ ⟨#[101, 43]⟩), .string (D ++ ⟨#[101, 48, 48, 48, 48, 49]⟩), .string (⟨#[120]⟩ ++ D), .string (D ++ ⟨#[120]⟩), .string (⟨#[32]⟩ ++ D), .string (D ++ ⟨#[32]⟩), .string (⟨#[45, 45]⟩ ++ D), .string (D ++ ⟨#[101, 49, 46, 53]⟩), .string (⟨#[101]⟩ ++ D), .string (⟨#[48, 120]⟩ ++ D), .string (D ++ ⟨#[95, 49]⟩)] 9)
  go_wp2_with fail
  refine (h1 _).mono ?_
  rintro e w4 ⟨rfl, hB4⟩
  have hE4 := hE3.trans (hB4.mono hE3.size)
  clear hE2 hE3 hB4 h1
  go_wp2_with fail
  refine (h2 _).mono ?_
  rintro e w5 ⟨rfl, hB5⟩
  have hE5 := hE4.trans (hB5.mono hE4.size)
  clear hE4 hB5 h2
  go_wp2_with fail
  refine (h3 _).mono ?_
  rintro e w6 ⟨rfl, hB6⟩
  have hE6 := hE5.trans (hB6.mono hE5.size)
  clear hE5 hB6 h3
  go_wp2_with fail
  refine (h4 _).mono ?_
  rintro e w7 ⟨rfl, hB7⟩
  have hE7 := hE6.trans (hB7.mono hE6.size)
  go_wp2
  try go_ret
  exact ⟨rfl, hE7⟩

set_option maxHeartbeats 4000000 in
set_option maxRecDepth 100000 in
theorem wrong_15 (y : Int) (y0 : 0 ≤ y) (y1 : y ≤ 255) (hm : y % 18 = 15) (m : Nat) (hmm : m < 4294967296) (w : World) (hT : Tens w) :
    Calls Tryd.prog 8 #[.int .u8 y, .int .u32 m] w fun e w' => e = .returned (.bool true) ∧ Below w.heap.size w w' := by
  have HT := Lib.hid hT
  have h10 : (Lib.decDigits m).length ≤ 10 := dec_le (k := 9) (by omega)
  have hD := fun w => digits19 m (by omega) w
  have hq := wr15 (D := Lib.decDigits m)
  have h1 := fun w => readL_any ([101] ++ Lib.decDigits m) (by unfold maxLen; simp; try omega) w
  have h2 := fun w => wholeL_any ([101] ++ Lib.decDigits m) (by unfold maxLen; simp; try omega) w
  have h3 := fun w => wholeL_any ([43] ++ Lib.decDigits m) (by unfold maxLen; simp; omega) w
  have h4 := fun w => readL_any [46, 53] (by unfold maxLen; decide) w
  rw [hq.1] at h1
  rw [hq.2] at h2
  rw [whole_plus] at h3
  rw [half] at h4
  rw [← tx_app] at h3 h1 h2
  have hDs : (tx (Lib.decDigits m)).size ≤ 10 := by rw [tx_len]; exact h10
  have hmb : (m : Int) ≤ 4294967295 := by omega
  generalize tx (Lib.decDigits m) = D at *
  have q : ∀ b : ByteArray, b.size ≤ 10 → D.size + b.size ≤ 9223372036854775807 ∧ b.size + D.size ≤ 9223372036854775807 := fun b h => by omega
  clear hT hq h10 q hmm
  go_enter Tryd.func8, Tryd.ntmps8
  go_wp2_with fail
  refine (examples_any _ HT.out).mono ?_
  rintro e w1 ⟨rfl, hB1⟩
  have hE1 := hB1
  clear hB1
  go_wp2_with fail
  refine (hD _).mono ?_
  rintro e w2 ⟨rfl, hB2⟩
  have hE2 := hE1.trans (hB2.mono hE1.size)
  clear hB2 hE1
  clear hD
  have hE3 := hE2.alloc hE2.size (.cells #[.string ⟨#[]⟩, .string ⟨#[45]⟩, .string ⟨#[43]⟩, .string (D ++ ⟨#[46]⟩), .string ⟨#[46]⟩, .string (D ++ ⟨#[46, 49, 46, 50]⟩), .string (D ++ ⟨#[101]⟩), .string (D ++ ⟨#[101, 43]⟩), .string (D ++ ⟨#[101, 48, 48, 48, 48, 49]⟩), .string (⟨#[120]⟩ ++ D), .string (D ++ ⟨#[120]⟩), .string (⟨#[32]⟩ ++ D), .string (D ++ ⟨#[32]⟩), .string (⟨#[45, 45]⟩ ++ D), .string (D ++ ⟨#[101, 49, 46, 53]⟩), .string (⟨#[101]⟩ ++ D), .string (⟨#[48, 120]⟩ ++ D), .string (D ++ ⟨#[95, 49]⟩)] 9)
  go_wp2_with fail
  refine (h1 _).mono ?_
  rintro e w4 ⟨rfl, hB4⟩
  have hE4 := hE3.trans (hB4.mono hE3.size)
  clear hE2 hE3 hB4 h1
  go_wp2_with fail
  refine (h2 _).mono ?_
  rintro e w5 ⟨rfl, hB5⟩
  have hE5 := hE4.trans (hB5.mono hE4.size)
  clear hE4 hB5 h2
  go_wp2_with fail
  refine (h3 _).mono ?_
  rintro e w6 ⟨rfl, hB6⟩
  have hE6 := hE5.trans (hB6.mono hE5.size)
  clear hE5 hB6 h3
  go_wp2_with fail
  refine (h4 _).mono ?_
  rintro e w7 ⟨rfl, hB7⟩
  have hE7 := hE6.trans (hB7.mono hE6.size)
  go_wp2
  try go_ret
  exact ⟨rfl, hE7⟩

set_option maxHeartbeats 4000000 in
set_option maxRecDepth 100000 in
theorem wrong_16 (y : Int) (y0 : 0 ≤ y) (y1 : y ≤ 255) (hm : y % 18 = 16) (m : Nat) (hmm : m < 4294967296) (w : World) (hT : Tens w) :
    Calls Tryd.prog 8 #[.int .u8 y, .int .u32 m] w fun e w' => e = .returned (.bool true) ∧ Below w.heap.size w w' := by
  have HT := Lib.hid hT
  have h10 : (Lib.decDigits m).length ≤ 10 := dec_le (k := 9) (by omega)
  have hD := fun w => digits19 m (by omega) w
  have hq := wr16 (D := Lib.decDigits m)
  have h1 := fun w => readL_any ([48, 120] ++ Lib.decDigits m) (by unfold maxLen; simp; try omega) w
  have h2 := fun w => wholeL_any ([48, 120] ++ Lib.decDigits m) (by unfold maxLen; simp; try omega) w
  have h3 := fun w => wholeL_any ([43] ++ Lib.decDigits m) (by unfold maxLen; simp; omega) w
  have h4 := fun w => readL_any [46, 53] (by unfold maxLen; decide) w
  rw [hq.1] at h1
  rw [hq.2] at h2
  rw [whole_plus] at h3
  rw [half] at h4
  rw [← tx_app] at h3 h1 h2
  have hDs : (tx (Lib.decDigits m)).size ≤ 10 := by rw [tx_len]; exact h10
  have hmb : (m : Int) ≤ 4294967295 := by omega
  generalize tx (Lib.decDigits m) = D at *
  have q : ∀ b : ByteArray, b.size ≤ 10 → D.size + b.size ≤ 9223372036854775807 ∧ b.size + D.size ≤ 9223372036854775807 := fun b h => by omega
  clear hT hq h10 q hmm
  go_enter Tryd.func8, Tryd.ntmps8
  go_wp2_with fail
  refine (examples_any _ HT.out).mono ?_
  rintro e w1 ⟨rfl, hB1⟩
  have hE1 := hB1
  clear hB1
  go_wp2_with fail
  refine (hD _).mono ?_
  rintro e w2 ⟨rfl, hB2⟩
  have hE2 := hE1.trans (hB2.mono hE1.size)
  clear hB2 hE1
  clear hD
  have hE3 := hE2.alloc hE2.size (.cells #[.string ⟨#[]⟩, .string ⟨#[45]⟩, .string ⟨#[43]⟩, .string (D ++ ⟨#[46]⟩), .string ⟨#[46]⟩, .string (D ++ ⟨#[46, 49, 46, 50]⟩), .string (D ++ ⟨#[101]⟩), .string (D ++ ⟨#[101, 43]⟩), .string (D ++ ⟨#[101, 48, 48, 48, 48, 49]⟩), .string (⟨#[120]⟩ ++ D), .string (D ++ ⟨#[120]⟩), .string (⟨#[32]⟩ ++ D), .string (D ++ ⟨#[32]⟩), .string (⟨#[45, 45]⟩ ++ D), .string (D ++ ⟨#[101, 49, 46, 53]⟩), .string (⟨#[101]⟩ ++ D), .string (⟨#[48, 120]⟩ ++ D), .string (D ++ ⟨#[95, 49]⟩)] 9)
  go_wp2_with fail
  refine (h1 _).mono ?_
  rintro e w4 ⟨rfl, hB4⟩
  have hE4 := hE3.trans (hB4.mono hE3.size)
  clear hE2 hE3 hB4 h1
  go_wp2_with fail
  refine (h2 _).mono ?_
  rintro e w5 ⟨rfl, hB5⟩
  have hE5 := hE4.trans (hB5.mono hE4.size)
  clear hE4 hB5 h2
  go_wp2_with fail
  refine (h3 _).mono ?_
  rintro e w6 ⟨rfl, hB6⟩
  have hE6 := hE5.trans (hB6.mono hE5.size)
  clear hE5 hB6 h3
  go_wp2_with fail
  refine (h4 _).mono ?_
  rintro e w7 ⟨rfl, hB7⟩
  have hE7 := hE6.trans (hB7.mono hE6.size)
  go_wp2
  try go_ret
  exact ⟨rfl, hE7⟩

set_option maxHeartbeats 4000000 in
set_option maxRecDepth 100000 in
theorem wrong_17 (y : Int) (y0 : 0 ≤ y) (y1 : y ≤ 255) (hm : y % 18 = 17) (m : Nat) (hmm : m < 4294967296) (w : World) (hT : Tens w) :
    Calls Tryd.prog 8 #[.int .u8 y, .int .u32 m] w fun e w' => e = .returned (.bool true) ∧ Below w.heap.size w w' := by
  have HT := Lib.hid hT
  have h10 : (Lib.decDigits m).length ≤ 10 := dec_le (k := 9) (by omega)
  have hD := fun w => digits19 m (by omega) w
  have hq := wr17 (dec_all m) (dec_ne m)
  have h1 := fun w => readL_any (Lib.decDigits m ++ [95, 49]) (by unfold maxLen; simp; try omega) w
  have h2 := fun w => wholeL_any (Lib.decDigits m ++ [95, 49]) (by unfold maxLen; simp; try omega) w
  have h3 := fun w => wholeL_any ([43] ++ Lib.decDigits m) (by unfold maxLen; simp; omega) w
  have h4 := fun w => readL_any [46, 53] (by unfold maxLen; decide) w
  rw [hq.1] at h1
  rw [hq.2] at h2
  rw [whole_plus] at h3
  rw [half] at h4
  rw [← tx_app] at h3 h1 h2
  have hDs : (tx (Lib.decDigits m)).size ≤ 10 := by rw [tx_len]; exact h10
  have hmb : (m : Int) ≤ 4294967295 := by omega
  generalize tx (Lib.decDigits m) = D at *
  have q : ∀ b : ByteArray, b.size ≤ 10 → D.size + b.size ≤ 9223372036854775807 ∧ b.size + D.size ≤ 9223372036854775807 := fun b h => by omega
  clear hT hq h10 q hmm
  go_enter Tryd.func8, Tryd.ntmps8
  go_wp2_with fail
  refine (examples_any _ HT.out).mono ?_
  rintro e w1 ⟨rfl, hB1⟩
  have hE1 := hB1
  clear hB1
  go_wp2_with fail
  refine (hD _).mono ?_
  rintro e w2 ⟨rfl, hB2⟩
  have hE2 := hE1.trans (hB2.mono hE1.size)
  clear hB2 hE1
  clear hD
  have hE3 := hE2.alloc hE2.size (.cells #[.string ⟨#[]⟩, .string ⟨#[45]⟩, .string ⟨#[43]⟩, .string (D ++ ⟨#[46]⟩), .string ⟨#[46]⟩, .string (D ++ ⟨#[46, 49, 46, 50]⟩), .string (D ++ ⟨#[101]⟩), .string (D ++ ⟨#[101, 43]⟩), .string (D ++ ⟨#[101, 48, 48, 48, 48, 49]⟩), .string (⟨#[120]⟩ ++ D), .string (D ++ ⟨#[120]⟩), .string (⟨#[32]⟩ ++ D), .string (D ++ ⟨#[32]⟩), .string (⟨#[45, 45]⟩ ++ D), .string (D ++ ⟨#[101, 49, 46, 53]⟩), .string (⟨#[101]⟩ ++ D), .string (⟨#[48, 120]⟩ ++ D), .string (D ++ ⟨#[95, 49]⟩)] 9)
  go_wp2_with fail
  refine (h1 _).mono ?_
  rintro e w4 ⟨rfl, hB4⟩
  have hE4 := hE3.trans (hB4.mono hE3.size)
  clear hE2 hE3 hB4 h1
  go_wp2_with fail
  refine (h2 _).mono ?_
  rintro e w5 ⟨rfl, hB5⟩
  have hE5 := hE4.trans (hB5.mono hE4.size)
  clear hE4 hB5 h2
  go_wp2_with fail
  refine (h3 _).mono ?_
  rintro e w6 ⟨rfl, hB6⟩
  have hE6 := hE5.trans (hB6.mono hE5.size)
  clear hE5 hB6 h3
  go_wp2_with fail
  refine (h4 _).mono ?_
  rintro e w7 ⟨rfl, hB7⟩
  have hE7 := hE6.trans (hB7.mono hE6.size)
  go_wp2
  try go_ret
  exact ⟨rfl, hE7⟩

theorem FixedWrong_walk (y : Int) (hy : (Lit.int .u8 y).wf = true) (n : Int) (hn : (Lit.int .u32 n).wf = true) (w : World) (hT : Tens w) :
    Calls Tryd.prog 8 #[.int .u8 y, .int .u32 n] w fun e w' => e = .returned (.bool true) ∧ Below w.heap.size w w' := by
  obtain ⟨y0, y1⟩ := u8_in hy
  obtain ⟨n0, n1⟩ := u32_in hn
  obtain ⟨m, rfl⟩ : ∃ m : Nat, n = (m : Int) := ⟨n.toNat, by omega⟩
  have hm : m < 4294967296 := by omega
  have hc : y % 18 = 0 ∨ y % 18 = 1 ∨ y % 18 = 2 ∨ y % 18 = 3 ∨ y % 18 = 4 ∨ y % 18 = 5 ∨ y % 18 = 6 ∨ y % 18 = 7 ∨ y % 18 = 8 ∨ y % 18 = 9 ∨ y % 18 = 10 ∨ y % 18 = 11 ∨ y % 18 = 12 ∨ y % 18 = 13 ∨ y % 18 = 14 ∨ y % 18 = 15 ∨ y % 18 = 16 ∨ y % 18 = 17 := by omega
  rcases hc with h | h | h | h | h | h | h | h | h | h | h | h | h | h | h | h | h | h
  · exact wrong_0 y y0 y1 h m hm w hT
  · exact wrong_1 y y0 y1 h m hm w hT
  · exact wrong_2 y y0 y1 h m hm w hT
  · exact wrong_3 y y0 y1 h m hm w hT
  · exact wrong_4 y y0 y1 h m hm w hT
  · exact wrong_5 y y0 y1 h m hm w hT
  · exact wrong_6 y y0 y1 h m hm w hT
  · exact wrong_7 y y0 y1 h m hm w hT
  · exact wrong_8 y y0 y1 h m hm w hT
  · exact wrong_9 y y0 y1 h m hm w hT
  · exact wrong_10 y y0 y1 h m hm w hT
  · exact wrong_11 y y0 y1 h m hm w hT
  · exact wrong_12 y y0 y1 h m hm w hT
  · exact wrong_13 y y0 y1 h m hm w hT
  · exact wrong_14 y y0 y1 h m hm w hT
  · exact wrong_15 y y0 y1 h m hm w hT
  · exact wrong_16 y y0 y1 h m hm w hT
  · exact wrong_17 y y0 y1 h m hm w hT
end Go.Proofs.YtpbphocpkmkoeaaDoor
