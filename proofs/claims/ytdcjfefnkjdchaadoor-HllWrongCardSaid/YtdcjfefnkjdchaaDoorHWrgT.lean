/- HllWrong at some numbers of registers. -/
import Derived.Test.YtdcjfefnkjdchaaDoorHWrg
namespace Go.Proofs.YtdcjfefnkjdchaaDoor
open Go Go.RowKit

set_option maxRecDepth 100000 in
set_option maxHeartbeats 8000000 in
theorem wrong_16 (m : Nat) (hm : m < 65536) (a : Nat) (ha : a < 65536) (y : Nat) (hy : y < 256) (x : Int) (hx1 : -9223372036854775808 ≤ x) (hx2 : x ≤ 9223372036854775807) (hni : (m : Int) % 1100 = 16) (w : World) (hT : Tab w) :
    Calls Tryd.prog 9 #[.int .u16 m, .int .u16 a, .int .u8 y, .int .i64 x] w fun e w' => e = .returned (.bool true) ∧ Below w.heap.size w w' := by
  have HT := Lib.hid hT
  obtain ⟨i, hi⟩ : ∃ i, a % 64 = i := ⟨_, rfl⟩
  have hii : (a : Int) % 64 = i := by omega
  have hi64 : i < 64 := by omega
  have hmb : mayB 16 = true := by decide
  clear hT hi
  go_enter Tryd.func9, Tryd.ntmps9
  go_wp2_with fail
  refine (examples_any _ HT.out).mono ?_
  rintro e W1 ⟨rfl, hB⟩
  obtain ⟨W2, hmk, hBk, hA⟩ := make_u8 16 (by omega) W1
  obtain ⟨t, ht⟩ : ∃ t, tx (List.replicate 16 0) = t := ⟨_, rfl⟩
  have hcv := bytes_back hA (n := 16) (by rw [List.length_replicate]) 16
  obtain ⟨q, c, hc0, hc2, hof⟩ := of_zeros 16 (by omega) W2
  rw [hmb] at hc0 hc2
  rw [ht] at hcv hof
  replace hmk : (Instr.makeSlice 42 (.int .i64 16) (.int .i64 16)).run Tryd.prog W1 = .ok (.slice (some ⟨W1.heap.size, 0, none⟩) 16 16) W2 := hmk
  replace hc2 : (c == 2) = false := hc2
  replace hB := below_on hB hBk (Nat.le_refl _)
  clear hA hBk ht hmb
  generalize W1.heap.size = R1 at hmk hcv
  go_wp2_with fail
  refine hof.mono ?_
  rintro e W3 ⟨rfl, hB2⟩
  replace hB := below_on hB hB2 (Nat.le_refl _)
  clear hB2 hmk hcv hof
  obtain ⟨W4, hmk, hBk, hA⟩ := make_u8 64 (by omega) W3
  have hR : w.heap.size ≤ W3.heap.size := hB.size
  have hy8 : (UInt8.ofNat y).toNat = y := by rw [UInt8.toNat_ofNat']; omega
  have hk := hA.cell i (by rw [List.length_replicate]; exact hi64)
  have hf := hA.fro i (by rw [List.length_replicate]; exact hi64)
  rw [List.getElem_replicate, show ((0 : UInt8).toNat : Int) = 0 from rfl] at hk
  have hA2 := hA.set i (UInt8.ofNat y) (by rw [List.length_replicate]; exact hi64)
  rw [hy8] at hA2
  have hcv := bytes_back hA2 (n := 64) (by rw [List.length_set, List.length_replicate]) 64
  replace hB := (below_on hB hBk (Nat.le_refl _)).setCell (p := ⟨W3.heap.size, i, none⟩) hR (.int .u8 (y : Int))
  obtain ⟨q2, c2, hc20, hof2⟩ := of_byte i hi64 y hy (W4.setCell ⟨W3.heap.size, i, none⟩ (.int .u8 (y : Int)))
  replace hmk : (Instr.makeSlice 42 (.int .i64 64) (.int .i64 64)).run Tryd.prog W3 = .ok (.slice (some ⟨W3.heap.size, 0, none⟩) 64 64) W4 := hmk
  obtain ⟨t2, ht2⟩ : ∃ t, tx ((List.replicate 64 0).set i (UInt8.ofNat y)) = t := ⟨_, rfl⟩
  rw [ht2] at hcv hof2
  clear hA hA2 hBk ht2 hR hy8
  generalize W3.heap.size = R at *
  go_wp2_with fail
  refine hof2.mono ?_
  rintro e W5 ⟨rfl, hB2⟩
  replace hB := below_on hB hB2 (Nat.le_refl _)
  clear hB2 hmk hcv hof2 hk hf
  obtain ⟨q3, c3, hc30, hnw⟩ := new_bits x W5
  go_wp2_with fail
  refine hnw.mono ?_
  rintro e W6 ⟨rfl, hB2⟩
  replace hB := below_on hB hB2 (Nat.le_refl _)
  clear hB2 hnw
  by_cases h4 : 4 ≤ x
  · rw [decide_eq_true h4, Bool.true_and] at hc30
    go_wp2
    go_ret
    exact ⟨rfl, hB⟩
  · rw [decide_eq_false h4, Bool.false_and] at hc30
    go_wp2
    go_ret
    exact ⟨rfl, hB⟩
set_option maxRecDepth 100000 in
set_option maxHeartbeats 8000000 in
theorem wrong_32 (m : Nat) (hm : m < 65536) (a : Nat) (ha : a < 65536) (y : Nat) (hy : y < 256) (x : Int) (hx1 : -9223372036854775808 ≤ x) (hx2 : x ≤ 9223372036854775807) (hni : (m : Int) % 1100 = 32) (w : World) (hT : Tab w) :
    Calls Tryd.prog 9 #[.int .u16 m, .int .u16 a, .int .u8 y, .int .i64 x] w fun e w' => e = .returned (.bool true) ∧ Below w.heap.size w w' := by
  have HT := Lib.hid hT
  obtain ⟨i, hi⟩ : ∃ i, a % 64 = i := ⟨_, rfl⟩
  have hii : (a : Int) % 64 = i := by omega
  have hi64 : i < 64 := by omega
  have hmb : mayB 32 = true := by decide
  clear hT hi
  go_enter Tryd.func9, Tryd.ntmps9
  go_wp2_with fail
  refine (examples_any _ HT.out).mono ?_
  rintro e W1 ⟨rfl, hB⟩
  obtain ⟨W2, hmk, hBk, hA⟩ := make_u8 32 (by omega) W1
  obtain ⟨t, ht⟩ : ∃ t, tx (List.replicate 32 0) = t := ⟨_, rfl⟩
  have hcv := bytes_back hA (n := 32) (by rw [List.length_replicate]) 32
  obtain ⟨q, c, hc0, hc2, hof⟩ := of_zeros 32 (by omega) W2
  rw [hmb] at hc0 hc2
  rw [ht] at hcv hof
  replace hmk : (Instr.makeSlice 42 (.int .i64 32) (.int .i64 32)).run Tryd.prog W1 = .ok (.slice (some ⟨W1.heap.size, 0, none⟩) 32 32) W2 := hmk
  replace hc2 : (c == 2) = false := hc2
  replace hB := below_on hB hBk (Nat.le_refl _)
  clear hA hBk ht hmb
  generalize W1.heap.size = R1 at hmk hcv
  go_wp2_with fail
  refine hof.mono ?_
  rintro e W3 ⟨rfl, hB2⟩
  replace hB := below_on hB hB2 (Nat.le_refl _)
  clear hB2 hmk hcv hof
  obtain ⟨W4, hmk, hBk, hA⟩ := make_u8 64 (by omega) W3
  have hR : w.heap.size ≤ W3.heap.size := hB.size
  have hy8 : (UInt8.ofNat y).toNat = y := by rw [UInt8.toNat_ofNat']; omega
  have hk := hA.cell i (by rw [List.length_replicate]; exact hi64)
  have hf := hA.fro i (by rw [List.length_replicate]; exact hi64)
  rw [List.getElem_replicate, show ((0 : UInt8).toNat : Int) = 0 from rfl] at hk
  have hA2 := hA.set i (UInt8.ofNat y) (by rw [List.length_replicate]; exact hi64)
  rw [hy8] at hA2
  have hcv := bytes_back hA2 (n := 64) (by rw [List.length_set, List.length_replicate]) 64
  replace hB := (below_on hB hBk (Nat.le_refl _)).setCell (p := ⟨W3.heap.size, i, none⟩) hR (.int .u8 (y : Int))
  obtain ⟨q2, c2, hc20, hof2⟩ := of_byte i hi64 y hy (W4.setCell ⟨W3.heap.size, i, none⟩ (.int .u8 (y : Int)))
  replace hmk : (Instr.makeSlice 42 (.int .i64 64) (.int .i64 64)).run Tryd.prog W3 = .ok (.slice (some ⟨W3.heap.size, 0, none⟩) 64 64) W4 := hmk
  obtain ⟨t2, ht2⟩ : ∃ t, tx ((List.replicate 64 0).set i (UInt8.ofNat y)) = t := ⟨_, rfl⟩
  rw [ht2] at hcv hof2
  clear hA hA2 hBk ht2 hR hy8
  generalize W3.heap.size = R at *
  go_wp2_with fail
  refine hof2.mono ?_
  rintro e W5 ⟨rfl, hB2⟩
  replace hB := below_on hB hB2 (Nat.le_refl _)
  clear hB2 hmk hcv hof2 hk hf
  obtain ⟨q3, c3, hc30, hnw⟩ := new_bits x W5
  go_wp2_with fail
  refine hnw.mono ?_
  rintro e W6 ⟨rfl, hB2⟩
  replace hB := below_on hB hB2 (Nat.le_refl _)
  clear hB2 hnw
  by_cases h4 : 4 ≤ x
  · rw [decide_eq_true h4, Bool.true_and] at hc30
    go_wp2
    go_ret
    exact ⟨rfl, hB⟩
  · rw [decide_eq_false h4, Bool.false_and] at hc30
    go_wp2
    go_ret
    exact ⟨rfl, hB⟩
set_option maxRecDepth 100000 in
set_option maxHeartbeats 8000000 in
theorem wrong_64 (m : Nat) (hm : m < 65536) (a : Nat) (ha : a < 65536) (y : Nat) (hy : y < 256) (x : Int) (hx1 : -9223372036854775808 ≤ x) (hx2 : x ≤ 9223372036854775807) (hni : (m : Int) % 1100 = 64) (w : World) (hT : Tab w) :
    Calls Tryd.prog 9 #[.int .u16 m, .int .u16 a, .int .u8 y, .int .i64 x] w fun e w' => e = .returned (.bool true) ∧ Below w.heap.size w w' := by
  have HT := Lib.hid hT
  obtain ⟨i, hi⟩ : ∃ i, a % 64 = i := ⟨_, rfl⟩
  have hii : (a : Int) % 64 = i := by omega
  have hi64 : i < 64 := by omega
  have hmb : mayB 64 = true := by decide
  clear hT hi
  go_enter Tryd.func9, Tryd.ntmps9
  go_wp2_with fail
  refine (examples_any _ HT.out).mono ?_
  rintro e W1 ⟨rfl, hB⟩
  obtain ⟨W2, hmk, hBk, hA⟩ := make_u8 64 (by omega) W1
  obtain ⟨t, ht⟩ : ∃ t, tx (List.replicate 64 0) = t := ⟨_, rfl⟩
  have hcv := bytes_back hA (n := 64) (by rw [List.length_replicate]) 64
  obtain ⟨q, c, hc0, hc2, hof⟩ := of_zeros 64 (by omega) W2
  rw [hmb] at hc0 hc2
  rw [ht] at hcv hof
  replace hmk : (Instr.makeSlice 42 (.int .i64 64) (.int .i64 64)).run Tryd.prog W1 = .ok (.slice (some ⟨W1.heap.size, 0, none⟩) 64 64) W2 := hmk
  replace hc2 : (c == 2) = false := hc2
  replace hB := below_on hB hBk (Nat.le_refl _)
  clear hA hBk ht hmb
  generalize W1.heap.size = R1 at hmk hcv
  go_wp2_with fail
  refine hof.mono ?_
  rintro e W3 ⟨rfl, hB2⟩
  replace hB := below_on hB hB2 (Nat.le_refl _)
  clear hB2 hmk hcv hof
  obtain ⟨W4, hmk, hBk, hA⟩ := make_u8 64 (by omega) W3
  have hR : w.heap.size ≤ W3.heap.size := hB.size
  have hy8 : (UInt8.ofNat y).toNat = y := by rw [UInt8.toNat_ofNat']; omega
  have hk := hA.cell i (by rw [List.length_replicate]; exact hi64)
  have hf := hA.fro i (by rw [List.length_replicate]; exact hi64)
  rw [List.getElem_replicate, show ((0 : UInt8).toNat : Int) = 0 from rfl] at hk
  have hA2 := hA.set i (UInt8.ofNat y) (by rw [List.length_replicate]; exact hi64)
  rw [hy8] at hA2
  have hcv := bytes_back hA2 (n := 64) (by rw [List.length_set, List.length_replicate]) 64
  replace hB := (below_on hB hBk (Nat.le_refl _)).setCell (p := ⟨W3.heap.size, i, none⟩) hR (.int .u8 (y : Int))
  obtain ⟨q2, c2, hc20, hof2⟩ := of_byte i hi64 y hy (W4.setCell ⟨W3.heap.size, i, none⟩ (.int .u8 (y : Int)))
  replace hmk : (Instr.makeSlice 42 (.int .i64 64) (.int .i64 64)).run Tryd.prog W3 = .ok (.slice (some ⟨W3.heap.size, 0, none⟩) 64 64) W4 := hmk
  obtain ⟨t2, ht2⟩ : ∃ t, tx ((List.replicate 64 0).set i (UInt8.ofNat y)) = t := ⟨_, rfl⟩
  rw [ht2] at hcv hof2
  clear hA hA2 hBk ht2 hR hy8
  generalize W3.heap.size = R at *
  go_wp2_with fail
  refine hof2.mono ?_
  rintro e W5 ⟨rfl, hB2⟩
  replace hB := below_on hB hB2 (Nat.le_refl _)
  clear hB2 hmk hcv hof2 hk hf
  obtain ⟨q3, c3, hc30, hnw⟩ := new_bits x W5
  go_wp2_with fail
  refine hnw.mono ?_
  rintro e W6 ⟨rfl, hB2⟩
  replace hB := below_on hB hB2 (Nat.le_refl _)
  clear hB2 hnw
  by_cases h4 : 4 ≤ x
  · rw [decide_eq_true h4, Bool.true_and] at hc30
    go_wp2
    go_ret
    exact ⟨rfl, hB⟩
  · rw [decide_eq_false h4, Bool.false_and] at hc30
    go_wp2
    go_ret
    exact ⟨rfl, hB⟩
set_option maxRecDepth 100000 in
set_option maxHeartbeats 8000000 in
theorem wrong_128 (m : Nat) (hm : m < 65536) (a : Nat) (ha : a < 65536) (y : Nat) (hy : y < 256) (x : Int) (hx1 : -9223372036854775808 ≤ x) (hx2 : x ≤ 9223372036854775807) (hni : (m : Int) % 1100 = 128) (w : World) (hT : Tab w) :
    Calls Tryd.prog 9 #[.int .u16 m, .int .u16 a, .int .u8 y, .int .i64 x] w fun e w' => e = .returned (.bool true) ∧ Below w.heap.size w w' := by
  have HT := Lib.hid hT
  obtain ⟨i, hi⟩ : ∃ i, a % 64 = i := ⟨_, rfl⟩
  have hii : (a : Int) % 64 = i := by omega
  have hi64 : i < 64 := by omega
  have hmb : mayB 128 = true := by decide
  clear hT hi
  go_enter Tryd.func9, Tryd.ntmps9
  go_wp2_with fail
  refine (examples_any _ HT.out).mono ?_
  rintro e W1 ⟨rfl, hB⟩
  obtain ⟨W2, hmk, hBk, hA⟩ := make_u8 128 (by omega) W1
  obtain ⟨t, ht⟩ : ∃ t, tx (List.replicate 128 0) = t := ⟨_, rfl⟩
  have hcv := bytes_back hA (n := 128) (by rw [List.length_replicate]) 128
  obtain ⟨q, c, hc0, hc2, hof⟩ := of_zeros 128 (by omega) W2
  rw [hmb] at hc0 hc2
  rw [ht] at hcv hof
  replace hmk : (Instr.makeSlice 42 (.int .i64 128) (.int .i64 128)).run Tryd.prog W1 = .ok (.slice (some ⟨W1.heap.size, 0, none⟩) 128 128) W2 := hmk
  replace hc2 : (c == 2) = false := hc2
  replace hB := below_on hB hBk (Nat.le_refl _)
  clear hA hBk ht hmb
  generalize W1.heap.size = R1 at hmk hcv
  go_wp2_with fail
  refine hof.mono ?_
  rintro e W3 ⟨rfl, hB2⟩
  replace hB := below_on hB hB2 (Nat.le_refl _)
  clear hB2 hmk hcv hof
  obtain ⟨W4, hmk, hBk, hA⟩ := make_u8 64 (by omega) W3
  have hR : w.heap.size ≤ W3.heap.size := hB.size
  have hy8 : (UInt8.ofNat y).toNat = y := by rw [UInt8.toNat_ofNat']; omega
  have hk := hA.cell i (by rw [List.length_replicate]; exact hi64)
  have hf := hA.fro i (by rw [List.length_replicate]; exact hi64)
  rw [List.getElem_replicate, show ((0 : UInt8).toNat : Int) = 0 from rfl] at hk
  have hA2 := hA.set i (UInt8.ofNat y) (by rw [List.length_replicate]; exact hi64)
  rw [hy8] at hA2
  have hcv := bytes_back hA2 (n := 64) (by rw [List.length_set, List.length_replicate]) 64
  replace hB := (below_on hB hBk (Nat.le_refl _)).setCell (p := ⟨W3.heap.size, i, none⟩) hR (.int .u8 (y : Int))
  obtain ⟨q2, c2, hc20, hof2⟩ := of_byte i hi64 y hy (W4.setCell ⟨W3.heap.size, i, none⟩ (.int .u8 (y : Int)))
  replace hmk : (Instr.makeSlice 42 (.int .i64 64) (.int .i64 64)).run Tryd.prog W3 = .ok (.slice (some ⟨W3.heap.size, 0, none⟩) 64 64) W4 := hmk
  obtain ⟨t2, ht2⟩ : ∃ t, tx ((List.replicate 64 0).set i (UInt8.ofNat y)) = t := ⟨_, rfl⟩
  rw [ht2] at hcv hof2
  clear hA hA2 hBk ht2 hR hy8
  generalize W3.heap.size = R at *
  go_wp2_with fail
  refine hof2.mono ?_
  rintro e W5 ⟨rfl, hB2⟩
  replace hB := below_on hB hB2 (Nat.le_refl _)
  clear hB2 hmk hcv hof2 hk hf
  obtain ⟨q3, c3, hc30, hnw⟩ := new_bits x W5
  go_wp2_with fail
  refine hnw.mono ?_
  rintro e W6 ⟨rfl, hB2⟩
  replace hB := below_on hB hB2 (Nat.le_refl _)
  clear hB2 hnw
  by_cases h4 : 4 ≤ x
  · rw [decide_eq_true h4, Bool.true_and] at hc30
    go_wp2
    go_ret
    exact ⟨rfl, hB⟩
  · rw [decide_eq_false h4, Bool.false_and] at hc30
    go_wp2
    go_ret
    exact ⟨rfl, hB⟩
end Go.Proofs.YtdcjfefnkjdchaaDoor
