/- HllWrong at any number of registers. -/
import Derived.Test.YtdcjfefnkjdchaaDoorHWrgT
namespace Go.Proofs.YtdcjfefnkjdchaaDoor
open Go Go.RowKit

set_option maxRecDepth 100000 in
set_option maxHeartbeats 8000000 in
theorem wrong_256 (m : Nat) (hm : m < 65536) (a : Nat) (ha : a < 65536) (y : Nat) (hy : y < 256) (x : Int) (hx1 : -9223372036854775808 ≤ x) (hx2 : x ≤ 9223372036854775807) (hni : (m : Int) % 1100 = 256) (w : World) (hT : Tab w) :
    Calls Tryd.prog 9 #[.int .u16 m, .int .u16 a, .int .u8 y, .int .i64 x] w fun e w' => e = .returned (.bool true) ∧ Below w.heap.size w w' := by
  have HT := Lib.hid hT
  obtain ⟨i, hi⟩ : ∃ i, a % 64 = i := ⟨_, rfl⟩
  have hii : (a : Int) % 64 = i := by omega
  have hi64 : i < 64 := by omega
  have hmb : mayB 256 = true := by decide
  clear hT hi
  go_enter Tryd.func9, Tryd.ntmps9
  go_wp2_with fail
  refine (examples_any _ HT.out).mono ?_
  rintro e W1 ⟨rfl, hB⟩
  obtain ⟨W2, hmk, hBk, hA⟩ := make_u8 256 (by omega) W1
  obtain ⟨t, ht⟩ : ∃ t, tx (List.replicate 256 0) = t := ⟨_, rfl⟩
  have hcv := bytes_back hA (n := 256) (by rw [List.length_replicate]) 256
  obtain ⟨q, c, hc0, hc2, hof⟩ := of_zeros 256 (by omega) W2
  rw [hmb] at hc0 hc2
  rw [ht] at hcv hof
  replace hmk : (Instr.makeSlice 42 (.int .i64 256) (.int .i64 256)).run Tryd.prog W1 = .ok (.slice (some ⟨W1.heap.size, 0, none⟩) 256 256) W2 := hmk
  replace hc2 : (c == 2) = false := hc2
  replace hB := below_on hB hBk (Nat.le_refl _)
  clear hA hBk ht hmb
  generalize W1.heap.size = R1 at hmk hcv
  go_wp2_with fail
  refine hof.mono ?_
  rintro e W3 ⟨rfl, hB2⟩
  replace hB := below_on hB hB2 (Nat.le_refl _)
  clear hB2 hmk hcv hof
  obtain ⟨W4, hmk, hBk, hA⟩ := make_u8 64 (by omega) W3
  have hR : w.heap.size ≤ W3.heap.size := hB.size
  have hy8 : (UInt8.ofNat y).toNat = y := by rw [UInt8.toNat_ofNat']; omega
  have hk := hA.cell i (by rw [List.length_replicate]; exact hi64)
  have hf := hA.fro i (by rw [List.length_replicate]; exact hi64)
  rw [List.getElem_replicate, show ((0 : UInt8).toNat : Int) = 0 from rfl] at hk
  have hA2 := hA.set i (UInt8.ofNat y) (by rw [List.length_replicate]; exact hi64)
  rw [hy8] at hA2
  have hcv := bytes_back hA2 (n := 64) (by rw [List.length_set, List.length_replicate]) 64
  replace hB := (below_on hB hBk (Nat.le_refl _)).setCell (p := ⟨W3.heap.size, i, none⟩) hR (.int .u8 (y : Int))
  obtain ⟨q2, c2, hc20, hof2⟩ := of_byte i hi64 y hy (W4.setCell ⟨W3.heap.size, i, none⟩ (.int .u8 (y : Int)))
  replace hmk : (Instr.makeSlice 42 (.int .i64 64) (.int .i64 64)).run Tryd.prog W3 = .ok (.slice (some ⟨W3.heap.size, 0, none⟩) 64 64) W4 := hmk
  obtain ⟨t2, ht2⟩ : ∃ t, tx ((List.replicate 64 0).set i (UInt8.ofNat y)) = t := ⟨_, rfl⟩
  rw [ht2] at hcv hof2
  clear hA hA2 hBk ht2 hR hy8
  generalize W3.heap.size = R at *
  go_wp2_with fail
  refine hof2.mono ?_
  rintro e W5 ⟨rfl, hB2⟩
  replace hB := below_on hB hB2 (Nat.le_refl _)
  clear hB2 hmk hcv hof2 hk hf
  obtain ⟨q3, c3, hc30, hnw⟩ := new_bits x W5
  go_wp2_with fail
  refine hnw.mono ?_
  rintro e W6 ⟨rfl, hB2⟩
  replace hB := below_on hB hB2 (Nat.le_refl _)
  clear hB2 hnw
  by_cases h4 : 4 ≤ x
  · rw [decide_eq_true h4, Bool.true_and] at hc30
    go_wp2
    go_ret
    exact ⟨rfl, hB⟩
  · rw [decide_eq_false h4, Bool.false_and] at hc30
    go_wp2
    go_ret
    exact ⟨rfl, hB⟩
set_option maxRecDepth 100000 in
set_option maxHeartbeats 8000000 in
theorem wrong_512 (m : Nat) (hm : m < 65536) (a : Nat) (ha : a < 65536) (y : Nat) (hy : y < 256) (x : Int) (hx1 : -9223372036854775808 ≤ x) (hx2 : x ≤ 9223372036854775807) (hni : (m : Int) % 1100 = 512) (w : World) (hT : Tab w) :
    Calls Tryd.prog 9 #[.int .u16 m, .int .u16 a, .int .u8 y, .int .i64 x] w fun e w' => e = .returned (.bool true) ∧ Below w.heap.size w w' := by
  have HT := Lib.hid hT
  obtain ⟨i, hi⟩ : ∃ i, a % 64 = i := ⟨_, rfl⟩
  have hii : (a : Int) % 64 = i := by omega
  have hi64 : i < 64 := by omega
  have hmb : mayB 512 = true := by decide
  clear hT hi
  go_enter Tryd.func9, Tryd.ntmps9
  go_wp2_with fail
  refine (examples_any _ HT.out).mono ?_
  rintro e W1 ⟨rfl, hB⟩
  obtain ⟨W2, hmk, hBk, hA⟩ := make_u8 512 (by omega) W1
  obtain ⟨t, ht⟩ : ∃ t, tx (List.replicate 512 0) = t := ⟨_, rfl⟩
  have hcv := bytes_back hA (n := 512) (by rw [List.length_replicate]) 512
  obtain ⟨q, c, hc0, hc2, hof⟩ := of_zeros 512 (by omega) W2
  rw [hmb] at hc0 hc2
  rw [ht] at hcv hof
  replace hmk : (Instr.makeSlice 42 (.int .i64 512) (.int .i64 512)).run Tryd.prog W1 = .ok (.slice (some ⟨W1.heap.size, 0, none⟩) 512 512) W2 := hmk
  replace hc2 : (c == 2) = false := hc2
  replace hB := below_on hB hBk (Nat.le_refl _)
  clear hA hBk ht hmb
  generalize W1.heap.size = R1 at hmk hcv
  go_wp2_with fail
  refine hof.mono ?_
  rintro e W3 ⟨rfl, hB2⟩
  replace hB := below_on hB hB2 (Nat.le_refl _)
  clear hB2 hmk hcv hof
  obtain ⟨W4, hmk, hBk, hA⟩ := make_u8 64 (by omega) W3
  have hR : w.heap.size ≤ W3.heap.size := hB.size
  have hy8 : (UInt8.ofNat y).toNat = y := by rw [UInt8.toNat_ofNat']; omega
  have hk := hA.cell i (by rw [List.length_replicate]; exact hi64)
  have hf := hA.fro i (by rw [List.length_replicate]; exact hi64)
  rw [List.getElem_replicate, show ((0 : UInt8).toNat : Int) = 0 from rfl] at hk
  have hA2 := hA.set i (UInt8.ofNat y) (by rw [List.length_replicate]; exact hi64)
  rw [hy8] at hA2
  have hcv := bytes_back hA2 (n := 64) (by rw [List.length_set, List.length_replicate]) 64
  replace hB := (below_on hB hBk (Nat.le_refl _)).setCell (p := ⟨W3.heap.size, i, none⟩) hR (.int .u8 (y : Int))
  obtain ⟨q2, c2, hc20, hof2⟩ := of_byte i hi64 y hy (W4.setCell ⟨W3.heap.size, i, none⟩ (.int .u8 (y : Int)))
  replace hmk : (Instr.makeSlice 42 (.int .i64 64) (.int .i64 64)).run Tryd.prog W3 = .ok (.slice (some ⟨W3.heap.size, 0, none⟩) 64 64) W4 := hmk
  obtain ⟨t2, ht2⟩ : ∃ t, tx ((List.replicate 64 0).set i (UInt8.ofNat y)) = t := ⟨_, rfl⟩
  rw [ht2] at hcv hof2
  clear hA hA2 hBk ht2 hR hy8
  generalize W3.heap.size = R at *
  go_wp2_with fail
  refine hof2.mono ?_
  rintro e W5 ⟨rfl, hB2⟩
  replace hB := below_on hB hB2 (Nat.le_refl _)
  clear hB2 hmk hcv hof2 hk hf
  obtain ⟨q3, c3, hc30, hnw⟩ := new_bits x W5
  go_wp2_with fail
  refine hnw.mono ?_
  rintro e W6 ⟨rfl, hB2⟩
  replace hB := below_on hB hB2 (Nat.le_refl _)
  clear hB2 hnw
  by_cases h4 : 4 ≤ x
  · rw [decide_eq_true h4, Bool.true_and] at hc30
    go_wp2
    go_ret
    exact ⟨rfl, hB⟩
  · rw [decide_eq_false h4, Bool.false_and] at hc30
    go_wp2
    go_ret
    exact ⟨rfl, hB⟩
set_option maxRecDepth 100000 in
set_option maxHeartbeats 8000000 in
theorem wrong_1024 (m : Nat) (hm : m < 65536) (a : Nat) (ha : a < 65536) (y : Nat) (hy : y < 256) (x : Int) (hx1 : -9223372036854775808 ≤ x) (hx2 : x ≤ 9223372036854775807) (hni : (m : Int) % 1100 = 1024) (w : World) (hT : Tab w) :
    Calls Tryd.prog 9 #[.int .u16 m, .int .u16 a, .int .u8 y, .int .i64 x] w fun e w' => e = .returned (.bool true) ∧ Below w.heap.size w w' := by
  have HT := Lib.hid hT
  obtain ⟨i, hi⟩ : ∃ i, a % 64 = i := ⟨_, rfl⟩
  have hii : (a : Int) % 64 = i := by omega
  have hi64 : i < 64 := by omega
  have hmb : mayB 1024 = true := by decide
  clear hT hi
  go_enter Tryd.func9, Tryd.ntmps9
  go_wp2_with fail
  refine (examples_any _ HT.out).mono ?_
  rintro e W1 ⟨rfl, hB⟩
  obtain ⟨W2, hmk, hBk, hA⟩ := make_u8 1024 (by omega) W1
  obtain ⟨t, ht⟩ : ∃ t, tx (List.replicate 1024 0) = t := ⟨_, rfl⟩
  have hcv := bytes_back hA (n := 1024) (by rw [List.length_replicate]) 1024
  obtain ⟨q, c, hc0, hc2, hof⟩ := of_zeros 1024 (by omega) W2
  rw [hmb] at hc0 hc2
  rw [ht] at hcv hof
  replace hmk : (Instr.makeSlice 42 (.int .i64 1024) (.int .i64 1024)).run Tryd.prog W1 = .ok (.slice (some ⟨W1.heap.size, 0, none⟩) 1024 1024) W2 := hmk
  replace hc2 : (c == 2) = false := hc2
  replace hB := below_on hB hBk (Nat.le_refl _)
  clear hA hBk ht hmb
  generalize W1.heap.size = R1 at hmk hcv
  go_wp2_with fail
  refine hof.mono ?_
  rintro e W3 ⟨rfl, hB2⟩
  replace hB := below_on hB hB2 (Nat.le_refl _)
  clear hB2 hmk hcv hof
  obtain ⟨W4, hmk, hBk, hA⟩ := make_u8 64 (by omega) W3
  have hR : w.heap.size ≤ W3.heap.size := hB.size
  have hy8 : (UInt8.ofNat y).toNat = y := by rw [UInt8.toNat_ofNat']; omega
  have hk := hA.cell i (by rw [List.length_replicate]; exact hi64)
  have hf := hA.fro i (by rw [List.length_replicate]; exact hi64)
  rw [List.getElem_replicate, show ((0 : UInt8).toNat : Int) = 0 from rfl] at hk
  have hA2 := hA.set i (UInt8.ofNat y) (by rw [List.length_replicate]; exact hi64)
  rw [hy8] at hA2
  have hcv := bytes_back hA2 (n := 64) (by rw [List.length_set, List.length_replicate]) 64
  replace hB := (below_on hB hBk (Nat.le_refl _)).setCell (p := ⟨W3.heap.size, i, none⟩) hR (.int .u8 (y : Int))
  obtain ⟨q2, c2, hc20, hof2⟩ := of_byte i hi64 y hy (W4.setCell ⟨W3.heap.size, i, none⟩ (.int .u8 (y : Int)))
  replace hmk : (Instr.makeSlice 42 (.int .i64 64) (.int .i64 64)).run Tryd.prog W3 = .ok (.slice (some ⟨W3.heap.size, 0, none⟩) 64 64) W4 := hmk
  obtain ⟨t2, ht2⟩ : ∃ t, tx ((List.replicate 64 0).set i (UInt8.ofNat y)) = t := ⟨_, rfl⟩
  rw [ht2] at hcv hof2
  clear hA hA2 hBk ht2 hR hy8
  generalize W3.heap.size = R at *
  go_wp2_with fail
  refine hof2.mono ?_
  rintro e W5 ⟨rfl, hB2⟩
  replace hB := below_on hB hB2 (Nat.le_refl _)
  clear hB2 hmk hcv hof2 hk hf
  obtain ⟨q3, c3, hc30, hnw⟩ := new_bits x W5
  go_wp2_with fail
  refine hnw.mono ?_
  rintro e W6 ⟨rfl, hB2⟩
  replace hB := below_on hB hB2 (Nat.le_refl _)
  clear hB2 hnw
  by_cases h4 : 4 ≤ x
  · rw [decide_eq_true h4, Bool.true_and] at hc30
    go_wp2
    go_ret
    exact ⟨rfl, hB⟩
  · rw [decide_eq_false h4, Bool.false_and] at hc30
    go_wp2
    go_ret
    exact ⟨rfl, hB⟩
set_option maxRecDepth 100000 in
set_option maxHeartbeats 8000000 in
theorem wrong_no (m : Nat) (hm : m < 65536) (a : Nat) (ha : a < 65536) (y : Nat) (hy : y < 256) (x : Int) (hx1 : -9223372036854775808 ≤ x) (hx2 : x ≤ 9223372036854775807) (n : Nat) (hn2 : n ≤ 2000) (hmb : mayB n = false) (e16 : ((n : Int) == 16) = false) (e32 : ((n : Int) == 32) = false) (e64 : ((n : Int) == 64) = false) (e128 : ((n : Int) == 128) = false) (e256 : ((n : Int) == 256) = false) (e512 : ((n : Int) == 512) = false) (e1024 : ((n : Int) == 1024) = false) (hni : (m : Int) % 1100 = (n : Int)) (w : World) (hT : Tab w) :
    Calls Tryd.prog 9 #[.int .u16 m, .int .u16 a, .int .u8 y, .int .i64 x] w fun e w' => e = .returned (.bool true) ∧ Below w.heap.size w w' := by
  have HT := Lib.hid hT
  obtain ⟨i, hi⟩ : ∃ i, a % 64 = i := ⟨_, rfl⟩
  have hii : (a : Int) % 64 = i := by omega
  have hi64 : i < 64 := by omega
  have hmb : mayB n = false := hmb
  clear hT hi
  go_enter Tryd.func9, Tryd.ntmps9
  go_wp2_with fail
  refine (examples_any _ HT.out).mono ?_
  rintro e W1 ⟨rfl, hB⟩
  obtain ⟨W2, hmk, hBk, hA⟩ := make_u8 n (by omega) W1
  obtain ⟨t, ht⟩ : ∃ t, tx (List.replicate n 0) = t := ⟨_, rfl⟩
  have hcv := bytes_back hA (n := n) (by rw [List.length_replicate]) n
  obtain ⟨q, c, hc0, hc2, hof⟩ := of_zeros n (by omega) W2
  rw [hmb] at hc0 hc2
  rw [ht] at hcv hof
  replace hmk : (Instr.makeSlice 42 (.int .i64 (n : Int)) (.int .i64 (n : Int))).run Tryd.prog W1 = .ok (.slice (some ⟨W1.heap.size, 0, none⟩) n n) W2 := hmk
  replace hc2 : (c == 2) = true := hc2
  replace hB := below_on hB hBk (Nat.le_refl _)
  clear hA hBk ht hmb
  generalize W1.heap.size = R1 at hmk hcv
  go_wp2_with fail
  refine hof.mono ?_
  rintro e W3 ⟨rfl, hB2⟩
  replace hB := below_on hB hB2 (Nat.le_refl _)
  clear hB2 hmk hcv hof
  obtain ⟨W4, hmk, hBk, hA⟩ := make_u8 64 (by omega) W3
  have hR : w.heap.size ≤ W3.heap.size := hB.size
  have hy8 : (UInt8.ofNat y).toNat = y := by rw [UInt8.toNat_ofNat']; omega
  have hk := hA.cell i (by rw [List.length_replicate]; exact hi64)
  have hf := hA.fro i (by rw [List.length_replicate]; exact hi64)
  rw [List.getElem_replicate, show ((0 : UInt8).toNat : Int) = 0 from rfl] at hk
  have hA2 := hA.set i (UInt8.ofNat y) (by rw [List.length_replicate]; exact hi64)
  rw [hy8] at hA2
  have hcv := bytes_back hA2 (n := 64) (by rw [List.length_set, List.length_replicate]) 64
  replace hB := (below_on hB hBk (Nat.le_refl _)).setCell (p := ⟨W3.heap.size, i, none⟩) hR (.int .u8 (y : Int))
  obtain ⟨q2, c2, hc20, hof2⟩ := of_byte i hi64 y hy (W4.setCell ⟨W3.heap.size, i, none⟩ (.int .u8 (y : Int)))
  replace hmk : (Instr.makeSlice 42 (.int .i64 64) (.int .i64 64)).run Tryd.prog W3 = .ok (.slice (some ⟨W3.heap.size, 0, none⟩) 64 64) W4 := hmk
  obtain ⟨t2, ht2⟩ : ∃ t, tx ((List.replicate 64 0).set i (UInt8.ofNat y)) = t := ⟨_, rfl⟩
  rw [ht2] at hcv hof2
  clear hA hA2 hBk ht2 hR hy8
  generalize W3.heap.size = R at *
  go_wp2_with fail
  refine hof2.mono ?_
  rintro e W5 ⟨rfl, hB2⟩
  replace hB := below_on hB hB2 (Nat.le_refl _)
  clear hB2 hmk hcv hof2 hk hf
  obtain ⟨q3, c3, hc30, hnw⟩ := new_bits x W5
  go_wp2_with fail
  refine hnw.mono ?_
  rintro e W6 ⟨rfl, hB2⟩
  replace hB := below_on hB hB2 (Nat.le_refl _)
  clear hB2 hnw
  by_cases h4 : 4 ≤ x
  · rw [decide_eq_true h4, Bool.true_and] at hc30
    go_wp2
    go_ret
    exact ⟨rfl, hB⟩
  · rw [decide_eq_false h4, Bool.false_and] at hc30
    go_wp2
    go_ret
    exact ⟨rfl, hB⟩
theorem HllWrong_walk (a0 : Int) (h0 : (Lit.int .u16 a0).wf = true) (a1 : Int) (h1 : (Lit.int .u16 a1).wf = true) (a2 : Int) (h2 : (Lit.int .u8 a2).wf = true) (x : Int) (hx : (Lit.int .i64 x).wf = true) (w : World) (hT : Tab w) :
    Calls Tryd.prog 9 #[.int .u16 a0, .int .u16 a1, .int .u8 a2, .int .i64 x] w fun e w' => e = .returned (.bool true) ∧ Below w.heap.size w w' := by
  obtain ⟨m, rfl, hm⟩ := wf_u16 h0
  obtain ⟨a, rfl, ha⟩ := wf_u16 h1
  obtain ⟨y, rfl, hy⟩ := wf_u8 h2
  obtain ⟨hx1, hx2⟩ := wf_i64 hx
  obtain ⟨n, hn⟩ : ∃ n, m % 1100 = n := ⟨_, rfl⟩
  by_cases e16 : n = 16
  · exact wrong_16 m hm a ha y hy x hx1 hx2 (by omega) w hT
  by_cases e32 : n = 32
  · exact wrong_32 m hm a ha y hy x hx1 hx2 (by omega) w hT
  by_cases e64 : n = 64
  · exact wrong_64 m hm a ha y hy x hx1 hx2 (by omega) w hT
  by_cases e128 : n = 128
  · exact wrong_128 m hm a ha y hy x hx1 hx2 (by omega) w hT
  by_cases e256 : n = 256
  · exact wrong_256 m hm a ha y hy x hx1 hx2 (by omega) w hT
  by_cases e512 : n = 512
  · exact wrong_512 m hm a ha y hy x hx1 hx2 (by omega) w hT
  by_cases e1024 : n = 1024
  · exact wrong_1024 m hm a ha y hy x hx1 hx2 (by omega) w hT
  refine wrong_no m hm a ha y hy x hx1 hx2 n (by omega) ?_ (beq_eq_false_iff_ne.2 (by omega)) (beq_eq_false_iff_ne.2 (by omega)) (beq_eq_false_iff_ne.2 (by omega)) (beq_eq_false_iff_ne.2 (by omega)) (beq_eq_false_iff_ne.2 (by omega)) (beq_eq_false_iff_ne.2 (by omega)) (beq_eq_false_iff_ne.2 (by omega)) (by omega) w hT
  simp [mayB, e16, e32, e64, e128, e256, e512, e1024]
end Go.Proofs.YtdcjfefnkjdchaaDoor
