/- What is thrown: whether a sum, a least and a most may be. -/
import Derived.Test.YtmjipafhahggpaaDoorMCeA
import Derived.Test.YtmjipafhahggpaaDoorMcI
import Derived.Test.YtmjipafhahggpaaDoorMReg3
namespace Go.Proofs.YtmjipafhahggpaaDoor.Ce
open Go Go.RowKit Hi

abbrev PE : Ending := .panicked [{ v := .iface 31 (.int .i64 2), recovered := false }]
theorem must_yes (w : World) : Calls Tryd.prog 47 #[.bool true] w fun e w' => e = .returned (.tuple #[]) ∧ Below w.heap.size w w' := by
  go_enter Tryd.func47, Tryd.ntmps47
  go_wp2
  go_end0
  exact ⟨rfl, Below.refl _ _⟩
theorem must_no (w : World) : Calls Tryd.prog 47 #[.bool false] w fun e w' => e = PE ∧ Below w.heap.size w w' := by
  go_enter Tryd.func47, Tryd.ntmps47
  go_wp2
  exact ⟨rfl, rfl, Below.refl _ _⟩
theorem times_in {m : Nat} {n : Int} (hm : m ≤ 1099511627776) (hn : In64 n) : Wi.InS ((m : Int) * n) := by
  obtain ⟨h1, h2⟩ := hn
  have a1 : (m : Int) * n ≤ (m : Int) * 9223372036854775807 := Int.mul_le_mul_of_nonneg_left h2 (by omega)
  have a2 : (m : Int) * (-9223372036854775808) ≤ (m : Int) * n := Int.mul_le_mul_of_nonneg_left h1 (by omega)
  unfold Wi.InS
  omega
theorem times_parts {m : Nat} {n : Int} (hm : m ≤ 1099511627776) (hn : In64 n) :
    wrap64 (wrap64 (Wi.shi n * (m : Int)) + (((Wi.slo n).toNat * m / 18446744073709551616 : Nat) : Int)) = Wi.shi ((m : Int) * n) ∧ (((Wi.slo n).toNat * m % 18446744073709551616 : Nat) : Int) = Wi.slo ((m : Int) * n) := by
  have hz := times_in hm hn
  obtain ⟨h1, h2⟩ := hn
  obtain ⟨P, hP⟩ : ∃ P, (m : Int) * n = P := ⟨_, rfl⟩
  rw [hP] at hz ⊢
  obtain ⟨q, hq⟩ : ∃ q, (Wi.slo n).toNat * m = q := ⟨_, rfl⟩
  have hd := Nat.div_add_mod q 18446744073709551616
  have hr := Nat.mod_lt q (show 0 < 18446744073709551616 by omega)
  have hb : n < 0 ∧ Wi.shi n = -1 ∧ ((Wi.slo n).toNat : Int) = n + 18446744073709551616 ∨ Wi.shi n = 0 ∧ ((Wi.slo n).toNat : Int) = n := by
    unfold Wi.shi Wi.slo
    omega
  have hqP : ((q : Nat) : Int) = P + 18446744073709551616 * (m : Int) ∧ Wi.shi n = -1 ∨ ((q : Nat) : Int) = P ∧ Wi.shi n = 0 := by
    rcases hb with ⟨_, e1, e2⟩ | ⟨e1, e2⟩
    · refine .inl ⟨?_, e1⟩
      rw [← hq, Int.natCast_mul, e2, Int.add_mul, ← hP, Int.mul_comm]
    · refine .inr ⟨?_, e1⟩
      rw [← hq, Int.natCast_mul, e2, ← hP, Int.mul_comm]
  rw [hq]
  clear hb hq hP h1 h2
  generalize q / 18446744073709551616 = cy at *
  generalize q % 18446744073709551616 = lw at *
  generalize Wi.shi n = sh at *
  unfold Wi.InS at hz
  unfold Wi.shi Wi.slo wrap64
  rcases hqP with ⟨e1, rfl⟩ | ⟨e1, rfl⟩
  · constructor <;> omega
  · constructor <;> omega
set_option maxRecDepth 100000 in
set_option maxHeartbeats 4000000 in
theorem times_any (m : Nat) (n : Int) (hm : m ≤ 1099511627776) (hn : In64 n) (w : World) :
    Calls Tryd.prog 68 #[.int .u64 m, .int .i64 n] w fun e w' => e = .returned (Wi.sv ((m : Int) * n)) ∧ Below w.heap.size w w' := by
  have hof := fun W => Wi.of_any n hn.1 hn.2 W
  obtain ⟨p1, p2⟩ := times_parts hm hn
  have hmul := fun W => Tryd.bits_Mul64 (Wi.slo n).toNat m (by have := Wi.slo_hi n; omega) (by omega) W
  rw [show ((Wi.slo n).toNat : Int) = Wi.slo n from Int.toNat_of_nonneg (Wi.slo_lo n)] at hmul
  have hsv : Wi.sv ((m : Int) * n) = .agg #[.int .i64 (Wi.shi ((m : Int) * n)), .int .u64 (Wi.slo ((m : Int) * n))] := rfl
  rw [hsv, ← p1, ← p2]
  have hm64 : (m : Int) ≤ 1099511627776 := by omega
  have hcy : (Wi.slo n).toNat * m / 18446744073709551616 < 18446744073709551616 := by
    have h1 := Wi.slo_hi n
    have h2 : (Wi.slo n).toNat * m ≤ 18446744073709551615 * 1099511627776 := Nat.mul_le_mul (by omega) hm
    omega
  have hcy2 : (Wi.slo n).toNat * m / 18446744073709551616 ≤ 1099511627776 := by
    have h1 := Wi.slo_hi n
    have h2 : (Wi.slo n).toNat * m ≤ 18446744073709551615 * 1099511627776 := Nat.mul_le_mul (by omega) hm
    omega
  generalize (Wi.slo n).toNat * m / 18446744073709551616 = cy at *
  generalize (Wi.slo n).toNat * m % 18446744073709551616 = lw at *
  clear hn hm p1 p2 hsv hcy
  have HF := Lib.hid hof
  have HM := Lib.hid hmul
  clear hof hmul
  go_enter Tryd.func68, Tryd.ntmps68
  go_wp2_with fail
  have hB0 : Below w.heap.size w (w.alloc (.cells #[.int .i64 0, .int .u64 0] 26)) := (Below.refl _ _).alloc (Nat.le_refl _) _
  have hX := CellsAt.new #[.int .i64 0, .int .u64 0] 26 w
  refine (HF.out _).mono ?_
  rintro e w1 ⟨rfl, hB1⟩
  rw [show Wi.sv n = .agg #[.int .i64 (Wi.shi n), .int .u64 (Wi.slo n)] from rfl]
  have HX := Lib.hid (hX.below hB1)
  have HB1 := Lib.hid (hB0.trans (hB1.mono hB0.size))
  clear hX hB0 hB1 HF
  have c1 : (w1.alloc (.cells #[.int .i64 (Wi.shi n), .int .u64 (Wi.slo n)] 26)).cell? ⟨w1.heap.size, 1, none⟩ = some (.int .u64 (Wi.slo n)) := (CellsAt.new #[.int .i64 (Wi.shi n), .int .u64 (Wi.slo n)] 26 w1).cell 1 _ rfl
  go_wp2_with fail
  refine (HM.out _).mono ?_
  rintro e w2 ⟨rfl, rfl⟩
  have HX2 := HX.out.past (.cells #[.int .i64 (Wi.shi n), .int .u64 (Wi.slo n)] 26)
  have y0 := HX2.cell 0 _ rfl
  have y1 := HX2.cell 1 _ rfl
  have z0 := HX2.fro 0 _ rfl
  have z1 := HX2.fro 1 _ rfl
  go_wp2
  have HX3 := (HX2.set 0 (.int .i64 (wrap64 (wrap64 (Wi.shi n * (m : Int)) + (cy : Int)))) (by simp)).set 1 (.int .u64 (lw : Int)) (by simp)
  have q0 := HX3.cell 0 (.int .i64 (wrap64 (wrap64 (Wi.shi n * (m : Int)) + (cy : Int)))) rfl
  have q1 := HX3.cell 1 (.int .u64 (lw : Int)) rfl
  have hE : Below w.heap.size w (((w1.alloc (.cells #[.int .i64 (Wi.shi n), .int .u64 (Wi.slo n)] 26)).setCell ⟨w.heap.size, 0, none⟩ (.int .i64 (wrap64 (wrap64 (Wi.shi n * (m : Int)) + (cy : Int))))).setCell ⟨w.heap.size, 1, none⟩ (.int .u64 (lw : Int))) :=
    ((HB1.out.alloc HB1.out.size _).setCell (p := ⟨w.heap.size, 0, none⟩) (Nat.le_refl _) _).setCell (p := ⟨w.heap.size, 1, none⟩) (Nat.le_refl _) _
  generalize (((w1.alloc (.cells #[.int .i64 (Wi.shi n), .int .u64 (Wi.slo n)] 26)).setCell ⟨w.heap.size, 0, none⟩ (.int .i64 (wrap64 (wrap64 (Wi.shi n * (m : Int)) + (cy : Int))))).setCell ⟨w.heap.size, 1, none⟩ (.int .u64 (lw : Int))) = W at q0 q1 hE ⊢
  clear HX3 HX2 y0 y1 z0 z1 c1
  simp [bodyPost, results, Tryd.results68, go_sem, q0, q1]
  exact hE
theorem rank_some {l : List Hit} {r : Nat} (h1 : 1 ≤ r) (h2 : r ≤ countH l) : ∃ a, rankH l r = some a := by
  rw [rankH_spread l r h1]
  have : r - 1 < (spread l).length := by rw [spread_length]; omega
  exact ⟨_, List.getElem?_eq_getElem this⟩
set_option maxRecDepth 100000 in
set_option maxHeartbeats 4000000 in
theorem isat_any {C B k : Nat} {v : Value} {l : List Hit} {f a b lo hi : Int} {w : World} (hC : CellsAt C #[.pointer (some ⟨B, 0, none⟩), .int .i64 f, .int .i64 a, .int .u64 b, .int .i64 lo, .int .i64 hi] w)
    (hs : Hs 0 66 B k v l w) (r : Nat) (h1 : 1 ≤ r) (h2 : r ≤ countH l) (n : Int) (hn : In64 n) :
    Calls Tryd.prog 66 #[.pointer (some ⟨C, 0, none⟩), .int .u64 r, .int .i64 n] w fun e w' => e = .returned (.bool (decide (rankH l r = some (ofI k n)))) ∧ Below w.heap.size w w' := by
  obtain ⟨x, hx⟩ := rank_some h1 h2
  have hr := rank_any hs r h1 (by have := hs.inv.sum; omega)
  rw [hx] at hr ⊢
  rw [show rkV (some x) = .tuple #[.int .i64 x, .bool true] from rfl] at hr
  have HOF : Hid (∀ W, Calls Tryd.prog 36 #[.int .i64 k, .int .i64 n] W fun e w' => e = .returned (.tuple #[.int .i64 (ofI k n), .bool true]) ∧ Below W.heap.size W w') := Lib.hid fun W => of_any k hs.inv.hk n hn W
  have c0 := hC.cell 0 _ rfl
  have HC := Lib.hid hC
  have HS := Lib.hid hs
  clear hC hs hx h1 h2
  generalize hy : ofI k n = y at *
  clear hy
  obtain ⟨q, hq⟩ : ∃ q, (y == x) = q := ⟨_, rfl⟩
  have hq2 : decide (some x = some y) = q := by
    rw [← hq]
    by_cases e : x = y
    · simp [e]
    · have e' : ¬ y = x := fun h => e h.symm
      simp [e, e']
  rw [hq2]
  clear hq2
  go_enter Tryd.func66, Tryd.ntmps66
  go_wp2_with fail
  refine hr.mono ?_
  rintro e w1 ⟨rfl, hB1⟩
  have d0 := (HC.out.below hB1).cell 0 _ rfl
  have hb := bits_any (HS.out.below hB1)
  have HB1 := Lib.hid hB1
  clear hr hB1 c0 HC HS
  go_wp2_with fail
  refine hb.mono ?_
  rintro e _ ⟨rfl, rfl⟩
  go_wp2_with fail
  refine (HOF.out _).mono ?_
  rintro e w2 ⟨rfl, hB2⟩
  have HB2 : Hid (Below w.heap.size w w2) := Lib.hid (HB1.out.trans (hB2.mono HB1.out.size))
  clear hb hB2 HB1 HOF d0
  go_wp2
  go_ret
  exact ⟨rfl, HB2.out⟩
set_option maxRecDepth 100000 in
set_option maxHeartbeats 4000000 in
theorem fit_first {C B k : Nat} {v : Value} {l : List Hit} {f s lo hi : Int} {w : World} (hC : CellsAt C #[.pointer (some ⟨B, 0, none⟩), .int .i64 f, .int .i64 (Wi.shi s), .int .u64 (Wi.slo s), .int .i64 lo, .int .i64 hi] w)
    (hs : Hs 0 66 B k v l w) (h0 : 0 < countH l) (_ : Wi.InS s) (hlo : In64 lo) (_ : In64 hi) (hA : ¬ rankH l 1 = some (ofI k lo)) :
    Calls Tryd.prog 51 #[.pointer (some ⟨C, 0, none⟩)] w fun e w' => e = PE ∧ Below w.heap.size w w' := by
  have hc := Hi.count_any hs
  have hcs := hs.inv.sum
  have HA : Hid (∀ W, Below w.heap.size w W → Calls Tryd.prog 66 #[.pointer (some ⟨C, 0, none⟩), .int .u64 1, .int .i64 lo] W fun e w' => e = .returned (.bool false) ∧ Below W.heap.size W w') := Lib.hid fun W hW => by
    have := isat_any (hC.below hW) (hs.below hW) 1 (Nat.le_refl _) h0 lo hlo
    rwa [show decide (rankH l 1 = some (ofI k lo)) = false from decide_eq_false hA] at this
  have c0 := hC.cell 0 _ rfl
  have HX := Lib.hid hC
  clear hC hs h0 hlo hA
  generalize countH l = m at *
  go_enter Tryd.func51, Tryd.ntmps51
  go_wp2_with fail
  refine hc.mono ?_
  rintro e w1 ⟨rfl, hB1⟩
  have d4 := (HX.out.below hB1).cell 4 _ rfl
  have hA := HA.out _ hB1
  have HE1 := Lib.hid hB1
  clear hc c0 HA hB1
  go_wp2_with fail
  refine hA.mono ?_
  rintro e w2 ⟨rfl, hB2⟩
  have HE2 : Hid (Below w.heap.size w w2) := Lib.hid (HE1.out.trans (hB2.mono HE1.out.size))
  clear hA hB2 HE1 d4
  go_wp2_with fail
  refine (must_no _).mono ?_
  rintro e w9 ⟨rfl, hB9⟩
  have HE9 : Hid (Below w.heap.size w w9) := Lib.hid (HE2.out.trans (hB9.mono HE2.out.size))
  clear hB9
  go_wp2
  exact ⟨rfl, rfl, HE9.out⟩
set_option maxRecDepth 100000 in
set_option maxHeartbeats 4000000 in
theorem fit_last {C B k : Nat} {v : Value} {l : List Hit} {f s lo hi : Int} {w : World} (hC : CellsAt C #[.pointer (some ⟨B, 0, none⟩), .int .i64 f, .int .i64 (Wi.shi s), .int .u64 (Wi.slo s), .int .i64 lo, .int .i64 hi] w)
    (hs : Hs 0 66 B k v l w) (h0 : 0 < countH l) (_ : Wi.InS s) (hlo : In64 lo) (hhi : In64 hi) (hA : rankH l 1 = some (ofI k lo)) (hB : ¬ rankH l (countH l) = some (ofI k hi)) :
    Calls Tryd.prog 51 #[.pointer (some ⟨C, 0, none⟩)] w fun e w' => e = PE ∧ Below w.heap.size w w' := by
  have hc := Hi.count_any hs
  have hcs := hs.inv.sum
  have HA : Hid (∀ W, Below w.heap.size w W → Calls Tryd.prog 66 #[.pointer (some ⟨C, 0, none⟩), .int .u64 1, .int .i64 lo] W fun e w' => e = .returned (.bool true) ∧ Below W.heap.size W w') := Lib.hid fun W hW => by
    have := isat_any (hC.below hW) (hs.below hW) 1 (Nat.le_refl _) h0 lo hlo
    rwa [show decide (rankH l 1 = some (ofI k lo)) = true from decide_eq_true hA] at this
  have HB : Hid (∀ W, Below w.heap.size w W → Calls Tryd.prog 66 #[.pointer (some ⟨C, 0, none⟩), .int .u64 (countH l), .int .i64 hi] W fun e w' => e = .returned (.bool false) ∧ Below W.heap.size W w') := Lib.hid fun W hW => by
    have := isat_any (hC.below hW) (hs.below hW) (countH l) h0 (Nat.le_refl _) hi hhi
    rwa [show decide (rankH l (countH l) = some (ofI k hi)) = false from decide_eq_false hB] at this
  have c0 := hC.cell 0 _ rfl
  have HX := Lib.hid hC
  clear hC hs h0 hlo hhi hA hB
  generalize countH l = m at *
  go_enter Tryd.func51, Tryd.ntmps51
  go_wp2_with fail
  refine hc.mono ?_
  rintro e w1 ⟨rfl, hB1⟩
  have d4 := (HX.out.below hB1).cell 4 _ rfl
  have hA := HA.out _ hB1
  have HE1 := Lib.hid hB1
  clear hc c0 HA hB1
  go_wp2_with fail
  refine hA.mono ?_
  rintro e w2 ⟨rfl, hB2⟩
  have HE2 : Hid (Below w.heap.size w w2) := Lib.hid (HE1.out.trans (hB2.mono HE1.out.size))
  clear hA hB2 HE1 d4
  have d5 := (HX.out.below HE2.out).cell 5 _ rfl
  have hB := HB.out _ HE2.out
  clear HB
  go_wp2_with fail
  refine hB.mono ?_
  rintro e w3 ⟨rfl, hB3⟩
  have HE3 : Hid (Below w.heap.size w w3) := Lib.hid (HE2.out.trans (hB3.mono HE2.out.size))
  clear hB hB3 HE2 d5
  go_wp2_with fail
  refine (must_no _).mono ?_
  rintro e w9 ⟨rfl, hB9⟩
  have HE9 : Hid (Below w.heap.size w w9) := Lib.hid (HE3.out.trans (hB9.mono HE3.out.size))
  clear hB9
  go_wp2
  exact ⟨rfl, rfl, HE9.out⟩
def Fit_lowPhi (C _ : Nat) (_ s lo _ zl _ : Int) (m : Nat) : Nat → Value → World → Prop
  | i, v, _ => v = ([.pointer (some ⟨C, 0, none⟩), .pointer (some ⟨C, 0, none⟩), .pointer (some ⟨C, 2, none⟩), Wi.sv s, .int .u64 ((m : Int)), .pointer (some ⟨C, 0, none⟩), .pointer (some ⟨C, 0, none⟩), .pointer (some ⟨C, 4, none⟩), .int .i64 lo, Wi.sv zl, .bool true, .bool false, .bool false, undef, undef, undef, undef, undef, undef, undef, undef, undef, undef, undef, undef, .bool false] : List Value).getD i undef
theorem Fit_lowPhi.stays {C B : Nat} {f s lo hi zl zh : Int} {m : Nat} : ∀ i v wx wy, Fit_lowPhi C B f s lo hi zl zh m i v wx → Reg.Old wx wy → Fit_lowPhi C B f s lo hi zl zh m i v wy := fun _ _ _ _ h _ => h
set_option maxRecDepth 100000 in
set_option maxHeartbeats 4000000 in
theorem fit_low {C B k : Nat} {v : Value} {l : List Hit} {f s lo hi : Int} {w : World} (hC : CellsAt C #[.pointer (some ⟨B, 0, none⟩), .int .i64 f, .int .i64 (Wi.shi s), .int .u64 (Wi.slo s), .int .i64 lo, .int .i64 hi] w)
    (hs : Hs 0 66 B k v l w) (h0 : 0 < countH l) (hS : Wi.InS s) (hlo : In64 lo) (hhi : In64 hi) (hA : rankH l 1 = some (ofI k lo)) (hB : rankH l (countH l) = some (ofI k hi)) (hL : s < (countH l : Int) * lo) :
    Calls Tryd.prog 51 #[.pointer (some ⟨C, 0, none⟩)] w fun e w' => e = PE ∧ Below w.heap.size w w' := by
  have hc := Hi.count_any hs
  have hcs := hs.inv.sum
  have HA : Hid (∀ W, Below w.heap.size w W → Calls Tryd.prog 66 #[.pointer (some ⟨C, 0, none⟩), .int .u64 1, .int .i64 lo] W fun e w' => e = .returned (.bool true) ∧ Below W.heap.size W w') := Lib.hid fun W hW => by
    have := isat_any (hC.below hW) (hs.below hW) 1 (Nat.le_refl _) h0 lo hlo
    rwa [show decide (rankH l 1 = some (ofI k lo)) = true from decide_eq_true hA] at this
  have HB : Hid (∀ W, Below w.heap.size w W → Calls Tryd.prog 66 #[.pointer (some ⟨C, 0, none⟩), .int .u64 (countH l), .int .i64 hi] W fun e w' => e = .returned (.bool true) ∧ Below W.heap.size W w') := Lib.hid fun W hW => by
    have := isat_any (hC.below hW) (hs.below hW) (countH l) h0 (Nat.le_refl _) hi hhi
    rwa [show decide (rankH l (countH l) = some (ofI k hi)) = true from decide_eq_true hB] at this
  have HT1 : Hid (∀ W, Calls Tryd.prog 68 #[.int .u64 (countH l), .int .i64 lo] W fun e w' => e = .returned (Wi.sv ((countH l : Int) * lo)) ∧ Below W.heap.size W w') := Lib.hid fun W => times_any _ _ hcs hlo W
  have HT2 : Hid (∀ W, Calls Tryd.prog 68 #[.int .u64 (countH l), .int .i64 hi] W fun e w' => e = .returned (Wi.sv ((countH l : Int) * hi)) ∧ Below W.heap.size W w') := Lib.hid fun W => times_any _ _ hcs hhi W
  have HL1 : Hid (∀ W, Calls Tryd.prog 67 #[Wi.sv s, Wi.sv ((countH l : Int) * lo)] W fun e w' => e = .returned (.bool true) ∧ Below W.heap.size W w') := Lib.hid fun W => by
    have := Wi.less_any s _ hS (times_in hcs hlo) W
    rwa [show decide (s < (countH l : Int) * lo) = true from decide_eq_true hL] at this
  have c0 := hC.cell 0 _ rfl
  have HX := Lib.hid hC
  clear hC hs h0 hS hlo hhi hA hB hL
  generalize countH l = m at *
  generalize (m : Int) * lo = zl at *
  generalize (m : Int) * hi = zh at *
  go_enter Tryd.func51, Tryd.ntmps51
  go_wp2_with fail
  refine hc.mono ?_
  rintro e w1 ⟨rfl, hB1⟩
  have d4 := (HX.out.below hB1).cell 4 _ rfl
  have hA := HA.out _ hB1
  have HE1 := Lib.hid hB1
  clear hc c0 HA hB1
  go_wp2_with fail
  refine hA.mono ?_
  rintro e w2 ⟨rfl, hB2⟩
  have HE2 : Hid (Below w.heap.size w w2) := Lib.hid (HE1.out.trans (hB2.mono HE1.out.size))
  clear hA hB2 HE1 d4
  have d5 := (HX.out.below HE2.out).cell 5 _ rfl
  have hB := HB.out _ HE2.out
  clear HB
  go_wp2_with fail
  refine hB.mono ?_
  rintro e w3 ⟨rfl, hB3⟩
  have HE3 : Hid (Below w.heap.size w w3) := Lib.hid (HE2.out.trans (hB3.mono HE2.out.size))
  clear hB hB3 HE2 d5
  go_wp2_with fail
  refine (must_yes _).mono ?_
  rintro e w4 ⟨rfl, hB4⟩
  have HE4 : Hid (Below w.heap.size w w4) := Lib.hid (HE3.out.trans (hB4.mono HE3.out.size))
  have HX4 := Lib.hid (HX.out.below HE4.out)
  clear hB4 HE3 HX
  go_wp2_with fail
  refine Reg.wp_region_tail (n := 51) 26 (Fit_lowPhi C B f s lo hi zl zh m) (by kernel_rfl) (by decide) (by kernel_rfl) (by kernel_rfl) (by kernel_rfl) rfl Fit_lowPhi.stays ?_ ?_
  · refine ⟨?_, ?_, ?_, ?_, ?_, ?_, ?_, ?_, ?_, ?_, ?_, ?_, ?_, ?_, ?_, ?_, ?_, ?_, ?_, ?_, ?_, ?_, ?_, ?_, ?_, ?_, trivial⟩
    · intro cx wc hB hp hs
      have g0 : cx.tmps[0]? = some (.pointer (some ⟨C, 0, none⟩)) := (hs 0 (by kernel_rfl)).trans rfl
      refine Reg.ok_value Reg.Old.refl (v := .pointer (some ⟨C, 0, none⟩)) (Reg.wanted_none rfl) ?_ rfl
      go_simp
    · intro cx wc hB hp hs
      have g24 : cx.tmps[24]? = some (.pointer (some ⟨C, 0, none⟩)) := by obtain ⟨_, g, hv⟩ := Reg.pred hp 0 24 (by kernel_rfl) rfl rfl; exact g.trans (congrArg some hv)
      refine Reg.ok_value Reg.Old.refl (v := .pointer (some ⟨C, 0, none⟩)) (Reg.wanted_none rfl) ?_ rfl
      go_simp
    · intro cx wc hB hp hs
      have g25 : cx.tmps[25]? = some (.pointer (some ⟨C, 0, none⟩)) := by obtain ⟨_, g, hv⟩ := Reg.pred hp 1 25 (by kernel_rfl) rfl rfl; exact g.trans (congrArg some hv)
      refine Reg.ok_value Reg.Old.refl (v := .pointer (some ⟨C, 2, none⟩)) (Reg.wanted_none rfl) ?_ rfl
      go_simp
    · intro cx wc hB hp hs
      have g26 : cx.tmps[26]? = some (.pointer (some ⟨C, 2, none⟩)) := by obtain ⟨_, g, hv⟩ := Reg.pred hp 2 26 (by kernel_rfl) rfl rfl; exact g.trans (congrArg some hv)
      have hc := HX4.out.drew.below hB
      have k2 := hc.cell 2 (.int .i64 (Wi.shi s)) rfl
      have k3 := hc.cell 3 (.int .u64 (Wi.slo s)) rfl
      refine Reg.ok_value Reg.Old.refl (v := Wi.sv s) (Reg.wanted_none rfl) ?_ rfl
      go_simp
    · intro cx wc hB hp hs
      have g2 : cx.tmps[2]? = some (.int .u64 ((m : Int))) := (hs 2 (by kernel_rfl)).trans rfl
      refine Reg.ok_value Reg.Old.refl (v := .int .u64 ((m : Int))) (Reg.wanted_none rfl) ?_ rfl
      go_simp
    · intro cx wc hB hp hs
      have g0 : cx.tmps[0]? = some (.pointer (some ⟨C, 0, none⟩)) := (hs 0 (by kernel_rfl)).trans rfl
      refine Reg.ok_value Reg.Old.refl (v := .pointer (some ⟨C, 0, none⟩)) (Reg.wanted_none rfl) ?_ rfl
      go_simp
    · intro cx wc hB hp hs
      have g29 : cx.tmps[29]? = some (.pointer (some ⟨C, 0, none⟩)) := by obtain ⟨_, g, hv⟩ := Reg.pred hp 5 29 (by kernel_rfl) rfl rfl; exact g.trans (congrArg some hv)
      refine Reg.ok_value Reg.Old.refl (v := .pointer (some ⟨C, 0, none⟩)) (Reg.wanted_none rfl) ?_ rfl
      go_simp
    · intro cx wc hB hp hs
      have g30 : cx.tmps[30]? = some (.pointer (some ⟨C, 0, none⟩)) := by obtain ⟨_, g, hv⟩ := Reg.pred hp 6 30 (by kernel_rfl) rfl rfl; exact g.trans (congrArg some hv)
      refine Reg.ok_value Reg.Old.refl (v := .pointer (some ⟨C, 4, none⟩)) (Reg.wanted_none rfl) ?_ rfl
      go_simp
    · intro cx wc hB hp hs
      have g31 : cx.tmps[31]? = some (.pointer (some ⟨C, 4, none⟩)) := by obtain ⟨_, g, hv⟩ := Reg.pred hp 7 31 (by kernel_rfl) rfl rfl; exact g.trans (congrArg some hv)
      have hc := HX4.out.drew.below hB
      have k4 := hc.cell 4 (.int .i64 lo) rfl
      refine Reg.ok_value Reg.Old.refl (v := .int .i64 lo) (Reg.wanted_none rfl) ?_ rfl
      go_simp
    · intro cx wc hB hp hs
      have g28 : cx.tmps[28]? = some (.int .u64 ((m : Int))) := by obtain ⟨_, g, hv⟩ := Reg.pred hp 4 28 (by kernel_rfl) rfl rfl; exact g.trans (congrArg some hv)
      have g32 : cx.tmps[32]? = some (.int .i64 lo) := by obtain ⟨_, g, hv⟩ := Reg.pred hp 8 32 (by kernel_rfl) rfl rfl; exact g.trans (congrArg some hv)
      refine Reg.ok_call (f := 68) (args := #[.int .u64 ((m : Int)), .int .i64 lo]) (Reg.wanted_none rfl) (by go_simp) ((HT1.out wc).mono ?_)
      rintro e w' ⟨rfl, hB2⟩
      exact ⟨_, rfl, hB2, rfl⟩
    · intro cx wc hB hp hs
      have g27 : cx.tmps[27]? = some (Wi.sv s) := by obtain ⟨_, g, hv⟩ := Reg.pred hp 3 27 (by kernel_rfl) rfl rfl; exact g.trans (congrArg some hv)
      have g33 : cx.tmps[33]? = some (Wi.sv zl) := by obtain ⟨_, g, hv⟩ := Reg.pred hp 9 33 (by kernel_rfl) rfl rfl; exact g.trans (congrArg some hv)
      refine Reg.ok_call (f := 67) (args := #[Wi.sv s, Wi.sv zl]) (Reg.wanted_none rfl) (by go_simp) ((HL1.out wc).mono ?_)
      rintro e w' ⟨rfl, hB2⟩
      exact ⟨_, rfl, hB2, rfl⟩
    · intro cx wc hB hp hs
      have g34 : cx.tmps[34]? = some (.bool true) := by obtain ⟨_, g, hv⟩ := Reg.pred hp 10 34 (by kernel_rfl) rfl rfl; exact g.trans (congrArg some hv)
      refine Reg.ok_value Reg.Old.refl (v := .bool false) (Reg.wanted_none rfl) ?_ rfl
      go_simp
    · intro cx wc hB hp hs
      have g35 : cx.tmps[35]? = some (.bool false) := by obtain ⟨_, g, hv⟩ := Reg.pred hp 11 35 (by kernel_rfl) rfl rfl; exact g.trans (congrArg some hv)
      refine Reg.ok_value Reg.Old.refl (v := .bool false) (Reg.wanted_none rfl) ?_ rfl
      go_simp
    · intro cx wc hB hp hs
      have g36 : cx.tmps[36]? = some (.bool false) := by obtain ⟨_, g, hv⟩ := Reg.pred hp 12 36 (by kernel_rfl) rfl rfl; exact g.trans (congrArg some hv)
      exact Reg.ok_skip (Reg.unwanted_at (j := 12) (d := 36) rfl rfl rfl g36 rfl) rfl
    · intro cx wc hB hp hs
      have g36 : cx.tmps[36]? = some (.bool false) := by obtain ⟨_, g, hv⟩ := Reg.pred hp 12 36 (by kernel_rfl) rfl rfl; exact g.trans (congrArg some hv)
      exact Reg.ok_skip (Reg.unwanted_at (j := 12) (d := 36) rfl rfl rfl g36 rfl) rfl
    · intro cx wc hB hp hs
      have g36 : cx.tmps[36]? = some (.bool false) := by obtain ⟨_, g, hv⟩ := Reg.pred hp 12 36 (by kernel_rfl) rfl rfl; exact g.trans (congrArg some hv)
      exact Reg.ok_skip (Reg.unwanted_at (j := 12) (d := 36) rfl rfl rfl g36 rfl) rfl
    · intro cx wc hB hp hs
      have g36 : cx.tmps[36]? = some (.bool false) := by obtain ⟨_, g, hv⟩ := Reg.pred hp 12 36 (by kernel_rfl) rfl rfl; exact g.trans (congrArg some hv)
      exact Reg.ok_skip (Reg.unwanted_at (j := 12) (d := 36) rfl rfl rfl g36 rfl) rfl
    · intro cx wc hB hp hs
      have g36 : cx.tmps[36]? = some (.bool false) := by obtain ⟨_, g, hv⟩ := Reg.pred hp 12 36 (by kernel_rfl) rfl rfl; exact g.trans (congrArg some hv)
      exact Reg.ok_skip (Reg.unwanted_at (j := 12) (d := 36) rfl rfl rfl g36 rfl) rfl
    · intro cx wc hB hp hs
      have g36 : cx.tmps[36]? = some (.bool false) := by obtain ⟨_, g, hv⟩ := Reg.pred hp 12 36 (by kernel_rfl) rfl rfl; exact g.trans (congrArg some hv)
      exact Reg.ok_skip (Reg.unwanted_at (j := 12) (d := 36) rfl rfl rfl g36 rfl) rfl
    · intro cx wc hB hp hs
      have g36 : cx.tmps[36]? = some (.bool false) := by obtain ⟨_, g, hv⟩ := Reg.pred hp 12 36 (by kernel_rfl) rfl rfl; exact g.trans (congrArg some hv)
      exact Reg.ok_skip (Reg.unwanted_at (j := 12) (d := 36) rfl rfl rfl g36 rfl) rfl
    · intro cx wc hB hp hs
      have g36 : cx.tmps[36]? = some (.bool false) := by obtain ⟨_, g, hv⟩ := Reg.pred hp 12 36 (by kernel_rfl) rfl rfl; exact g.trans (congrArg some hv)
      exact Reg.ok_skip (Reg.unwanted_at (j := 12) (d := 36) rfl rfl rfl g36 rfl) rfl
    · intro cx wc hB hp hs
      have g36 : cx.tmps[36]? = some (.bool false) := by obtain ⟨_, g, hv⟩ := Reg.pred hp 12 36 (by kernel_rfl) rfl rfl; exact g.trans (congrArg some hv)
      exact Reg.ok_skip (Reg.unwanted_at (j := 12) (d := 36) rfl rfl rfl g36 rfl) rfl
    · intro cx wc hB hp hs
      have g36 : cx.tmps[36]? = some (.bool false) := by obtain ⟨_, g, hv⟩ := Reg.pred hp 12 36 (by kernel_rfl) rfl rfl; exact g.trans (congrArg some hv)
      exact Reg.ok_skip (Reg.unwanted_at (j := 12) (d := 36) rfl rfl rfl g36 rfl) rfl
    · intro cx wc hB hp hs
      have g36 : cx.tmps[36]? = some (.bool false) := by obtain ⟨_, g, hv⟩ := Reg.pred hp 12 36 (by kernel_rfl) rfl rfl; exact g.trans (congrArg some hv)
      exact Reg.ok_skip (Reg.unwanted_at (j := 12) (d := 36) rfl rfl rfl g36 rfl) rfl
    · intro cx wc hB hp hs
      have g36 : cx.tmps[36]? = some (.bool false) := by obtain ⟨_, g, hv⟩ := Reg.pred hp 12 36 (by kernel_rfl) rfl rfl; exact g.trans (congrArg some hv)
      exact Reg.ok_skip (Reg.unwanted_at (j := 12) (d := 36) rfl rfl rfl g36 rfl) rfl
    · intro cx wc hB hp hs
      have g36 : cx.tmps[36]? = some (.bool false) := by obtain ⟨_, g, hv⟩ := Reg.pred hp 12 36 (by kernel_rfl) rfl rfl; exact g.trans (congrArg some hv)
      refine Reg.ok_value Reg.Old.refl (v := .bool false) (Reg.wanted_none rfl) ?_ rfl
      go_simp
  · intro cx wx hB hsz hdf hv ho
    have hcx := Reg.frame_eq [_, _, _, _, _, _, _, _, _, _, _, _, _, _, _, _, _, _, _, _, _, _, _, _, .pointer (some ⟨C, 0, none⟩), .pointer (some ⟨C, 0, none⟩), .pointer (some ⟨C, 2, none⟩), Wi.sv s, .int .u64 ((m : Int)), .pointer (some ⟨C, 0, none⟩), .pointer (some ⟨C, 0, none⟩), .pointer (some ⟨C, 4, none⟩), .int .i64 lo, Wi.sv zl, .bool true, .bool false, .bool false, undef, undef, undef, undef, undef, undef, undef, undef, undef, undef, undef, undef, .bool false, _] (by simpa using hsz) hdf ⟨((Reg.kept_past ho 0 (by kernel_rfl)).trans rfl), ((Reg.kept_past ho 1 (by kernel_rfl)).trans rfl), ((Reg.kept_past ho 2 (by kernel_rfl)).trans rfl), ((Reg.kept_past ho 3 (by kernel_rfl)).trans rfl), ((Reg.kept_past ho 4 (by kernel_rfl)).trans rfl), ((Reg.kept_past ho 5 (by kernel_rfl)).trans rfl), ((Reg.kept_past ho 6 (by kernel_rfl)).trans rfl), ((Reg.kept_past ho 7 (by kernel_rfl)).trans rfl), ((Reg.kept_past ho 8 (by kernel_rfl)).trans rfl), ((Reg.kept_past ho 9 (by kernel_rfl)).trans rfl), ((Reg.kept_past ho 10 (by kernel_rfl)).trans rfl), ((Reg.kept_past ho 11 (by kernel_rfl)).trans rfl), ((Reg.kept_past ho 12 (by kernel_rfl)).trans rfl), ((Reg.kept_past ho 13 (by kernel_rfl)).trans rfl), ((Reg.kept_past ho 14 (by kernel_rfl)).trans rfl), ((Reg.kept_past ho 15 (by kernel_rfl)).trans rfl), ((Reg.kept_past ho 16 (by kernel_rfl)).trans rfl), ((Reg.kept_past ho 17 (by kernel_rfl)).trans rfl), ((Reg.kept_past ho 18 (by kernel_rfl)).trans rfl), ((Reg.kept_past ho 19 (by kernel_rfl)).trans rfl), ((Reg.kept_past ho 20 (by kernel_rfl)).trans rfl), ((Reg.kept_past ho 21 (by kernel_rfl)).trans rfl), ((Reg.kept_past ho 22 (by kernel_rfl)).trans rfl), ((Reg.kept_past ho 23 (by kernel_rfl)).trans rfl), (by obtain ⟨_, g, hx⟩ := hv 0 _ 24 (by decide) rfl rfl; exact g.trans (congrArg some hx)), (by obtain ⟨_, g, hx⟩ := hv 1 _ 25 (by decide) rfl rfl; exact g.trans (congrArg some hx)), (by obtain ⟨_, g, hx⟩ := hv 2 _ 26 (by decide) rfl rfl; exact g.trans (congrArg some hx)), (by obtain ⟨_, g, hx⟩ := hv 3 _ 27 (by decide) rfl rfl; exact g.trans (congrArg some hx)), (by obtain ⟨_, g, hx⟩ := hv 4 _ 28 (by decide) rfl rfl; exact g.trans (congrArg some hx)), (by obtain ⟨_, g, hx⟩ := hv 5 _ 29 (by decide) rfl rfl; exact g.trans (congrArg some hx)), (by obtain ⟨_, g, hx⟩ := hv 6 _ 30 (by decide) rfl rfl; exact g.trans (congrArg some hx)), (by obtain ⟨_, g, hx⟩ := hv 7 _ 31 (by decide) rfl rfl; exact g.trans (congrArg some hx)), (by obtain ⟨_, g, hx⟩ := hv 8 _ 32 (by decide) rfl rfl; exact g.trans (congrArg some hx)), (by obtain ⟨_, g, hx⟩ := hv 9 _ 33 (by decide) rfl rfl; exact g.trans (congrArg some hx)), (by obtain ⟨_, g, hx⟩ := hv 10 _ 34 (by decide) rfl rfl; exact g.trans (congrArg some hx)), (by obtain ⟨_, g, hx⟩ := hv 11 _ 35 (by decide) rfl rfl; exact g.trans (congrArg some hx)), (by obtain ⟨_, g, hx⟩ := hv 12 _ 36 (by decide) rfl rfl; exact g.trans (congrArg some hx)), (by obtain ⟨_, g, hx⟩ := hv 13 _ 37 (by decide) rfl rfl; exact g.trans (congrArg some hx)), (by obtain ⟨_, g, hx⟩ := hv 14 _ 38 (by decide) rfl rfl; exact g.trans (congrArg some hx)), (by obtain ⟨_, g, hx⟩ := hv 15 _ 39 (by decide) rfl rfl; exact g.trans (congrArg some hx)), (by obtain ⟨_, g, hx⟩ := hv 16 _ 40 (by decide) rfl rfl; exact g.trans (congrArg some hx)), (by obtain ⟨_, g, hx⟩ := hv 17 _ 41 (by decide) rfl rfl; exact g.trans (congrArg some hx)), (by obtain ⟨_, g, hx⟩ := hv 18 _ 42 (by decide) rfl rfl; exact g.trans (congrArg some hx)), (by obtain ⟨_, g, hx⟩ := hv 19 _ 43 (by decide) rfl rfl; exact g.trans (congrArg some hx)), (by obtain ⟨_, g, hx⟩ := hv 20 _ 44 (by decide) rfl rfl; exact g.trans (congrArg some hx)), (by obtain ⟨_, g, hx⟩ := hv 21 _ 45 (by decide) rfl rfl; exact g.trans (congrArg some hx)), (by obtain ⟨_, g, hx⟩ := hv 22 _ 46 (by decide) rfl rfl; exact g.trans (congrArg some hx)), (by obtain ⟨_, g, hx⟩ := hv 23 _ 47 (by decide) rfl rfl; exact g.trans (congrArg some hx)), (by obtain ⟨_, g, hx⟩ := hv 24 _ 48 (by decide) rfl rfl; exact g.trans (congrArg some hx)), (by obtain ⟨_, g, hx⟩ := hv 25 _ 49 (by decide) rfl rfl; exact g.trans (congrArg some hx)), ((Reg.kept_past ho 50 (by kernel_rfl)).trans rfl), trivial⟩
    subst hcx
    have HEx : Hid (Below w.heap.size w wx) := Lib.hid ((HE4.out.drew).trans (hB.mono HE4.out.size))
    clear hv ho hB hsz hdf
    go_wp2_with fail
    refine (must_no _).mono ?_
    rintro e w9 ⟨rfl, hB9⟩
    have HE9 : Hid (Below w.heap.size w w9) := Lib.hid (HEx.out.trans (hB9.mono HEx.out.size))
    clear hB9
    go_wp2
    exact ⟨rfl, rfl, HE9.out⟩
def Fit_highPhi (C _ : Nat) (_ s lo hi zl zh : Int) (m : Nat) : Nat → Value → World → Prop
  | i, v, _ => v = ([.pointer (some ⟨C, 0, none⟩), .pointer (some ⟨C, 0, none⟩), .pointer (some ⟨C, 2, none⟩), Wi.sv s, .int .u64 ((m : Int)), .pointer (some ⟨C, 0, none⟩), .pointer (some ⟨C, 0, none⟩), .pointer (some ⟨C, 4, none⟩), .int .i64 lo, Wi.sv zl, .bool false, .bool true, .bool true, .int .u64 ((m : Int)), .pointer (some ⟨C, 0, none⟩), .pointer (some ⟨C, 0, none⟩), .pointer (some ⟨C, 5, none⟩), .int .i64 hi, Wi.sv zh, .pointer (some ⟨C, 0, none⟩), .pointer (some ⟨C, 0, none⟩), .pointer (some ⟨C, 2, none⟩), Wi.sv s, .bool true, .bool false, .bool false] : List Value).getD i undef
theorem Fit_highPhi.stays {C B : Nat} {f s lo hi zl zh : Int} {m : Nat} : ∀ i v wx wy, Fit_highPhi C B f s lo hi zl zh m i v wx → Reg.Old wx wy → Fit_highPhi C B f s lo hi zl zh m i v wy := fun _ _ _ _ h _ => h
set_option maxRecDepth 100000 in
set_option maxHeartbeats 4000000 in
theorem fit_high {C B k : Nat} {v : Value} {l : List Hit} {f s lo hi : Int} {w : World} (hC : CellsAt C #[.pointer (some ⟨B, 0, none⟩), .int .i64 f, .int .i64 (Wi.shi s), .int .u64 (Wi.slo s), .int .i64 lo, .int .i64 hi] w)
    (hs : Hs 0 66 B k v l w) (h0 : 0 < countH l) (hS : Wi.InS s) (hlo : In64 lo) (hhi : In64 hi) (hA : rankH l 1 = some (ofI k lo)) (hB : rankH l (countH l) = some (ofI k hi)) (hL : ¬ s < (countH l : Int) * lo) (hH : (countH l : Int) * hi < s) :
    Calls Tryd.prog 51 #[.pointer (some ⟨C, 0, none⟩)] w fun e w' => e = PE ∧ Below w.heap.size w w' := by
  have hc := Hi.count_any hs
  have hcs := hs.inv.sum
  have HA : Hid (∀ W, Below w.heap.size w W → Calls Tryd.prog 66 #[.pointer (some ⟨C, 0, none⟩), .int .u64 1, .int .i64 lo] W fun e w' => e = .returned (.bool true) ∧ Below W.heap.size W w') := Lib.hid fun W hW => by
    have := isat_any (hC.below hW) (hs.below hW) 1 (Nat.le_refl _) h0 lo hlo
    rwa [show decide (rankH l 1 = some (ofI k lo)) = true from decide_eq_true hA] at this
  have HB : Hid (∀ W, Below w.heap.size w W → Calls Tryd.prog 66 #[.pointer (some ⟨C, 0, none⟩), .int .u64 (countH l), .int .i64 hi] W fun e w' => e = .returned (.bool true) ∧ Below W.heap.size W w') := Lib.hid fun W hW => by
    have := isat_any (hC.below hW) (hs.below hW) (countH l) h0 (Nat.le_refl _) hi hhi
    rwa [show decide (rankH l (countH l) = some (ofI k hi)) = true from decide_eq_true hB] at this
  have HT1 : Hid (∀ W, Calls Tryd.prog 68 #[.int .u64 (countH l), .int .i64 lo] W fun e w' => e = .returned (Wi.sv ((countH l : Int) * lo)) ∧ Below W.heap.size W w') := Lib.hid fun W => times_any _ _ hcs hlo W
  have HT2 : Hid (∀ W, Calls Tryd.prog 68 #[.int .u64 (countH l), .int .i64 hi] W fun e w' => e = .returned (Wi.sv ((countH l : Int) * hi)) ∧ Below W.heap.size W w') := Lib.hid fun W => times_any _ _ hcs hhi W
  have HL1 : Hid (∀ W, Calls Tryd.prog 67 #[Wi.sv s, Wi.sv ((countH l : Int) * lo)] W fun e w' => e = .returned (.bool false) ∧ Below W.heap.size W w') := Lib.hid fun W => by
    have := Wi.less_any s _ hS (times_in hcs hlo) W
    rwa [show decide (s < (countH l : Int) * lo) = false from decide_eq_false hL] at this
  have HL2 : Hid (∀ W, Calls Tryd.prog 67 #[Wi.sv ((countH l : Int) * hi), Wi.sv s] W fun e w' => e = .returned (.bool true) ∧ Below W.heap.size W w') := Lib.hid fun W => by
    have := Wi.less_any _ s (times_in hcs hhi) hS W
    rwa [show decide ((countH l : Int) * hi < s) = true from decide_eq_true hH] at this
  have c0 := hC.cell 0 _ rfl
  have HX := Lib.hid hC
  clear hC hs h0 hS hlo hhi hA hB hL hH
  generalize countH l = m at *
  generalize (m : Int) * lo = zl at *
  generalize (m : Int) * hi = zh at *
  go_enter Tryd.func51, Tryd.ntmps51
  go_wp2_with fail
  refine hc.mono ?_
  rintro e w1 ⟨rfl, hB1⟩
  have d4 := (HX.out.below hB1).cell 4 _ rfl
  have hA := HA.out _ hB1
  have HE1 := Lib.hid hB1
  clear hc c0 HA hB1
  go_wp2_with fail
  refine hA.mono ?_
  rintro e w2 ⟨rfl, hB2⟩
  have HE2 : Hid (Below w.heap.size w w2) := Lib.hid (HE1.out.trans (hB2.mono HE1.out.size))
  clear hA hB2 HE1 d4
  have d5 := (HX.out.below HE2.out).cell 5 _ rfl
  have hB := HB.out _ HE2.out
  clear HB
  go_wp2_with fail
  refine hB.mono ?_
  rintro e w3 ⟨rfl, hB3⟩
  have HE3 : Hid (Below w.heap.size w w3) := Lib.hid (HE2.out.trans (hB3.mono HE2.out.size))
  clear hB hB3 HE2 d5
  go_wp2_with fail
  refine (must_yes _).mono ?_
  rintro e w4 ⟨rfl, hB4⟩
  have HE4 : Hid (Below w.heap.size w w4) := Lib.hid (HE3.out.trans (hB4.mono HE3.out.size))
  have HX4 := Lib.hid (HX.out.below HE4.out)
  clear hB4 HE3 HX
  go_wp2_with fail
  refine Reg.wp_region_tail (n := 51) 26 (Fit_highPhi C B f s lo hi zl zh m) (by kernel_rfl) (by decide) (by kernel_rfl) (by kernel_rfl) (by kernel_rfl) rfl Fit_highPhi.stays ?_ ?_
  · refine ⟨?_, ?_, ?_, ?_, ?_, ?_, ?_, ?_, ?_, ?_, ?_, ?_, ?_, ?_, ?_, ?_, ?_, ?_, ?_, ?_, ?_, ?_, ?_, ?_, ?_, ?_, trivial⟩
    · intro cx wc hB hp hs
      have g0 : cx.tmps[0]? = some (.pointer (some ⟨C, 0, none⟩)) := (hs 0 (by kernel_rfl)).trans rfl
      refine Reg.ok_value Reg.Old.refl (v := .pointer (some ⟨C, 0, none⟩)) (Reg.wanted_none rfl) ?_ rfl
      go_simp
    · intro cx wc hB hp hs
      have g24 : cx.tmps[24]? = some (.pointer (some ⟨C, 0, none⟩)) := by obtain ⟨_, g, hv⟩ := Reg.pred hp 0 24 (by kernel_rfl) rfl rfl; exact g.trans (congrArg some hv)
      refine Reg.ok_value Reg.Old.refl (v := .pointer (some ⟨C, 0, none⟩)) (Reg.wanted_none rfl) ?_ rfl
      go_simp
    · intro cx wc hB hp hs
      have g25 : cx.tmps[25]? = some (.pointer (some ⟨C, 0, none⟩)) := by obtain ⟨_, g, hv⟩ := Reg.pred hp 1 25 (by kernel_rfl) rfl rfl; exact g.trans (congrArg some hv)
      refine Reg.ok_value Reg.Old.refl (v := .pointer (some ⟨C, 2, none⟩)) (Reg.wanted_none rfl) ?_ rfl
      go_simp
    · intro cx wc hB hp hs
      have g26 : cx.tmps[26]? = some (.pointer (some ⟨C, 2, none⟩)) := by obtain ⟨_, g, hv⟩ := Reg.pred hp 2 26 (by kernel_rfl) rfl rfl; exact g.trans (congrArg some hv)
      have hc := HX4.out.drew.below hB
      have k2 := hc.cell 2 (.int .i64 (Wi.shi s)) rfl
      have k3 := hc.cell 3 (.int .u64 (Wi.slo s)) rfl
      refine Reg.ok_value Reg.Old.refl (v := Wi.sv s) (Reg.wanted_none rfl) ?_ rfl
      go_simp
    · intro cx wc hB hp hs
      have g2 : cx.tmps[2]? = some (.int .u64 ((m : Int))) := (hs 2 (by kernel_rfl)).trans rfl
      refine Reg.ok_value Reg.Old.refl (v := .int .u64 ((m : Int))) (Reg.wanted_none rfl) ?_ rfl
      go_simp
    · intro cx wc hB hp hs
      have g0 : cx.tmps[0]? = some (.pointer (some ⟨C, 0, none⟩)) := (hs 0 (by kernel_rfl)).trans rfl
      refine Reg.ok_value Reg.Old.refl (v := .pointer (some ⟨C, 0, none⟩)) (Reg.wanted_none rfl) ?_ rfl
      go_simp
    · intro cx wc hB hp hs
      have g29 : cx.tmps[29]? = some (.pointer (some ⟨C, 0, none⟩)) := by obtain ⟨_, g, hv⟩ := Reg.pred hp 5 29 (by kernel_rfl) rfl rfl; exact g.trans (congrArg some hv)
      refine Reg.ok_value Reg.Old.refl (v := .pointer (some ⟨C, 0, none⟩)) (Reg.wanted_none rfl) ?_ rfl
      go_simp
    · intro cx wc hB hp hs
      have g30 : cx.tmps[30]? = some (.pointer (some ⟨C, 0, none⟩)) := by obtain ⟨_, g, hv⟩ := Reg.pred hp 6 30 (by kernel_rfl) rfl rfl; exact g.trans (congrArg some hv)
      refine Reg.ok_value Reg.Old.refl (v := .pointer (some ⟨C, 4, none⟩)) (Reg.wanted_none rfl) ?_ rfl
      go_simp
    · intro cx wc hB hp hs
      have g31 : cx.tmps[31]? = some (.pointer (some ⟨C, 4, none⟩)) := by obtain ⟨_, g, hv⟩ := Reg.pred hp 7 31 (by kernel_rfl) rfl rfl; exact g.trans (congrArg some hv)
      have hc := HX4.out.drew.below hB
      have k4 := hc.cell 4 (.int .i64 lo) rfl
      refine Reg.ok_value Reg.Old.refl (v := .int .i64 lo) (Reg.wanted_none rfl) ?_ rfl
      go_simp
    · intro cx wc hB hp hs
      have g28 : cx.tmps[28]? = some (.int .u64 ((m : Int))) := by obtain ⟨_, g, hv⟩ := Reg.pred hp 4 28 (by kernel_rfl) rfl rfl; exact g.trans (congrArg some hv)
      have g32 : cx.tmps[32]? = some (.int .i64 lo) := by obtain ⟨_, g, hv⟩ := Reg.pred hp 8 32 (by kernel_rfl) rfl rfl; exact g.trans (congrArg some hv)
      refine Reg.ok_call (f := 68) (args := #[.int .u64 ((m : Int)), .int .i64 lo]) (Reg.wanted_none rfl) (by go_simp) ((HT1.out wc).mono ?_)
      rintro e w' ⟨rfl, hB2⟩
      exact ⟨_, rfl, hB2, rfl⟩
    · intro cx wc hB hp hs
      have g27 : cx.tmps[27]? = some (Wi.sv s) := by obtain ⟨_, g, hv⟩ := Reg.pred hp 3 27 (by kernel_rfl) rfl rfl; exact g.trans (congrArg some hv)
      have g33 : cx.tmps[33]? = some (Wi.sv zl) := by obtain ⟨_, g, hv⟩ := Reg.pred hp 9 33 (by kernel_rfl) rfl rfl; exact g.trans (congrArg some hv)
      refine Reg.ok_call (f := 67) (args := #[Wi.sv s, Wi.sv zl]) (Reg.wanted_none rfl) (by go_simp) ((HL1.out wc).mono ?_)
      rintro e w' ⟨rfl, hB2⟩
      exact ⟨_, rfl, hB2, rfl⟩
    · intro cx wc hB hp hs
      have g34 : cx.tmps[34]? = some (.bool false) := by obtain ⟨_, g, hv⟩ := Reg.pred hp 10 34 (by kernel_rfl) rfl rfl; exact g.trans (congrArg some hv)
      refine Reg.ok_value Reg.Old.refl (v := .bool true) (Reg.wanted_none rfl) ?_ rfl
      go_simp
    · intro cx wc hB hp hs
      have g35 : cx.tmps[35]? = some (.bool true) := by obtain ⟨_, g, hv⟩ := Reg.pred hp 11 35 (by kernel_rfl) rfl rfl; exact g.trans (congrArg some hv)
      refine Reg.ok_value Reg.Old.refl (v := .bool true) (Reg.wanted_none rfl) ?_ rfl
      go_simp
    · intro cx wc hB hp hs
      have g2 : cx.tmps[2]? = some (.int .u64 ((m : Int))) := (hs 2 (by kernel_rfl)).trans rfl
      have g36 : cx.tmps[36]? = some (.bool true) := by obtain ⟨_, g, hv⟩ := Reg.pred hp 12 36 (by kernel_rfl) rfl rfl; exact g.trans (congrArg some hv)
      refine Reg.ok_value Reg.Old.refl (v := .int .u64 ((m : Int))) (Reg.wanted_at (j := 12) (d := 36) rfl rfl rfl g36) ?_ rfl
      go_simp
    · intro cx wc hB hp hs
      have g0 : cx.tmps[0]? = some (.pointer (some ⟨C, 0, none⟩)) := (hs 0 (by kernel_rfl)).trans rfl
      have g36 : cx.tmps[36]? = some (.bool true) := by obtain ⟨_, g, hv⟩ := Reg.pred hp 12 36 (by kernel_rfl) rfl rfl; exact g.trans (congrArg some hv)
      refine Reg.ok_value Reg.Old.refl (v := .pointer (some ⟨C, 0, none⟩)) (Reg.wanted_at (j := 12) (d := 36) rfl rfl rfl g36) ?_ rfl
      go_simp
    · intro cx wc hB hp hs
      have g38 : cx.tmps[38]? = some (.pointer (some ⟨C, 0, none⟩)) := by obtain ⟨_, g, hv⟩ := Reg.pred hp 14 38 (by kernel_rfl) rfl rfl; exact g.trans (congrArg some hv)
      have g36 : cx.tmps[36]? = some (.bool true) := by obtain ⟨_, g, hv⟩ := Reg.pred hp 12 36 (by kernel_rfl) rfl rfl; exact g.trans (congrArg some hv)
      refine Reg.ok_value Reg.Old.refl (v := .pointer (some ⟨C, 0, none⟩)) (Reg.wanted_at (j := 12) (d := 36) rfl rfl rfl g36) ?_ rfl
      go_simp
    · intro cx wc hB hp hs
      have g39 : cx.tmps[39]? = some (.pointer (some ⟨C, 0, none⟩)) := by obtain ⟨_, g, hv⟩ := Reg.pred hp 15 39 (by kernel_rfl) rfl rfl; exact g.trans (congrArg some hv)
      have g36 : cx.tmps[36]? = some (.bool true) := by obtain ⟨_, g, hv⟩ := Reg.pred hp 12 36 (by kernel_rfl) rfl rfl; exact g.trans (congrArg some hv)
      refine Reg.ok_value Reg.Old.refl (v := .pointer (some ⟨C, 5, none⟩)) (Reg.wanted_at (j := 12) (d := 36) rfl rfl rfl g36) ?_ rfl
      go_simp
    · intro cx wc hB hp hs
      have g40 : cx.tmps[40]? = some (.pointer (some ⟨C, 5, none⟩)) := by obtain ⟨_, g, hv⟩ := Reg.pred hp 16 40 (by kernel_rfl) rfl rfl; exact g.trans (congrArg some hv)
      have g36 : cx.tmps[36]? = some (.bool true) := by obtain ⟨_, g, hv⟩ := Reg.pred hp 12 36 (by kernel_rfl) rfl rfl; exact g.trans (congrArg some hv)
      have hc := HX4.out.drew.below hB
      have k5 := hc.cell 5 (.int .i64 hi) rfl
      refine Reg.ok_value Reg.Old.refl (v := .int .i64 hi) (Reg.wanted_at (j := 12) (d := 36) rfl rfl rfl g36) ?_ rfl
      go_simp
    · intro cx wc hB hp hs
      have g37 : cx.tmps[37]? = some (.int .u64 ((m : Int))) := by obtain ⟨_, g, hv⟩ := Reg.pred hp 13 37 (by kernel_rfl) rfl rfl; exact g.trans (congrArg some hv)
      have g41 : cx.tmps[41]? = some (.int .i64 hi) := by obtain ⟨_, g, hv⟩ := Reg.pred hp 17 41 (by kernel_rfl) rfl rfl; exact g.trans (congrArg some hv)
      have g36 : cx.tmps[36]? = some (.bool true) := by obtain ⟨_, g, hv⟩ := Reg.pred hp 12 36 (by kernel_rfl) rfl rfl; exact g.trans (congrArg some hv)
      refine Reg.ok_call (f := 68) (args := #[.int .u64 ((m : Int)), .int .i64 hi]) (Reg.wanted_at (j := 12) (d := 36) rfl rfl rfl g36) (by go_simp) ((HT2.out wc).mono ?_)
      rintro e w' ⟨rfl, hB2⟩
      exact ⟨_, rfl, hB2, rfl⟩
    · intro cx wc hB hp hs
      have g0 : cx.tmps[0]? = some (.pointer (some ⟨C, 0, none⟩)) := (hs 0 (by kernel_rfl)).trans rfl
      have g36 : cx.tmps[36]? = some (.bool true) := by obtain ⟨_, g, hv⟩ := Reg.pred hp 12 36 (by kernel_rfl) rfl rfl; exact g.trans (congrArg some hv)
      refine Reg.ok_value Reg.Old.refl (v := .pointer (some ⟨C, 0, none⟩)) (Reg.wanted_at (j := 12) (d := 36) rfl rfl rfl g36) ?_ rfl
      go_simp
    · intro cx wc hB hp hs
      have g43 : cx.tmps[43]? = some (.pointer (some ⟨C, 0, none⟩)) := by obtain ⟨_, g, hv⟩ := Reg.pred hp 19 43 (by kernel_rfl) rfl rfl; exact g.trans (congrArg some hv)
      have g36 : cx.tmps[36]? = some (.bool true) := by obtain ⟨_, g, hv⟩ := Reg.pred hp 12 36 (by kernel_rfl) rfl rfl; exact g.trans (congrArg some hv)
      refine Reg.ok_value Reg.Old.refl (v := .pointer (some ⟨C, 0, none⟩)) (Reg.wanted_at (j := 12) (d := 36) rfl rfl rfl g36) ?_ rfl
      go_simp
    · intro cx wc hB hp hs
      have g44 : cx.tmps[44]? = some (.pointer (some ⟨C, 0, none⟩)) := by obtain ⟨_, g, hv⟩ := Reg.pred hp 20 44 (by kernel_rfl) rfl rfl; exact g.trans (congrArg some hv)
      have g36 : cx.tmps[36]? = some (.bool true) := by obtain ⟨_, g, hv⟩ := Reg.pred hp 12 36 (by kernel_rfl) rfl rfl; exact g.trans (congrArg some hv)
      refine Reg.ok_value Reg.Old.refl (v := .pointer (some ⟨C, 2, none⟩)) (Reg.wanted_at (j := 12) (d := 36) rfl rfl rfl g36) ?_ rfl
      go_simp
    · intro cx wc hB hp hs
      have g45 : cx.tmps[45]? = some (.pointer (some ⟨C, 2, none⟩)) := by obtain ⟨_, g, hv⟩ := Reg.pred hp 21 45 (by kernel_rfl) rfl rfl; exact g.trans (congrArg some hv)
      have g36 : cx.tmps[36]? = some (.bool true) := by obtain ⟨_, g, hv⟩ := Reg.pred hp 12 36 (by kernel_rfl) rfl rfl; exact g.trans (congrArg some hv)
      have hc := HX4.out.drew.below hB
      have k2 := hc.cell 2 (.int .i64 (Wi.shi s)) rfl
      have k3 := hc.cell 3 (.int .u64 (Wi.slo s)) rfl
      refine Reg.ok_value Reg.Old.refl (v := Wi.sv s) (Reg.wanted_at (j := 12) (d := 36) rfl rfl rfl g36) ?_ rfl
      go_simp
    · intro cx wc hB hp hs
      have g42 : cx.tmps[42]? = some (Wi.sv zh) := by obtain ⟨_, g, hv⟩ := Reg.pred hp 18 42 (by kernel_rfl) rfl rfl; exact g.trans (congrArg some hv)
      have g46 : cx.tmps[46]? = some (Wi.sv s) := by obtain ⟨_, g, hv⟩ := Reg.pred hp 22 46 (by kernel_rfl) rfl rfl; exact g.trans (congrArg some hv)
      have g36 : cx.tmps[36]? = some (.bool true) := by obtain ⟨_, g, hv⟩ := Reg.pred hp 12 36 (by kernel_rfl) rfl rfl; exact g.trans (congrArg some hv)
      refine Reg.ok_call (f := 67) (args := #[Wi.sv zh, Wi.sv s]) (Reg.wanted_at (j := 12) (d := 36) rfl rfl rfl g36) (by go_simp) ((HL2.out wc).mono ?_)
      rintro e w' ⟨rfl, hB2⟩
      exact ⟨_, rfl, hB2, rfl⟩
    · intro cx wc hB hp hs
      have g47 : cx.tmps[47]? = some (.bool true) := by obtain ⟨_, g, hv⟩ := Reg.pred hp 23 47 (by kernel_rfl) rfl rfl; exact g.trans (congrArg some hv)
      have g36 : cx.tmps[36]? = some (.bool true) := by obtain ⟨_, g, hv⟩ := Reg.pred hp 12 36 (by kernel_rfl) rfl rfl; exact g.trans (congrArg some hv)
      refine Reg.ok_value Reg.Old.refl (v := .bool false) (Reg.wanted_at (j := 12) (d := 36) rfl rfl rfl g36) ?_ rfl
      go_simp
    · intro cx wc hB hp hs
      have g36 : cx.tmps[36]? = some (.bool true) := by obtain ⟨_, g, hv⟩ := Reg.pred hp 12 36 (by kernel_rfl) rfl rfl; exact g.trans (congrArg some hv)
      have g48 : cx.tmps[48]? = some (.bool false) := by obtain ⟨_, g, hv⟩ := Reg.pred hp 24 48 (by kernel_rfl) rfl rfl; exact g.trans (congrArg some hv)
      refine Reg.ok_value Reg.Old.refl (v := .bool false) (Reg.wanted_none rfl) ?_ rfl
      go_simp
  · intro cx wx hB hsz hdf hv ho
    have hcx := Reg.frame_eq [_, _, _, _, _, _, _, _, _, _, _, _, _, _, _, _, _, _, _, _, _, _, _, _, .pointer (some ⟨C, 0, none⟩), .pointer (some ⟨C, 0, none⟩), .pointer (some ⟨C, 2, none⟩), Wi.sv s, .int .u64 ((m : Int)), .pointer (some ⟨C, 0, none⟩), .pointer (some ⟨C, 0, none⟩), .pointer (some ⟨C, 4, none⟩), .int .i64 lo, Wi.sv zl, .bool false, .bool true, .bool true, .int .u64 ((m : Int)), .pointer (some ⟨C, 0, none⟩), .pointer (some ⟨C, 0, none⟩), .pointer (some ⟨C, 5, none⟩), .int .i64 hi, Wi.sv zh, .pointer (some ⟨C, 0, none⟩), .pointer (some ⟨C, 0, none⟩), .pointer (some ⟨C, 2, none⟩), Wi.sv s, .bool true, .bool false, .bool false, _] (by simpa using hsz) hdf ⟨((Reg.kept_past ho 0 (by kernel_rfl)).trans rfl), ((Reg.kept_past ho 1 (by kernel_rfl)).trans rfl), ((Reg.kept_past ho 2 (by kernel_rfl)).trans rfl), ((Reg.kept_past ho 3 (by kernel_rfl)).trans rfl), ((Reg.kept_past ho 4 (by kernel_rfl)).trans rfl), ((Reg.kept_past ho 5 (by kernel_rfl)).trans rfl), ((Reg.kept_past ho 6 (by kernel_rfl)).trans rfl), ((Reg.kept_past ho 7 (by kernel_rfl)).trans rfl), ((Reg.kept_past ho 8 (by kernel_rfl)).trans rfl), ((Reg.kept_past ho 9 (by kernel_rfl)).trans rfl), ((Reg.kept_past ho 10 (by kernel_rfl)).trans rfl), ((Reg.kept_past ho 11 (by kernel_rfl)).trans rfl), ((Reg.kept_past ho 12 (by kernel_rfl)).trans rfl), ((Reg.kept_past ho 13 (by kernel_rfl)).trans rfl), ((Reg.kept_past ho 14 (by kernel_rfl)).trans rfl), ((Reg.kept_past ho 15 (by kernel_rfl)).trans rfl), ((Reg.kept_past ho 16 (by kernel_rfl)).trans rfl), ((Reg.kept_past ho 17 (by kernel_rfl)).trans rfl), ((Reg.kept_past ho 18 (by kernel_rfl)).trans rfl), ((Reg.kept_past ho 19 (by kernel_rfl)).trans rfl), ((Reg.kept_past ho 20 (by kernel_rfl)).trans rfl), ((Reg.kept_past ho 21 (by kernel_rfl)).trans rfl), ((Reg.kept_past ho 22 (by kernel_rfl)).trans rfl), ((Reg.kept_past ho 23 (by kernel_rfl)).trans rfl), (by obtain ⟨_, g, hx⟩ := hv 0 _ 24 (by decide) rfl rfl; exact g.trans (congrArg some hx)), (by obtain ⟨_, g, hx⟩ := hv 1 _ 25 (by decide) rfl rfl; exact g.trans (congrArg some hx)), (by obtain ⟨_, g, hx⟩ := hv 2 _ 26 (by decide) rfl rfl; exact g.trans (congrArg some hx)), (by obtain ⟨_, g, hx⟩ := hv 3 _ 27 (by decide) rfl rfl; exact g.trans (congrArg some hx)), (by obtain ⟨_, g, hx⟩ := hv 4 _ 28 (by decide) rfl rfl; exact g.trans (congrArg some hx)), (by obtain ⟨_, g, hx⟩ := hv 5 _ 29 (by decide) rfl rfl; exact g.trans (congrArg some hx)), (by obtain ⟨_, g, hx⟩ := hv 6 _ 30 (by decide) rfl rfl; exact g.trans (congrArg some hx)), (by obtain ⟨_, g, hx⟩ := hv 7 _ 31 (by decide) rfl rfl; exact g.trans (congrArg some hx)), (by obtain ⟨_, g, hx⟩ := hv 8 _ 32 (by decide) rfl rfl; exact g.trans (congrArg some hx)), (by obtain ⟨_, g, hx⟩ := hv 9 _ 33 (by decide) rfl rfl; exact g.trans (congrArg some hx)), (by obtain ⟨_, g, hx⟩ := hv 10 _ 34 (by decide) rfl rfl; exact g.trans (congrArg some hx)), (by obtain ⟨_, g, hx⟩ := hv 11 _ 35 (by decide) rfl rfl; exact g.trans (congrArg some hx)), (by obtain ⟨_, g, hx⟩ := hv 12 _ 36 (by decide) rfl rfl; exact g.trans (congrArg some hx)), (by obtain ⟨_, g, hx⟩ := hv 13 _ 37 (by decide) rfl rfl; exact g.trans (congrArg some hx)), (by obtain ⟨_, g, hx⟩ := hv 14 _ 38 (by decide) rfl rfl; exact g.trans (congrArg some hx)), (by obtain ⟨_, g, hx⟩ := hv 15 _ 39 (by decide) rfl rfl; exact g.trans (congrArg some hx)), (by obtain ⟨_, g, hx⟩ := hv 16 _ 40 (by decide) rfl rfl; exact g.trans (congrArg some hx)), (by obtain ⟨_, g, hx⟩ := hv 17 _ 41 (by decide) rfl rfl; exact g.trans (congrArg some hx)), (by obtain ⟨_, g, hx⟩ := hv 18 _ 42 (by decide) rfl rfl; exact g.trans (congrArg some hx)), (by obtain ⟨_, g, hx⟩ := hv 19 _ 43 (by decide) rfl rfl; exact g.trans (congrArg some hx)), (by obtain ⟨_, g, hx⟩ := hv 20 _ 44 (by decide) rfl rfl; exact g.trans (congrArg some hx)), (by obtain ⟨_, g, hx⟩ := hv 21 _ 45 (by decide) rfl rfl; exact g.trans (congrArg some hx)), (by obtain ⟨_, g, hx⟩ := hv 22 _ 46 (by decide) rfl rfl; exact g.trans (congrArg some hx)), (by obtain ⟨_, g, hx⟩ := hv 23 _ 47 (by decide) rfl rfl; exact g.trans (congrArg some hx)), (by obtain ⟨_, g, hx⟩ := hv 24 _ 48 (by decide) rfl rfl; exact g.trans (congrArg some hx)), (by obtain ⟨_, g, hx⟩ := hv 25 _ 49 (by decide) rfl rfl; exact g.trans (congrArg some hx)), ((Reg.kept_past ho 50 (by kernel_rfl)).trans rfl), trivial⟩
    subst hcx
    have HEx : Hid (Below w.heap.size w wx) := Lib.hid ((HE4.out.drew).trans (hB.mono HE4.out.size))
    clear hv ho hB hsz hdf
    go_wp2_with fail
    refine (must_no _).mono ?_
    rintro e w9 ⟨rfl, hB9⟩
    have HE9 : Hid (Below w.heap.size w w9) := Lib.hid (HEx.out.trans (hB9.mono HEx.out.size))
    clear hB9
    go_wp2
    exact ⟨rfl, rfl, HE9.out⟩
def Fit_okPhi (C _ : Nat) (_ s lo hi zl zh : Int) (m : Nat) : Nat → Value → World → Prop
  | i, v, _ => v = ([.pointer (some ⟨C, 0, none⟩), .pointer (some ⟨C, 0, none⟩), .pointer (some ⟨C, 2, none⟩), Wi.sv s, .int .u64 ((m : Int)), .pointer (some ⟨C, 0, none⟩), .pointer (some ⟨C, 0, none⟩), .pointer (some ⟨C, 4, none⟩), .int .i64 lo, Wi.sv zl, .bool false, .bool true, .bool true, .int .u64 ((m : Int)), .pointer (some ⟨C, 0, none⟩), .pointer (some ⟨C, 0, none⟩), .pointer (some ⟨C, 5, none⟩), .int .i64 hi, Wi.sv zh, .pointer (some ⟨C, 0, none⟩), .pointer (some ⟨C, 0, none⟩), .pointer (some ⟨C, 2, none⟩), Wi.sv s, .bool false, .bool true, .bool true] : List Value).getD i undef
theorem Fit_okPhi.stays {C B : Nat} {f s lo hi zl zh : Int} {m : Nat} : ∀ i v wx wy, Fit_okPhi C B f s lo hi zl zh m i v wx → Reg.Old wx wy → Fit_okPhi C B f s lo hi zl zh m i v wy := fun _ _ _ _ h _ => h
set_option maxRecDepth 100000 in
set_option maxHeartbeats 4000000 in
theorem fit_ok {C B k : Nat} {v : Value} {l : List Hit} {f s lo hi : Int} {w : World} (hC : CellsAt C #[.pointer (some ⟨B, 0, none⟩), .int .i64 f, .int .i64 (Wi.shi s), .int .u64 (Wi.slo s), .int .i64 lo, .int .i64 hi] w)
    (hs : Hs 0 66 B k v l w) (h0 : 0 < countH l) (hS : Wi.InS s) (hlo : In64 lo) (hhi : In64 hi) (hA : rankH l 1 = some (ofI k lo)) (hB : rankH l (countH l) = some (ofI k hi)) (hL : ¬ s < (countH l : Int) * lo) (hH : ¬ (countH l : Int) * hi < s) :
    Calls Tryd.prog 51 #[.pointer (some ⟨C, 0, none⟩)] w fun e w' => e = .returned (.tuple #[]) ∧ Below w.heap.size w w' := by
  have hc := Hi.count_any hs
  have hcs := hs.inv.sum
  have HA : Hid (∀ W, Below w.heap.size w W → Calls Tryd.prog 66 #[.pointer (some ⟨C, 0, none⟩), .int .u64 1, .int .i64 lo] W fun e w' => e = .returned (.bool true) ∧ Below W.heap.size W w') := Lib.hid fun W hW => by
    have := isat_any (hC.below hW) (hs.below hW) 1 (Nat.le_refl _) h0 lo hlo
    rwa [show decide (rankH l 1 = some (ofI k lo)) = true from decide_eq_true hA] at this
  have HB : Hid (∀ W, Below w.heap.size w W → Calls Tryd.prog 66 #[.pointer (some ⟨C, 0, none⟩), .int .u64 (countH l), .int .i64 hi] W fun e w' => e = .returned (.bool true) ∧ Below W.heap.size W w') := Lib.hid fun W hW => by
    have := isat_any (hC.below hW) (hs.below hW) (countH l) h0 (Nat.le_refl _) hi hhi
    rwa [show decide (rankH l (countH l) = some (ofI k hi)) = true from decide_eq_true hB] at this
  have HT1 : Hid (∀ W, Calls Tryd.prog 68 #[.int .u64 (countH l), .int .i64 lo] W fun e w' => e = .returned (Wi.sv ((countH l : Int) * lo)) ∧ Below W.heap.size W w') := Lib.hid fun W => times_any _ _ hcs hlo W
  have HT2 : Hid (∀ W, Calls Tryd.prog 68 #[.int .u64 (countH l), .int .i64 hi] W fun e w' => e = .returned (Wi.sv ((countH l : Int) * hi)) ∧ Below W.heap.size W w') := Lib.hid fun W => times_any _ _ hcs hhi W
  have HL1 : Hid (∀ W, Calls Tryd.prog 67 #[Wi.sv s, Wi.sv ((countH l : Int) * lo)] W fun e w' => e = .returned (.bool false) ∧ Below W.heap.size W w') := Lib.hid fun W => by
    have := Wi.less_any s _ hS (times_in hcs hlo) W
    rwa [show decide (s < (countH l : Int) * lo) = false from decide_eq_false hL] at this
  have HL2 : Hid (∀ W, Calls Tryd.prog 67 #[Wi.sv ((countH l : Int) * hi), Wi.sv s] W fun e w' => e = .returned (.bool false) ∧ Below W.heap.size W w') := Lib.hid fun W => by
    have := Wi.less_any _ s (times_in hcs hhi) hS W
    rwa [show decide ((countH l : Int) * hi < s) = false from decide_eq_false hH] at this
  have c0 := hC.cell 0 _ rfl
  have HX := Lib.hid hC
  clear hC hs h0 hS hlo hhi hA hB hL hH
  generalize countH l = m at *
  generalize (m : Int) * lo = zl at *
  generalize (m : Int) * hi = zh at *
  go_enter Tryd.func51, Tryd.ntmps51
  go_wp2_with fail
  refine hc.mono ?_
  rintro e w1 ⟨rfl, hB1⟩
  have d4 := (HX.out.below hB1).cell 4 _ rfl
  have hA := HA.out _ hB1
  have HE1 := Lib.hid hB1
  clear hc c0 HA hB1
  go_wp2_with fail
  refine hA.mono ?_
  rintro e w2 ⟨rfl, hB2⟩
  have HE2 : Hid (Below w.heap.size w w2) := Lib.hid (HE1.out.trans (hB2.mono HE1.out.size))
  clear hA hB2 HE1 d4
  have d5 := (HX.out.below HE2.out).cell 5 _ rfl
  have hB := HB.out _ HE2.out
  clear HB
  go_wp2_with fail
  refine hB.mono ?_
  rintro e w3 ⟨rfl, hB3⟩
  have HE3 : Hid (Below w.heap.size w w3) := Lib.hid (HE2.out.trans (hB3.mono HE2.out.size))
  clear hB hB3 HE2 d5
  go_wp2_with fail
  refine (must_yes _).mono ?_
  rintro e w4 ⟨rfl, hB4⟩
  have HE4 : Hid (Below w.heap.size w w4) := Lib.hid (HE3.out.trans (hB4.mono HE3.out.size))
  have HX4 := Lib.hid (HX.out.below HE4.out)
  clear hB4 HE3 HX
  go_wp2_with fail
  refine Reg.wp_region_tail (n := 51) 26 (Fit_okPhi C B f s lo hi zl zh m) (by kernel_rfl) (by decide) (by kernel_rfl) (by kernel_rfl) (by kernel_rfl) rfl Fit_okPhi.stays ?_ ?_
  · refine ⟨?_, ?_, ?_, ?_, ?_, ?_, ?_, ?_, ?_, ?_, ?_, ?_, ?_, ?_, ?_, ?_, ?_, ?_, ?_, ?_, ?_, ?_, ?_, ?_, ?_, ?_, trivial⟩
    · intro cx wc hB hp hs
      have g0 : cx.tmps[0]? = some (.pointer (some ⟨C, 0, none⟩)) := (hs 0 (by kernel_rfl)).trans rfl
      refine Reg.ok_value Reg.Old.refl (v := .pointer (some ⟨C, 0, none⟩)) (Reg.wanted_none rfl) ?_ rfl
      go_simp
    · intro cx wc hB hp hs
      have g24 : cx.tmps[24]? = some (.pointer (some ⟨C, 0, none⟩)) := by obtain ⟨_, g, hv⟩ := Reg.pred hp 0 24 (by kernel_rfl) rfl rfl; exact g.trans (congrArg some hv)
      refine Reg.ok_value Reg.Old.refl (v := .pointer (some ⟨C, 0, none⟩)) (Reg.wanted_none rfl) ?_ rfl
      go_simp
    · intro cx wc hB hp hs
      have g25 : cx.tmps[25]? = some (.pointer (some ⟨C, 0, none⟩)) := by obtain ⟨_, g, hv⟩ := Reg.pred hp 1 25 (by kernel_rfl) rfl rfl; exact g.trans (congrArg some hv)
      refine Reg.ok_value Reg.Old.refl (v := .pointer (some ⟨C, 2, none⟩)) (Reg.wanted_none rfl) ?_ rfl
      go_simp
    · intro cx wc hB hp hs
      have g26 : cx.tmps[26]? = some (.pointer (some ⟨C, 2, none⟩)) := by obtain ⟨_, g, hv⟩ := Reg.pred hp 2 26 (by kernel_rfl) rfl rfl; exact g.trans (congrArg some hv)
      have hc := HX4.out.drew.below hB
      have k2 := hc.cell 2 (.int .i64 (Wi.shi s)) rfl
      have k3 := hc.cell 3 (.int .u64 (Wi.slo s)) rfl
      refine Reg.ok_value Reg.Old.refl (v := Wi.sv s) (Reg.wanted_none rfl) ?_ rfl
      go_simp
    · intro cx wc hB hp hs
      have g2 : cx.tmps[2]? = some (.int .u64 ((m : Int))) := (hs 2 (by kernel_rfl)).trans rfl
      refine Reg.ok_value Reg.Old.refl (v := .int .u64 ((m : Int))) (Reg.wanted_none rfl) ?_ rfl
      go_simp
    · intro cx wc hB hp hs
      have g0 : cx.tmps[0]? = some (.pointer (some ⟨C, 0, none⟩)) := (hs 0 (by kernel_rfl)).trans rfl
      refine Reg.ok_value Reg.Old.refl (v := .pointer (some ⟨C, 0, none⟩)) (Reg.wanted_none rfl) ?_ rfl
      go_simp
    · intro cx wc hB hp hs
      have g29 : cx.tmps[29]? = some (.pointer (some ⟨C, 0, none⟩)) := by obtain ⟨_, g, hv⟩ := Reg.pred hp 5 29 (by kernel_rfl) rfl rfl; exact g.trans (congrArg some hv)
      refine Reg.ok_value Reg.Old.refl (v := .pointer (some ⟨C, 0, none⟩)) (Reg.wanted_none rfl) ?_ rfl
      go_simp
    · intro cx wc hB hp hs
      have g30 : cx.tmps[30]? = some (.pointer (some ⟨C, 0, none⟩)) := by obtain ⟨_, g, hv⟩ := Reg.pred hp 6 30 (by kernel_rfl) rfl rfl; exact g.trans (congrArg some hv)
      refine Reg.ok_value Reg.Old.refl (v := .pointer (some ⟨C, 4, none⟩)) (Reg.wanted_none rfl) ?_ rfl
      go_simp
    · intro cx wc hB hp hs
      have g31 : cx.tmps[31]? = some (.pointer (some ⟨C, 4, none⟩)) := by obtain ⟨_, g, hv⟩ := Reg.pred hp 7 31 (by kernel_rfl) rfl rfl; exact g.trans (congrArg some hv)
      have hc := HX4.out.drew.below hB
      have k4 := hc.cell 4 (.int .i64 lo) rfl
      refine Reg.ok_value Reg.Old.refl (v := .int .i64 lo) (Reg.wanted_none rfl) ?_ rfl
      go_simp
    · intro cx wc hB hp hs
      have g28 : cx.tmps[28]? = some (.int .u64 ((m : Int))) := by obtain ⟨_, g, hv⟩ := Reg.pred hp 4 28 (by kernel_rfl) rfl rfl; exact g.trans (congrArg some hv)
      have g32 : cx.tmps[32]? = some (.int .i64 lo) := by obtain ⟨_, g, hv⟩ := Reg.pred hp 8 32 (by kernel_rfl) rfl rfl; exact g.trans (congrArg some hv)
      refine Reg.ok_call (f := 68) (args := #[.int .u64 ((m : Int)), .int .i64 lo]) (Reg.wanted_none rfl) (by go_simp) ((HT1.out wc).mono ?_)
      rintro e w' ⟨rfl, hB2⟩
      exact ⟨_, rfl, hB2, rfl⟩
    · intro cx wc hB hp hs
      have g27 : cx.tmps[27]? = some (Wi.sv s) := by obtain ⟨_, g, hv⟩ := Reg.pred hp 3 27 (by kernel_rfl) rfl rfl; exact g.trans (congrArg some hv)
      have g33 : cx.tmps[33]? = some (Wi.sv zl) := by obtain ⟨_, g, hv⟩ := Reg.pred hp 9 33 (by kernel_rfl) rfl rfl; exact g.trans (congrArg some hv)
      refine Reg.ok_call (f := 67) (args := #[Wi.sv s, Wi.sv zl]) (Reg.wanted_none rfl) (by go_simp) ((HL1.out wc).mono ?_)
      rintro e w' ⟨rfl, hB2⟩
      exact ⟨_, rfl, hB2, rfl⟩
    · intro cx wc hB hp hs
      have g34 : cx.tmps[34]? = some (.bool false) := by obtain ⟨_, g, hv⟩ := Reg.pred hp 10 34 (by kernel_rfl) rfl rfl; exact g.trans (congrArg some hv)
      refine Reg.ok_value Reg.Old.refl (v := .bool true) (Reg.wanted_none rfl) ?_ rfl
      go_simp
    · intro cx wc hB hp hs
      have g35 : cx.tmps[35]? = some (.bool true) := by obtain ⟨_, g, hv⟩ := Reg.pred hp 11 35 (by kernel_rfl) rfl rfl; exact g.trans (congrArg some hv)
      refine Reg.ok_value Reg.Old.refl (v := .bool true) (Reg.wanted_none rfl) ?_ rfl
      go_simp
    · intro cx wc hB hp hs
      have g2 : cx.tmps[2]? = some (.int .u64 ((m : Int))) := (hs 2 (by kernel_rfl)).trans rfl
      have g36 : cx.tmps[36]? = some (.bool true) := by obtain ⟨_, g, hv⟩ := Reg.pred hp 12 36 (by kernel_rfl) rfl rfl; exact g.trans (congrArg some hv)
      refine Reg.ok_value Reg.Old.refl (v := .int .u64 ((m : Int))) (Reg.wanted_at (j := 12) (d := 36) rfl rfl rfl g36) ?_ rfl
      go_simp
    · intro cx wc hB hp hs
      have g0 : cx.tmps[0]? = some (.pointer (some ⟨C, 0, none⟩)) := (hs 0 (by kernel_rfl)).trans rfl
      have g36 : cx.tmps[36]? = some (.bool true) := by obtain ⟨_, g, hv⟩ := Reg.pred hp 12 36 (by kernel_rfl) rfl rfl; exact g.trans (congrArg some hv)
      refine Reg.ok_value Reg.Old.refl (v := .pointer (some ⟨C, 0, none⟩)) (Reg.wanted_at (j := 12) (d := 36) rfl rfl rfl g36) ?_ rfl
      go_simp
    · intro cx wc hB hp hs
      have g38 : cx.tmps[38]? = some (.pointer (some ⟨C, 0, none⟩)) := by obtain ⟨_, g, hv⟩ := Reg.pred hp 14 38 (by kernel_rfl) rfl rfl; exact g.trans (congrArg some hv)
      have g36 : cx.tmps[36]? = some (.bool true) := by obtain ⟨_, g, hv⟩ := Reg.pred hp 12 36 (by kernel_rfl) rfl rfl; exact g.trans (congrArg some hv)
      refine Reg.ok_value Reg.Old.refl (v := .pointer (some ⟨C, 0, none⟩)) (Reg.wanted_at (j := 12) (d := 36) rfl rfl rfl g36) ?_ rfl
      go_simp
    · intro cx wc hB hp hs
      have g39 : cx.tmps[39]? = some (.pointer (some ⟨C, 0, none⟩)) := by obtain ⟨_, g, hv⟩ := Reg.pred hp 15 39 (by kernel_rfl) rfl rfl; exact g.trans (congrArg some hv)
      have g36 : cx.tmps[36]? = some (.bool true) := by obtain ⟨_, g, hv⟩ := Reg.pred hp 12 36 (by kernel_rfl) rfl rfl; exact g.trans (congrArg some hv)
      refine Reg.ok_value Reg.Old.refl (v := .pointer (some ⟨C, 5, none⟩)) (Reg.wanted_at (j := 12) (d := 36) rfl rfl rfl g36) ?_ rfl
      go_simp
    · intro cx wc hB hp hs
      have g40 : cx.tmps[40]? = some (.pointer (some ⟨C, 5, none⟩)) := by obtain ⟨_, g, hv⟩ := Reg.pred hp 16 40 (by kernel_rfl) rfl rfl; exact g.trans (congrArg some hv)
      have g36 : cx.tmps[36]? = some (.bool true) := by obtain ⟨_, g, hv⟩ := Reg.pred hp 12 36 (by kernel_rfl) rfl rfl; exact g.trans (congrArg some hv)
      have hc := HX4.out.drew.below hB
      have k5 := hc.cell 5 (.int .i64 hi) rfl
      refine Reg.ok_value Reg.Old.refl (v := .int .i64 hi) (Reg.wanted_at (j := 12) (d := 36) rfl rfl rfl g36) ?_ rfl
      go_simp
    · intro cx wc hB hp hs
      have g37 : cx.tmps[37]? = some (.int .u64 ((m : Int))) := by obtain ⟨_, g, hv⟩ := Reg.pred hp 13 37 (by kernel_rfl) rfl rfl; exact g.trans (congrArg some hv)
      have g41 : cx.tmps[41]? = some (.int .i64 hi) := by obtain ⟨_, g, hv⟩ := Reg.pred hp 17 41 (by kernel_rfl) rfl rfl; exact g.trans (congrArg some hv)
      have g36 : cx.tmps[36]? = some (.bool true) := by obtain ⟨_, g, hv⟩ := Reg.pred hp 12 36 (by kernel_rfl) rfl rfl; exact g.trans (congrArg some hv)
      refine Reg.ok_call (f := 68) (args := #[.int .u64 ((m : Int)), .int .i64 hi]) (Reg.wanted_at (j := 12) (d := 36) rfl rfl rfl g36) (by go_simp) ((HT2.out wc).mono ?_)
      rintro e w' ⟨rfl, hB2⟩
      exact ⟨_, rfl, hB2, rfl⟩
    · intro cx wc hB hp hs
      have g0 : cx.tmps[0]? = some (.pointer (some ⟨C, 0, none⟩)) := (hs 0 (by kernel_rfl)).trans rfl
      have g36 : cx.tmps[36]? = some (.bool true) := by obtain ⟨_, g, hv⟩ := Reg.pred hp 12 36 (by kernel_rfl) rfl rfl; exact g.trans (congrArg some hv)
      refine Reg.ok_value Reg.Old.refl (v := .pointer (some ⟨C, 0, none⟩)) (Reg.wanted_at (j := 12) (d := 36) rfl rfl rfl g36) ?_ rfl
      go_simp
    · intro cx wc hB hp hs
      have g43 : cx.tmps[43]? = some (.pointer (some ⟨C, 0, none⟩)) := by obtain ⟨_, g, hv⟩ := Reg.pred hp 19 43 (by kernel_rfl) rfl rfl; exact g.trans (congrArg some hv)
      have g36 : cx.tmps[36]? = some (.bool true) := by obtain ⟨_, g, hv⟩ := Reg.pred hp 12 36 (by kernel_rfl) rfl rfl; exact g.trans (congrArg some hv)
      refine Reg.ok_value Reg.Old.refl (v := .pointer (some ⟨C, 0, none⟩)) (Reg.wanted_at (j := 12) (d := 36) rfl rfl rfl g36) ?_ rfl
      go_simp
    · intro cx wc hB hp hs
      have g44 : cx.tmps[44]? = some (.pointer (some ⟨C, 0, none⟩)) := by obtain ⟨_, g, hv⟩ := Reg.pred hp 20 44 (by kernel_rfl) rfl rfl; exact g.trans (congrArg some hv)
      have g36 : cx.tmps[36]? = some (.bool true) := by obtain ⟨_, g, hv⟩ := Reg.pred hp 12 36 (by kernel_rfl) rfl rfl; exact g.trans (congrArg some hv)
      refine Reg.ok_value Reg.Old.refl (v := .pointer (some ⟨C, 2, none⟩)) (Reg.wanted_at (j := 12) (d := 36) rfl rfl rfl g36) ?_ rfl
      go_simp
    · intro cx wc hB hp hs
      have g45 : cx.tmps[45]? = some (.pointer (some ⟨C, 2, none⟩)) := by obtain ⟨_, g, hv⟩ := Reg.pred hp 21 45 (by kernel_rfl) rfl rfl; exact g.trans (congrArg some hv)
      have g36 : cx.tmps[36]? = some (.bool true) := by obtain ⟨_, g, hv⟩ := Reg.pred hp 12 36 (by kernel_rfl) rfl rfl; exact g.trans (congrArg some hv)
      have hc := HX4.out.drew.below hB
      have k2 := hc.cell 2 (.int .i64 (Wi.shi s)) rfl
      have k3 := hc.cell 3 (.int .u64 (Wi.slo s)) rfl
      refine Reg.ok_value Reg.Old.refl (v := Wi.sv s) (Reg.wanted_at (j := 12) (d := 36) rfl rfl rfl g36) ?_ rfl
      go_simp
    · intro cx wc hB hp hs
      have g42 : cx.tmps[42]? = some (Wi.sv zh) := by obtain ⟨_, g, hv⟩ := Reg.pred hp 18 42 (by kernel_rfl) rfl rfl; exact g.trans (congrArg some hv)
      have g46 : cx.tmps[46]? = some (Wi.sv s) := by obtain ⟨_, g, hv⟩ := Reg.pred hp 22 46 (by kernel_rfl) rfl rfl; exact g.trans (congrArg some hv)
      have g36 : cx.tmps[36]? = some (.bool true) := by obtain ⟨_, g, hv⟩ := Reg.pred hp 12 36 (by kernel_rfl) rfl rfl; exact g.trans (congrArg some hv)
      refine Reg.ok_call (f := 67) (args := #[Wi.sv zh, Wi.sv s]) (Reg.wanted_at (j := 12) (d := 36) rfl rfl rfl g36) (by go_simp) ((HL2.out wc).mono ?_)
      rintro e w' ⟨rfl, hB2⟩
      exact ⟨_, rfl, hB2, rfl⟩
    · intro cx wc hB hp hs
      have g47 : cx.tmps[47]? = some (.bool false) := by obtain ⟨_, g, hv⟩ := Reg.pred hp 23 47 (by kernel_rfl) rfl rfl; exact g.trans (congrArg some hv)
      have g36 : cx.tmps[36]? = some (.bool true) := by obtain ⟨_, g, hv⟩ := Reg.pred hp 12 36 (by kernel_rfl) rfl rfl; exact g.trans (congrArg some hv)
      refine Reg.ok_value Reg.Old.refl (v := .bool true) (Reg.wanted_at (j := 12) (d := 36) rfl rfl rfl g36) ?_ rfl
      go_simp
    · intro cx wc hB hp hs
      have g36 : cx.tmps[36]? = some (.bool true) := by obtain ⟨_, g, hv⟩ := Reg.pred hp 12 36 (by kernel_rfl) rfl rfl; exact g.trans (congrArg some hv)
      have g48 : cx.tmps[48]? = some (.bool true) := by obtain ⟨_, g, hv⟩ := Reg.pred hp 24 48 (by kernel_rfl) rfl rfl; exact g.trans (congrArg some hv)
      refine Reg.ok_value Reg.Old.refl (v := .bool true) (Reg.wanted_none rfl) ?_ rfl
      go_simp
  · intro cx wx hB hsz hdf hv ho
    have hcx := Reg.frame_eq [_, _, _, _, _, _, _, _, _, _, _, _, _, _, _, _, _, _, _, _, _, _, _, _, .pointer (some ⟨C, 0, none⟩), .pointer (some ⟨C, 0, none⟩), .pointer (some ⟨C, 2, none⟩), Wi.sv s, .int .u64 ((m : Int)), .pointer (some ⟨C, 0, none⟩), .pointer (some ⟨C, 0, none⟩), .pointer (some ⟨C, 4, none⟩), .int .i64 lo, Wi.sv zl, .bool false, .bool true, .bool true, .int .u64 ((m : Int)), .pointer (some ⟨C, 0, none⟩), .pointer (some ⟨C, 0, none⟩), .pointer (some ⟨C, 5, none⟩), .int .i64 hi, Wi.sv zh, .pointer (some ⟨C, 0, none⟩), .pointer (some ⟨C, 0, none⟩), .pointer (some ⟨C, 2, none⟩), Wi.sv s, .bool false, .bool true, .bool true, _] (by simpa using hsz) hdf ⟨((Reg.kept_past ho 0 (by kernel_rfl)).trans rfl), ((Reg.kept_past ho 1 (by kernel_rfl)).trans rfl), ((Reg.kept_past ho 2 (by kernel_rfl)).trans rfl), ((Reg.kept_past ho 3 (by kernel_rfl)).trans rfl), ((Reg.kept_past ho 4 (by kernel_rfl)).trans rfl), ((Reg.kept_past ho 5 (by kernel_rfl)).trans rfl), ((Reg.kept_past ho 6 (by kernel_rfl)).trans rfl), ((Reg.kept_past ho 7 (by kernel_rfl)).trans rfl), ((Reg.kept_past ho 8 (by kernel_rfl)).trans rfl), ((Reg.kept_past ho 9 (by kernel_rfl)).trans rfl), ((Reg.kept_past ho 10 (by kernel_rfl)).trans rfl), ((Reg.kept_past ho 11 (by kernel_rfl)).trans rfl), ((Reg.kept_past ho 12 (by kernel_rfl)).trans rfl), ((Reg.kept_past ho 13 (by kernel_rfl)).trans rfl), ((Reg.kept_past ho 14 (by kernel_rfl)).trans rfl), ((Reg.kept_past ho 15 (by kernel_rfl)).trans rfl), ((Reg.kept_past ho 16 (by kernel_rfl)).trans rfl), ((Reg.kept_past ho 17 (by kernel_rfl)).trans rfl), ((Reg.kept_past ho 18 (by kernel_rfl)).trans rfl), ((Reg.kept_past ho 19 (by kernel_rfl)).trans rfl), ((Reg.kept_past ho 20 (by kernel_rfl)).trans rfl), ((Reg.kept_past ho 21 (by kernel_rfl)).trans rfl), ((Reg.kept_past ho 22 (by kernel_rfl)).trans rfl), ((Reg.kept_past ho 23 (by kernel_rfl)).trans rfl), (by obtain ⟨_, g, hx⟩ := hv 0 _ 24 (by decide) rfl rfl; exact g.trans (congrArg some hx)), (by obtain ⟨_, g, hx⟩ := hv 1 _ 25 (by decide) rfl rfl; exact g.trans (congrArg some hx)), (by obtain ⟨_, g, hx⟩ := hv 2 _ 26 (by decide) rfl rfl; exact g.trans (congrArg some hx)), (by obtain ⟨_, g, hx⟩ := hv 3 _ 27 (by decide) rfl rfl; exact g.trans (congrArg some hx)), (by obtain ⟨_, g, hx⟩ := hv 4 _ 28 (by decide) rfl rfl; exact g.trans (congrArg some hx)), (by obtain ⟨_, g, hx⟩ := hv 5 _ 29 (by decide) rfl rfl; exact g.trans (congrArg some hx)), (by obtain ⟨_, g, hx⟩ := hv 6 _ 30 (by decide) rfl rfl; exact g.trans (congrArg some hx)), (by obtain ⟨_, g, hx⟩ := hv 7 _ 31 (by decide) rfl rfl; exact g.trans (congrArg some hx)), (by obtain ⟨_, g, hx⟩ := hv 8 _ 32 (by decide) rfl rfl; exact g.trans (congrArg some hx)), (by obtain ⟨_, g, hx⟩ := hv 9 _ 33 (by decide) rfl rfl; exact g.trans (congrArg some hx)), (by obtain ⟨_, g, hx⟩ := hv 10 _ 34 (by decide) rfl rfl; exact g.trans (congrArg some hx)), (by obtain ⟨_, g, hx⟩ := hv 11 _ 35 (by decide) rfl rfl; exact g.trans (congrArg some hx)), (by obtain ⟨_, g, hx⟩ := hv 12 _ 36 (by decide) rfl rfl; exact g.trans (congrArg some hx)), (by obtain ⟨_, g, hx⟩ := hv 13 _ 37 (by decide) rfl rfl; exact g.trans (congrArg some hx)), (by obtain ⟨_, g, hx⟩ := hv 14 _ 38 (by decide) rfl rfl; exact g.trans (congrArg some hx)), (by obtain ⟨_, g, hx⟩ := hv 15 _ 39 (by decide) rfl rfl; exact g.trans (congrArg some hx)), (by obtain ⟨_, g, hx⟩ := hv 16 _ 40 (by decide) rfl rfl; exact g.trans (congrArg some hx)), (by obtain ⟨_, g, hx⟩ := hv 17 _ 41 (by decide) rfl rfl; exact g.trans (congrArg some hx)), (by obtain ⟨_, g, hx⟩ := hv 18 _ 42 (by decide) rfl rfl; exact g.trans (congrArg some hx)), (by obtain ⟨_, g, hx⟩ := hv 19 _ 43 (by decide) rfl rfl; exact g.trans (congrArg some hx)), (by obtain ⟨_, g, hx⟩ := hv 20 _ 44 (by decide) rfl rfl; exact g.trans (congrArg some hx)), (by obtain ⟨_, g, hx⟩ := hv 21 _ 45 (by decide) rfl rfl; exact g.trans (congrArg some hx)), (by obtain ⟨_, g, hx⟩ := hv 22 _ 46 (by decide) rfl rfl; exact g.trans (congrArg some hx)), (by obtain ⟨_, g, hx⟩ := hv 23 _ 47 (by decide) rfl rfl; exact g.trans (congrArg some hx)), (by obtain ⟨_, g, hx⟩ := hv 24 _ 48 (by decide) rfl rfl; exact g.trans (congrArg some hx)), (by obtain ⟨_, g, hx⟩ := hv 25 _ 49 (by decide) rfl rfl; exact g.trans (congrArg some hx)), ((Reg.kept_past ho 50 (by kernel_rfl)).trans rfl), trivial⟩
    subst hcx
    have HEx : Hid (Below w.heap.size w wx) := Lib.hid ((HE4.out.drew).trans (hB.mono HE4.out.size))
    clear hv ho hB hsz hdf
    go_wp2_with fail
    refine (must_yes _).mono ?_
    rintro e w9 ⟨rfl, hB9⟩
    have HE9 : Hid (Below w.heap.size w w9) := Lib.hid (HEx.out.trans (hB9.mono HEx.out.size))
    clear hB9
    go_wp2
    go_end0
    exact ⟨rfl, HE9.out⟩
/-- It is thrown just if it may not be. -/
theorem fit_any {C B k : Nat} {v : Value} {l : List Hit} {f s lo hi : Int} {w : World} (hC : CellsAt C #[.pointer (some ⟨B, 0, none⟩), .int .i64 f, .int .i64 (Wi.shi s), .int .u64 (Wi.slo s), .int .i64 lo, .int .i64 hi] w)
    (hs : Hs 0 66 B k v l w) (h0 : 0 < countH l) (hS : Wi.InS s) (hlo : In64 lo) (hhi : In64 hi) :
    Calls Tryd.prog 51 #[.pointer (some ⟨C, 0, none⟩)] w fun e w' => e = (if okC k l s lo hi then .returned (.tuple #[]) else PE) ∧ Below w.heap.size w w' := by
  have hz : ¬ countH l = 0 := by omega
  unfold okC
  simp only [if_neg hz]
  by_cases hA : rankH l 1 = some (ofI k lo)
  · by_cases hB : rankH l (countH l) = some (ofI k hi)
    · by_cases hL : s < (countH l : Int) * lo
      · rw [if_neg (fun h => by have := h.2.2.1; omega)]
        exact fit_low hC hs h0 hS hlo hhi hA hB hL
      · by_cases hH : (countH l : Int) * hi < s
        · rw [if_neg (fun h => by have := h.2.2.2; omega)]
          exact fit_high hC hs h0 hS hlo hhi hA hB hL hH
        · rw [if_pos ⟨hA, hB, by omega, by omega⟩]
          exact fit_ok hC hs h0 hS hlo hhi hA hB hL hH
    · rw [if_neg (fun h => hB h.2.1)]
      exact fit_last hC hs h0 hS hlo hhi hA hB
  · rw [if_neg (fun h => hA h.1)]
    exact fit_first hC hs h0 hS hlo hhi hA
end Go.Proofs.YtmjipafhahggpaaDoor.Ce

