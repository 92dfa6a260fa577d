/- Quantiles: the bounds of a rank's bucket. -/
import Derived.Test.YtklklpccpbhfgaaHiGet
namespace Go.Proofs.Ytklklpccpbhfgaa
open Go Go.RowKit

/-- The rank at which num of den parts are reached. -/
def rkN (c num den : Nat) : Nat := max 1 ((c * num + den - 1) / den)
theorem rkN_le {c num den : Nat} (hd : 1 ≤ den) (hn : num ≤ den) (hc : 1 ≤ c) : rkN c num den ≤ c := by
  unfold rkN
  refine Nat.max_le.2 ⟨hc, ?_⟩
  have h1 : c * num ≤ c * den := Nat.mul_le_mul_left _ hn
  have h2 : c * num + den - 1 < (c + 1) * den := by rw [Nat.add_mul, Nat.one_mul]; omega
  have := (Nat.div_lt_iff_lt_mul (by omega)).2 h2
  omega
theorem rank_some {l : List Hit} {r : Nat} (h1 : 1 ≤ r) (h2 : r ≤ countH l) : ∃ a, rankH l r = some a ∧ ∃ x ∈ l, x.at_ = a := by
  rw [rankH_spread l r h1]
  have hl := spread_length l
  have hlt : r - 1 < (spread l).length := by omega
  refine ⟨(spread l)[r - 1], List.getElem?_eq_getElem hlt, ?_⟩
  exact mem_spread (List.getElem_mem hlt)
set_option maxRecDepth 100000 in
set_option maxHeartbeats 4000000 in
theorem quant_bad (B : Nat) (num den : Nat) (h : den < 1 ∨ 1000000 < den ∨ den < num) (w : World) :
    Calls Try.prog 21 #[.pointer (some ⟨B, 0, none⟩), .int .u64 num, .int .u64 den] w fun e w' => e = .returned (.tuple #[.int .i64 0, .int .i64 0, .int .i64 1]) ∧ w = w' := by
  by_cases h1 : den < 1
  · obtain rfl : den = 0 := by omega
    clear h h1
    go_enter Try.func21, Try.ntmps21
    go_wp2
    go_ret3
    exact ⟨rfl, rfl⟩
  · have t1 : decide ((den : Int) < 1) = false := decide_eq_false (by omega)
    by_cases h2 : 1000000 < den
    · have t2 : decide ((1000000 : Int) < (den : Int)) = true := decide_eq_true (by omega)
      clear h h1 h2
      go_enter Try.func21, Try.ntmps21
      go_wp2
      go_ret3
      exact ⟨rfl, rfl⟩
    · have t2 : decide ((1000000 : Int) < (den : Int)) = false := decide_eq_false (by omega)
      have t3 : decide (den < num) = true := decide_eq_true (by omega)
      clear h h1 h2
      go_enter Try.func21, Try.ntmps21
      go_wp2
      go_ret3
      exact ⟨rfl, rfl⟩
set_option maxRecDepth 100000 in
set_option maxHeartbeats 4000000 in
theorem quant_none {base B k : Nat} {v : Value} {l : List Hit} {w : World} (h : Hs base 62 B k v l w) (num den : Nat) (hd1 : 1 ≤ den) (hd2 : den ≤ 1000000) (hn : num ≤ den) (hc : countH l = 0) :
    Calls Try.prog 21 #[.pointer (some ⟨B, 0, none⟩), .int .u64 num, .int .u64 den] w fun e w' => e = .returned (.tuple #[.int .i64 0, .int .i64 0, .int .i64 5]) ∧ Below w.heap.size w w' := by
  have hcn := count_any h
  rw [hc] at hcn
  have hrk := fun (W : World) (hW : Hs base 62 B k v l W) => rank_any hW 1 (by omega) (by omega)
  rw [rank_over (l := l) (n := 1) (by omega) (by omega)] at hrk
  have HR := Lib.hid hrk
  have H := Lib.hid h
  have t1 : decide ((den : Int) < 1) = false := decide_eq_false (by omega)
  have t2 : decide ((1000000 : Int) < (den : Int)) = false := decide_eq_false (by omega)
  have t3 : decide (den < num) = false := decide_eq_false (by omega)
  have e1 : ((den : Int) - 1) / (den : Int) = 0 := Int.ediv_eq_zero_of_lt (by omega) (by omega)
  have e2 : ((den : Int) - 1).tdiv (den : Int) = 0 := Int.tdiv_eq_zero_of_lt (by omega) (by omega)
  have hd0 : ¬ ((den : Int) = 0) := by omega
  clear h hrk hc
  go_enter Try.func21, Try.ntmps21
  go_wp2_with fail
  refine hcn.mono ?_
  rintro e w1 ⟨rfl, hB1⟩
  have H1 := Lib.hid (H.out.below hB1)
  have HB1 := Lib.hid hB1
  have hr := HR.out _ H1.out
  clear hcn hB1
  go_wp2_with fail
  refine hr.mono ?_
  rintro e w2 ⟨rfl, hB2⟩
  have hB := below_on HB1.out hB2 (Nat.le_refl _)
  clear hr hB2
  simp only [rkV]
  go_wp2
  go_ret3
  exact ⟨rfl, hB⟩
set_option maxRecDepth 100000 in
set_option maxHeartbeats 4000000 in
theorem quant_any {base B k : Nat} {v : Value} {l : List Hit} {w : World} (h : Hs base 62 B k v l w) (num den : Nat) (hd1 : 1 ≤ den) (hd2 : den ≤ 1000000) (hn : num ≤ den) (hc : 1 ≤ countH l) (a : Int) (ha : rankH l (rkN (countH l) num den) = some a) :
    Calls Try.prog 21 #[.pointer (some ⟨B, 0, none⟩), .int .u64 num, .int .u64 den] w fun e w' => e = .returned (.tuple #[.int .i64 (lowI k a), .int .i64 (highI k a), .int .i64 0]) ∧ Below w.heap.size w w' := by
  have hcn := count_any h
  have hsum := h.inv.sum
  have hrl := rkN_le hd1 hn hc
  obtain ⟨a', ha', x, hx, hxa⟩ := rank_some (l := l) (r := rkN (countH l) num den) (Nat.le_max_left _ _) hrl
  rw [ha] at ha'
  obtain rfl : a = a' := Option.some.inj ha'
  have hbd := fun w => bounds_any k h.inv.hk a (hxa ▸ h.inv.fit x hx) w
  have hrk := fun (W : World) (hW : Hs base 62 B k v l W) => rank_any hW (rkN (countH l) num den) (Nat.le_max_left _ _) (by omega)
  rw [ha] at hrk
  have hrd : rkN (countH l) num den = max 1 ((countH l * num + den - 1) / den) := rfl
  generalize rkN (countH l) num den = R at *
  have hP : countH l * num ≤ 1099511627776 * 1000000 := Nat.mul_le_mul hsum (by omega)
  obtain ⟨P, hPe⟩ : ∃ P, countH l * num = P := ⟨_, rfl⟩
  have hw : IntKind.u64.wrap ((countH l : Int) * (num : Int)) = (P : Int) := by
    rw [← Int.natCast_mul, hPe, IntKind.wrap_u64]; omega
  rw [hPe] at hrd hP
  obtain ⟨Q, hQ⟩ : ∃ Q, (P + den - 1) / den = Q := ⟨_, rfl⟩
  rw [hQ] at hrd
  have e0 : ((P : Int) + den - 1) = ((P + den - 1 : Nat) : Int) := by omega
  have e1 : ((P : Int) + den - 1) / (den : Int) = (Q : Int) := by rw [e0, ← hQ]; rfl
  have e2 : ((P : Int) + den - 1).tdiv (den : Int) = (Q : Int) := by rw [e0, ← hQ]; rfl
  have hmx : max (1 : Int) (Q : Int) = (R : Int) := by rw [hrd]; omega
  have hQle : Q ≤ R := by rw [hrd]; exact Nat.le_max_right _ _
  have HR := Lib.hid hrk
  have H := Lib.hid h
  have HBD := Lib.hid hbd
  have t1 : decide ((den : Int) < 1) = false := decide_eq_false (by omega)
  have t2 : decide ((1000000 : Int) < (den : Int)) = false := decide_eq_false (by omega)
  have t3 : decide (den < num) = false := decide_eq_false (by omega)
  have hd0 : ¬ ((den : Int) = 0) := by omega
  clear h hrk hbd ha ha' hxa hx hPe hQ hrd e0
  generalize countH l = c at *
  go_enter Try.func21, Try.ntmps21
  go_wp2_with fail
  refine hcn.mono ?_
  rintro e w1 ⟨rfl, hB1⟩
  have H1 := Lib.hid (H.out.below hB1)
  have HB1 := Lib.hid hB1
  have hr := HR.out _ H1.out
  clear hcn hB1
  go_wp2_with fail
  refine hr.mono ?_
  rintro e w2 ⟨rfl, hB2⟩
  have H2 := Lib.hid (H1.out.below hB2)
  have HB2 := Lib.hid (below_on HB1.out hB2 (Nat.le_refl _))
  have c0 := H2.out.c0
  have hbd := HBD.out
  clear hr hB2
  simp only [rkV]
  go_wp2_with fail
  refine (hbd _).mono ?_
  rintro e w3 ⟨rfl, hB3⟩
  have hB := below_on HB2.out hB3 (Nat.le_refl _)
  clear hbd hB3
  go_wp2
  go_ret3
  exact ⟨rfl, hB⟩
end Go.Proofs.Ytklklpccpbhfgaa
