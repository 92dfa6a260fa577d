/- A sum's text; ten times a sum. -/
import Derived.Test.YthddnhnhlgnlhaaDoorWideG
namespace Go.Proofs.YthddnhnhlgnlhaaDoor
open Go Go.RowKit

theorem itoa_neg' {a : Int} (h : a < 0) : Lib.itoa a = 45 :: Lib.decDigits (-a).toNat := by
  unfold Lib.itoa; rw [if_pos h]; congr 2; omega
theorem itoa_pos' {a : Int} (h : ¬ a < 0) : Lib.itoa a = Lib.decDigits a.toNat := by
  unfold Lib.itoa; rw [if_neg h]

theorem digits_sv (a : Int) (m : Nat) (ha : InS a) (he : IntKind.u64.wrap (shi a) * 18446744073709551616 + slo a = m) (hm : m ≤ 170141183460469231731687303715884105728) (w : World) (hT : Tens w) :
    Calls Tryd.prog 33 #[sv a] w fun e w' => e = .returned (.string (tx (Lib.decDigits m))) ∧ Below w.heap.size w w' :=
  digits_any (shi a) (slo a) m hm (shi_lo ha) (shi_hi ha) (slo_lo a) (slo_hi a) he w hT
theorem mag_pos {a : Int} (ha : InS a) (h : ¬ a < 0) : IntKind.u64.wrap (shi a) * 18446744073709551616 + slo a = (a.toNat : Int) ∧ a.toNat ≤ 170141183460469231731687303715884105728 := by
  rw [IntKind.wrap_u64]; unfold InS shi slo at *; omega
theorem mag_neg {a : Int} (ha : InS a) (h : a < 0) : IntKind.u64.wrap (shi (w128 (-a))) * 18446744073709551616 + slo (w128 (-a)) = ((-a).toNat : Int) ∧ (-a).toNat ≤ 170141183460469231731687303715884105728 := by
  rw [IntKind.wrap_u64]; unfold InS shi slo w128 at *; omega

theorem text_any (a : Int) (ha : InS a) (w : World) (hT : Tens w) :
    Calls Tryd.prog 21 #[sv a] w fun e w' => e = .returned (.string (tx (Lib.itoa a))) ∧ Below w.heap.size w w' := by
  have HT := Lib.hid hT
  have HA := Lib.hid ha
  have a1 := shi_lo ha
  have a2 := shi_hi ha
  have a3 := slo_lo a
  have a4 := slo_hi a
  clear hT
  by_cases hn : a < 0
  · rw [itoa_neg' hn]
    obtain ⟨m, hm⟩ : ∃ m, (-a).toNat = m := ⟨_, rfl⟩
    have hmag := mag_neg ha hn
    rw [hm] at hmag ⊢
    have hdig := fun w h => digits_sv (w128 (-a)) m (w128_in _) hmag.1 hmag.2 w h
    have hsg : ssgn a = -1 := by unfold ssgn; rw [if_pos hn]
    have hlen : (Lib.decDigits m).length ≤ 40 := by rw [Lib.decDigits_length]; exact nDigits_le 40 m (by decide) (by have := hmag.2; simp; omega)
    have hap : tx (45 :: Lib.decDigits m) = (⟨#[45]⟩ : ByteArray) ++ tx (Lib.decDigits m) := by
      rw [show (⟨#[45]⟩ : ByteArray) = tx [45] from rfl, tx_append]; rfl
    rw [hap]
    have hsz : (tx (Lib.decDigits m)).size ≤ 40 := by rw [tx_size]; exact hlen
    obtain ⟨t, ht⟩ : ∃ t, tx (Lib.decDigits m) = t := ⟨_, rfl⟩
    rw [ht] at hsz ⊢
    rw [ht] at hdig
    have hs1 : (⟨#[45]⟩ : ByteArray).size + t.size ≤ 9223372036854775807 := by show 1 + t.size ≤ _; omega
    have hs2 : 1 + t.size ≤ 9223372036854775807 := by omega
    have hsgn := fun w => sign_any a HA.out w
    rw [hsg] at hsgn
    have hneg := fun w => neg_any a HA.out w
    clear hmag hm hn hsg hlen hap ha ht
    go_enter Tryd.func21, Tryd.ntmps21
    go_wp2_with fail
    refine (hsgn _).mono ?_
    rintro e w1 ⟨rfl, hB1⟩
    have hE1 : Below w.heap.size w w1 := ((Below.refl _ _).alloc (Nat.le_refl _) _).trans (hB1.mono (by simp))
    have hc : CellsAt w.heap.size #[.int .i64 (shi a), .int .u64 (slo a)] w1 := (CellsAt.new _ _ _).below hB1
    have c0 := hc.cell 0 (.int .i64 (shi a)) rfl
    have c1 := hc.cell 1 (.int .u64 (slo a)) rfl
    clear hsgn
    go_wp2_with fail
    refine (hneg _).mono ?_
    rintro e w2 ⟨rfl, hB2⟩
    have hE2 := hE1.trans (hB2.mono hE1.size)
    clear hneg
    go_wp2_with fail
    refine (hdig _ (HT.out.below hE2)).mono ?_
    rintro e w3 ⟨rfl, hB3⟩
    have hE3 := hE2.trans (hB3.mono hE2.size)
    clear hdig
    go_wp2
    go_ret
    exact ⟨rfl, hE3⟩
  · rw [itoa_pos' hn]
    obtain ⟨m, hm⟩ : ∃ m, a.toNat = m := ⟨_, rfl⟩
    have hmag := mag_pos ha hn
    rw [hm] at hmag ⊢
    have hdig := fun w h => digits_sv a m ha hmag.1 hmag.2 w h
    have hsg : decide (ssgn a < 0) = false := by unfold ssgn; rw [if_neg hn]; split <;> rfl
    obtain ⟨g, hg⟩ : ∃ g, ssgn a = g := ⟨_, rfl⟩
    rw [hg] at hsg
    have hsgn := fun w => sign_any a HA.out w
    rw [hg] at hsgn
    clear hmag hm hn hg ha
    go_enter Tryd.func21, Tryd.ntmps21
    go_wp2_with fail
    refine (hsgn _).mono ?_
    rintro e w1 ⟨rfl, hB1⟩
    have hE1 : Below w.heap.size w w1 := ((Below.refl _ _).alloc (Nat.le_refl _) _).trans (hB1.mono (by simp))
    have hc : CellsAt w.heap.size #[.int .i64 (shi a), .int .u64 (slo a)] w1 := (CellsAt.new _ _ _).below hB1
    have c0 := hc.cell 0 (.int .i64 (shi a)) rfl
    have c1 := hc.cell 1 (.int .u64 (slo a)) rfl
    clear hsgn
    go_wp2_with fail
    refine (hdig _ (HT.out.below hE1)).mono ?_
    rintro e w3 ⟨rfl, hB3⟩
    have hE3 := hE1.trans (hB3.mono hE1.size)
    clear hdig
    go_wp2
    go_ret
    exact ⟨rfl, hE3⟩

theorem mul_ten (x : Int) (h0 : 0 ≤ x) (h1 : x ≤ 18446744073709551615) (w : World) :
    Calls Tryd.prog 53 #[.int .u64 x, .int .u64 10] w fun e w' => e = .returned (.tuple #[.int .u64 (x * 10 / 18446744073709551616), .int .u64 (x * 10 % 18446744073709551616)]) ∧ w = w' := by
  obtain ⟨n, rfl⟩ := Int.eq_ofNat_of_zero_le h0
  refine (Tryd.bits_Mul64 n 10 (by omega) (by decide) w).mono ?_
  rintro e w' ⟨rfl, rfl⟩
  refine ⟨?_, rfl⟩
  rw [show ((n * 10 / 18446744073709551616 : Nat) : Int) = (n : Int) * 10 / 18446744073709551616 by omega, show ((n * 10 % 18446744073709551616 : Nat) : Int) = (n : Int) * 10 % 18446744073709551616 by omega]
theorem shi_w128 (X d : Int) (h0 : 0 ≤ d) (h1 : d < 18446744073709551616) : shi (w128 (X * 18446744073709551616 + d)) = wrap64 X := by
  unfold wrap64 shi w128
  omega
theorem wrap64_add (x y : Int) : wrap64 (wrap64 x + y) = wrap64 (x + y) := by unfold wrap64; omega
theorem ten_hi (a : Int) (_ha : InS a) : wrap64 (wrap64 (shi a * 10) + slo a * 10 / 18446744073709551616) = shi (w128 (a * 10)) := by
  have e : a * 10 = (shi a * 10 + slo a * 10 / 18446744073709551616) * 18446744073709551616 + slo a * 10 % 18446744073709551616 := by
    have := of_parts a
    omega
  rw [e, shi_w128 _ _ (by omega) (by omega), wrap64_add]
theorem ten_lo (a : Int) : slo a * 10 % 18446744073709551616 = slo (w128 (a * 10)) := by
  unfold slo w128
  omega
theorem tenfold_any (a : Int) (ha : InS a) (w : World) :
    Calls Tryd.prog 43 #[sv a] w fun e w' => e = .returned (sv (w128 (a * 10))) ∧ Below w.heap.size w w' := by
  have a1 := shi_lo ha
  have a2 := shi_hi ha
  have a3 := slo_lo a
  have a4 := slo_hi a
  have r1 := ten_hi a ha
  have r2 := ten_lo a
  have r3 : wrap64 (slo a * 10 / 18446744073709551616) = slo a * 10 / 18446744073709551616 := by unfold wrap64; omega
  unfold sv
  rw [← r1, ← r2]
  clear r1 r2 ha
  go_enter Tryd.func43, Tryd.ntmps43
  go_wp2_with (go_at_call 53; refine (mul_ten (slo a) a3 a4 _).mono ?_; rintro e w1 ⟨rfl, rfl⟩)
  simp [bodyPost, results, Tryd.results43, go_sem]
  exact ((Below.refl _ _).alloc (Nat.le_refl _) _).alloc (by simp) _
end Go.Proofs.YthddnhnhlgnlhaaDoor
