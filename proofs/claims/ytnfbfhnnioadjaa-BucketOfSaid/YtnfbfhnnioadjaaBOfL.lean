/- BucketOf, walked. -/
import Derived.Test.YtnfbfhnnioadjaaBRbd
namespace Go.Proofs.Ytnfbfhnnioadjaa
open Go Go.RowKit

/-- What the two sides answer of one number of bits, and that they answer the same. -/
structure Alike (b n m a X : Int) (o : Bool) (L H : Int) (f : Bool) (M : Int) (v : Bool) : Prop where
  of1 : ∀ (w : World), Calls Try.prog 11 #[.int .i64 b, .int .i64 n] w fun e w' => e = .returned (.tuple #[.int .i64 X, .bool o]) ∧ Below w.heap.size w w'
  of2 : ∀ (w : World), Calls Try.prog 10 #[.int .i64 b, .int .i64 n] w fun e w' => e = .returned (.tuple #[.int .i64 X, .bool o]) ∧ Below w.heap.size w w'
  bd1 : ∀ (w : World), Calls Try.prog 12 #[.int .i64 b, .int .i64 a] w fun e w' => e = .returned (.tuple #[.int .i64 L, .int .i64 H, .bool f]) ∧ Below w.heap.size w w'
  bd2 : ∀ (w : World), Calls Try.prog 13 #[.int .i64 b, .int .i64 a] w fun e w' => e = .returned (.tuple #[.int .i64 L, .int .i64 H, .bool f]) ∧ Below w.heap.size w w'
  mo1 : ∀ (w : World), Calls Try.prog 14 #[.int .i64 b] w fun e w' => e = .returned (.int .i64 M) ∧ Below w.heap.size w w'
  mo2 : ∀ (w : World), Calls Try.prog 15 #[.int .i64 b] w fun e w' => e = .returned (.int .i64 M) ∧ Below w.heap.size w w'
  ne1 : ∀ (w : World), Calls Try.prog 16 #[.int .i64 b, .int .i64 n, .int .i64 m] w fun e w' => e = .returned (.bool v) ∧ Below w.heap.size w w'
  ne2 : ∀ (w : World), Calls Try.prog 17 #[.int .i64 b, .int .i64 n, .int .i64 m] w fun e w' => e = .returned (.bool v) ∧ Below w.heap.size w w'

theorem alike_any (b n m a : Int) (hn : In64 n) (hm : In64 m) : ∃ X o L H f M v, Alike b n m a X o L H f M v := by
  by_cases hb : b < 0 ∨ 4 < b
  · exact ⟨_, _, _, _, _, _, _, of_out b hb n, ref_of_out b hb n, bounds_bits b hb a, ref_bounds_bits b hb a, most_out b hb, ref_most_out b hb, near_out b hb n m, ref_near_out b hb n m⟩
  · obtain ⟨k, rfl⟩ : ∃ k : Nat, b = k := ⟨b.toNat, by omega⟩
    have hk : k ≤ 4 := by omega
    by_cases hf : Fits k a
    · exact ⟨_, _, _, _, _, _, _, of_any k hk n hn, ref_of_any k hk n hn, bounds_any k hk a hf, ref_bounds_any k hk a hf, most_any k hk, ref_most_any k hk, near_any k hk n m hn hm, ref_near_any k hk n m hn hm⟩
    · exact ⟨_, _, _, _, _, _, _, of_any k hk n hn, ref_of_any k hk n hn, bounds_no k hk a hf, ref_bounds_no k hk a hf, most_any k hk, ref_most_any k hk, near_any k hk n m hn hm, ref_near_any k hk n m hn hm⟩

theorem ref_of_small (b m : Int) (hm : In64 m) : ∃ X o, -1000 ≤ X ∧ X ≤ 1000 ∧ ∀ (w : World), Calls Try.prog 10 #[.int .i64 b, .int .i64 m] w fun e w' => e = .returned (.tuple #[.int .i64 X, .bool o]) ∧ Below w.heap.size w w' := by
  by_cases hb : b < 0 ∨ 4 < b
  · exact ⟨_, _, by decide, by decide, ref_of_out b hb m⟩
  · obtain ⟨k, rfl⟩ : ∃ k : Nat, b = k := ⟨b.toNat, by omega⟩
    have hk : k ≤ 4 := by omega
    have hs := fits_small k hk _ (of_fits k hk m hm)
    exact ⟨_, _, hs.1, hs.2, ref_of_any k hk m hm⟩

set_option maxRecDepth 100000 in
set_option maxHeartbeats 4000000 in
theorem of_plain (b n m a X : Int) (o : Bool) (L H : Int) (f : Bool) (M : Int) (v : Bool) (h : Alike b n m a X o L H f M v) (w : World) :
    Calls Try.prog 3 #[.int .i64 b, .int .i64 n, .int .i64 m, .int .i64 a, .bool false] w fun e w' => e = .returned (.bool true) ∧ Below w.heap.size w w' := by
  obtain ⟨h1, h2, h3, h4, h5, h6, h7, h8⟩ := h
  go_enter Try.func3, Try.ntmps3
  go_wp2_with fail
  refine (examples_any _).mono ?_
  rintro e w1 ⟨rfl, b1⟩
  go_wp2_with fail
  refine (h1 _).mono ?_
  rintro e w2 ⟨rfl, b2⟩
  replace b1 := below_on b1 b2 (Nat.le_refl _)
  go_wp2_with fail
  refine (h2 _).mono ?_
  rintro e w3 ⟨rfl, b2⟩
  replace b1 := below_on b1 b2 (Nat.le_refl _)
  go_wp2_with fail
  refine (h3 _).mono ?_
  rintro e w4 ⟨rfl, b2⟩
  replace b1 := below_on b1 b2 (Nat.le_refl _)
  go_wp2_with fail
  refine (h4 _).mono ?_
  rintro e w5 ⟨rfl, b2⟩
  replace b1 := below_on b1 b2 (Nat.le_refl _)
  go_wp2_with fail
  refine (h5 _).mono ?_
  rintro e w6 ⟨rfl, b2⟩
  replace b1 := below_on b1 b2 (Nat.le_refl _)
  go_wp2_with fail
  refine (h6 _).mono ?_
  rintro e w7 ⟨rfl, b2⟩
  replace b1 := below_on b1 b2 (Nat.le_refl _)
  go_wp2_with fail
  refine (h7 _).mono ?_
  rintro e w8 ⟨rfl, b2⟩
  replace b1 := below_on b1 b2 (Nat.le_refl _)
  go_wp2_with fail
  refine (h8 _).mono ?_
  rintro e w9 ⟨rfl, b2⟩
  replace b1 := below_on b1 b2 (Nat.le_refl _)
  go_wp2
  go_ret
  exact ⟨rfl, b1⟩

set_option maxRecDepth 100000 in
set_option maxHeartbeats 4000000 in
theorem of_near (b0 b n m a0 t a X : Int) (o : Bool) (L H : Int) (f : Bool) (M : Int) (v : Bool) (hb : b0.tmod 7 = b) (hb1 : -6 ≤ b) (hb2 : b ≤ 6) (ht : a0.tmod 4 = t) (ht1 : -3 ≤ t) (ht2 : t ≤ 3) (x : Int) (u : Bool) (hx1 : -1000 ≤ x) (hx2 : x ≤ 1000) (hxa : x + t = a)
    (h0 : ∀ (w : World), Calls Try.prog 10 #[.int .i64 b, .int .i64 m] w fun e w' => e = .returned (.tuple #[.int .i64 x, .bool u]) ∧ Below w.heap.size w w') (h : Alike b n m a X o L H f M v) (w : World) :
    Calls Try.prog 3 #[.int .i64 b0, .int .i64 n, .int .i64 m, .int .i64 a0, .bool true] w fun e w' => e = .returned (.bool true) ∧ Below w.heap.size w w' := by
  obtain ⟨h1, h2, h3, h4, h5, h6, h7, h8⟩ := h
  have ha1 : -1003 ≤ a := by omega
  have ha2 : a ≤ 1003 := by omega
  go_enter Try.func3, Try.ntmps3
  go_wp2_with fail
  refine (examples_any _).mono ?_
  rintro e w1 ⟨rfl, b1⟩
  go_wp2_with fail
  refine (h0 _).mono ?_
  rintro e w1' ⟨rfl, b2⟩
  replace b1 := below_on b1 b2 (Nat.le_refl _)
  go_wp2_with fail
  refine (h1 _).mono ?_
  rintro e w2 ⟨rfl, b2⟩
  replace b1 := below_on b1 b2 (Nat.le_refl _)
  go_wp2_with fail
  refine (h2 _).mono ?_
  rintro e w3 ⟨rfl, b2⟩
  replace b1 := below_on b1 b2 (Nat.le_refl _)
  go_wp2_with fail
  refine (h3 _).mono ?_
  rintro e w4 ⟨rfl, b2⟩
  replace b1 := below_on b1 b2 (Nat.le_refl _)
  go_wp2_with fail
  refine (h4 _).mono ?_
  rintro e w5 ⟨rfl, b2⟩
  replace b1 := below_on b1 b2 (Nat.le_refl _)
  go_wp2_with fail
  refine (h5 _).mono ?_
  rintro e w6 ⟨rfl, b2⟩
  replace b1 := below_on b1 b2 (Nat.le_refl _)
  go_wp2_with fail
  refine (h6 _).mono ?_
  rintro e w7 ⟨rfl, b2⟩
  replace b1 := below_on b1 b2 (Nat.le_refl _)
  go_wp2_with fail
  refine (h7 _).mono ?_
  rintro e w8 ⟨rfl, b2⟩
  replace b1 := below_on b1 b2 (Nat.le_refl _)
  go_wp2_with fail
  refine (h8 _).mono ?_
  rintro e w9 ⟨rfl, b2⟩
  replace b1 := below_on b1 b2 (Nat.le_refl _)
  go_wp2
  go_ret
  exact ⟨rfl, b1⟩

theorem BucketOf_walk (b : Int) (hb : (Lit.int .i64 b).wf = true) (n : Int) (hn : (Lit.int .i64 n).wf = true) (m : Int) (hm : (Lit.int .i64 m).wf = true) (a : Int) (ha : (Lit.int .i64 a).wf = true) (near : Bool) (w : World) :
    Calls Try.prog 3 #[.int .i64 b, .int .i64 n, .int .i64 m, .int .i64 a, .bool near] w fun e w' => e = .returned (.bool true) ∧ Below w.heap.size w w' := by
  have iz := wf_in64 hn
  have im := wf_in64 hm
  cases near with
  | false =>
    obtain ⟨X, o, L, H, f, M, v, h⟩ := alike_any b n m a iz im
    exact of_plain b n m a X o L H f M v h w
  | true =>
    obtain ⟨x, u, hx1, hx2, h0⟩ := ref_of_small (b.tmod 7) m im
    obtain ⟨X, o, L, H, f, M, v, h⟩ := alike_any (b.tmod 7) n m (x + a.tmod 4) iz im
    have c1 : -6 ≤ b.tmod 7 ∧ b.tmod 7 ≤ 6 := by
      rcases Int.le_total 0 b with hh | hh
      · rw [Int.tmod_eq_emod_of_nonneg hh]; omega
      · have : b.tmod 7 = -((-b).tmod 7) := by rw [Int.neg_tmod]; omega
        rw [this, Int.tmod_eq_emod_of_nonneg (by omega)]; omega
    have c2 : -3 ≤ a.tmod 4 ∧ a.tmod 4 ≤ 3 := by
      rcases Int.le_total 0 a with hh | hh
      · rw [Int.tmod_eq_emod_of_nonneg hh]; omega
      · have : a.tmod 4 = -((-a).tmod 4) := by rw [Int.neg_tmod]; omega
        rw [this, Int.tmod_eq_emod_of_nonneg (by omega)]; omega
    exact of_near b _ n m a _ _ X o L H f M v rfl c1.1 c1.2 rfl c2.1 c2.2 x u hx1 hx2 rfl h0 h w
end Go.Proofs.Ytnfbfhnnioadjaa
