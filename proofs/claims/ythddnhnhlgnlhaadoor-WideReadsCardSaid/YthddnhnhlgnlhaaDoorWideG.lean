/- A sum's digits, and its text. -/
import Derived.Test.YthddnhnhlgnlhaaDoorWideD
import Derived.Test.YthddnhnhlgnlhaaDoorWideF
import Derived.Test.YthddnhnhlgnlhaaDoorWideN
import Derived.Deep.QuietTactic
import Derived.BigQuiet
namespace Go.Proofs.YthddnhnhlgnlhaaDoor
open Go Go.RowKit

/-- The last k digits, zeros ahead. -/
def padDigits : Nat → Nat → List UInt8
  | 0, _ => []
  | k + 1, n => padDigits k (n / 10) ++ [UInt8.ofNat (48 + n % 10)]
theorem decDigits_big {u : Nat} (h : ¬ u < 10) : Lib.decDigits u = Lib.decDigits (u / 10) ++ [UInt8.ofNat (48 + u % 10)] := by
  rw [Lib.decDigits, dif_neg h]
theorem decDigits_pad : ∀ (k u n : Nat), 1 ≤ u → n < 10 ^ k → Lib.decDigits (u * 10 ^ k + n) = Lib.decDigits u ++ padDigits k n
  | 0, u, n, _, hn => by
    have : n = 0 := by simpa using hn
    subst this
    simp [padDigits]
  | k + 1, u, n, hu, hn => by
    have hp : 10 ^ (k + 1) = 10 * 10 ^ k := by rw [Nat.pow_succ, Nat.mul_comm]
    have hpos : 0 < 10 ^ k := Nat.pow_pos (by decide)
    have e : u * 10 ^ (k + 1) = 10 * (u * 10 ^ k) := by rw [hp, ← Nat.mul_assoc, Nat.mul_comm u 10, Nat.mul_assoc]
    have hup : 1 ≤ u * 10 ^ k := Nat.mul_pos hu hpos
    rw [decDigits_big (by omega), padDigits, ← List.append_assoc, ← decDigits_pad k u (n / 10) hu (by omega), e,
      show (10 * (u * 10 ^ k) + n) / 10 = u * 10 ^ k + n / 10 by omega, show (10 * (u * 10 ^ k) + n) % 10 = n % 10 by omega]
theorem padDigits_zero : ∀ k, padDigits k 0 = List.replicate k 48
  | 0 => rfl
  | k + 1 => by
    rw [padDigits, show 0 / 10 = 0 from rfl, padDigits_zero k, show UInt8.ofNat (48 + 0 % 10) = 48 from rfl, ← List.replicate_succ']
theorem pad_dec : ∀ (k n : Nat), 1 ≤ k → n < 10 ^ k → padDigits k n = List.replicate (k - Lib.nDigits n) 48 ++ Lib.decDigits n
  | 0, _, h, _ => by omega
  | 1, n, _, hn => by
    have hn : n < 10 := by simpa using hn
    rw [Lib.nDigits_small hn, Lib.decDigits_one hn]
    simp [padDigits, Nat.mod_eq_of_lt hn]
  | k + 2, n, _, hn => by
    have hp : 10 ^ (k + 2) = 10 * 10 ^ (k + 1) := by rw [Nat.pow_succ, Nat.mul_comm]
    by_cases h10 : n < 10
    · rw [padDigits, show n / 10 = 0 by omega, padDigits_zero, Lib.nDigits_small h10, Lib.decDigits_one h10, Nat.mod_eq_of_lt h10]
      rfl
    · rw [padDigits, pad_dec (k + 1) (n / 10) (by omega) (by omega), Lib.nDigits_big h10, decDigits_big h10, List.append_assoc]
      congr 2
      omega
theorem dec_two {u n : Nat} (hu : 1 ≤ u) (hn : n < 10000000000000000000) : Lib.decDigits (u * 10000000000000000000 + n) = Lib.decDigits u ++ (List.replicate (19 - Lib.nDigits n) 48 ++ Lib.decDigits n) := by
  have h := decDigits_pad 19 u n hu (by simpa using hn)
  rw [pad_dec 19 n (by decide) (by simpa using hn)] at h
  exact h
theorem nDigits_le : ∀ (k n : Nat), 1 ≤ k → n < 10 ^ k → Lib.nDigits n ≤ k
  | 0, _, h, _ => by omega
  | 1, n, _, hn => by rw [Lib.nDigits_small (by simpa using hn)]; decide
  | k + 2, n, _, hn => by
    have hp : 10 ^ (k + 2) = 10 * 10 ^ (k + 1) := by rw [Nat.pow_succ, Nat.mul_comm]
    by_cases h10 : n < 10
    · rw [Lib.nDigits_small h10]; omega
    · rw [Lib.nDigits_big h10]
      have := nDigits_le (k + 1) (n / 10) (by omega) (by omega)
      omega

theorem div_ten_any (hi lo y : Int) (hy : y = 10000000000000000000) (h0 : 0 ≤ hi) (h1 : hi < y) (l0 : 0 ≤ lo) (l1 : lo ≤ 18446744073709551615) (w : World) :
    Calls Tryd.prog 39 #[.int .u64 hi, .int .u64 lo, .int .u64 y] w fun e w' =>
      e = .returned (.tuple #[.int .u64 ((hi * 18446744073709551616 + lo) / y), .int .u64 ((hi * 18446744073709551616 + lo) % y)]) ∧ Below w.heap.size w w' := by
  by_cases hz : hi = 0
  · subst hz
    have y0 : (y == 0) = false := by rw [hy]; decide
    have y1 : decide (y ≤ 0) = false := by rw [hy]; decide
    have y2 : y ≠ 0 := by omega
    have y3 : 0 < y := by omega
    have e : (0 : Int) * 18446744073709551616 + lo = lo := by omega
    rw [e]
    clear hy e
    go_enter Tryd.func39, Tryd.ntmps39
    go_wp2
    go_quiet (fail)
    go_wp2
    go_ret2
    exact ⟨rfl, ⟨rfl, rfl, rfl, Nat.le_refl _, fun _ _ => rfl⟩⟩
  · have h := div_ten hi (lo / 4294967296) (lo % 4294967296) y hy (by omega) h1 (by omega) (by omega) (by omega) (by omega) w
    rw [show lo / 4294967296 * 4294967296 + lo % 4294967296 = lo by omega] at h
    refine h.mono ?_
    rintro e w' ⟨rfl, rfl⟩
    exact ⟨rfl, Below.refl _ _⟩

theorem repeat_zero (n : Nat) (hn : n ≤ 19) (w : World) :
    Calls Tryd.prog 41 #[.string ⟨#[48]⟩, .int .i64 (19 - (n : Int))] w fun e w' => e = .returned (.string ⟨(List.replicate (19 - n) 48).toArray⟩) ∧ Below w.heap.size w w' := by
  have h := Tryd.strings_Repeat ⟨#[48]⟩ (19 - n) w (by omega) (by show 1 * (19 - n) ≤ _; omega)
  rw [show ((19 - n : Nat) : Int) = 19 - (n : Int) by omega] at h
  have e : Lib.repeatL (⟨#[48]⟩ : ByteArray).data.toList (19 - n) = List.replicate (19 - n) 48 := by
    have := Lib.repeatL_replicate 48 1 (19 - n)
    simpa using this
  rwa [e] at h

/-- A text out of its bytes. -/
abbrev tx (l : List UInt8) : ByteArray := ⟨l.toArray⟩
theorem tx_size (l : List UInt8) : (tx l).size = l.length := by simp [ByteArray.size]
theorem tx_append (a b : List UInt8) : tx a ++ tx b = tx (a ++ b) := by
  apply ByteArray.ext
  simp
theorem Tens.below {w w' : World} (h : Tens w) (hB : Below w.heap.size w w') : Tens w' := by
  unfold Tens Lib.TabIs World.var? at *
  cases hg : Tryd.prog.globalNamed "internal/strconv.uint64pow10" with
  | none => simp [hg] at h
  | some g =>
    simp only [hg, Option.bind_some] at h ⊢
    have hlt : g < w.heap.size := by
      rcases Nat.lt_or_ge g w.heap.size with h' | h'
      · exact h'
      · rw [Array.getElem?_eq_none h'] at h; simp at h
    rw [hB.block g hlt]
    exact h

set_option maxHeartbeats 2000000 in
theorem digits_any (h l : Int) (m : Nat) (hm : m ≤ 170141183460469231731687303715884105728) (h1 : -9223372036854775808 ≤ h) (h2 : h ≤ 9223372036854775807) (l1 : 0 ≤ l) (l2 : l ≤ 18446744073709551615)
    (he : IntKind.u64.wrap h * 18446744073709551616 + l = m) (w : World) (hT : Tens w) :
    Calls Tryd.prog 33 #[.agg #[.int .i64 h, .int .u64 l]] w fun e w' => e = .returned (.string (tx (Lib.decDigits m))) ∧ Below w.heap.size w w' := by
  have hu : 0 ≤ IntKind.u64.wrap h ∧ IntKind.u64.wrap h ≤ 9223372036854775808 := by rw [IntKind.wrap_u64] at he ⊢; omega
  have hdiv := div_ten_any (IntKind.u64.wrap h) l 10000000000000000000 rfl hu.1 (by omega) l1 l2
  rw [he] at hdiv
  obtain ⟨u, hu'⟩ : ∃ u, m / 10000000000000000000 = u := ⟨_, rfl⟩
  obtain ⟨n, hn'⟩ : ∃ n, m % 10000000000000000000 = n := ⟨_, rfl⟩
  rw [show (m : Int) / 10000000000000000000 = (u : Nat) by omega, show (m : Int) % 10000000000000000000 = (n : Nat) by omega] at hdiv
  have hn : n < 10000000000000000000 := by omega
  have hub : u < 18446744073709551616 := by omega
  have hmm : m = u * 10000000000000000000 + n := by omega
  have hnd := nDigits_le 19 n (by decide) (by simpa using hn)
  have hts : (tx (Lib.decDigits n)).size = Lib.nDigits n := by rw [tx_size, Lib.decDigits_length]
  have hzs : (tx (List.replicate (19 - Lib.nDigits n) 48)).size ≤ 19 := by rw [tx_size, List.length_replicate]; omega
  have hus : (tx (Lib.decDigits u)).size ≤ 20 := by rw [tx_size, Lib.decDigits_length]; exact nDigits_le 20 u (by decide) (by omega)
  have HT := Lib.hid hT
  have hfmt : ∀ w, Tens w → Calls Tryd.prog 40 #[.int .u64 n, .int .i64 10] w fun e w' => e = .returned (.string (tx (Lib.decDigits n))) ∧ Below w.heap.size w w' := fun w h => formatUint_any n (by omega) w h
  have hfmu : ∀ w, Tens w → Calls Tryd.prog 40 #[.int .u64 u, .int .i64 10] w fun e w' => e = .returned (.string (tx (Lib.decDigits u))) ∧ Below w.heap.size w w' := fun w h => formatUint_any u hub w h
  have hrep : ∀ w, Calls Tryd.prog 41 #[.string ⟨#[48]⟩, .int .i64 (19 - (Lib.nDigits n : Int))] w fun e w' => e = .returned (.string (tx (List.replicate (19 - Lib.nDigits n) 48))) ∧ Below w.heap.size w w' := repeat_zero (Lib.nDigits n) hnd
  obtain ⟨t, ht⟩ : ∃ t, tx (Lib.decDigits n) = t := ⟨_, rfl⟩
  obtain ⟨tu, htu⟩ : ∃ t, tx (Lib.decDigits u) = t := ⟨_, rfl⟩
  obtain ⟨z, hz⟩ : ∃ t, tx (List.replicate (19 - Lib.nDigits n) 48) = t := ⟨_, rfl⟩
  obtain ⟨d, hd⟩ : ∃ d, Lib.nDigits n = d := ⟨_, rfl⟩
  have hfin0 : u = 0 → t = tx (Lib.decDigits m) := fun h0 => by rw [← ht, hmm, h0]; simp
  have hfin1 : u ≠ 0 → tu ++ z ++ t = tx (Lib.decDigits m) := fun h0 => by rw [← htu, ← hz, ← ht, tx_append, tx_append, hmm, dec_two (by omega) hn, List.append_assoc]
  rw [ht] at hfmt hts
  rw [htu] at hfmu hus
  rw [hz] at hrep hzs
  rw [hd] at hrep
  rw [hd] at hts hnd
  clear hT he hu' hn' hmm hm ht htu hz hd
  by_cases hu0 : u = 0
  · subst hu0
    have hf := hfin0 rfl
    rw [← hf]
    clear hfin0 hfin1 hf hfmu hrep
    go_enter Tryd.func33, Tryd.ntmps33
    go_wp2_with fail
    refine (hdiv _).mono ?_
    rintro e w1 ⟨rfl, hB1⟩
    have hE1 : Below w.heap.size w w1 := ((Below.refl _ _).alloc (Nat.le_refl _) _).trans (hB1.mono (by simp))
    go_wp2_with fail
    refine (hfmt _ (HT.out.below hE1)).mono ?_
    rintro e w2 ⟨rfl, hB2⟩
    have hE2 := hE1.trans (hB2.mono hE1.size)
    clear hdiv hfmt
    go_wp2
    go_ret
    exact ⟨rfl, hE2⟩
  · have hf := hfin1 hu0
    rw [← hf]
    have hu1 : ((u : Int) == 0) = false := by simp; omega
    clear hfin0 hfin1 hf
    go_enter Tryd.func33, Tryd.ntmps33
    go_wp2_with fail
    refine (hdiv _).mono ?_
    rintro e w1 ⟨rfl, hB1⟩
    have hE1 : Below w.heap.size w w1 := ((Below.refl _ _).alloc (Nat.le_refl _) _).trans (hB1.mono (by simp))
    go_wp2_with fail
    refine (hfmt _ (HT.out.below hE1)).mono ?_
    rintro e w2 ⟨rfl, hB2⟩
    have hE2 := hE1.trans (hB2.mono hE1.size)
    clear hdiv hfmt
    go_wp2_with fail
    refine (hrep _).mono ?_
    rintro e w3 ⟨rfl, hB3⟩
    have hE3 := hE2.trans (hB3.mono hE2.size)
    go_wp2_with fail
    refine (hfmu _ (HT.out.below hE3)).mono ?_
    rintro e w4 ⟨rfl, hB4⟩
    have hE4 := hE3.trans (hB4.mono hE3.size)
    clear hrep hfmu
    have s1 : tu.size + z.size ≤ 9223372036854775807 := by omega
    have s2 : tu.size + z.size + d ≤ 9223372036854775807 := by omega
    have s3 : (tu ++ z).size + t.size ≤ 9223372036854775807 := by rw [ByteArray.size_append]; omega
    go_wp2
    go_ret
    exact ⟨rfl, hE4⟩
end Go.Proofs.YthddnhnhlgnlhaaDoor
