/- A sum's bytes: put. -/
import Derived.Test.YthddnhnhlgnlhaaDoorWideS
namespace Go.Proofs.YthddnhnhlgnlhaaDoor
open Go Go.RowKit

/-- The bytes of x, the highest first: the first k of them, laid into vs from o on. -/
def putW (vs : Array Value) (o : Nat) (x : Int) : Nat → Array Value
  | 0 => vs
  | k + 1 => (putW vs o x k).setIfInBounds (o + k) (.int .u8 (x / 2 ^ ((7 - k) * 8) % 256))
theorem putW_size (vs : Array Value) (o : Nat) (x : Int) : ∀ k, (putW vs o x k).size = vs.size
  | 0 => rfl
  | k + 1 => by rw [putW, Array.size_setIfInBounds, putW_size vs o x k]

set_option maxHeartbeats 1000000 in
theorem putWord_any (b o cap : Nat) (vs : Array Value) (x : Int) (w : World) (hc : CellsAt b vs w) (ho : o + 8 ≤ vs.size) (hx0 : 0 ≤ x) (hx1 : x ≤ 18446744073709551615) :
    Calls Tryd.prog 35 #[.slice (some ⟨b, o, none⟩) 8 cap, .int .u64 x] w fun e w' => e = .returned (.tuple #[]) ∧ Below b w w' ∧ CellsAt b (putW vs o x 8) w' := by
  go_enter Tryd.func35, Tryd.ntmps35
  go_wp2
  go_loopg [7] 8 (fun g s7 wx => ∃ k : Nat, k + g = 8 ∧ s7 = .int .i64 k ∧ CellsAt b (putW vs o x k) wx ∧ Below b w wx)
  case atStart => exact ⟨0, rfl, rfl, hc, Below.refl _ _⟩
  case round =>
    obtain ⟨k, hkg, rfl, hC, hB⟩ := hrel
    cases gk with
    | zero =>
      obtain rfl : k = 8 := hkg
      go_wp2
      go_end0
      exact ⟨rfl, hB, hC⟩
    | succ g =>
      obtain ⟨j, hj⟩ : ∃ j, 7 - k = j := ⟨_, rfl⟩
      have hkj : (7 : Int) - (k : Int) = j := by omega
      have hk8 : (k : Int) < 8 := by omega
      have hlt : o + k < (putW vs o x k).size := by rw [putW_size]; omega
      have hcell := hC.cell (o + k) ((putW vs o x k)[o + k]) (by simp [hlt])
      have hfro := hC.fro (o + k) ((putW vs o x k)[o + k]) (by simp [hlt])
      generalize (putW vs o x k)[o + k] = old at hcell hfro
      go_wp2
      go_roundg g
      case measure => omega
      case rel => exact ⟨k + 1, by omega, by go_num, by rw [putW, hj]; exact hC.set (o + k) _ hlt, hB.setCell (Nat.le_refl _) _⟩

theorem putW_out (vs : Array Value) (o : Nat) (x : Int) (i : Nat) : ∀ n, (i < o ∨ o + n ≤ i) → (putW vs o x n)[i]? = vs[i]?
  | 0, _ => rfl
  | n + 1, h => by
    rw [putW, Array.getElem?_setIfInBounds_ne (by omega)]
    exact putW_out vs o x i n (by omega)
theorem putW_in (vs : Array Value) (o : Nat) (x : Int) (k : Nat) (ho : o + k < vs.size) : ∀ n, k < n → (putW vs o x n)[o + k]? = some (.int .u8 (x / 2 ^ ((7 - k) * 8) % 256))
  | 0, h => by omega
  | n + 1, h => by
    rw [putW]
    by_cases hk : k = n
    · subst hk
      rw [Array.getElem?_setIfInBounds_self_of_lt (by rw [putW_size]; exact ho)]
    · rw [Array.getElem?_setIfInBounds_ne (by omega)]
      exact putW_in vs o x k ho n (by omega)

/-- The byte of x at place k, the highest first; the eight of them. -/
def byteAt (x : Int) (k : Nat) : UInt8 := UInt8.ofNat (x / 2 ^ ((7 - k) * 8) % 256).toNat
def bytesOf (x : Int) : List UInt8 := (List.range 8).map (byteAt x)
theorem byteAt_nat (x : Int) (k : Nat) : ((byteAt x k).toNat : Int) = x / 2 ^ ((7 - k) * 8) % 256 := by
  unfold byteAt
  rw [UInt8.toNat_ofNat']
  omega
def sput (a : Int) : List UInt8 := bytesOf (IntKind.u64.wrap (shi a)) ++ bytesOf (slo a)
theorem bytesOf_length (x : Int) : (bytesOf x).length = 8 := by simp [bytesOf]
theorem sput_length (a : Int) : (sput a).length = 16 := by simp [sput, bytesOf_length]
theorem put_cells (vs : Array Value) (u l : Int) (hv : vs.size = 16) (j : Nat) (hj : j < 16) :
    (putW (putW vs 0 u 8) 8 l 8)[j]? = some (.int .u8 ((bytesOf u ++ bytesOf l)[j]'(by simp [bytesOf_length]; omega)).toNat) := by
  by_cases h8 : j < 8
  · rw [putW_out _ _ _ _ _ (Or.inl h8)]
    have h := putW_in vs 0 u j (by omega) 8 h8
    rw [Nat.zero_add] at h
    rw [h, List.getElem_append_left (by rw [bytesOf_length]; exact h8)]
    simp only [bytesOf, List.getElem_map, List.getElem_range, byteAt_nat]
  · obtain ⟨k, rfl⟩ : ∃ k, j = 8 + k := ⟨j - 8, by omega⟩
    rw [putW_in _ 8 l k (by rw [putW_size]; omega) 8 (by omega), List.getElem_append_right (by rw [bytesOf_length]; omega)]
    have e : ∀ (m : Nat) (hm : m = 8) (hb : 8 + k - m < (bytesOf l).length), ((bytesOf l)[8 + k - m]'hb).toNat = ((bytesOf l)[k]'(by subst hm; rw [Nat.add_sub_cancel_left] at hb; exact hb)).toNat := fun m hm hb => by
      subst hm
      simp only [Nat.add_sub_cancel_left]
    rw [e _ (bytesOf_length u)]
    simp only [bytesOf, List.getElem_map, List.getElem_range, byteAt_nat]

set_option maxRecDepth 100000 in
set_option maxHeartbeats 2000000 in
theorem put_any (a : Int) (ha : InS a) (w : World) :
    Calls Tryd.prog 23 #[sv a] w fun e w' => e = .returned (.string (tx (sput a))) ∧ Below w.heap.size w w' := by
  have a1 := shi_lo ha
  have a2 := shi_hi ha
  have a3 := slo_lo a
  have a4 := slo_hi a
  have hu : 0 ≤ IntKind.u64.wrap (shi a) ∧ IntKind.u64.wrap (shi a) ≤ 18446744073709551615 := by rw [IntKind.wrap_u64]; omega
  obtain ⟨u, hu'⟩ : ∃ u, IntKind.u64.wrap (shi a) = u := ⟨_, rfl⟩
  rw [sput, hu']
  rw [hu'] at hu
  obtain ⟨u0, u1⟩ := hu
  clear ha
  rw [show sv a = .agg #[.int .i64 (shi a), .int .u64 (slo a)] from rfl]
  go_enter Tryd.func23, Tryd.ntmps23
  go_wp2
  refine wp_gen (fun W => CellsAt w.heap.size #[.int .i64 (shi a), .int .u64 (slo a)] W ∧ CellsAt (w.heap.size + 1) (Array.replicate 16 (.int .u8 0)) W ∧ Below w.heap.size w W) ?_ ?_
  · exact ⟨(CellsAt.new _ _ _).past _, CellsAt.newAt _ _ _ _ (by simp), ((Below.refl _ _).alloc (Nat.le_refl _) _).alloc (by simp) _⟩
  intro W ⟨hA, hR, hB0⟩
  have c0 := hA.cell 0 (.int .i64 (shi a)) rfl
  have c1 := hA.cell 1 (.int .u64 (slo a)) rfl
  go_region_with (go_at_call 35; refine (putWord_any (w.heap.size + 1) 0 16 _ u _ hR.drew (by simp) u0 u1).mono ?_; rintro e w1 ⟨rfl, hB1, hR1⟩)
  have hA1 : CellsAt w.heap.size #[.int .i64 (shi a), .int .u64 (slo a)] w1 := hA.drew.belowAt hB1 (by omega)
  have hE1 : Below w.heap.size w w1 := hB0.drew.trans (hB1.mono (by omega))
  have d0 := hA1.cell 0 (.int .i64 (shi a)) rfl
  have d1 := hA1.cell 1 (.int .u64 (slo a)) rfl
  clear c0 c1
  go_wp2
  go_region_with (go_at_call 35; refine (putWord_any (w.heap.size + 1) 8 8 _ (slo a) _ hR1.drew (by rw [putW_size]; simp) a3 a4).mono ?_; rintro e w2 ⟨rfl, hB2, hR2⟩)
  have hE2 : Below w.heap.size w w2 := hE1.drew.trans (hB2.mono (by omega))
  have hcv : (convert 58 9 (.slice (some ⟨w.heap.size + 1, 0, none⟩) 16 16)).run Tryd.prog w2 = .ok (.string (tx (bytesOf u ++ bytesOf (slo a)))) w2 := by
    have h := run_convert_bytes_back (P := Tryd.prog) w2 58 9 5 ⟨w.heap.size + 1, 0, none⟩ 16 (bytesOf u ++ bytesOf (slo a)) Tryd.underlying58 Tryd.underlying5 Tryd.underlying9 (fun j hj => by
      have hj16 : j < 16 := by simpa [bytesOf_length] using hj
      rw [Lib.add_plain, Nat.zero_add]
      exact hR2.cell j _ (put_cells _ u (slo a) (by simp) j hj16))
    rw [show (bytesOf u ++ bytesOf (slo a)).length = 16 by simp [bytesOf_length]] at h
    exact h
  go_wp2
  go_ret
  exact ⟨rfl, hE2⟩

/-- The word of the bytes, behind z. -/
def gw : Int → List UInt8 → Int
  | z, [] => z
  | z, c :: cs => gw (z % 72057594037927936 * 256 + (c.toNat : Int)) cs
theorem or_byte (z : Int) (c : UInt8) (h0 : 0 ≤ z) (h1 : z ≤ 18446744073709551615) : bits .or .u64 (IntKind.u64.wrap (z * 256)) (c.toNat : Int) = z % 72057594037927936 * 256 + (c.toNat : Int) := by
  obtain ⟨n, rfl⟩ := Int.eq_ofNat_of_zero_le h0
  have e : IntKind.u64.wrap ((n : Int) * 256) = ((2 ^ 8 * (n % 72057594037927936) : Nat) : Int) := by rw [IntKind.wrap_u64]; omega
  have hc : c.toNat < 2 ^ 8 := c.toNat_lt
  rw [e, u64_or_nat _ _ (by omega) (by omega), ← Nat.two_pow_add_eq_or_of_lt hc]
  omega
theorem gw_step_in (z : Int) (c : UInt8) : 0 ≤ z % 72057594037927936 * 256 + (c.toNat : Int) ∧ z % 72057594037927936 * 256 + (c.toNat : Int) ≤ 18446744073709551615 := by
  have hc : c.toNat < 256 := c.toNat_lt
  omega

set_option maxHeartbeats 1000000 in
theorem getWord_any (s : ByteArray) (hs : s.size ≤ maxLen) (w : World) :
    Calls Tryd.prog 38 #[.string s] w fun e w' => e = .returned (.int .u64 (gw 0 s.data.toList)) ∧ w = w' := by
  unfold maxLen at hs
  go_enter Tryd.func38, Tryd.ntmps38
  go_wp2
  go_loop [3, 7] (fun a i => ∃ (k : Nat) (z : Int), k ≤ s.size ∧ i = .int .i64 k ∧ a = .int .u64 z ∧ 0 ≤ z ∧ z ≤ 18446744073709551615 ∧ Hid (gw z (s.data.toList.drop k) = gw 0 s.data.toList)) (fun _ i => s.size - (intOf i).toNat)
  case atStart => exact ⟨0, 0, Nat.zero_le _, rfl, rfl, by decide, by decide, Lib.hid rfl⟩
  case round =>
    obtain ⟨k, z, hk, rfl, rfl, z0, z1, HI⟩ := hrel
    by_cases hlt : k < s.size
    · obtain ⟨x, hx⟩ : ∃ x : UInt8, s[k] = x := ⟨_, rfl⟩
      have hxl : s.data.toList.drop k = x :: s.data.toList.drop (k + 1) := by
        rw [List.drop_eq_getElem_cons (by simpa using hlt)]
        congr 1
      have hor := or_byte z x z0 z1
      have hw : IntKind.u64.wrap (x.toNat : Int) = (x.toNat : Int) := by
        have hc : x.toNat < 256 := x.toNat_lt
        rw [IntKind.wrap_u64]; omega
      obtain ⟨n0, n1⟩ := gw_step_in z x
      have hnext : gw (z % 72057594037927936 * 256 + (x.toNat : Int)) (s.data.toList.drop (k + 1)) = gw 0 s.data.toList := by rw [← HI.out, hxl, gw]
      generalize z % 72057594037927936 * 256 + (x.toNat : Int) = z2 at *
      have HN := Lib.hid hnext
      clear hxl hnext HI
      go_wp2
      go_round
      case rel => exact ⟨k + 1, z2, by omega, by go_num, rfl, n0, n1, HN⟩
      case measure => simp [intOf]; omega
    · go_wp2
      go_ret
      have h := HI.out
      rw [List.drop_eq_nil_of_le (by simp; omega)] at h
      exact ⟨by rw [← h]; rfl, rfl⟩
end Go.Proofs.YthddnhnhlgnlhaaDoor
