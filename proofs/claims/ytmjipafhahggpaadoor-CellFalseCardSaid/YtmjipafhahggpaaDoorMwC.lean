/- A sum's bytes: put. A sum's bytes: got. -/
import Derived.Test.YtmjipafhahggpaaDoorMwB
namespace Go.Proofs.YtmjipafhahggpaaDoor.Wi
open Go Go.RowKit

/-- The bytes of x, the highest first: the first k of them, laid into vs from o on. -/
def putW (vs : Array Value) (o : Nat) (x : Int) : Nat → Array Value
  | 0 => vs
  | k + 1 => (putW vs o x k).setIfInBounds (o + k) (.int .u8 (x / 2 ^ ((7 - k) * 8) % 256))
theorem putW_size (vs : Array Value) (o : Nat) (x : Int) : ∀ k, (putW vs o x k).size = vs.size
  | 0 => rfl
  | k + 1 => by rw [putW, Array.size_setIfInBounds, putW_size vs o x k]

set_option maxHeartbeats 1000000 in
theorem putWord_any (b o cap : Nat) (vs : Array Value) (x : Int) (w : World) (hc : CellsAt b vs w) (ho : o + 8 ≤ vs.size) (_ : 0 ≤ x) (_ : x ≤ 18446744073709551615) :
    Calls Tryd.prog 41 #[.slice (some ⟨b, o, none⟩) 8 cap, .int .u64 x] w fun e w' => e = .returned (.tuple #[]) ∧ Below b w w' ∧ CellsAt b (putW vs o x 8) w' := by
  go_enter Tryd.func41, Tryd.ntmps41
  go_wp2
  go_loopg [7] 8 (fun g s7 wx => ∃ k : Nat, k + g = 8 ∧ s7 = .int .i64 k ∧ CellsAt b (putW vs o x k) wx ∧ Below b w wx)
  case atStart => exact ⟨0, rfl, rfl, hc, Below.refl _ _⟩
  case round =>
    obtain ⟨k, hkg, rfl, hC, hB⟩ := hrel
    cases gk with
    | zero =>
      obtain rfl : k = 8 := hkg
      go_wp2
      go_end0
      exact ⟨rfl, hB, hC⟩
    | succ g =>
      obtain ⟨j, hj⟩ : ∃ j, 7 - k = j := ⟨_, rfl⟩
      have hkj : (7 : Int) - (k : Int) = j := by omega
      have hk8 : (k : Int) < 8 := by omega
      have hlt : o + k < (putW vs o x k).size := by rw [putW_size]; omega
      have hcell := hC.cell (o + k) ((putW vs o x k)[o + k]) (by simp [hlt])
      have hfro := hC.fro (o + k) ((putW vs o x k)[o + k]) (by simp [hlt])
      generalize (putW vs o x k)[o + k] = old at hcell hfro
      go_wp2
      go_roundg g
      case measure => omega
      case rel => exact ⟨k + 1, by omega, by go_num, by rw [putW, hj]; exact hC.set (o + k) _ hlt, hB.setCell (Nat.le_refl _) _⟩

theorem putW_out (vs : Array Value) (o : Nat) (x : Int) (i : Nat) : ∀ n, (i < o ∨ o + n ≤ i) → (putW vs o x n)[i]? = vs[i]?
  | 0, _ => rfl
  | n + 1, h => by
    rw [putW, Array.getElem?_setIfInBounds_ne (by omega)]
    exact putW_out vs o x i n (by omega)
theorem putW_in (vs : Array Value) (o : Nat) (x : Int) (k : Nat) (ho : o + k < vs.size) : ∀ n, k < n → (putW vs o x n)[o + k]? = some (.int .u8 (x / 2 ^ ((7 - k) * 8) % 256))
  | 0, h => by omega
  | n + 1, h => by
    rw [putW]
    by_cases hk : k = n
    · subst hk
      rw [Array.getElem?_setIfInBounds_self_of_lt (by rw [putW_size]; exact ho)]
    · rw [Array.getElem?_setIfInBounds_ne (by omega)]
      exact putW_in vs o x k ho n (by omega)

/-- The byte of x at place k, the highest first; the eight of them. -/
def byteAt (x : Int) (k : Nat) : UInt8 := UInt8.ofNat (x / 2 ^ ((7 - k) * 8) % 256).toNat
def bytesOf (x : Int) : List UInt8 := (List.range 8).map (byteAt x)
theorem byteAt_nat (x : Int) (k : Nat) : ((byteAt x k).toNat : Int) = x / 2 ^ ((7 - k) * 8) % 256 := by
  unfold byteAt
  rw [UInt8.toNat_ofNat']
  omega
def sput (a : Int) : List UInt8 := bytesOf (IntKind.u64.wrap (shi a)) ++ bytesOf (slo a)
theorem bytesOf_length (x : Int) : (bytesOf x).length = 8 := by simp [bytesOf]
theorem sput_length (a : Int) : (sput a).length = 16 := by simp [sput, bytesOf_length]
theorem put_cells (vs : Array Value) (u l : Int) (hv : vs.size = 16) (j : Nat) (hj : j < 16) :
    (putW (putW vs 0 u 8) 8 l 8)[j]? = some (.int .u8 ((bytesOf u ++ bytesOf l)[j]'(by simp [bytesOf_length]; omega)).toNat) := by
  by_cases h8 : j < 8
  · rw [putW_out _ _ _ _ _ (Or.inl h8)]
    have h := putW_in vs 0 u j (by omega) 8 h8
    rw [Nat.zero_add] at h
    rw [h, List.getElem_append_left (by rw [bytesOf_length]; exact h8)]
    simp only [bytesOf, List.getElem_map, List.getElem_range, byteAt_nat]
  · obtain ⟨k, rfl⟩ : ∃ k, j = 8 + k := ⟨j - 8, by omega⟩
    rw [putW_in _ 8 l k (by rw [putW_size]; omega) 8 (by omega), List.getElem_append_right (by rw [bytesOf_length]; omega)]
    have e : ∀ (m : Nat) (hm : m = 8) (hb : 8 + k - m < (bytesOf l).length), ((bytesOf l)[8 + k - m]'hb).toNat = ((bytesOf l)[k]'(by subst hm; rw [Nat.add_sub_cancel_left] at hb; exact hb)).toNat := fun m hm hb => by
      subst hm
      simp only [Nat.add_sub_cancel_left]
    rw [e _ (bytesOf_length u)]
    simp only [bytesOf, List.getElem_map, List.getElem_range, byteAt_nat]

set_option maxRecDepth 100000 in
set_option maxHeartbeats 2000000 in
theorem put_any (a : Int) (ha : InS a) (w : World) :
    Calls Tryd.prog 23 #[sv a] w fun e w' => e = .returned (.string (tx (sput a))) ∧ Below w.heap.size w w' := by
  have a1 := shi_lo ha
  have a2 := shi_hi ha
  have a3 := slo_lo a
  have a4 := slo_hi a
  have hu : 0 ≤ IntKind.u64.wrap (shi a) ∧ IntKind.u64.wrap (shi a) ≤ 18446744073709551615 := by rw [IntKind.wrap_u64]; omega
  obtain ⟨u, hu'⟩ : ∃ u, IntKind.u64.wrap (shi a) = u := ⟨_, rfl⟩
  rw [sput, hu']
  rw [hu'] at hu
  obtain ⟨u0, u1⟩ := hu
  clear ha
  rw [show sv a = .agg #[.int .i64 (shi a), .int .u64 (slo a)] from rfl]
  go_enter Tryd.func23, Tryd.ntmps23
  go_wp2
  refine wp_gen (fun W => CellsAt w.heap.size #[.int .i64 (shi a), .int .u64 (slo a)] W ∧ CellsAt (w.heap.size + 1) (Array.replicate 16 (.int .u8 0)) W ∧ Below w.heap.size w W) ?_ ?_
  · exact ⟨(CellsAt.new _ _ _).past _, CellsAt.newAt _ _ _ _ (by simp), ((Below.refl _ _).alloc (Nat.le_refl _) _).alloc (by simp) _⟩
  intro W ⟨hA, hR, hB0⟩
  have c0 := hA.cell 0 (.int .i64 (shi a)) rfl
  have c1 := hA.cell 1 (.int .u64 (slo a)) rfl
  go_region_with (go_at_call 41; refine (putWord_any (w.heap.size + 1) 0 16 _ u _ hR.drew (by simp) u0 u1).mono ?_; rintro e w1 ⟨rfl, hB1, hR1⟩)
  have hA1 : CellsAt w.heap.size #[.int .i64 (shi a), .int .u64 (slo a)] w1 := hA.drew.belowAt hB1 (by omega)
  have hE1 : Below w.heap.size w w1 := hB0.drew.trans (hB1.mono (by omega))
  have d0 := hA1.cell 0 (.int .i64 (shi a)) rfl
  have d1 := hA1.cell 1 (.int .u64 (slo a)) rfl
  clear c0 c1
  go_wp2
  go_region_with (go_at_call 41; refine (putWord_any (w.heap.size + 1) 8 8 _ (slo a) _ hR1.drew (by rw [putW_size]; simp) a3 a4).mono ?_; rintro e w2 ⟨rfl, hB2, hR2⟩)
  have hE2 : Below w.heap.size w w2 := hE1.drew.trans (hB2.mono (by omega))
  have hcv : (convert 81 9 (.slice (some ⟨w.heap.size + 1, 0, none⟩) 16 16)).run Tryd.prog w2 = .ok (.string (tx (bytesOf u ++ bytesOf (slo a)))) w2 := by
    have h := run_convert_bytes_back (P := Tryd.prog) w2 81 9 5 ⟨w.heap.size + 1, 0, none⟩ 16 (bytesOf u ++ bytesOf (slo a)) Tryd.underlying81 Tryd.underlying5 Tryd.underlying9 (fun j hj => by
      have hj16 : j < 16 := by simpa [bytesOf_length] using hj
      rw [Lib.add_plain, Nat.zero_add]
      exact hR2.cell j _ (put_cells _ u (slo a) (by simp) j hj16))
    rw [show (bytesOf u ++ bytesOf (slo a)).length = 16 by simp [bytesOf_length]] at h
    exact h
  go_wp2
  go_ret
  exact ⟨rfl, hE2⟩

/-- The word of the bytes, behind z. -/
def gw : Int → List UInt8 → Int
  | z, [] => z
  | z, c :: cs => gw (z % 72057594037927936 * 256 + (c.toNat : Int)) cs
theorem or_byte (z : Int) (c : UInt8) (h0 : 0 ≤ z) (h1 : z ≤ 18446744073709551615) : bits .or .u64 (IntKind.u64.wrap (z * 256)) (c.toNat : Int) = z % 72057594037927936 * 256 + (c.toNat : Int) := by
  obtain ⟨n, rfl⟩ := Int.eq_ofNat_of_zero_le h0
  have e : IntKind.u64.wrap ((n : Int) * 256) = ((2 ^ 8 * (n % 72057594037927936) : Nat) : Int) := by rw [IntKind.wrap_u64]; omega
  have hc : c.toNat < 2 ^ 8 := c.toNat_lt
  rw [e, u64_or_nat _ _ (by omega) (by omega), ← Nat.two_pow_add_eq_or_of_lt hc]
  omega
theorem gw_step_in (z : Int) (c : UInt8) : 0 ≤ z % 72057594037927936 * 256 + (c.toNat : Int) ∧ z % 72057594037927936 * 256 + (c.toNat : Int) ≤ 18446744073709551615 := by
  have hc : c.toNat < 256 := c.toNat_lt
  omega

set_option maxHeartbeats 1000000 in
theorem getWord_any (s : ByteArray) (hs : s.size ≤ maxLen) (w : World) :
    Calls Tryd.prog 65 #[.string s] w fun e w' => e = .returned (.int .u64 (gw 0 s.data.toList)) ∧ w = w' := by
  unfold maxLen at hs
  go_enter Tryd.func65, Tryd.ntmps65
  go_wp2
  go_loop [3, 7] (fun a i => ∃ (k : Nat) (z : Int), k ≤ s.size ∧ i = .int .i64 k ∧ a = .int .u64 z ∧ 0 ≤ z ∧ z ≤ 18446744073709551615 ∧ Hid (gw z (s.data.toList.drop k) = gw 0 s.data.toList)) (fun _ i => s.size - (intOf i).toNat)
  case atStart => exact ⟨0, 0, Nat.zero_le _, rfl, rfl, by decide, by decide, Lib.hid rfl⟩
  case round =>
    obtain ⟨k, z, hk, rfl, rfl, z0, z1, HI⟩ := hrel
    by_cases hlt : k < s.size
    · obtain ⟨x, hx⟩ : ∃ x : UInt8, s[k] = x := ⟨_, rfl⟩
      have hxl : s.data.toList.drop k = x :: s.data.toList.drop (k + 1) := by
        rw [List.drop_eq_getElem_cons (by simpa using hlt)]
        congr 1
      have hor := or_byte z x z0 z1
      have hw : IntKind.u64.wrap (x.toNat : Int) = (x.toNat : Int) := by
        have hc : x.toNat < 256 := x.toNat_lt
        rw [IntKind.wrap_u64]; omega
      obtain ⟨n0, n1⟩ := gw_step_in z x
      have hnext : gw (z % 72057594037927936 * 256 + (x.toNat : Int)) (s.data.toList.drop (k + 1)) = gw 0 s.data.toList := by rw [← HI.out, hxl, gw]
      generalize z % 72057594037927936 * 256 + (x.toNat : Int) = z2 at *
      have HN := Lib.hid hnext
      clear hxl hnext HI
      go_wp2
      go_round
      case rel => exact ⟨k + 1, z2, by omega, by go_num, rfl, n0, n1, HN⟩
      case measure => simp [intOf]; omega
    · go_wp2
      go_ret
      have h := HI.out
      rw [List.drop_eq_nil_of_le (by simp; omega)] at h
      exact ⟨by rw [← h]; rfl, rfl⟩
end Go.Proofs.YtmjipafhahggpaaDoor.Wi

namespace Go.Proofs.YtmjipafhahggpaaDoor.Wi
open Go Go.RowKit

theorem gw_in : ∀ (l : List UInt8) (z : Int), 0 ≤ z → z ≤ 18446744073709551615 → 0 ≤ gw z l ∧ gw z l ≤ 18446744073709551615
  | [], _, h0, h1 => ⟨h0, h1⟩
  | c :: cs, z, _, _ => gw_in cs _ (gw_step_in z c).1 (gw_step_in z c).2
theorem gw_bytes (x : Int) (h0 : 0 ≤ x) (h1 : x ≤ 18446744073709551615) : gw 0 (bytesOf x) = x := by
  have hl : bytesOf x = [byteAt x 0, byteAt x 1, byteAt x 2, byteAt x 3, byteAt x 4, byteAt x 5, byteAt x 6, byteAt x 7] := rfl
  rw [hl]
  simp only [gw, byteAt_nat]
  have e0 : (0 : Int) % 72057594037927936 * 256 + x / 2 ^ ((7 - 0) * 8) % 256 = x / 72057594037927936 := by show _ + x / 72057594037927936 % 256 = _; omega
  have e1 : x / 72057594037927936 % 72057594037927936 * 256 + x / 2 ^ ((7 - 1) * 8) % 256 = x / 281474976710656 := by show _ + x / 281474976710656 % 256 = _; omega
  have e2 : x / 281474976710656 % 72057594037927936 * 256 + x / 2 ^ ((7 - 2) * 8) % 256 = x / 1099511627776 := by show _ + x / 1099511627776 % 256 = _; omega
  have e3 : x / 1099511627776 % 72057594037927936 * 256 + x / 2 ^ ((7 - 3) * 8) % 256 = x / 4294967296 := by show _ + x / 4294967296 % 256 = _; omega
  have e4 : x / 4294967296 % 72057594037927936 * 256 + x / 2 ^ ((7 - 4) * 8) % 256 = x / 16777216 := by show _ + x / 16777216 % 256 = _; omega
  have e5 : x / 16777216 % 72057594037927936 * 256 + x / 2 ^ ((7 - 5) * 8) % 256 = x / 65536 := by show _ + x / 65536 % 256 = _; omega
  have e6 : x / 65536 % 72057594037927936 * 256 + x / 2 ^ ((7 - 6) * 8) % 256 = x / 256 := by show _ + x / 256 % 256 = _; omega
  have e7 : x / 256 % 72057594037927936 * 256 + x / 2 ^ ((7 - 7) * 8) % 256 = x := by show _ + x / 1 % 256 = _; omega
  rw [e0, e1, e2, e3, e4, e5, e6, e7]

/-- The sum that sixteen bytes are. -/
def getS (l : List UInt8) : Int := wrap64 (gw 0 (l.take 8)) * 18446744073709551616 + gw 0 (l.drop 8)
theorem getS_parts (l : List UInt8) : InS (getS l) ∧ shi (getS l) = wrap64 (gw 0 (l.take 8)) ∧ slo (getS l) = gw 0 (l.drop 8) := by
  have h := gw_in (l.drop 8) 0 (by decide) (by decide)
  exact parts_of (by unfold wrap64; omega) (by unfold wrap64; omega) h.1 h.2
theorem getS_put {a : Int} (ha : InS a) : getS (sput a) = a := by
  have h1 := shi_lo ha
  have h2 := shi_hi ha
  have h3 := slo_lo a
  have h4 := slo_hi a
  have e1 : (sput a).take 8 = bytesOf (IntKind.u64.wrap (shi a)) := by rw [sput, List.take_left' (bytesOf_length _)]
  have e2 : (sput a).drop 8 = bytesOf (slo a) := by rw [sput, List.drop_left' (bytesOf_length _)]
  rw [getS, e1, e2, gw_bytes _ (by rw [IntKind.wrap_u64]; omega) (by rw [IntKind.wrap_u64]; omega), gw_bytes _ h3 h4]
  have := of_parts a
  rw [IntKind.wrap_u64]
  unfold wrap64
  omega

theorem wrap_i64_eq (x : Int) : IntKind.i64.wrap x = wrap64 x := by
  simp [IntKind.wrap, IntKind.bits, IntKind.signed]
  unfold wrap64; omega
def GetPhi (w : World) (s hd tl : ByteArray) (hi lo : Int) : Nat → Value → World → Prop
  | 8, _, wz => CellsAt w.heap.size #[.int .i64 (wrap64 hi), .int .u64 lo] wz
  | i, v, _ => v = ([.string s, .string hd, .int .u64 hi, .int .i64 (wrap64 hi), .string s, .string tl, .int .u64 lo, .agg #[.int .i64 (wrap64 hi), .int .u64 lo], undef, .bool true] : List Value).getD i undef
theorem GetPhi.stays {w : World} {s hd tl : ByteArray} {hi lo : Int} : ∀ i v x y, GetPhi w s hd tl hi lo i v x → Reg.Puts w.heap.size w.heap.size #[.int .i64 (wrap64 hi), .int .u64 lo] x y → GetPhi w s hd tl hi lo i v y := by
  intro i v x y hv hB
  unfold GetPhi at *
  split at hv
  · exact hB.done hv
  · exact hv

theorem get_short (s : ByteArray) (hs : s.size ≠ 16) (w : World) :
    Calls Tryd.prog 50 #[.string s] w fun e w' => e = .returned (.tuple #[sv 0, .bool false]) ∧ Below w.heap.size w w' := by
  have e0 : sv 0 = .agg #[.int .i64 0, .int .u64 0] := by unfold sv; rw [show shi 0 = 0 by decide, show slo 0 = 0 by decide]
  have h1 : ((s.size : Int) != 16) = true := by simp; omega
  have h2 : ¬ ((s.size : Int) = 16) := by omega
  rw [e0]
  clear e0
  go_enter Tryd.func50, Tryd.ntmps50
  go_wp2
  simp [bodyPost, results, Tryd.results50, go_sem]
  exact (Below.refl _ _).alloc (Nat.le_refl _) _

theorem extract_head (s : ByteArray) (k : Nat) : (s.extract 0 k).data.toList = s.data.toList.take k := by
  rw [Lib.extract_data]; simp
set_option maxRecDepth 100000 in
set_option maxHeartbeats 2000000 in
theorem get_full (s : ByteArray) (hs : s.size = 16) (w : World) :
    Calls Tryd.prog 50 #[.string s] w fun e w' => e = .returned (.tuple #[sv (getS s.data.toList), .bool true]) ∧ Below w.heap.size w w' := by
  obtain ⟨_, p1, p2⟩ := getS_parts s.data.toList
  rw [show sv (getS s.data.toList) = .agg #[.int .i64 (wrap64 (gw 0 (s.data.toList.take 8))), .int .u64 (gw 0 (s.data.toList.drop 8))] by unfold sv; rw [p1, p2]]
  clear p1 p2
  obtain ⟨hd, hhd⟩ : ∃ hd, s.extract 0 8 = hd := ⟨_, rfl⟩
  obtain ⟨tl, htl⟩ : ∃ tl, s.extract 8 16 = tl := ⟨_, rfl⟩
  have hw1 := getWord_any hd (by rw [← hhd, Lib.size_eq, extract_head, List.length_take]; unfold maxLen; omega)
  have hw2 := getWord_any tl (by rw [← htl, Lib.size_eq, Lib.extract_data, List.length_take]; unfold maxLen; omega)
  rw [show hd.data.toList = s.data.toList.take 8 by rw [← hhd, extract_head]] at hw1
  rw [show tl.data.toList = s.data.toList.drop 8 by rw [← htl, Lib.extract_data, List.take_of_length_le (by simp; omega)]] at hw2
  obtain ⟨b1, b2⟩ := gw_in (s.data.toList.take 8) 0 (by decide) (by decide)
  obtain ⟨b3, b4⟩ := gw_in (s.data.toList.drop 8) 0 (by decide) (by decide)
  generalize gw 0 (s.data.toList.take 8) = hi at *
  generalize gw 0 (s.data.toList.drop 8) = lo at *
  have h1 : ((s.size : Int) != 16) = false := by simp; omega
  have h2 : (s.size : Int) = 16 := by omega
  have hsl1 : ∀ w, (Instr.slice 9 (.string s) none (some (.int .i64 8)) none).run Tryd.prog w = .ok (.string hd) w := fun w => by
    rw [run_slice_string_h w 9 s Tryd.underlying9 .i64 8 (by decide) (by omega), ← hhd]; rfl
  have hsl2 : ∀ w, (Instr.slice 9 (.string s) (some (.int .i64 8)) none none).run Tryd.prog w = .ok (.string tl) w := fun w => by
    rw [run_slice_string_l w 9 s Tryd.underlying9 .i64 8 (by decide) (by omega), hs, ← htl]; rfl
  have HS := Lib.hid hs
  clear hhd htl hs
  go_enter Tryd.func50, Tryd.ntmps50
  go_wp2
  refine wp_gen (fun W => CellsAt w.heap.size #[.int .i64 0, .int .u64 0] W ∧ Below w.heap.size w W) ?_ ?_
  · exact ⟨CellsAt.new _ _ _, (Below.refl _ _).alloc (Nat.le_refl _) _⟩
  intro W ⟨hR, hB0⟩
  have hW := hB0.size
  refine Reg.wp_region_invG (n := 16) (Reg.Puts w.heap.size w.heap.size #[.int .i64 (wrap64 hi), .int .u64 lo]) (GetPhi w s hd tl hi lo) (by kernel_rfl) (by kernel_rfl) rfl Reg.Puts.refl (fun _ _ _ => Reg.Puts.trans) GetPhi.stays ?_ ?_
  · refine ⟨?_, ?_, ?_, ?_, ?_, ?_, ?_, ?_, ?_, ?_, trivial⟩
    · intro c wc hB hp hs
      have g0 : c.tmps[0]? = some (.string s) := (hs 0 (by kernel_rfl)).trans rfl
      refine Reg.ok_value Reg.Puts.refl (v := .string s) (Reg.wanted_none rfl) ?_ rfl
      go_simp
    · intro c wc hB hp hs
      have g8 : c.tmps[8]? = some (.string s) := by obtain ⟨_, g, hv⟩ := Reg.pred hp 0 8 (by kernel_rfl) rfl rfl; exact g.trans (congrArg some hv)
      refine Reg.ok_value Reg.Puts.refl (v := .string hd) (Reg.wanted_none rfl) ?_ rfl
      go_simp
    · intro c wc hB hp hs
      have g9 : c.tmps[9]? = some (.string hd) := by obtain ⟨_, g, hv⟩ := Reg.pred hp 1 9 (by kernel_rfl) rfl rfl; exact g.trans (congrArg some hv)
      refine Reg.ok_call (f := 65) (args := #[.string hd]) (Reg.wanted_none rfl) (by go_simp) ((hw1 wc).mono ?_)
      rintro e w' ⟨rfl, rfl⟩
      exact ⟨_, rfl, Reg.Puts.refl _, rfl⟩
    · intro c wc hB hp hs
      have g10 : c.tmps[10]? = some (.int .u64 hi) := by obtain ⟨_, g, hv⟩ := Reg.pred hp 2 10 (by kernel_rfl) rfl rfl; exact g.trans (congrArg some hv)
      refine Reg.ok_value Reg.Puts.refl (v := .int .i64 (wrap64 hi)) (Reg.wanted_none rfl) ?_ rfl
      go_simp
      exact wrap_i64_eq _
    · intro c wc hB hp hs
      have g0 : c.tmps[0]? = some (.string s) := (hs 0 (by kernel_rfl)).trans rfl
      refine Reg.ok_value Reg.Puts.refl (v := .string s) (Reg.wanted_none rfl) ?_ rfl
      go_simp
    · intro c wc hB hp hs
      have g12 : c.tmps[12]? = some (.string s) := by obtain ⟨_, g, hv⟩ := Reg.pred hp 4 12 (by kernel_rfl) rfl rfl; exact g.trans (congrArg some hv)
      refine Reg.ok_value Reg.Puts.refl (v := .string tl) (Reg.wanted_none rfl) ?_ rfl
      go_simp
    · intro c wc hB hp hs
      have g13 : c.tmps[13]? = some (.string tl) := by obtain ⟨_, g, hv⟩ := Reg.pred hp 5 13 (by kernel_rfl) rfl rfl; exact g.trans (congrArg some hv)
      refine Reg.ok_call (f := 65) (args := #[.string tl]) (Reg.wanted_none rfl) (by go_simp) ((hw2 wc).mono ?_)
      rintro e w' ⟨rfl, rfl⟩
      exact ⟨_, rfl, Reg.Puts.refl _, rfl⟩
    · intro c wc hB hp hs
      have g11 : c.tmps[11]? = some (.int .i64 (wrap64 hi)) := by obtain ⟨_, g, hv⟩ := Reg.pred hp 3 11 (by kernel_rfl) rfl rfl; exact g.trans (congrArg some hv)
      have g14 : c.tmps[14]? = some (.int .u64 lo) := by obtain ⟨_, g, hv⟩ := Reg.pred hp 6 14 (by kernel_rfl) rfl rfl; exact g.trans (congrArg some hv)
      refine Reg.ok_value Reg.Puts.refl (v := .agg #[.int .i64 (wrap64 hi), .int .u64 lo]) (Reg.wanted_none rfl) ?_ rfl
      go_simp
    · intro c wc hB hp hs
      have g2 : c.tmps[2]? = some (.pointer (some ⟨w.heap.size, 0, none⟩)) := (hs 2 (by kernel_rfl)).trans rfl
      have g15 : c.tmps[15]? = some (.agg #[.int .i64 (wrap64 hi), .int .u64 lo]) := by obtain ⟨_, g, hv⟩ := Reg.pred hp 7 15 (by kernel_rfl) rfl rfl; exact g.trans (congrArg some hv)
      obtain ⟨vs, hv, hc⟩ := hB.shape ⟨#[.int .i64 0, .int .u64 0], rfl, hR.drew⟩
      obtain ⟨x0, x1, rfl⟩ := two_of hv
      have k0 := hc.cell 0 x0 rfl
      have k1 := hc.cell 1 x1 rfl
      have f0 := hc.fro 0 x0 rfl
      have f1 := hc.fro 1 x1 rfl
      refine Reg.ok_store (Reg.wanted_none rfl) ?_ (Reg.Puts.set2 (B := w.heap.size) (R := w.heap.size) (x := .int .i64 (wrap64 hi)) (y := .int .u64 lo) (Nat.le_refl _) ⟨#[x0, x1], rfl, hc⟩).1 (Reg.Puts.set2 (B := w.heap.size) (R := w.heap.size) (x := .int .i64 (wrap64 hi)) (y := .int .u64 lo) (Nat.le_refl _) ⟨#[x0, x1], rfl, hc⟩).2
      go_simp
    · intro c wc hB hp hs
      refine Reg.ok_value Reg.Puts.refl (v := .bool true) (Reg.wanted_none rfl) ?_ rfl
      go_simp
  · intro c wc hB hsz hdf hv hn ho
    obtain ⟨v9, h9⟩ := hn 8 _ rfl rfl
    have hD : CellsAt w.heap.size #[.int .i64 (wrap64 hi), .int .u64 lo] wc := h9
    have g2 : c.tmps[2]? = some (.pointer (some ⟨w.heap.size, 0, none⟩)) := (Reg.kept ho 2 (by kernel_rfl)).trans rfl
    have g3 : c.tmps[3]? = some (.bool true) := by obtain ⟨_, g, hv⟩ := hv 9 _ 3 rfl rfl; exact g.trans (congrArg some hv)
    have k0 := hD.cell 0 (.int .i64 (wrap64 hi)) rfl
    have k1 := hD.cell 1 (.int .u64 lo) rfl
    have hE : Below w.heap.size w wc := (hB0.drew).trans hB.below
    clear hv hn ho hB hD
    go_wp2
    simp [bodyPost, results, Tryd.results50, go_sem, g2, g3, k0, k1]
    exact ⟨hdf, hE⟩
end Go.Proofs.YtmjipafhahggpaaDoor.Wi

