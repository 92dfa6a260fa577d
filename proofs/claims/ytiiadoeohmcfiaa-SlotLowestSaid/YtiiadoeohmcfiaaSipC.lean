/- The sum of a text: the word of some bytes; the last word; the whole. -/
import Derived.Test.YtiiadoeohmcfiaaSipB
import Derived.Deep.DeepCutAuto
import Derived.Laws.Strings2
namespace Go.Proofs.Ytiiadoeohmcfiaa
open Go Go.RowKit

/-- The number that some bytes are, the lowest first. -/
def leval : List UInt8 → Nat
  | [] => 0
  | c :: l => c.toNat + 256 * leval l
theorem leval_lt : ∀ l : List UInt8, leval l < 256 ^ l.length
  | [] => by simp [leval]
  | c :: l => by
    have h := leval_lt l
    have hc := c.toNat_lt
    simp only [leval, List.length_cons, Nat.pow_succ]
    omega
theorem leval_append (a b : List UInt8) : leval (a ++ b) = leval a + 256 ^ a.length * leval b := by
  induction a with
  | nil => simp [leval]
  | cons c a ih =>
    simp only [List.cons_append, leval, ih, List.length_cons, Nat.pow_succ, Nat.mul_add]
    have e : 256 * (256 ^ a.length * leval b) = 256 ^ a.length * 256 * leval b := by rw [← Nat.mul_assoc, Nat.mul_comm 256]
    omega
/-- One byte more, above. -/
def lowStep (n : Int) (c : UInt8) (i : Nat) : Int := bits BinOp.or IntKind.u64 n (IntKind.u64.wrap (IntKind.u64.wrap (c.toNat : Int) * 2 ^ (i * 8)))
theorem lowStep_eq (l : List UInt8) (c : UInt8) (h : l.length < 8) : lowStep (leval l : Nat) c l.length = (leval (l ++ [c]) : Nat) := by
  have hl := leval_lt l
  have hc := c.toNat_lt
  have e256 : (256 : Nat) ^ l.length = 2 ^ (l.length * 8) := by rw [show (256 : Nat) = 2 ^ 8 from rfl, ← Nat.pow_mul, Nat.mul_comm]
  have hp : (2 : Nat) ^ (l.length * 8) ≤ 2 ^ 56 := Nat.pow_le_pow_right (by decide) (by omega)
  have hm : c.toNat * 2 ^ (l.length * 8) ≤ 255 * 2 ^ 56 := Nat.mul_le_mul (by omega) hp
  rw [e256] at hl
  have ew : IntKind.u64.wrap (IntKind.u64.wrap (c.toNat : Int) * 2 ^ (l.length * 8)) = ((c.toNat * 2 ^ (l.length * 8) : Nat) : Int) := by
    rw [IntKind.wrap_u64 (c.toNat : Int), Int.emod_eq_of_lt (by omega) (by omega), IntKind.wrap_u64]
    rw [show ((c.toNat : Int) * 2 ^ (l.length * 8)) = ((c.toNat * 2 ^ (l.length * 8) : Nat) : Int) from by push_cast; rfl]
    omega
  unfold lowStep
  rw [ew, bits_or_u64_nat _ _ (by omega) (by omega)]
  congr 1
  rw [leval_append, e256, Nat.or_comm, Nat.mul_comm c.toNat, ← Nat.two_pow_add_eq_or_of_lt hl]
  simp [leval]
  omega
theorem snoc_take (s : ByteArray) (k : Nat) (h : k < s.size) : s.data.toList.take (k + 1) = s.data.toList.take k ++ [s[k]] := by
  rw [List.take_succ_eq_append_getElem (by simpa using h)]; rfl

/-- The word of at most eight bytes. -/
def sword (l : List UInt8) : Int := (leval l : Nat)
set_option maxHeartbeats 1000000 in
theorem lowest_any (s : ByteArray) (w : World) (hs : s.size ≤ 8) :
    Calls Try.prog 35 #[.string s] w fun e w' => e = .returned (.int .u64 (sword s.data.toList)) ∧ w = w' := by
  go_enter Try.func35, Try.ntmps35
  go_wp2
  go_loop [3, 7] (fun n i => ∃ k : Nat, k ≤ s.size ∧ i = .int .i64 k ∧ n = .int .u64 (sword (s.data.toList.take k))) (fun _ i => s.size - (intOf i).toNat)
  case atStart => exact ⟨0, Nat.zero_le _, rfl, rfl⟩
  case round =>
    obtain ⟨k, hk, rfl, rfl⟩ := hrel
    by_cases hlt : k < s.size
    · have hstep : lowStep (sword (s.data.toList.take k)) s[k] k = sword (s.data.toList.take (k + 1)) := by
        have h := lowStep_eq (s.data.toList.take k) s[k] (by simp; omega)
        have hl : (s.data.toList.take k).length = k := by simp; omega
        rw [hl] at h
        rw [snoc_take s k hlt]
        exact h
      have Hs := Lib.hid hstep
      clear hstep
      go_wp2
      go_round
      case rel => exact ⟨k + 1, by omega, by go_num, by rw [← Hs.out]; rfl⟩
      case measure => simp [intOf]; omega
    · obtain rfl : k = s.size := by omega
      go_wp2
      go_ret
      exact ⟨by rw [List.take_of_length_le (by simp)]; rfl, rfl⟩

/-- The last word: what is left, and above it how many there are. -/
def slast (l : List UInt8) (n : Int) : Int := bits BinOp.or IntKind.u64 (sword l) (IntKind.u64.wrap (IntKind.u64.wrap n * 72057594037927936))
set_option maxHeartbeats 1000000 in
theorem last_any (s : ByteArray) (n : Int) (w : World) (hs : s.size ≤ 8) :
    Calls Try.prog 36 #[.string s, .int .i64 n] w fun e w' => e = .returned (.int .u64 (slast s.data.toList n)) ∧ w = w' := by
  go_enter Try.func36, Try.ntmps36
  go_wp2_with (go_at_call 35; refine (lowest_any _ _ hs).mono ?_; rintro e w' ⟨rfl, rfl⟩)
  go_ret
  exact ⟨rfl, rfl⟩

/-- The words of a text mixed in. -/
def sblocks (x : W4) (l : List UInt8) : Nat → W4
  | 0 => x
  | k + 1 => smix (sblocks x l k) (sword ((l.drop (8 * k)).take 8))
def ssum (k0 k1 : Int) (l : List UInt8) : Int :=
  sfin (smix (sblocks (sbegin k0 k1) l (l.length / 8)) (slast (l.drop (8 * (l.length / 8))) l.length))
theorem own_alloc (x : W4) (w : World) (t : TypeId) : OwnX w.heap.size x (w.alloc (.cells #[.int .u64 x.1, .int .u64 x.2.1, .int .u64 x.2.2.1, .int .u64 x.2.2.2] t)) := by
  constructor <;> go_simp
def SumRel (b : Nat) (x : W4) (w w' : World) : Prop := Below w.heap.size w w' ∧ OwnX b x w'
theorem str_slice {P : Program} {t : TypeId} (hu : P.underlying t = some .string) (s : ByteArray) (a b : Nat) (h1 : a ≤ b) (h2 : b ≤ s.size) (wx : World) :
    (Instr.slice t (.string s) (some (.int .i64 (a : Int))) (some (.int .i64 (b : Int))) none).run P wx = .ok (.string (s.extract a b)) wx := by
  have := run_slice_string (P := P) wx t s .i64 .i64 (a : Int) (b : Int) hu (by omega) (by omega) (by omega)
  simpa using this
theorem str_from {P : Program} {t : TypeId} (hu : P.underlying t = some .string) (s : ByteArray) (a : Nat) (h1 : a ≤ s.size) (wx : World) :
    (Instr.slice t (.string s) (some (.int .i64 (a : Int))) none none).run P wx = .ok (.string (s.extract a s.size)) wx := by
  have := run_slice_string_l (P := P) wx t s hu .i64 (a : Int) (by omega) (by omega)
  simpa using this
theorem extract_list (s : ByteArray) (a b : Nat) : (s.extract a b).data.toList = (s.data.toList.drop a).take (b - a) := by
  simp
set_option maxHeartbeats 2000000 in
theorem sum_any (k0 k1 : Int) (s : ByteArray) (w : World) (hs : s.size ≤ maxLen) :
    Calls Try.prog 32 #[.int .u64 k0, .int .u64 k1, .string s] w fun e w' => e = .returned (.int .u64 (ssum k0 k1 s.data.toList)) ∧ Below w.heap.size w w' := by
  unfold maxLen at hs
  go_enter Try.func32, Try.ntmps32
  go_wp2_with (go_at_call 33; refine (begin_any k0 k1 _).mono ?_; rintro e w1 ⟨rfl, hB1⟩)
  have hO := own_alloc (sbegin k0 k1) w1 73
  have hB := hB1.alloc hB1.size (.cells #[.int .u64 (sbegin k0 k1).1, .int .u64 (sbegin k0 k1).2.1, .int .u64 (sbegin k0 k1).2.2.1, .int .u64 (sbegin k0 k1).2.2.2] 73)
  have hz := hB1.size
  generalize w1.alloc (.cells #[.int .u64 (sbegin k0 k1).1, .int .u64 (sbegin k0 k1).2.1, .int .u64 (sbegin k0 k1).2.2.1, .int .u64 (sbegin k0 k1).2.2.2] 73) = w2 at *
  generalize w1.heap.size = B at *
  have HO := Lib.hid hO
  clear hO hB1
  go_loopw [17] (fun i wr => ∃ k : Nat, k ≤ s.size / 8 ∧ i = .int .i64 k ∧ SumRel B (sblocks (sbegin k0 k1) s.data.toList k) w wr) (fun i _ => s.size - (intOf i).toNat)
  case atStart => exact ⟨0, Nat.zero_le _, rfl, hB, HO.out⟩
  case round =>
    obtain ⟨k, hk, rfl, hR⟩ := hrel
    by_cases hlt : k < s.size / 8
    · have hb1 : (k + 1) * 8 ≤ s.size := by omega
      have hsl := str_slice Try.underlying9 s (k * 8) ((k + 1) * 8) (by omega) hb1
      push_cast at hsl
      have hsz : (s.extract (k * 8) ((k + 1) * 8)).size ≤ 8 := by rw [ByteArray.size_extract]; omega
      have hw : (s.extract (k * 8) ((k + 1) * 8)).data.toList = (s.data.toList.drop (8 * k)).take 8 := by
        rw [extract_list, show (k + 1) * 8 - k * 8 = 8 from by omega, Nat.mul_comm 8 k]
      generalize s.extract (k * 8) ((k + 1) * 8) = t at *
      have Hw := Lib.hid hw
      clear hw
      go_wp2_with fail
      refine (lowest_any t _ hsz).mono ?_
      rintro e w3 ⟨rfl, rfl⟩
      rw [Hw.out]
      generalize hm : sword ((s.data.toList.drop (8 * k)).take 8) = m
      have Hm := Lib.hid hm
      clear hm
      go_wp2_with fail
      refine (mix_any B _ m _ hR.2).mono ?_
      rintro e w4 ⟨rfl, hB4, hO4⟩
      have Hn : SumRel B (sblocks (sbegin k0 k1) s.data.toList (k + 1)) w w4 := ⟨hR.1.trans (hB4.mono (by omega)), by
        show OwnX B (smix _ (sword _)) w4
        rw [Hm.out]; exact hO4⟩
      clear hR hO4 hB4
      go_wp2
      go_roundw
      case rel => exact ⟨k + 1, by omega, by go_num, Hn⟩
      case measure => simp [intOf]; omega
    · obtain rfl : k = s.size / 8 := by omega
      have hsl := str_from Try.underlying9 s (s.size / 8 * 8) (by omega)
      push_cast at hsl
      have hsz : (s.extract (s.size / 8 * 8) s.size).size ≤ 8 := by rw [ByteArray.size_extract]; omega
      have hw : (s.extract (s.size / 8 * 8) s.size).data.toList = s.data.toList.drop (8 * (s.data.toList.length / 8)) := by
        rw [extract_list, List.take_of_length_le (by simp), show s.data.toList.length = s.size from by simp, Nat.mul_comm]
      generalize s.extract (s.size / 8 * 8) s.size = t at *
      have Hw := Lib.hid hw
      clear hw
      go_wp2_with fail
      refine (last_any t _ _ hsz).mono ?_
      rintro e w3 ⟨rfl, rfl⟩
      rw [Hw.out]
      generalize hm : slast (s.data.toList.drop (8 * (s.data.toList.length / 8))) s.size = m
      have Hm := Lib.hid hm
      clear hm
      go_wp2_with fail
      refine (mix_any B _ m _ hR.2).mono ?_
      rintro e w4 ⟨rfl, hB4, hO4⟩
      have hB5 := hR.1.trans (hB4.mono (show w.heap.size ≤ B by omega))
      clear hR hB4
      go_wp2_with fail
      refine (finish_any B _ _ hO4).mono ?_
      rintro e w5 ⟨rfl, hB6⟩
      have hB7 := hB5.trans (hB6.mono (show w.heap.size ≤ B by omega))
      have hv : ssum k0 k1 s.data.toList = sfin (smix (sblocks (sbegin k0 k1) s.data.toList (s.size / 8)) m) := by
        unfold ssum
        have hl : s.data.toList.length = s.size := by simp
        rw [← Hm.out, hl]
      clear hB5 hB6 hO4
      rw [← hv]
      clear hv Hm
      go_wp2
      go_ret
      exact ⟨rfl, hB7⟩

end Go.Proofs.Ytiiadoeohmcfiaa
