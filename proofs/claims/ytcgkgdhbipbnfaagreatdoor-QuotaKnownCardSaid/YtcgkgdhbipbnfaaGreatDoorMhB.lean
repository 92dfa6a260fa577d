/- A sketch of its registers. A sketch of its registers, as many as there may be. What is estimated of registers. The estimate of a sketch. Of few: how many registers are other than 0; what one alone is estimated as. -/
import Derived.Test.YtcgkgdhbipbnfaaGreatDoorMhA
import Derived.Test.YtcgkgdhbipbnfaaGreatDoorShelf
namespace Go.Proofs.YtcgkgdhbipbnfaaGreatDoor.Hl
open Go Go.RowKit

/-- How many bits the registers of a text of n bytes would have. -/
def obits (n : Nat) : Int := (Lib.bitLen n : Int) - 1
theorem len_any (n : Nat) (hn : n ≤ 9223372036854775807) (w : World) :
    Calls Tryz.prog 104 #[.int .u64 n] w fun e w' => e = .returned (.int .i64 (Lib.bitLen n)) ∧ w = w' := by
  refine (Tryz.bits_Len n w (by omega) (by omega)).mono ?_
  rintro e w' ⟨rfl, rfl⟩
  exact ⟨by simp, rfl⟩
theorem bitLen_log (n k : Nat) (h1 : 2 ^ k ≤ n) (h2 : n < 2 ^ (k + 1)) (hn : n < 2 ^ 64) : Lib.bitLen n = k + 1 := by
  rw [Lib.bitLen_shift k n h1 hn]
  have : n / 2 ^ k = 1 := by
    have hp : 0 < 2 ^ k := Nat.pow_pos (by decide)
    have ha : 1 ≤ n / 2 ^ k := (Nat.le_div_iff_mul_le hp).2 (by omega)
    have hb : n / 2 ^ k < 2 := (Nat.div_lt_iff_lt_mul hp).2 (by rw [Nat.pow_succ] at h2; omega)
    omega
  rw [this, show Lib.bitLen 1 = 1 from by decide]
theorem obits_cases (n : Nat) (hn : n ≤ 9223372036854775807) : n = 0 ∧ obits n = -1 ∨ ∃ k : Nat, k < 64 ∧ 2 ^ k ≤ n ∧ n < 2 ^ (k + 1) ∧ obits n = k := by
  by_cases h0 : n = 0
  · subst h0
    exact .inl ⟨rfl, by decide⟩
  · refine .inr ⟨Nat.log2 n, ?_, Nat.log2_self_le h0, Nat.lt_log2_self, ?_⟩
    · exact (Nat.log2_lt h0).2 (by omega)
    · have := bitLen_log n (Nat.log2 n) (Nat.log2_self_le h0) Nat.lt_log2_self (by omega)
      unfold obits
      rw [this]
      omega
theorem obits_le (n : Nat) (hn : n ≤ 9223372036854775807) : -1 ≤ obits n ∧ obits n < 64 := by
  rcases obits_cases n hn with ⟨_, h⟩ | ⟨k, hk, _, _, h⟩ <;> omega
theorem obits_pow (b : Nat) (hb : b ≤ 10) : obits (2 ^ b) = b := by
  have hp : 2 ^ b ≤ 2 ^ 10 := Nat.pow_le_pow_right (by decide) hb
  unfold obits
  rw [bitLen_log (2 ^ b) b (Nat.le_refl _) (by rw [Nat.pow_succ]; have := Nat.pow_pos (n := b) (show 0 < 2 by decide); omega) (by omega)]
  omega
set_option maxRecDepth 100000 in
set_option maxHeartbeats 2000000 in
theorem of_no (s : ByteArray) (hs : s.size ≤ 9223372036854775807) (h : obits s.size < 4 ∨ 10 < obits s.size) (w : World) :
    Calls Tryz.prog 82 #[.string s] w fun e w' => e = .returned (.tuple #[.pointer none, .int .i64 2]) ∧ Below w.heap.size w w' := by
  have hl := len_any s.size hs
  have hb := obits_le s.size hs
  have hn := new_out (obits s.size) h
  unfold obits at hn hb
  obtain ⟨n, hsn⟩ : ∃ n, s.size = n := ⟨_, rfl⟩
  rw [hsn] at hs hl hb hn
  clear h
  generalize Lib.bitLen n = x at *
  go_enter Tryz.func82, Tryz.ntmps82
  go_wp2_with fail
  refine (hl _).mono ?_
  rintro e w' ⟨rfl, rfl⟩
  go_wp2_with fail
  refine (hn _).mono ?_
  rintro e w' ⟨rfl, rfl⟩
  go_wp2
  go_ret2
  exact ⟨rfl, Below.refl _ _⟩
set_option maxRecDepth 100000 in
set_option maxHeartbeats 2000000 in
theorem of_odd (s : ByteArray) (hs : s.size ≤ 9223372036854775807) (b : Nat) (lo : 4 ≤ b) (hi : b ≤ 10) (h : obits s.size = b) (hne : ¬ 2 ^ b = s.size) (w : World) :
    Calls Tryz.prog 82 #[.string s] w fun e w' => e = .returned (.tuple #[.pointer none, .int .i64 2]) ∧ Below w.heap.size w w' := by
  have hl := len_any s.size hs
  have hn := new_any b lo hi
  have hu := fun B w => used_M B b lo hi (2 ^ b) rfl w
  have hM := pow_hi lo hi
  obtain ⟨n, hsn⟩ : ∃ n, s.size = n := ⟨_, rfl⟩
  rw [hsn] at hs hl h hne
  have hb : (Lib.bitLen n : Int) = (b : Int) + 1 := by unfold obits at h; omega
  generalize 2 ^ b = M at *
  rw [hb] at hl
  clear h hb
  have hne2 : ((M : Int) != (n : Int)) = true := by
    rw [bne_iff_ne]; omega
  go_enter Tryz.func82, Tryz.ntmps82
  go_wp2_with fail
  refine (hl _).mono ?_
  rintro e w' ⟨rfl, rfl⟩
  go_wp2_with fail
  refine (hn _).mono ?_
  rintro e w' ⟨rfl, hB, hS⟩
  go_wp2_with fail
  refine (hu _ _ hS.bits).mono ?_
  rintro e w1 ⟨rfl, rfl⟩
  go_wp2
  go_ret2
  exact ⟨rfl, hB⟩
end Go.Proofs.YtcgkgdhbipbnfaaGreatDoor.Hl

namespace Go.Proofs.YtcgkgdhbipbnfaaGreatDoor.Hl
open Go Go.RowKit

/-- What Of comes to, of as many as there may be. -/
def OfEnd (b : Nat) (s : ByteArray) (w : World) (e : Ending) (w' : World) : Prop :=
  Below w.heap.size w w' ∧ ((Low s.data.toList ∧ e = .returned (.tuple #[.pointer (some ⟨w.heap.size, 0, none⟩), .int .i64 0]) ∧ Sk w.heap.size b s.data.toList w') ∨
    (¬ Low s.data.toList ∧ e = .returned (.tuple #[.pointer none, .int .i64 2])))
theorem get_list (s : ByteArray) (k : Nat) (h : k < s.size) : s.data.toList[k]? = some s[k] := by
  rw [Array.getElem?_toList]
  exact Array.getElem?_eq_getElem h
set_option maxRecDepth 100000 in
set_option maxHeartbeats 4000000 in
theorem of_full (s : ByteArray) (b : Nat) (lo : 4 ≤ b) (hi : b ≤ 10) (h : 2 ^ b = s.size) (w : World) :
    Calls Tryz.prog 82 #[.string s] w (OfEnd b s w) := by
  have hM := pow_hi lo hi
  have hl := len_any s.size (by omega)
  have hb : (Lib.bitLen s.size : Int) = (b : Int) + 1 := by
    have := obits_pow b hi
    rw [h] at this
    unfold obits at this
    omega
  have hn := new_any b lo hi
  have hu := fun B w => used_M B b lo hi (2 ^ b) rfl w
  have hsl : s.data.toList.length = s.size := (Lib.size_eq s).symm
  rw [h] at hu hM
  rw [hb] at hl
  obtain ⟨M, hsn⟩ : ∃ n, s.size = n := ⟨_, rfl⟩
  rw [hsn] at hl hu hM
  obtain ⟨hM1, hM2⟩ := hM
  have HP := Lib.hid h
  have HSL := Lib.hid hsl
  clear h hb hsl
  go_enter Tryz.func82, Tryz.ntmps82
  go_wp2_with fail
  refine (hl _).mono ?_
  rintro e w' ⟨rfl, rfl⟩
  go_wp2_with fail
  refine (hn _).mono ?_
  rintro e W ⟨rfl, hB, hS⟩
  have hS0 := hS.bits
  go_wp2_with fail
  refine (hu _ _ hS0).mono ?_
  rintro e w1 ⟨rfl, rfl⟩
  have HS := Lib.hid hS
  clear hS
  go_wp2_with fail
  go_loop [28] (fun i => ∃ k : Nat, k ≤ M ∧ i = .int .i64 k ∧ ∀ j (h : j < s.size), j < k → (s[j]).toNat ≤ 26) (fun i => M - (intOf i).toNat)
  case atStart => exact ⟨0, Nat.zero_le _, rfl, fun j _ h => absurd h (by omega)⟩
  case round =>
    obtain ⟨k, hk, rfl, hlow⟩ := hrel
    have HLow := Lib.hid hlow
    clear hlow
    by_cases hlt : k < M
    · have hks : k < s.size := by rw [hsn]; exact hlt
      by_cases hv : (s[k]).toNat ≤ 26
      · have HV := Lib.hid hv
        have hv2 : ¬ (26 : Int) < (((s[k]).toNat : Nat) : Int) := by omega
        clear hv
        go_wp2
        refine ⟨⟨k + 1, by omega, by go_num, fun j hj hjk => ?_⟩, by simp [intOf]; omega⟩
        by_cases hjk2 : j < k
        · exact HLow.out j hj hjk2
        · obtain rfl : j = k := by omega
          exact HV.out
      · have hv2 : (26 : Int) < (((s[k]).toNat : Nat) : Int) := by omega
        have HV := Lib.hid hv
        clear hv
        go_wp2
        go_ret2
        exact ⟨hB, .inr ⟨fun hL => HV.out (hL _ (List.mem_of_getElem? (get_list s k hks))), rfl⟩⟩
    · obtain rfl : k = M := by omega
      have hcp := run_copy_string (P := Tryz.prog) W 68 9 3 5 w.heap.size 1 k k s Tryz.underlying68 (Lib.byte_size info_u8) (by omega)
        (fun j hj => by rw [HS.out.cell j (by rw [List.length_replicate, HP.out]; exact hj)]; rfl) (fun j hj => HS.out.fro j (by rw [List.length_replicate, HP.out]; exact hj))
      have hend : Sk w.heap.size b s.data.toList (W.setCells w.heap.size 1 (s.data.toList.map fun x => .int .u8 (x.toNat : Int))) := HS.out.setAll (by rw [HSL.out, List.length_replicate, HP.out])
      have hBend : Below w.heap.size w (W.setCells w.heap.size 1 (s.data.toList.map fun x => .int .u8 (x.toNat : Int))) := below_setCells (Nat.le_refl _) _ _ _ hB
      have hlow : Low s.data.toList := by
        intro x hx
        obtain ⟨j, hj, rfl⟩ := List.mem_iff_getElem.1 hx
        rw [HSL.out] at hj
        exact HLow.out j hj (by omega)
      generalize W.setCells w.heap.size 1 (s.data.toList.map fun x => .int .u8 (x.toNat : Int)) = W2 at *
      have HE := Lib.hid hend
      have HLO := Lib.hid hlow
      clear hend hlow
      go_wp2_with fail
      refine (hu _ _ hS0).mono ?_
      rintro e w1 ⟨rfl, rfl⟩
      go_wp2
      go_ret2
      exact ⟨hBend, .inl ⟨HLO.out, rfl, HE.out⟩⟩
/-- Any text as registers. -/
def Regd (b : Nat) (s : ByteArray) : Prop := 4 ≤ b ∧ b ≤ 10 ∧ 2 ^ b = s.size ∧ Low s.data.toList
theorem of_good (s : ByteArray) (b : Nat) (h : Regd b s) (w : World) :
    Calls Tryz.prog 82 #[.string s] w fun e w' => e = .returned (.tuple #[.pointer (some ⟨w.heap.size, 0, none⟩), .int .i64 0]) ∧ Below w.heap.size w w' ∧ Sk w.heap.size b s.data.toList w' := by
  refine (of_full s b h.1 h.2.1 h.2.2.1 w).mono ?_
  rintro e w' ⟨hB, h1 | h1⟩
  · exact ⟨h1.2.1, hB, h1.2.2⟩
  · exact absurd h.2.2.2 h1.1
theorem of_bad (s : ByteArray) (hs : s.size ≤ 9223372036854775807) (h : ∀ b, ¬ Regd b s) (w : World) :
    Calls Tryz.prog 82 #[.string s] w fun e w' => e = .returned (.tuple #[.pointer none, .int .i64 2]) ∧ Below w.heap.size w w' := by
  by_cases ho : obits s.size < 4 ∨ 10 < obits s.size
  · exact of_no s hs ho w
  · obtain ⟨b, hb⟩ : ∃ b : Nat, obits s.size = b := ⟨(obits s.size).toNat, by omega⟩
    by_cases hp : 2 ^ b = s.size
    · refine (of_full s b (by omega) (by omega) hp w).mono ?_
      rintro e w' ⟨hB, h1 | h1⟩
      · exact absurd ⟨by omega, by omega, hp, h1.1⟩ (h b)
      · exact ⟨h1.2, hB⟩
    · exact of_odd s hs b (by omega) (by omega) hb hp w
end Go.Proofs.YtcgkgdhbipbnfaaGreatDoor.Hl

namespace Go.Proofs.YtcgkgdhbipbnfaaGreatDoor.Hl
open Go Go.RowKit

def factorOf (b : Nat) : Nat := if b = 4 then 6730 else if b = 5 then 6970 else if b = 6 then 7090 else 72130000 * 2 ^ b / (10000 * 2 ^ b + 10790)
def sumOf : List UInt8 → Nat
  | [] => 0
  | x :: r => 2 ^ (26 - x.toNat) + sumOf r
theorem sumOf_append (a c : List UInt8) : sumOf (a ++ c) = sumOf a + sumOf c := by
  induction a with
  | nil => simp [sumOf]
  | cons x r ih => rw [List.cons_append, sumOf, sumOf, ih]; omega
theorem sumOf_le (l : List UInt8) : sumOf l ≤ 67108864 * l.length := by
  induction l with
  | nil => simp [sumOf]
  | cons x r ih =>
    rw [sumOf, List.length_cons]
    have : 2 ^ (26 - x.toNat) ≤ 2 ^ 26 := Nat.pow_le_pow_right (by decide) (by omega)
    omega
theorem sumOf_take {l : List UInt8} (k : Nat) (hk : k < l.length) : sumOf (l.take (k + 1)) = sumOf (l.take k) + 2 ^ (26 - l[k].toNat) := by
  rw [List.take_add_one, List.getElem?_eq_getElem hk, sumOf_append]
  simp [sumOf]
theorem sumOf_ge (l : List UInt8) : l.length ≤ sumOf l := by
  induction l with
  | nil => simp [sumOf]
  | cons x r ih =>
    rw [sumOf, List.length_cons]
    have : 0 < 2 ^ (26 - x.toNat) := Nat.pow_pos (by decide)
    omega
def rawOf (f M S : Nat) : Nat := f * M * M * 67108864 / (10000 * S)
theorem factor_any (b : Nat) (lo : 4 ≤ b) (hi : b ≤ 10) (w : World) :
    Calls Tryz.prog 80 #[.int .i64 b] w fun e w' => e = .returned (.int .u64 (factorOf b : Nat)) ∧ w = w' := by
  have : b = 4 ∨ b = 5 ∨ b = 6 ∨ b = 7 ∨ b = 8 ∨ b = 9 ∨ b = 10 := by omega
  rcases this with rfl | rfl | rfl | rfl | rfl | rfl | rfl
  all_goals
    clear lo hi
    go_enter Tryz.func80, Tryz.ntmps80
    go_wp2
    go_ret
    exact ⟨rfl, rfl⟩
theorem factor_bd (b : Nat) (lo : 4 ≤ b) (hi : b ≤ 10) : 6730 ≤ factorOf b ∧ factorOf b ≤ 7213 := by
  have : b = 4 ∨ b = 5 ∨ b = 6 ∨ b = 7 ∨ b = 8 ∨ b = 9 ∨ b = 10 := by omega
  rcases this with rfl | rfl | rfl | rfl | rfl | rfl | rfl <;> decide
theorem raw_eq (f k S : Nat) (hf : f ≤ 7213) (hk : k ≤ 1024) (_ : 1 ≤ S) :
    IntKind.u64.wrap ((IntKind.u64.wrap (IntKind.u64.wrap (IntKind.u64.wrap ((f : Int) * k) * k) * 67108864)).tdiv (10000 * (S : Int))) = (rawOf f k S : Nat) := by
  have h1 : f * k ≤ 7213 * 1024 := Nat.mul_le_mul hf hk
  have h2 : f * k * k ≤ 7213 * 1024 * 1024 := Nat.mul_le_mul h1 hk
  have h3 : f * k * k * 67108864 / (10000 * S) ≤ f * k * k * 67108864 := Nat.div_le_self _ _
  have e1 : IntKind.u64.wrap ((f : Int) * k) = ((f * k : Nat) : Int) := by rw [IntKind.wrap_u64, ← Int.natCast_mul]; omega
  have e2 : IntKind.u64.wrap (((f * k : Nat) : Int) * k) = ((f * k * k : Nat) : Int) := by rw [IntKind.wrap_u64, ← Int.natCast_mul]; omega
  have e3 : IntKind.u64.wrap (((f * k * k : Nat) : Int) * 67108864) = ((f * k * k * 67108864 : Nat) : Int) := by
    rw [IntKind.wrap_u64]; generalize f * k * k = p at *; omega
  rw [e1, e2, e3, show (10000 * (S : Int)) = ((10000 * S : Nat) : Int) by omega, Int.tdiv_eq_ediv_of_nonneg (Int.natCast_nonneg _), ← Int.natCast_ediv, IntKind.wrap_u64]
  unfold rawOf
  generalize f * k * k * 67108864 / (10000 * S) = q at *
  omega
theorem sum_eq (S x : Nat) (hS : S ≤ 68719476736) : IntKind.u64.wrap ((S : Int) + IntKind.u64.wrap (2 ^ (26 - x))) = ((S + 2 ^ (26 - x) : Nat) : Int) := by
  have h1 : 2 ^ (26 - x) ≤ 2 ^ 26 := Nat.pow_le_pow_right (by decide) (by omega)
  have e : (2 : Int) ^ (26 - x) = ((2 ^ (26 - x) : Nat) : Int) := by push_cast; rfl
  rw [e]
  generalize 2 ^ (26 - x) = p at *
  rw [IntKind.wrap_u64, IntKind.wrap_u64]
  omega
set_option maxRecDepth 100000 in
set_option maxHeartbeats 4000000 in
theorem raw_any {B b : Nat} {l : List UInt8} {w : World} (hS : Sk B b l w) (hL : Low l) (f : Nat) (hf : f ≤ 7213) :
    Calls Tryz.prog 79 #[.slice (some ⟨B, 1, none⟩) (2 ^ b) (2 ^ b), .int .u64 f] w fun e w' => e = .returned (.int .u64 (rawOf f (2 ^ b) (sumOf l) : Nat)) ∧ w = w' := by
  have hM := pow_hi hS.lo hS.hi
  have hl := hS.len
  have hc := hS.cell
  generalize 2 ^ b = M at *
  obtain ⟨hM1, hM2⟩ := hM
  have HL := Lib.hid hl
  have HLow := Lib.hid hL
  have HC := Lib.hid hc
  clear hL hl hc hS
  go_enter Tryz.func79, Tryz.ntmps79
  go_wp2
  go_loop [5, 11] (fun s i => ∃ k : Nat, k ≤ M ∧ i = .int .i64 k ∧ s = .int .u64 (sumOf (l.take k) : Nat)) (fun _ i => M - (intOf i).toNat)
  case atStart => exact ⟨0, Nat.zero_le _, rfl, rfl⟩
  case round =>
    obtain ⟨k, hk, rfl, rfl⟩ := hrel
    have hbd := sumOf_le (l.take k)
    rw [List.length_take] at hbd
    by_cases hlt : k < M
    · have hkl : k < l.length := by rw [HL.out]; exact hlt
      have hx := HC.out k hkl
      have hlow := HLow.out l[k] (List.getElem_mem _)
      have hst := sumOf_take k hkl
      have HST := Lib.hid hst
      clear hst
      obtain ⟨x, hxe⟩ : ∃ x : Nat, l[k].toNat = x := ⟨_, rfl⟩
      rw [hxe] at hx hlow
      have HX := Lib.hid hxe
      clear hxe
      generalize sumOf (l.take k) = S at *
      go_wp2
      refine ⟨⟨k + 1, by omega, by go_num, ?_⟩, by simp [intOf]; omega⟩
      rw [sum_eq S x (by omega), HST.out, HX.out]
    · obtain rfl : k = M := by omega
      have htk : l.take k = l := List.take_of_length_le (by rw [HL.out]; exact Nat.le_refl _)
      rw [htk] at hbd ⊢
      have hge := sumOf_ge l
      rw [HL.out] at hge hbd
      have hraw := raw_eq f k (sumOf l) hf (by omega) (by omega)
      have HR := Lib.hid hraw
      clear htk hraw
      obtain ⟨S, hSe⟩ : ∃ S, sumOf l = S := ⟨_, rfl⟩
      have HSE := Lib.hid hSe
      rw [hSe] at hbd hge ⊢
      clear hSe
      go_wp2
      go_ret
      exact ⟨congrArg (fun n => Ending.returned (.int .u64 n)) (by rw [← HR.out, HSE.out]), rfl⟩
/-- What is summed for a few. -/
def fewSum (M z : Nat) : Nat → Nat
  | 0 => 0
  | j + 1 => fewSum M z j + M * 65536 / (z + 1 + j)
theorem fewSum_le (M z : Nat) (hM : M ≤ 1024) (j : Nat) : fewSum M z j ≤ 67108864 * j := by
  induction j with
  | zero => exact Nat.le_refl _
  | succ j ih =>
    rw [fewSum]
    have : M * 65536 / (z + 1 + j) ≤ M * 65536 := Nat.div_le_self _ _
    omega
def fewOf (M z : Nat) : Nat := fewSum M z (M - z) / 65536
theorem few_eq (M z j F : Nat) (hM : M ≤ 1024) (hF : F ≤ 68719476736) (_ : z + 1 + j ≤ 2000) :
    IntKind.u64.wrap ((F : Int) + (M : Int) * 65536 / ((z : Int) + 1 + j)) = ((F + M * 65536 / (z + 1 + j) : Nat) : Int) := by
  have : M * 65536 / (z + 1 + j) ≤ M * 65536 := Nat.div_le_self _ _
  rw [show ((M : Int) * 65536) = ((M * 65536 : Nat) : Int) by omega, show ((z : Int) + 1 + j) = ((z + 1 + j : Nat) : Int) by omega, ← Int.natCast_ediv]
  generalize M * 65536 / (z + 1 + j) = q at *
  rw [IntKind.wrap_u64]
  omega
set_option maxRecDepth 100000 in
set_option maxHeartbeats 4000000 in
theorem few_any (M z : Nat) (hM : M ≤ 1024) (hz : z ≤ M) (w : World) :
    Calls Tryz.prog 81 #[.int .u64 M, .int .u64 z] w fun e w' => e = .returned (.int .u64 (fewOf M z : Nat)) ∧ w = w' := by
  go_enter Tryz.func81, Tryz.ntmps81
  go_wp2
  go_loop [5, 6] (fun s i => ∃ j : Nat, z + j ≤ M ∧ i = .int .u64 ((z : Int) + 1 + j) ∧ s = .int .u64 (fewSum M z j : Nat)) (fun _ i => M + 1 - (intOf i).toNat)
  case atStart => exact ⟨0, by omega, by simp, rfl⟩
  case round =>
    obtain ⟨j, hj, rfl, rfl⟩ := hrel
    have hbd := fewSum_le M z hM j
    by_cases hlt : z + j < M
    · have hst : fewSum M z (j + 1) = fewSum M z j + M * 65536 / (z + 1 + j) := rfl
      have hfe := few_eq M z j (fewSum M z j) hM (by omega) (by omega)
      have HST := Lib.hid hst
      have HFE := Lib.hid hfe
      clear hst hfe
      generalize fewSum M z j = F at *
      go_wp2
      refine ⟨⟨j + 1, by omega, ?_, ?_⟩, by simp [intOf]; omega⟩
      · exact congrArg (fun n => Value.int .u64 n) (by omega)
      · rw [HFE.out, HST.out]
    · have hjm : M - z = j := by omega
      have HJ := Lib.hid hjm
      clear hjm
      have hend : fewOf M z = fewSum M z j / 65536 := by unfold fewOf; rw [HJ.out]
      have HE := Lib.hid hend
      clear hend
      generalize fewSum M z j = F at *
      go_wp2
      go_ret
      exact ⟨congrArg (fun n => Ending.returned (.int .u64 n)) (by rw [HE.out]; omega), rfl⟩
end Go.Proofs.YtcgkgdhbipbnfaaGreatDoor.Hl

namespace Go.Proofs.YtcgkgdhbipbnfaaGreatDoor.Hl
open Go Go.RowKit

def zerosOf (l : List UInt8) : Nat := l.count 0
def estOf (b : Nat) (l : List UInt8) : Nat :=
  if zerosOf l = 0 ∨ 5 * 2 ^ b / 2 < rawOf (factorOf b) (2 ^ b) (sumOf l) then rawOf (factorOf b) (2 ^ b) (sumOf l) else fewOf (2 ^ b) (zerosOf l)
theorem Sk.past {B b : Nat} {l : List UInt8} {w : World} (h : Sk B b l w) (o : Obj) : Sk B b l (w.alloc o) := h.below ((Below.refl _ _).alloc (Nat.le_refl _) o)
theorem count_any {B b : Nat} {l : List UInt8} {w : World} (hS : Sk B b l w) (R : Nat) (hR : w.cell? ⟨R, 0, none⟩ = some (.int .u8 0)) :
    Calls Tryz.prog 78 #[.slice (some ⟨B, 1, none⟩) (2 ^ b) (2 ^ b), .slice (some ⟨R, 0, none⟩) 1 1] w fun e w' => e = .returned (.int .i64 (zerosOf l : Nat)) ∧ w = w' := by
  have hl := hS.len
  refine (Tryz.bytes_Count_one B 1 (2 ^ b) (2 ^ b) R 0 1 (l.map fun x => (x.toNat : Int)) 0 w (by simp [hl]) (fun i hi => ?_) hR).mono ?_
  · rw [hS.cell i (by omega)]
    have : i < l.length := by omega
    simp [List.getD_eq_getElem?_getD, this]
  · rintro e w' ⟨rfl, rfl⟩
    refine ⟨?_, rfl⟩
    have : Lib.bytesOf (l.map fun x => (x.toNat : Int)) = l := by
      unfold Lib.bytesOf
      rw [List.map_map]
      conv => rhs; rw [← List.map_id l]
      refine List.map_congr_left fun x _ => ?_
      simp
    rw [this]
    rfl
theorem zerosOf_le (l : List UInt8) : zerosOf l ≤ l.length := List.count_le_length
theorem raw_bd (f k S : Nat) (hf : f ≤ 7213) (hk : k ≤ 1024) : rawOf f k S ≤ 507580290972352512 := by
  have h1 : f * k ≤ 7213 * 1024 := Nat.mul_le_mul hf hk
  have h2 : f * k * k ≤ 7213 * 1024 * 1024 := Nat.mul_le_mul h1 hk
  have h3 : f * k * k * 67108864 / (10000 * S) ≤ f * k * k * 67108864 := Nat.div_le_self _ _
  unfold rawOf
  generalize f * k * k = p at *
  omega
set_option maxRecDepth 100000 in
set_option maxHeartbeats 4000000 in
theorem est_any {B b : Nat} {l : List UInt8} {w : World} (hS : Sk B b l w) (hL : Low l) :
    Calls Tryz.prog 40 #[.pointer (some ⟨B, 0, none⟩)] w fun e w' => e = .returned (.int .u64 (estOf b l : Nat)) ∧ Below w.heap.size w w' := by
  have hM := pow_hi hS.lo hS.hi
  have hS1 := hS.past (.cells #[.int .u8 0] 5)
  have hb0 := hS.bits
  have hb1 := hS1.bits
  have hu := fun w h => used_M B b hS.lo hS.hi (2 ^ b) rfl w h
  have hct := fun w hS R hR => count_any (B := B) (b := b) (l := l) (w := w) hS R hR
  have hfa := fun w => factor_any b hS.lo hS.hi w
  have hfb := factor_bd b hS.lo hS.hi
  have hra := fun w hS => raw_any (B := B) (b := b) (l := l) (w := w) hS hL (factorOf b) hfb.2
  have hzl := zerosOf_le l
  rw [hS.len] at hzl
  have hfe := fun w => few_any (2 ^ b) (zerosOf l) hM.2 hzl w
  have hrb := raw_bd (factorOf b) (2 ^ b) (sumOf l) hfb.2 hM.2
  have hes : estOf b l = if zerosOf l = 0 ∨ 5 * 2 ^ b / 2 < rawOf (factorOf b) (2 ^ b) (sumOf l) then rawOf (factorOf b) (2 ^ b) (sumOf l) else fewOf (2 ^ b) (zerosOf l) := rfl
  have hBd : Below w.heap.size w (w.alloc (.cells #[.int .u8 0] 5)) := (Below.refl _ _).alloc (Nat.le_refl _) _
  generalize rawOf (factorOf b) (2 ^ b) (sumOf l) = R at *
  generalize fewOf (2 ^ b) (zerosOf l) = F at *
  generalize zerosOf l = Z at *
  generalize factorOf b = A at *
  generalize estOf b l = E at *
  generalize 2 ^ b = M at *
  obtain ⟨hM1, hM2⟩ := hM
  have HE := Lib.hid hes
  have HS1 := Lib.hid hS1
  clear hes hS1 hfb hL hS
  go_enter Tryz.func40, Tryz.ntmps40
  go_wp2_with fail
  refine (hu _ hb0).mono ?_
  rintro e w1 ⟨rfl, rfl⟩
  go_wp2_with fail
  refine (hct _ HS1.out w.heap.size (by rw [World.cell?_alloc_new]; rfl)).mono ?_
  rintro e w1 ⟨rfl, rfl⟩
  generalize w.alloc (.cells #[.int .u8 0] 5) = W at *
  go_wp2_with fail
  refine (hfa _).mono ?_
  rintro e w1 ⟨rfl, rfl⟩
  go_wp2_with fail
  refine (hra _ HS1.out).mono ?_
  rintro e w1 ⟨rfl, rfl⟩
  by_cases hz : Z = 0
  · subst hz
    have hE := HE.out
    rw [if_pos (.inl rfl)] at hE
    subst hE
    go_wp2
    go_ret
    exact ⟨rfl, hBd⟩
  · have hz1 : ((Z : Int) == 0) = false := beq_eq_false_iff_ne.2 (by omega)
    by_cases hg : 5 * M / 2 < R
    · have hE := HE.out
      rw [if_pos (.inr hg)] at hE
      subst hE
      have hg2 : 5 * (M : Int) / 2 < (E : Int) := by omega
      clear hg
      go_wp2
      go_ret
      exact ⟨rfl, hBd⟩
    · have hE := HE.out
      rw [if_neg (fun h => h.elim hz hg)] at hE
      subst hE
      have hg2 : ¬ 5 * (M : Int) / 2 < (R : Int) := by omega
      clear hg hz
      go_wp2_with fail
      refine (hfe _).mono ?_
      rintro e w1 ⟨rfl, rfl⟩
      go_wp2
      go_ret
      exact ⟨rfl, hBd⟩
end Go.Proofs.YtcgkgdhbipbnfaaGreatDoor.Hl

namespace Go.Proofs.YtcgkgdhbipbnfaaGreatDoor.Hl
open Go Go.RowKit

def nz : List UInt8 → Nat
  | [] => 0
  | x :: r => (if x.toNat = 0 then 0 else 1) + nz r
theorem nz_append (a c : List UInt8) : nz (a ++ c) = nz a + nz c := by
  induction a with
  | nil => simp [nz]
  | cons x r ih => rw [List.cons_append, nz, nz, ih]; omega
theorem nz_take {l : List UInt8} (k : Nat) (hk : k < l.length) : nz (l.take (k + 1)) = nz (l.take k) + (if l[k].toNat = 0 then 0 else 1) := by
  rw [List.take_add_one, List.getElem?_eq_getElem hk, nz_append]
  simp [nz]
theorem nz_le (l : List UInt8) : nz l ≤ l.length := by
  induction l with
  | nil => exact Nat.le_refl _
  | cons x r ih => rw [nz, List.length_cons]; split <;> omega
theorem nz_set (x : UInt8) : ∀ (l : List UInt8) (i : Nat), nz (l.set i x) ≤ nz l + 1
  | [], _ => by simp [nz]
  | y :: r, 0 => by rw [List.set_cons_zero, nz, nz]; split <;> omega
  | y :: r, i + 1 => by rw [List.set_cons_succ, nz, nz]; have := nz_set x r i; omega
theorem nz_zeros (n : Nat) : nz (List.replicate n 0) = 0 := by
  induction n with
  | zero => rfl
  | succ n ih => rw [List.replicate_succ, nz, ih]; rfl
theorem nz_regs (b : Nat) (hs : List Nat) : nz (regs b hs) ≤ hs.length := by
  have key : ∀ (hs : List Nat) (l : List UInt8), nz (addAll b hs l) ≤ nz l + hs.length := by
    intro hs
    induction hs with
    | nil => intro l; exact Nat.le_refl _
    | cons h t ih =>
      intro l
      rw [addAll, List.foldl_cons, ← addAll, List.length_cons]
      have h1 := ih (addL b h l)
      have h2 : nz (addL b h l) ≤ nz l + 1 := by
        unfold addL
        split
        · exact nz_set _ _ _
        · omega
      omega
  have := key hs (List.replicate (2 ^ b) 0)
  rw [nz_zeros] at this
  unfold regs
  omega
theorem sumOf_set (x : UInt8) : ∀ (l : List UInt8) (i : Nat) (h : i < l.length), sumOf (l.set i x) + 2 ^ (26 - l[i].toNat) = sumOf l + 2 ^ (26 - x.toNat)
  | [], _, h => absurd h (Nat.not_lt_zero _)
  | y :: r, 0, _ => by rw [List.set_cons_zero, sumOf, sumOf]; simp; omega
  | y :: r, i + 1, h => by
    have := sumOf_set x r i (by simpa using h)
    rw [List.set_cons_succ, sumOf, sumOf, List.getElem_cons_succ]
    omega
theorem zerosOf_set (x : UInt8) (hx : x ≠ 0) : ∀ (l : List UInt8) (i : Nat) (h : i < l.length), l[i] = 0 → zerosOf (l.set i x) + 1 = zerosOf l
  | [], _, h, _ => absurd h (Nat.not_lt_zero _)
  | y :: r, 0, _, h0 => by
    simp at h0
    subst h0
    unfold zerosOf
    rw [List.set_cons_zero, List.count_cons, List.count_cons]
    simp [hx]
  | y :: r, i + 1, h, h0 => by
    have := zerosOf_set x hx r i (by simpa using h) (by simpa using h0)
    unfold zerosOf at this ⊢
    rw [List.set_cons_succ, List.count_cons, List.count_cons]
    omega
theorem sumOf_zeros (n : Nat) : sumOf (List.replicate n 0) = 67108864 * n := by
  induction n with
  | zero => rfl
  | succ n ih =>
    rw [List.replicate_succ, sumOf, ih, show (2 ^ (26 - (0 : UInt8).toNat)) = 67108864 from by decide]
    omega
theorem zerosOf_zeros (n : Nat) : zerosOf (List.replicate n 0) = n := by simp [zerosOf]
theorem raw_few (b : Nat) (lo : 4 ≤ b) (hi : b ≤ 10) (S : Nat) (hS : 67108864 * (2 ^ b - 1) ≤ S) : ¬ 5 * 2 ^ b / 2 < rawOf (factorOf b) (2 ^ b) S := by
  have hM := pow_hi lo hi
  have h1 : rawOf (factorOf b) (2 ^ b) S ≤ rawOf (factorOf b) (2 ^ b) (67108864 * (2 ^ b - 1)) := by
    unfold rawOf
    exact Nat.div_le_div_left (Nat.mul_le_mul_left _ hS) (by omega)
  have h2 : rawOf (factorOf b) (2 ^ b) (67108864 * (2 ^ b - 1)) ≤ 5 * 2 ^ b / 2 := by
    clear h1 hM hS
    have : b = 4 ∨ b = 5 ∨ b = 6 ∨ b = 7 ∨ b = 8 ∨ b = 9 ∨ b = 10 := by omega
    rcases this with rfl | rfl | rfl | rfl | rfl | rfl | rfl <;> decide +kernel
  omega
/-- Nobody is estimated as none. -/
theorem est_none (b : Nat) (lo : 4 ≤ b) (hi : b ≤ 10) : estOf b (regs b []) = 0 := by
  have hM := pow_hi lo hi
  have e : regs b [] = List.replicate (2 ^ b) 0 := rfl
  unfold estOf
  rw [e, zerosOf_zeros, sumOf_zeros, if_neg (fun h => h.elim (by omega) (raw_few b lo hi _ (Nat.mul_le_mul_left _ (Nat.sub_le _ _))))]
  unfold fewOf
  rw [Nat.sub_self, fewSum]
/-- One alone is estimated as one. -/
theorem est_one (b : Nat) (lo : 4 ≤ b) (hi : b ≤ 10) (h : Nat) : estOf b (regs b [h]) = 1 := by
  have hM := pow_hi lo hi
  have hp1 := hp_lt b h
  have hr1 := hr_lo b h
  have hr2 := hr_hi b h
  have hz : (List.replicate (2 ^ b) (0 : UInt8))[hp b h]'(by simpa using hp1) = 0 := by simp
  have e : regs b [h] = (List.replicate (2 ^ b) 0).set (hp b h) (UInt8.ofNat (hr b h)) := by
    show addL b h (List.replicate (2 ^ b) 0) = _
    unfold addL addB
    rw [if_pos]
    rw [zeros_at]
    exact decide_eq_true (show 0 < hr b h by omega)
  have hne : UInt8.ofNat (hr b h) ≠ 0 := fun hh => by
    have := congrArg UInt8.toNat hh
    rw [ofNat_toNat hr2] at this
    simp at this
    omega
  have h1 := sumOf_set (UInt8.ofNat (hr b h)) (List.replicate (2 ^ b) 0) (hp b h) (by simpa using hp1)
  have h2 := zerosOf_set (UInt8.ofNat (hr b h)) hne (List.replicate (2 ^ b) 0) (hp b h) (by simpa using hp1) hz
  rw [sumOf_zeros, hz, show (2 ^ (26 - (0 : UInt8).toNat)) = 67108864 from by decide] at h1
  rw [zerosOf_zeros] at h2
  rw [← e] at h1 h2
  unfold estOf
  have hpos : 0 < 2 ^ (26 - (UInt8.ofNat (hr b h)).toNat) := Nat.pow_pos (by decide)
  rw [if_neg (fun hh => hh.elim (by omega) (raw_few b lo hi _ (by omega)))]
  unfold fewOf
  rw [show 2 ^ b - zerosOf (regs b [h]) = 1 from by omega, fewSum, fewSum]
  rw [show zerosOf (regs b [h]) + 1 + 0 = 2 ^ b from by omega, Nat.zero_add, Nat.mul_div_cancel_left _ (by omega)]
end Go.Proofs.YtcgkgdhbipbnfaaGreatDoor.Hl

