/- Get: what bytes begin with. -/
import Derived.Test.YtklklpccpbhfgaaHiJ
import Derived.Test.YtklklpccpbhfgaaHiTog
namespace Go.Proofs.Ytklklpccpbhfgaa
open Go Go.RowKit

/-- What Get answers: no histogram. -/
def noneV : Value := .tuple #[.pointer none, .string ⟨#[]⟩, .int .i64 2]
theorem list_size (s : ByteArray) : s.data.toList.length = s.size := rfl
theorem first_num {s : ByteArray} (h : 0 < s.size) : numB (s.data.toList.take 1) = (s[0]'h).toNat := by
  have e : s.data.toList.take 1 = [s[0]'h] := by
    have := list_size s
    rw [List.take_one, List.head?_eq_getElem?, List.getElem?_eq_getElem (by omega)]
    rfl
  rw [e]
  simp [numB]
theorem drop_toList (s : ByteArray) (i : Nat) : (s.extract i s.size).data.toList = s.data.toList.drop i := by
  rw [extract_toList, List.take_of_length_le]
  rw [List.length_drop, list_size]
  exact Nat.le_refl _
theorem item_take (l : List UInt8) : itemB (l.take 10) = itemB l := by
  unfold itemB
  rw [List.take_take, List.drop_take, List.take_take]
  rfl
set_option maxRecDepth 100000 in
set_option maxHeartbeats 4000000 in
theorem get_short (s : ByteArray) (h : s.size < 3) (w : World) :
    Calls Try.prog 26 #[.string s] w fun e w' => e = .returned noneV ∧ Below w.heap.size w w' := by
  unfold noneV
  go_enter Try.func26, Try.ntmps26
  go_wp2
  go_ret3
  exact ⟨rfl, Below.refl _ _⟩
set_option maxRecDepth 100000 in
set_option maxHeartbeats 4000000 in
theorem get_bits (s : ByteArray) (h : 3 ≤ s.size) (hm : s.size ≤ maxLen) (hb : 4 < numB (s.data.toList.take 1)) (w : World) :
    Calls Try.prog 26 #[.string s] w fun e w' => e = .returned noneV ∧ Below w.heap.size w w' := by
  unfold noneV
  unfold maxLen at hm
  have hs0 : 0 < s.size := by omega
  rw [first_num hs0] at hb
  obtain ⟨b, hb0⟩ : ∃ b, (s[0]'hs0).toNat = b := ⟨_, rfl⟩
  have hw : wrap64 ((s[0]'hs0).toNat : Int) = (b : Int) := by have := (s[0]'hs0).toNat_lt; rw [hb0] at this ⊢; unfold wrap64; omega
  rw [hb0] at hb
  have hn := new_out (b : Int) (by omega) w
  clear hb0 hb
  have hg := fun w => getnumber_any (s.extract 1 3) (by simp [ByteArray.size_extract]; omega) w
  have hq : ∃ q, numB (s.extract 1 3).data.toList = q ∧ q < 65536 := ⟨_, rfl, by
    have h1 := numB_lt (s.extract 1 3).data.toList
    have h2 : (s.extract 1 3).data.toList.length ≤ 2 := by rw [list_size]; simp [ByteArray.size_extract]; omega
    have h3 : 256 ^ (s.extract 1 3).data.toList.length ≤ 256 ^ 2 := Nat.pow_le_pow_right (by omega) h2
    omega⟩
  obtain ⟨q, hq1, hq2⟩ := hq
  rw [hq1] at hg
  clear hq1
  go_enter Try.func26, Try.ntmps26
  go_wp2_with fail
  refine hn.mono ?_
  rintro e w1 ⟨rfl, hB⟩
  clear hn
  go_wp2
  go_quiet (exact Calls.quiet_of_same ((hg _).mono fun _ _ h => ⟨h.1, h.2.symm⟩))
  go_wp2
  go_ret3
  exact ⟨rfl, below_drewN' hB _⟩
set_option maxRecDepth 100000 in
set_option maxHeartbeats 4000000 in
theorem get_less (s : ByteArray) (h : 3 ≤ s.size) (hm : s.size ≤ maxLen) (hb : ¬ 4 < numB (s.data.toList.take 1)) (hl : s.size - 3 < 10 * numB ((s.data.toList.drop 1).take 2)) (w : World) :
    Calls Try.prog 26 #[.string s] w fun e w' => e = .returned noneV ∧ Below w.heap.size w w' := by
  unfold noneV
  unfold maxLen at hm
  have hs0 : 0 < s.size := by omega
  rw [first_num hs0] at hb
  obtain ⟨b, hb0⟩ : ∃ b, (s[0]'hs0).toNat = b := ⟨_, rfl⟩
  have hw : wrap64 ((s[0]'hs0).toNat : Int) = (b : Int) := by have := (s[0]'hs0).toNat_lt; rw [hb0] at this ⊢; unfold wrap64; omega
  rw [hb0] at hb
  have hn := new_any b (by omega) w
  clear hb0 hb
  have hg := fun w => getnumber_any (s.extract 1 3) (by simp [ByteArray.size_extract]; omega) w
  have hq : ∃ q, numB (s.extract 1 3).data.toList = q ∧ q < 65536 := ⟨_, rfl, by
    have h1 := numB_lt (s.extract 1 3).data.toList
    have h2 : (s.extract 1 3).data.toList.length ≤ 2 := by rw [list_size]; simp [ByteArray.size_extract]; omega
    have h3 : 256 ^ (s.extract 1 3).data.toList.length ≤ 256 ^ 2 := Nat.pow_le_pow_right (by omega) h2
    omega⟩
  obtain ⟨q, hq1, hq2⟩ := hq
  rw [hq1] at hg
  rw [← show (s.extract 1 3).data.toList = (s.data.toList.drop 1).take 2 from extract_toList s 1 3, hq1] at hl
  clear hq1
  obtain ⟨R, hR⟩ : ∃ R, s.extract 3 s.size = R := ⟨_, rfl⟩
  have hRs : R.size = s.size - 3 := by rw [← hR]; simp [ByteArray.size_extract]
  have hlt : decide ((R.size : Int) < (q : Int) * 10) = true := decide_eq_true (by omega)
  have hRm : R.size ≤ 9223372036854775807 := by omega
  clear hl hRs
  go_enter Try.func26, Try.ntmps26
  go_wp2_with fail
  refine hn.mono ?_
  rintro e w1 ⟨B, rfl, hB, hlo, hH⟩
  have HH := Lib.hid hH
  clear hn hH hlo
  go_wp2
  go_quiet (exact Calls.quiet_of_same ((hg _).mono fun _ _ h => ⟨h.1, h.2.symm⟩))
  go_wp2
  go_ret3
  exact ⟨rfl, below_drewN' hB _⟩
end Go.Proofs.Ytklklpccpbhfgaa
