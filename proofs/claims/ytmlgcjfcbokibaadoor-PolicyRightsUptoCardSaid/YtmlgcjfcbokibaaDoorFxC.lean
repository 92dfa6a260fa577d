/- One byte is taken; a sign. -/
import Derived.Test.YtmlgcjfcbokibaaDoorShelf
import Derived.Test.YtmlgcjfcbokibaaDoorFxB
import Derived.Lib.Hide
namespace Go.Proofs.YtmlgcjfcbokibaaDoor
open Go Go.RowKit

theorem ix_has {bs : List UInt8} {c : UInt8} (h : bs.contains c = true) : 0 ≤ Lib.indexByte bs c := by
  induction bs with
  | nil => simp at h
  | cons b l ih =>
    unfold Lib.indexByte
    by_cases hb : (b == c) = true
    · rw [if_pos hb]; decide
    · rw [if_neg hb]
      have h2 : l.contains c = true := by
        rw [List.contains_cons, Bool.or_eq_true] at h
        rcases h with h | h
        · exact absurd (by rw [beq_iff_eq] at h ⊢; exact h.symm) hb
        · exact h
      have h3 := ih h2
      rw [if_neg (by rw [beq_iff_eq]; omega)]
      omega
theorem ix_not {bs : List UInt8} {c : UInt8} (h : bs.contains c = false) : Lib.indexByte bs c = -1 := by
  induction bs with
  | nil => rfl
  | cons b l ih =>
    rw [List.contains_cons, Bool.or_eq_false_iff] at h
    unfold Lib.indexByte
    rw [if_neg (by rw [beq_iff_eq]; intro hb; subst hb; simp at h), ih h.2]
    rfl
theorem cast_byte (c : UInt8) : ((c.toNat : Int)).toNat.toUInt8 = c := by simp
theorem first_of {s : ByteArray} {c : UInt8} {t : List UInt8} (hl : s.data.toList = c :: t) : ∃ h : 0 < s.size, s[0] = c ∧ s.extract 1 s.size = tx t := by
  have hz : s.size = t.length + 1 := by rw [← size_list, hl]; rfl
  refine ⟨by omega, ?_, ?_⟩
  · have h1 := drop_at (s := s) (k := 0) (by omega)
    rw [List.drop_zero, hl] at h1
    exact (List.cons.inj h1).1.symm
  · rw [ext_drop, hl]; rfl

set_option maxHeartbeats 4000000 in
theorem takes_yes (B : Nat) (s bs : ByteArray) (c : UInt8) (t : List UInt8) (hl : s.data.toList = c :: t) (hs : s.size ≤ maxLen) (hc : bs.data.toList.contains c = true) (w : World) (hR : RdAt B s w) :
    Calls Tryd.prog 82 #[.pointer (some ⟨B, 0, none⟩), .string bs] w fun e w' => e = .returned (.bool true) ∧ w' = w.setCell ⟨B, 0, none⟩ (.string (tx t)) := by
  have h0 := hR.cell 0 _ rfl
  have hf := hR.fro 0 _ rfl
  obtain ⟨hz, hx, he⟩ := first_of hl
  have hn := ne_empty (s := s) (by rw [hl]; simp)
  have hn2 : s.toList.isEmpty = false := by simpa using hn
  have hI := fun w => Tryd.strings_IndexByte bs (c.toNat : Int) w
  rw [cast_byte] at hI
  obtain ⟨i, hi⟩ : ∃ i, Lib.indexByte bs.data.toList c = i := ⟨_, rfl⟩
  have hi0 := ix_has hc
  rw [hi] at hI hi0
  unfold maxLen at hs
  clear hR hl hc hi hn
  have HE := Lib.hid he
  clear he
  go_enter Tryd.func82, Tryd.ntmps82
  go_wp2_with (go_at_call 89; refine (hI _).mono ?_; rintro e w' ⟨rfl, rfl⟩)
  go_ret
  rw [HE.out]
  exact ⟨rfl, rfl⟩
set_option maxHeartbeats 4000000 in
theorem takes_no (B : Nat) (s bs : ByteArray) (h : tkB bs.data.toList s.data.toList = false) (hs : s.size ≤ maxLen) (w : World) (hR : RdAt B s w) :
    Calls Tryd.prog 82 #[.pointer (some ⟨B, 0, none⟩), .string bs] w fun e w' => e = .returned (.bool false) ∧ w' = w := by
  have h0 := hR.cell 0 _ rfl
  cases hl : s.data.toList with
  | nil =>
    have hn := is_empty hl
    clear hR hl h
    go_enter Tryd.func82, Tryd.ntmps82
    go_wp2
    go_ret
    exact ⟨rfl, rfl⟩
  | cons c t =>
    obtain ⟨hz, hx, he⟩ := first_of hl
    have hn := ne_empty (s := s) (by rw [hl]; simp)
    have hn2 : s.toList.isEmpty = false := by simpa using hn
    have hI := fun w => Tryd.strings_IndexByte bs (c.toNat : Int) w
    rw [hl] at h
    rw [cast_byte, ix_not h] at hI
    have hs2 := hs
    unfold maxLen at hs2
    clear hR hl he hn h
    go_enter Tryd.func82, Tryd.ntmps82
    go_wp2_with (go_at_call 89; refine (hI _).mono ?_; rintro e w' ⟨rfl, rfl⟩)
    go_ret
    exact ⟨rfl, rfl⟩
end Go.Proofs.YtmlgcjfcbokibaaDoor
