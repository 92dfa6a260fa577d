/- A text escaped. -/
import Derived.Test.YtlocjhnlemlnmaaLxB
namespace Go.Proofs.Ytlocjhnlemlnmaa.Lx
open Go Go.RowKit

def fours : List UInt8 := [44, 61, 32, 92]
theorem fours_esc (b : UInt8) : fours.contains b = esc4 b := by
  simp only [fours, List.contains_cons, List.contains_nil, Bool.or_false, esc4, Bool.or_assoc]
theorem has4 (b : UInt8) (w : World) : Calls Try.prog 45 #[.string ⟨#[44, 61, 32, 92]⟩, .int .u8 (b.toNat : Int)] w fun e w' => e = .returned (.bool (esc4 b)) ∧ w' = w := by
  have h := has_ok ⟨#[44, 61, 32, 92]⟩ b w
  rw [← fours_esc]
  exact h
theorem in4 (b : UInt8) (w : World) : Calls Try.prog 46 #[.string ⟨#[44, 61, 32, 92]⟩, .int .u8 (b.toNat : Int)] w fun e w' => e = .returned (.bool (esc4 b)) ∧ w' = w := by
  have h := in_ok ⟨#[44, 61, 32, 92]⟩ (by decide) b w
  rw [← fours_esc]
  exact h
theorem escL_cons (b : UInt8) (r : List UInt8) : escL (b :: r) = if esc4 b then 92 :: b :: escL r else b :: escL r := rfl

set_option maxRecDepth 100000 in
set_option maxHeartbeats 4000000 in
theorem escape_ok (s : ByteArray) (hs : s.size ≤ 35184372088832) (w : World) : Calls Try.prog 36 #[.string s] w fun e w' => e = .returned (.string (tx (escL s.data.toList))) ∧ Below w.heap.size w w' := by
  have G0 := Lib.hid (Grew.refl (OwnB.nil w.heap.size w))
  have HE := escL_le s.data.toList
  rw [size_list] at HE
  go_enter Try.func36, Try.ntmps36
  go_wp2
  go_loopg [3, 7] s.size (fun g s3 s7 wx => ∃ k : Nat, s7 = .int .i64 (k : Int) ∧ g + k = s.size ∧ ∃ A, Hid (A ++ escL (s.data.toList.drop k) = escL s.data.toList) ∧ Hid (Grew w.heap.size (.slice none 0 0) A w s3 wx))
  case atStart => exact ⟨0, rfl, rfl, [], Lib.hid rfl, G0⟩
  case round =>
    clear G0
    obtain ⟨k, rfl, hgk, A, HA, HG⟩ := hrel
    cases gk with
    | zero =>
      have hk : k = s.size := by omega
      subst hk
      have hcv := own_back HG.out.1
      have hB := HG.out.below (N := w.heap.size) (by intro g hg; cases hg) (Nat.le_refl _)
      have hA := HA.out
      rw [drop_end (Nat.le_refl _), show escL [] = [] from rfl, List.append_nil] at hA
      rw [hA] at hcv
      clear HA HG hA
      go_wp2
      go_ret
      exact ⟨rfl, hB⟩
    | succ g =>
      have hlt : k < s.size := by omega
      have hd := drop_at hlt
      have hA := HA.out
      rw [hd, escL_cons] at hA
      have hAl : A.length + 2 ≤ 140737488355328 := by
        have h1 := congrArg List.length hA
        have h2 : ∀ r : List UInt8, (if esc4 s[k] = true then 92 :: s[k] :: escL r else s[k] :: escL r).length ≥ 1 := by intro r; split <;> simp
        have h3 := h2 (s.data.toList.drop (k + 1))
        rw [List.length_append] at h1
        omega
      have hsz := HG.out.2.1.size
      by_cases he : esc4 s[k] = true
      · have hp := fun w => has4 s[k] w
        rw [he] at hp
        rw [if_pos he] at hA
        obtain ⟨v1, w1, hr1, hG1⟩ := append_byte 24 HG.out.1 92 (by omega) hsz
        have hs1 := hG1.2.1.size
        obtain ⟨v2, w2, hr2, hG2⟩ := append_byte 24 hG1.1 s[k] (by rw [List.length_append]; simp only [List.length_singleton]; omega) (Nat.le_trans hsz hs1)
        have HG' := Lib.hid (HG.out.trans (hG1.trans hG2))
        rw [show (((92 : UInt8).toNat : Int)) = 92 from rfl] at hr1
        clear HG hG1 hG2 hs1 hd
        go_wp2_with fail
        refine (hp _).mono ?_
        rintro e w' ⟨rfl, rfl⟩
        go_wp2_with (first | (at_builtin; refine Lib.wpList_append_run _ rfl _ _ _ _ rfl _ _ rfl rfl _ _ hr1 ?_) | (at_builtin; refine Lib.wpList_append_run _ rfl _ _ _ _ rfl _ _ rfl rfl _ _ hr2 ?_))
        go_roundg g
        case measure => omega
        case rel => exact ⟨k + 1, by go_num, by omega, A ++ [92] ++ [s[k]], Lib.hid (by rw [← hA]; simp), HG'⟩
      · have he : esc4 s[k] = false := by simpa using he
        have hp := fun w => has4 s[k] w
        rw [he] at hp
        rw [if_neg (by rw [he]; decide)] at hA
        obtain ⟨v2, w2, hr2, hG2⟩ := append_byte 24 HG.out.1 s[k] (by omega) hsz
        have HG' := Lib.hid (HG.out.trans hG2)
        clear HG hG2 hd
        go_wp2_with fail
        refine (hp _).mono ?_
        rintro e w' ⟨rfl, rfl⟩
        go_wp2_with (at_builtin; refine Lib.wpList_append_run _ rfl _ _ _ _ rfl _ _ rfl rfl _ _ hr2 ?_)
        go_roundg g
        case measure => omega
        case rel => exact ⟨k + 1, by go_num, by omega, A ++ [s[k]], Lib.hid (by rw [← hA]; simp), HG'⟩
set_option maxRecDepth 100000 in
set_option maxHeartbeats 4000000 in
theorem ref_escape (s : ByteArray) (hs : s.size ≤ 35184372088832) (w : World) : Calls Try.prog 37 #[.string s] w fun e w' => e = .returned (.string (tx (escL s.data.toList))) ∧ Below w.heap.size w w' := by
  have G0 := Lib.hid (Grew.refl (OwnB.nil w.heap.size w))
  have HE := escL_le s.data.toList
  rw [size_list] at HE
  go_enter Try.func37, Try.ntmps37
  go_wp2
  go_loopg [3, 4] s.size (fun g s3 s7 wx => ∃ k : Nat, s7 = .int .i64 (k : Int) ∧ g + k = s.size ∧ ∃ A, Hid (A ++ escL (s.data.toList.drop k) = escL s.data.toList) ∧ Hid (Grew w.heap.size (.slice none 0 0) A w s3 wx))
  case atStart => exact ⟨0, rfl, rfl, [], Lib.hid rfl, G0⟩
  case round =>
    clear G0
    obtain ⟨k, rfl, hgk, A, HA, HG⟩ := hrel
    cases gk with
    | zero =>
      have hk : k = s.size := by omega
      subst hk
      have hcv := own_back HG.out.1
      have hB := HG.out.below (N := w.heap.size) (by intro g hg; cases hg) (Nat.le_refl _)
      have hA := HA.out
      rw [drop_end (Nat.le_refl _), show escL [] = [] from rfl, List.append_nil] at hA
      rw [hA] at hcv
      clear HA HG hA
      go_wp2
      go_ret
      exact ⟨rfl, hB⟩
    | succ g =>
      have hlt : k < s.size := by omega
      have hd := drop_at hlt
      have hA := HA.out
      rw [hd, escL_cons] at hA
      have hAl : A.length + 2 ≤ 140737488355328 := by
        have h1 := congrArg List.length hA
        have h2 : ∀ r : List UInt8, (if esc4 s[k] = true then 92 :: s[k] :: escL r else s[k] :: escL r).length ≥ 1 := by intro r; split <;> simp
        have h3 := h2 (s.data.toList.drop (k + 1))
        rw [List.length_append] at h1
        omega
      have hsz := HG.out.2.1.size
      by_cases he : esc4 s[k] = true
      · have hp := fun w => in4 s[k] w
        rw [he] at hp
        rw [if_pos he] at hA
        obtain ⟨v1, w1, hr1, hG1⟩ := append_byte 24 HG.out.1 92 (by omega) hsz
        have hs1 := hG1.2.1.size
        obtain ⟨v2, w2, hr2, hG2⟩ := append_byte 24 hG1.1 s[k] (by rw [List.length_append]; simp only [List.length_singleton]; omega) (Nat.le_trans hsz hs1)
        have HG' := Lib.hid (HG.out.trans (hG1.trans hG2))
        rw [show (((92 : UInt8).toNat : Int)) = 92 from rfl] at hr1
        clear HG hG1 hG2 hs1 hd
        go_wp2_with fail
        refine (hp _).mono ?_
        rintro e w' ⟨rfl, rfl⟩
        go_wp2_with (first | (at_builtin; refine Lib.wpList_append_run _ rfl _ _ _ _ rfl _ _ rfl rfl _ _ hr1 ?_) | (at_builtin; refine Lib.wpList_append_run _ rfl _ _ _ _ rfl _ _ rfl rfl _ _ hr2 ?_))
        go_roundg g
        case measure => omega
        case rel => exact ⟨k + 1, by go_num, by omega, A ++ [92] ++ [s[k]], Lib.hid (by rw [← hA]; simp), HG'⟩
      · have he : esc4 s[k] = false := by simpa using he
        have hp := fun w => in4 s[k] w
        rw [he] at hp
        rw [if_neg (by rw [he]; decide)] at hA
        obtain ⟨v2, w2, hr2, hG2⟩ := append_byte 24 HG.out.1 s[k] (by omega) hsz
        have HG' := Lib.hid (HG.out.trans hG2)
        clear HG hG2 hd
        go_wp2_with fail
        refine (hp _).mono ?_
        rintro e w' ⟨rfl, rfl⟩
        go_wp2_with (at_builtin; refine Lib.wpList_append_run _ rfl _ _ _ _ rfl _ _ rfl rfl _ _ hr2 ?_)
        go_roundg g
        case measure => omega
        case rel => exact ⟨k + 1, by go_num, by omega, A ++ [s[k]], Lib.hid (by rw [← hA]; simp), HG'⟩
end Go.Proofs.Ytlocjhnlemlnmaa.Lx
