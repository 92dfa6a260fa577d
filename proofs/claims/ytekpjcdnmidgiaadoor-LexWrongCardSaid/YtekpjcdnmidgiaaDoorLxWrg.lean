/- LexWrong: what is not read, and an escape of what is not escaped, or of nothing, are refused, wherever they stand. -/
import Derived.Test.YtekpjcdnmidgiaaDoorLxBak
namespace Go.Proofs.YtekpjcdnmidgiaaDoor
open Go Go.RowKit

/-- What is wrong: which one. -/
def badL : Nat → List UInt8
  | 0 => [0]
  | 1 => [31]
  | 2 => [127]
  | 3 => [10]
  | 4 => [92, 97]
  | _ => [92, 35]
theorem bad_any (r : Nat) (hr : r < 6) (a b : List UInt8) (ha : plainL a = true) : cutL [] (escL a ++ (badL r ++ escL b)) = none := by
  refine cut_bad a _ ha ?_
  match r, hr with
  | 0, _ => exact bad_byte _ (by decide) _
  | 1, _ => exact bad_byte _ (by decide) _
  | 2, _ => exact bad_byte _ (by decide) _
  | 3, _ => exact bad_byte _ (by decide) _
  | 4, _ => exact bad_esc _ (by decide) _
  | 5, _ => exact bad_esc _ (by decide) _
theorem bad_len (r : Nat) : (badL r).length ≤ 2 := by
  unfold badL
  split <;> simp
theorem bad_cell (r : Nat) (hr : r < 6) : ([Value.string ⟨#[0]⟩, Value.string ⟨#[31]⟩, Value.string ⟨#[127]⟩, Value.string ⟨#[10]⟩, Value.string ⟨#[92, 97]⟩, Value.string ⟨#[92, 35]⟩] : List Value)[r]'(by simpa using hr) = .string (tx (badL r)) := by
  match r, hr with
  | 0, _ => rfl
  | 1, _ => rfl
  | 2, _ => rfl
  | 3, _ => rfl
  | 4, _ => rfl
  | 5, _ => rfl
theorem wrong_cut (r : Nat) (hr : r < 6) (a b : List UInt8) (hn : (a ++ b).length ≤ 60) (ha : plainL a = true) (w : World) :
    Calls Tryd.prog 11 #[.string (tx (escL a) ++ tx (badL r) ++ tx (escL b)), .string ⟨#[]⟩] w fun e w' => e = .returned (.tuple #[.string ⟨#[]⟩, .string ⟨#[]⟩, .int .u8 0, .int .i64 2]) ∧ Below w.heap.size w w' := by
  have hd : (tx (escL a) ++ tx (badL r) ++ tx (escL b)).data.toList = escL a ++ (badL r ++ escL b) := by rw [cat_list, cat_list, list_tx, list_tx, list_tx, List.append_assoc]
  have h1 := escL_le a
  have h2 := escL_le b
  have h3 := bad_len r
  rw [List.length_append] at hn
  have h := cut_ok (tx (escL a) ++ tx (badL r) ++ tx (escL b)) ⟨#[]⟩ (by rw [ByteArray.size_append, ByteArray.size_append, tx_len, tx_len, tx_len]; omega) (by decide)
    (by refine Nat.le_trans (goneL_le _ _) ?_; rw [hd, List.length_append, List.length_append]; omega) w
  rw [hd, show (⟨#[]⟩ : ByteArray).data.toList = [] from rfl, bad_any r hr a b ha] at h
  exact h
theorem wrong_end (l : List UInt8) (hn : l.length ≤ 60) (hl : plainL l = true) (w : World) :
    Calls Tryd.prog 11 #[.string (tx (escL l) ++ ⟨#[92]⟩), .string ⟨#[]⟩] w fun e w' => e = .returned (.tuple #[.string ⟨#[]⟩, .string ⟨#[]⟩, .int .u8 0, .int .i64 2]) ∧ Below w.heap.size w w' := by
  have hd : (tx (escL l) ++ ⟨#[92]⟩).data.toList = escL l ++ [92] := by rw [cat_list, list_tx]
  have h1 := escL_le l
  have h := cut_ok (tx (escL l) ++ ⟨#[92]⟩) ⟨#[]⟩ (by rw [ByteArray.size_append, tx_len, show (⟨#[92]⟩ : ByteArray).size = 1 from rfl]; omega) (by decide)
    (by refine Nat.le_trans (goneL_le _ _) ?_; rw [hd, List.length_append]; simp only [List.length_singleton]; omega) w
  rw [hd, show (⟨#[]⟩ : ByteArray).data.toList = [] from rfl, cut_bad l [92] hl bad_end] at h
  exact h
/-- One byte more of a word that is escaped. -/
theorem esc_step {a r : List UInt8} {c : UInt8} {E : ByteArray} {k : Nat} (hE : E.data.toList = escL (a ++ c :: r)) (hk : k = (escL a).length) :
    ∃ hlt : k < E.size, (esc4 c = true → E[k] = 92 ∧ (escL (a ++ [c])).length = k + 2) ∧ (esc4 c = false → E[k] = c ∧ c ≠ 92 ∧ (escL (a ++ [c])).length = k + 1) := by
  subst hk
  have hz : E.size = (escL (a ++ c :: r)).length := by rw [← hE, size_list]
  have hlt : (escL a).length < E.size := by
    rw [hz, escL_append, List.length_append, escL_cons]
    split <;> simp only [List.length_cons] <;> omega
  refine ⟨hlt, ?_, ?_⟩
  all_goals
    intro he
    have hd := drop_at hlt
    rw [hE, escL_append, List.drop_left, escL_cons] at hd
    rw [escL_append, List.length_append, escL_cons]
  · rw [if_pos he] at hd ⊢
    rw [List.cons.injEq] at hd
    exact ⟨hd.1.symm, by rw [show escL [] = [] from rfl]; rfl⟩
  · rw [if_neg (by rw [he]; decide)] at hd ⊢
    rw [List.cons.injEq] at hd
    exact ⟨hd.1.symm, not92 he, by rw [show escL [] = [] from rfl]; rfl⟩

set_option maxRecDepth 100000 in
set_option maxHeartbeats 8000000 in
theorem LexWrong_walk (s : ByteArray) (hs : s.size ≤ maxLen) (hs2 : s.size ≤ 140737488355328) (p : Int) (hp : (Lit.int .u8 p).wf = true) (b : Int) (hb : (Lit.int .u8 b).wf = true) (w : World) :
    Calls Tryd.prog 6 #[.string s, .int .u8 p, .int .u8 b] w fun e w' => e = .returned (.bool true) ∧ Below w.heap.size w w' := by
  obtain ⟨hb0, hb1⟩ := wf_third hb
  obtain ⟨hp0, hp1⟩ := wf_third hp
  have hw := fun w => word_ok s hs w
  have hlp := wordL_plain s.data.toList
  have hln := wordL_len s.data.toList
  generalize wordL s.data.toList = l at hw hlp hln
  have he := fun w => escape_ok (tx l) (by rw [tx_len]; omega) w
  rw [list_tx] at he
  have hend := fun w => wrong_end l hln hlp w
  have hEd : (tx (escL l)).data.toList = escL l := rfl
  have hEs := esc_size l hln
  have hex := fun w => ex_ok w
  obtain ⟨r, h6, hr⟩ : ∃ r : Nat, b % 6 = (r : Int) ∧ r < 6 := ⟨(b % 6).toNat, by omega, by omega⟩
  have hcell := bad_cell r hr
  have hbs : (tx (badL r)).size ≤ 2 := by rw [tx_len]; exact bad_len r
  have HWC := Lib.hid (fun a c hn ha w => wrong_cut r hr a c hn ha w)
  generalize tx (badL r) = D at *
  generalize tx (escL l) = E at *
  obtain ⟨m, hm, hmE⟩ : ∃ m : Nat, p % ((E.size : Int) + 1) = (m : Int) ∧ m ≤ E.size := by
    have h1 := Int.emod_nonneg p (show ((E.size : Int) + 1) ≠ 0 by omega)
    have h2 := Int.emod_lt_of_pos p (show (0 : Int) < (E.size : Int) + 1 by omega)
    exact ⟨(p % ((E.size : Int) + 1)).toNat, by omega, by omega⟩
  have HP := Lib.hid hlp
  have HE := Lib.hid hEd
  have HN := Lib.hid hln
  clear hs hs2 hb hp hlp hEd hln
  go_enter Tryd.func6, Tryd.ntmps6
  go_wp2_with fail
  refine (hex _).mono ?_
  rintro e w1 ⟨rfl, hB1⟩
  go_wp2_with fail
  refine (hw _).mono ?_
  rintro e w2 ⟨rfl, hB2⟩
  have hB := hB1.trans (hB2.mono hB1.size)
  clear hB1 hB2
  go_wp2_with fail
  refine (he _).mono ?_
  rintro e w3 ⟨rfl, hB3⟩
  have hB' := hB.trans (hB3.mono hB.size)
  clear hB hB3
  go_wp2
  go_loopg [9, 10] E.size (fun g s9 s10 wx => ∃ (a c : List UInt8) (k : Nat), s9 = .int .i64 (k : Int) ∧ s10 = .int .i64 (k : Int) ∧ g + k = E.size ∧ Hid (l = a ++ c) ∧ Hid (k = (escL a).length) ∧ Hid (Below w.heap.size w wx))
  case atStart => exact ⟨[], l, 0, rfl, rfl, rfl, Lib.hid rfl, Lib.hid rfl, Lib.hid (hB'.alloc hB'.size _)⟩
  case round =>
    obtain ⟨a, c, k, rfl, rfl, hgk, HA, HK, HB⟩ := hrel
    by_cases hlt : k < m
    · have hlE : k < E.size := by omega
      match c, HA with
      | [], HA =>
        exfalso
        have h1 := HA.out
        rw [List.append_nil] at h1
        have h2 := congrArg List.length HE.out
        rw [size_list, h1, ← HK.out] at h2
        omega
      | x :: c, HA =>
        have hE2 := HE.out
        rw [HA.out] at hE2
        obtain ⟨_, h1, h2⟩ := esc_step hE2 HK.out
        clear hE2
        have HA' : Hid (l = (a ++ [x]) ++ c) := Lib.hid (by rw [HA.out]; simp)
        by_cases hx : esc4 x = true
        · obtain ⟨hk1, hk2⟩ := h1 hx
          have hi := is92 _ hk1
          have HK2 := Lib.hid hk2.symm
          have hle : k + 2 ≤ E.size := by
            have h3 := congrArg List.length HE.out
            rw [size_list, HA'.out, escL_append, List.length_append, hk2] at h3
            omega
          clear h1 h2 hk1 hk2 hx
          go_wp2
          go_roundg (E.size - (k + 2))
          case measure => omega
          case rel => exact ⟨a ++ [x], c, k + 2, by go_num, by go_num, by omega, HA', HK2, HB⟩
        · obtain ⟨hk1, hk2, hk3⟩ := h2 (by simpa using hx)
          have hi := not92i x hk2
          rw [← hk1] at hi
          have HK3 := Lib.hid hk3.symm
          clear h1 h2 hk1 hk2 hk3 hx
          go_wp2
          go_roundg (E.size - (k + 1))
          case measure => omega
          case rel => exact ⟨a ++ [x], c, k + 1, by go_num, by go_num, by omega, HA', HK3, HB⟩
    · have hkE : k ≤ E.size := by omega
      have hmin : min (k : Int) (E.size : Int) = (k : Int) := by omega
      have hs1 : tx (escL a) = E.extract 0 k := by
        rw [ext_piece, HE.out, HA.out, escL_append, HK.out]; simp
      have hs2 : tx (escL c) = E.extract k E.size := by
        rw [ext_drop, HE.out, HA.out, escL_append, HK.out]; simp
      have hwc := HWC.out a c (by rw [← HA.out]; exact HN.out) (by have := HP.out; rw [HA.out, plainL_append, Bool.and_eq_true] at this; exact this.1)
      rw [hs1, hs2] at hwc
      have z0 : (E.extract 0 k).size = k := by rw [ByteArray.size_extract]; omega
      have z1 : (E.extract k E.size).size = E.size - k := by rw [ByteArray.size_extract]; omega
      have z2 : (9223372036854775807 < k + D.size) = False := eq_false (by omega)
      have z3 : (9223372036854775807 < k + D.size + (E.size - k)) = False := eq_false (by omega)
      have z5 : (9223372036854775807 < E.size + (⟨#[92]⟩ : ByteArray).size) = False := eq_false (by have : (⟨#[92]⟩ : ByteArray).size = 1 := rfl; omega)
      have z4 : (9223372036854775807 < E.size + 1) = False := eq_false (by omega)
      clear hs1 hs2 HWC HA HK HP HE HN hgk
      have hBw := HB.out
      clear HB
      go_wp2_with fail
      clear hex hw he
      go_region_with (refine (hwc _).mono ?_; rintro e w4 ⟨rfl, hB4⟩)
      all_goals
        have hB5 : Below w.heap.size w w4 := hBw.drew.trans (hB4.mono (by simpa using hBw.size))
        clear hB4 hwc
        go_wp2_with fail
        refine (hend _).mono ?_
        rintro e w5 ⟨rfl, hB6⟩
        have hB7 := hB5.trans (hB6.mono hB5.size)
        clear hB5 hB6
        go_wp2
        go_ret
        exact ⟨rfl, hB7⟩
end Go.Proofs.YtekpjcdnmidgiaaDoor
