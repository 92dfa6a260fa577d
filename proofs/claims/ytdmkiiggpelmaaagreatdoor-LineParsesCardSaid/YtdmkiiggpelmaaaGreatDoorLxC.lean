/- A text cut at the first stop that is not escaped. -/
import Derived.Test.YtdmkiiggpelmaaaGreatDoorLxE
namespace Go.Proofs.YtdmkiiggpelmaaaGreatDoor.Lx
open Go Go.RowKit

/-- How many bytes the word has when it ends, or when the form is found wrong. -/
def goneL (st : List UInt8) : List UInt8 → Nat
  | [] => 0
  | b :: r =>
    if st.contains b then 0
    else if b = 92 then match r with
      | [] => 0
      | c :: r' => if esc4 c then goneL st r' + 1 else 0
    else if okB b then goneL st r + 1 else 0
theorem goneL_cons (st : List UInt8) (b : UInt8) (r : List UInt8) : goneL st (b :: r) = if st.contains b then 0
    else if b = 92 then match r with
      | [] => 0
      | c :: r' => if esc4 c then goneL st r' + 1 else 0
    else if okB b then goneL st r + 1 else 0 := by rw [goneL.eq_def]
theorem goneL_le (st : List UInt8) : ∀ l : List UInt8, goneL st l ≤ l.length
  | [] => by simp [goneL]
  | [b] => by
    rw [goneL_cons]
    have := goneL_le st []
    split
    · exact Nat.zero_le _
    · split
      · exact Nat.zero_le _
      · split
        · rw [show goneL st [] = 0 from rfl]; exact Nat.le_refl _
        · exact Nat.zero_le _
  | b :: c :: r => by
    rw [goneL_cons]
    have h1 := goneL_le st (c :: r)
    have h2 := goneL_le st r
    simp only [List.length_cons] at *
    split
    · omega
    · split
      · split <;> omega
      · split <;> omega
theorem gone_esc (st : List UInt8) (hst : ∀ b, b ∈ st → esc4 b = true) (h92 : (92 : UInt8) ∉ st) (t : List UInt8) : ∀ s : List UInt8, plainL s = true → goneL st (escL s ++ t) = s.length + goneL st t
  | [], _ => by simp [escL]
  | b :: r, h => by
    simp only [plainL, List.all_cons, Bool.and_eq_true] at h
    have ih := gone_esc st hst h92 t r h.2
    unfold escL
    by_cases he : esc4 b = true
    · rw [if_pos he]
      simp only [List.cons_append]
      rw [goneL_cons, if_neg (by simpa using h92), if_pos rfl]
      simp only [he, if_true]
      rw [ih, List.length_cons]; omega
    · rw [if_neg he]
      simp only [List.cons_append]
      have hb : b ∉ st := fun hb => he (hst b hb)
      rw [goneL_cons, if_neg (by simpa using hb), if_neg (not92 (by simpa using he)), if_pos h.1, ih, List.length_cons]; omega
theorem gone_stop (st : List UInt8) (x : UInt8) (hx : x ∈ st) (t : List UInt8) : goneL st (x :: t) = 0 := by
  rw [goneL_cons, if_pos (by simpa using hx)]

/-- What is answered. -/
def cutV : Option (List UInt8 × List UInt8 × Option UInt8) → Value
  | none => .tuple #[.string ⟨#[]⟩, .string ⟨#[]⟩, .int .u8 0, .int .i64 2]
  | some (a, r, none) => .tuple #[.string (tx a), .string (tx r), .int .u8 0, .int .i64 0]
  | some (a, r, some b) => .tuple #[.string (tx a), .string (tx r), .int .u8 (b.toNat : Int), .int .i64 0]
def preL (A : List UInt8) (x : Option (List UInt8 × List UInt8 × Option UInt8)) : Option (List UInt8 × List UInt8 × Option UInt8) := x.map fun y => (A ++ y.1, y.2)
theorem preL_nil (x : Option (List UInt8 × List UInt8 × Option UInt8)) : preL [] x = x := by cases x <;> simp [preL]
theorem preL_pre (A B : List UInt8) (x : Option (List UInt8 × List UInt8 × Option UInt8)) : preL A (preL B x) = preL (A ++ B) x := by cases x <;> simp [preL]
section
variable {st : List UInt8} {b c : UInt8} {r : List UInt8}
theorem cut_ugly (h : okB b = false) : cutL st (b :: r) = none := by
  have h9 : b ≠ 92 := by rintro rfl; exact absurd h (by decide)
  rw [cutL_cons, if_neg h9]
  simp [h]
theorem cut_lone (h : (92 : UInt8) ∉ st) : cutL st [92] = none := by
  rw [cutL_cons, if_neg (by simpa using h), if_pos rfl]
theorem cut_odd (h : (92 : UInt8) ∉ st) (hc : esc4 c = false) : cutL st (92 :: c :: r) = none := by
  rw [cutL_cons, if_neg (by simpa using h), if_pos rfl]
  simp only [hc, Bool.false_eq_true, if_false]
theorem cut_two (h : (92 : UInt8) ∉ st) (hc : esc4 c = true) : cutL st (92 :: c :: r) = preL [c] (cutL st r) := by
  rw [cutL_cons, if_neg (by simpa using h), if_pos rfl]
  simp only [hc, if_true, preL, List.cons_append, List.nil_append]
theorem gone_two (h : (92 : UInt8) ∉ st) (hc : esc4 c = true) : goneL st (92 :: c :: r) = goneL st r + 1 := by
  rw [goneL_cons, if_neg (by simpa using h), if_pos rfl]
  simp only [hc, if_true]
theorem cut_one (h : st.contains b = false) (hb : b ≠ 92) (ho : okB b = true) : cutL st (b :: r) = preL [b] (cutL st r) := by
  rw [cutL_cons, if_neg (by rw [h]; decide), if_neg hb, if_pos ho]
  simp only [preL, List.cons_append, List.nil_append]
theorem gone_one (h : st.contains b = false) (hb : b ≠ 92) (ho : okB b = true) : goneL st (b :: r) = goneL st r + 1 := by
  rw [goneL_cons, if_neg (by rw [h]; decide), if_neg hb, if_pos ho]
theorem cut_here (h : st.contains b = true) (ho : okB b = true) : cutL st (b :: r) = some ([], r, some b) := by
  rw [cutL_cons, if_pos h, if_pos ho]
end
theorem is92 (b : UInt8) (h : b = 92) : ((b.toNat : Int) == 92) = true := by rw [h]; rfl
theorem not92i (b : UInt8) (h : b ≠ 92) : ((b.toNat : Int) == 92) = false := by
  rw [beq_eq_false_iff_ne]
  intro e
  exact h (UInt8.toNat_inj.1 (by have : (92 : UInt8).toNat = 92 := rfl; omega))
theorem has92 (st : ByteArray) (w : World) : Calls Tryz.prog 40 #[.string st, .int .u8 92] w fun e w' => e = .returned (.bool (st.data.toList.contains 92)) ∧ w' = w := has_ok st 92 w
theorem in92 (st : ByteArray) (h : st.size ≤ maxLen) (w : World) : Calls Tryz.prog 29 #[.string st, .int .u8 92] w fun e w' => e = .returned (.bool (st.data.toList.contains 92)) ∧ w' = w := in_ok st h 92 w

theorem ext_piece (s : ByteArray) (i j : Nat) : s.extract i j = tx ((s.data.toList.drop i).take (j - i)) := by
  unfold tx
  apply ByteArray.ext
  apply Array.toList_inj.1
  simp [ByteArray.data_extract, List.take_drop]
theorem ext_drop (s : ByteArray) (k : Nat) : s.extract k s.size = tx (s.data.toList.drop k) := by
  rw [ext_piece, List.take_of_length_le (by rw [List.length_drop, size_list]; omega)]
theorem results4 {fn : Func} {a b c d : Tmp} (h : fn.results = #[.tmp a, .tmp b, .tmp c, .tmp d]) (tmps : Array Value) (P : Program) (w : World) :
    (results fn tmps).run P w = .ok (.tuple #[tmps.getD a undef, tmps.getD b undef, tmps.getD c undef, tmps.getD d undef]) w := by
  simp [results, h]
theorem plain92 (w : World) : Calls Tryz.prog 67 #[.int .u8 92] w fun e w' => e = .returned (.bool true) ∧ w' = w := plain_ok 92 w

theorem cut_arg (s st : ByteArray) (h : (92 : UInt8) ∈ st.data.toList) (w : World) :
    Calls Tryz.prog 46 #[.string s, .string st] w fun e w' => e = .returned (.tuple #[.string ⟨#[]⟩, .string ⟨#[]⟩, .int .u8 0, .int .i64 1]) ∧ w' = w := by
  have hp := fun w => has92 st w
  rw [show st.data.toList.contains 92 = true by simpa using h] at hp
  go_enter Tryz.func46, Tryz.ntmps46
  go_wp2
  go_step3
  go_wp2_with fail
  refine (hp _).mono ?_
  rintro e w' ⟨rfl, rfl⟩
  go_wp2
  (try simp only [Exit.noGoto_ret])
  refine bodyPost_ret (results4 rfl _ _ _) rfl ?_
  exact ⟨rfl, rfl⟩

set_option maxRecDepth 100000 in
set_option maxHeartbeats 4000000 in
theorem cut_ok (s st : ByteArray) (hs : s.size ≤ 9223372036854775806) (h92 : (92 : UInt8) ∉ st.data.toList) (hg : goneL st.data.toList s.data.toList ≤ 70368744177664) (w : World) :
    Calls Tryz.prog 46 #[.string s, .string st] w fun e w' => e = .returned (cutV (cutL st.data.toList s.data.toList)) ∧ Below w.heap.size w w' := by
  have G0 := Lib.hid (Grew.refl (OwnB.nil w.heap.size w))
  have h9 := fun w => has92 st w
  rw [show st.data.toList.contains 92 = false by simpa using h92] at h9
  obtain ⟨V, hV⟩ : ∃ V, cutL st.data.toList s.data.toList = V := ⟨_, rfl⟩
  rw [hV]
  have HV := Lib.hid hV
  clear hV
  go_enter Tryz.func46, Tryz.ntmps46
  go_wp2
  go_step3
  go_wp2_with fail
  refine (h9 _).mono ?_
  rintro e w' ⟨rfl, rfl⟩
  clear h9
  go_wp2
  go_step3
  go_wp2
  go_loopg [5, 6, 8, 9] s.size (fun g s5 s6 s8 s9 wx => ∃ k : Nat, s9 = .int .i64 (k : Int) ∧ g + k = s.size ∧ s5 = .string ⟨#[]⟩ ∧ s6 = .int .u8 0 ∧ ∃ A, Hid (preL A (cutL st.data.toList (s.data.toList.drop k)) = V) ∧ A.length + goneL st.data.toList (s.data.toList.drop k) ≤ 70368744177664 ∧ Hid (Grew w'.heap.size (.slice none 0 0) A w' s8 wx))
  case atStart => exact ⟨0, rfl, rfl, rfl, rfl, [], Lib.hid (by rw [preL_nil]; exact HV.out), by simpa using hg, G0⟩
  case round =>
    clear G0 HV hg
    obtain ⟨k, rfl, hgk, rfl, rfl, A, HA, hgo, HG⟩ := hrel
    have hsz := HG.out.2.1.size
    have hB := HG.out.below (N := w'.heap.size) (by intro g hg; cases hg) (Nat.le_refl _)
    by_cases hlt : k < s.size
    · have hd := drop_at hlt
      rw [hd] at hgo
      have hA := HA.out
      rw [hd] at hA
      clear HA
      by_cases ho : okB s[k] = true
      · have hp := fun w => plain_ok s[k] w
        rw [ho] at hp
        by_cases h2 : s[k] = 92
        · have h2i := is92 _ h2
          by_cases hlt2 : k + 1 < s.size
          · have hd2 := drop_at hlt2
            rw [hd2, h2] at hA hgo
            have hq := fun w => has4 s[k + 1] w
            have hne : (((k + 1 : Nat) : Int) == (s.size : Int)) = false := by rw [beq_eq_false_iff_ne]; omega
            by_cases he : esc4 s[k + 1] = true
            · rw [he] at hq
              rw [cut_two h92 he, preL_pre] at hA
              rw [gone_two h92 he] at hgo
              obtain ⟨v2, w2, hr2, hG2⟩ := append_byte 25 HG.out.1 s[k + 1] (by omega) hsz
              have HG' := Lib.hid (HG.out.trans hG2)
              have HA' := Lib.hid hA
              clear HG hG2 hd hd2 hA
              clear hp
              go_wp2_with fail
              refine (plain92 _).mono ?_
              rintro e w3 ⟨rfl, rfl⟩
              go_wp2_with fail
              refine (hq _).mono ?_
              rintro e w3 ⟨rfl, rfl⟩
              go_wp2_with (at_builtin; refine Lib.wpList_append_run _ rfl _ _ _ _ rfl _ _ rfl rfl _ _ hr2 ?_)
              go_roundg (s.size - (k + 1 + 1))
              case measure => omega
              case rel => exact ⟨k + 1 + 1, by go_num, by omega, rfl, rfl, A ++ [s[k + 1]], HA', by rw [List.length_append, List.length_singleton]; omega, HG'⟩
            · have he : esc4 s[k + 1] = false := by simpa using he
              rw [he] at hq
              rw [cut_odd h92 he] at hA
              obtain rfl : none = V := hA
              clear hd hd2 HG hgo hp
              go_wp2_with fail
              refine (plain92 _).mono ?_
              rintro e w3 ⟨rfl, rfl⟩
              go_wp2_with fail
              refine (hq _).mono ?_
              rintro e w3 ⟨rfl, rfl⟩
              go_wp2
              (try simp only [Exit.noGoto_ret])
              refine bodyPost_ret (results4 rfl _ _ _) rfl ?_
              exact ⟨rfl, hB⟩
          · have hne : (((k + 1 : Nat) : Int) == (s.size : Int)) = true := by rw [beq_iff_eq]; omega
            have hk1 : (k : Int) + 1 = (s.size : Int) := by omega
            rw [drop_end (by omega), h2, cut_lone h92] at hA
            obtain rfl : none = V := hA
            clear hd HG hgo hp hne
            go_wp2_with fail
            refine (plain92 _).mono ?_
            rintro e w3 ⟨rfl, rfl⟩
            go_wp2
            (try simp only [Exit.noGoto_ret])
            refine bodyPost_ret (results4 rfl _ _ _) rfl ?_
            exact ⟨rfl, hB⟩
        · have h2i := not92i _ h2
          have hq := fun w => has_ok st s[k] w
          by_cases hc : st.data.toList.contains s[k] = true
          · rw [hc] at hq
            rw [cut_here hc ho] at hA
            obtain rfl : some (A, s.data.toList.drop (k + 1), some s[k]) = V := by rw [← hA]; simp [preL]
            clear hA
            have hcv := own_back HG.out.1
            have hk : k + 1 ≤ s.size := by omega
            clear hd HG hgo
            go_wp2_with fail
            refine (hp _).mono ?_
            rintro e w3 ⟨rfl, rfl⟩
            go_wp2_with fail
            refine (hq _).mono ?_
            rintro e w3 ⟨rfl, rfl⟩
            go_wp2
            (try simp only [Exit.noGoto_ret])
            refine bodyPost_ret (results4 rfl _ _ _) rfl ?_
            exact ⟨by rw [show cutV (some (A, s.data.toList.drop (k + 1), some s[k])) = .tuple #[.string (tx A), .string (tx (s.data.toList.drop (k + 1))), .int .u8 (s[k].toNat : Int), .int .i64 0] from rfl, ← ext_drop]; rfl, hB⟩
          · have hc : st.data.toList.contains s[k] = false := by simpa using hc
            rw [hc] at hq
            rw [cut_one hc h2 ho, preL_pre] at hA
            rw [gone_one hc h2 ho] at hgo
            obtain ⟨v2, w2, hr2, hG2⟩ := append_byte 25 HG.out.1 s[k] (by omega) hsz
            have HG' := Lib.hid (HG.out.trans hG2)
            have HA' := Lib.hid hA
            clear HG hG2 hd hA
            go_wp2_with fail
            refine (hp _).mono ?_
            rintro e w3 ⟨rfl, rfl⟩
            go_wp2_with fail
            refine (hq _).mono ?_
            rintro e w3 ⟨rfl, rfl⟩
            go_wp2_with (at_builtin; refine Lib.wpList_append_run _ rfl _ _ _ _ rfl _ _ rfl rfl _ _ hr2 ?_)
            go_roundg (s.size - (k + 1))
            case measure => omega
            case rel => exact ⟨k + 1, by go_num, by omega, rfl, rfl, A ++ [s[k]], HA', by rw [List.length_append, List.length_singleton]; omega, HG'⟩
      · have ho : okB s[k] = false := by simpa using ho
        have hp := fun w => plain_ok s[k] w
        rw [ho] at hp
        rw [cut_ugly ho] at hA
        obtain rfl : none = V := hA
        clear hd HG hgo
        go_wp2_with fail
        refine (hp _).mono ?_
        rintro e w2 ⟨rfl, rfl⟩
        go_wp2
        (try simp only [Exit.noGoto_ret])
        refine bodyPost_ret (results4 rfl _ _ _) rfl ?_
        exact ⟨rfl, hB⟩
    · have hA := HA.out
      rw [drop_end (by omega)] at hA
      obtain rfl : some (A, [], none) = V := by rw [← hA]; simp [cutL, preL]
      have hcv := own_back HG.out.1
      have hk : k = s.size := by omega
      subst hk
      clear HG hA HA
      go_wp2
      (try simp only [Exit.noGoto_ret])
      refine bodyPost_ret (results4 rfl _ _ _) rfl ?_
      exact ⟨rfl, hB⟩
end Go.Proofs.YtdmkiiggpelmaaaGreatDoor.Lx
