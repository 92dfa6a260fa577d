/- The chapter's own answer: signs, digits, zeros ahead, numbers. The chapter's own answer: signs, numbers, whole numbers. The chapter's own answer: whole numbers. -/
import Derived.Test.YtdhkonaebhpeeaaDoorPoWh
import Derived.Deep.QuietTactic
import Derived.BigQuiet
import Derived.Deep.Cut
import Derived.Deep.CutBlock
import Derived.Deep.DeepCutAuto
namespace Go.Proofs.YtdhkonaebhpeeaaDoor
open Go Go.RowKit

theorem ref_digits (s : ByteArray) (hs : s.size ≤ maxLen) (w : World) :
    Calls Tryd.prog 53 #[.string s] w fun e w' => e = .returned (.int .i64 ((dig s.data.toList).length : Nat)) ∧ w = w' := by
  unfold maxLen at hs
  have fin : ∀ k : Nat, k ≤ s.size → AllDig (s.data.toList.take k) → NoDig (s.data.toList.drop k) → ((dig s.data.toList).length : Nat) = k := by
    intro k hk h1 h2
    obtain ⟨e1, e2⟩ := dig_stop h1 h2
    rw [e1, List.length_take, size_list]; omega
  have FIN := Lib.hid fin
  clear fin
  go_enter Tryd.func53, Tryd.ntmps53
  go_wp2
  go_loopg [3] s.size (fun g s3 wx => ∃ k : Nat, k + g = s.size ∧ s3 = .int .i64 k ∧ Hid (AllDig (s.data.toList.take k)) ∧ wx = w)
  case atStart => exact ⟨0, by omega, rfl, Lib.hid (fun c hc => by simp at hc), rfl⟩
  case round =>
    obtain ⟨k, hkg, rfl, HA, rfl⟩ := hrel
    cases gk with
    | zero =>
      have hkz : ¬ ((k : Int) < (s.size : Int)) := by omega
      have F := Lib.hid (FIN.out k (by omega) HA.out (by rw [List.drop_eq_nil_of_le (by rw [size_list]; omega)]; exact NoDig.nil))
      go_wp2
      go_ret
      exact ⟨by rw [F.out]; rfl, rfl⟩
    | succ g =>
      have hlt : k < s.size := by omega
      have hkz : (k : Int) < (s.size : Int) := by omega
      obtain ⟨x, hx⟩ : ∃ x : UInt8, s[k] = x := ⟨_, rfl⟩
      have HX := Lib.hid (show s.data.toList.drop k = x :: s.data.toList.drop (k + 1) by rw [drop_at hlt, hx])
      by_cases hd1 : (48 : Int) ≤ (x.toNat : Int)
      · by_cases hd2 : (x.toNat : Int) ≤ 57
        · have HA2 : Hid (AllDig (s.data.toList.take (k + 1))) := Lib.hid (by rw [take_at hlt, hx]; exact HA.out.snoc (by simp [isDig]; omega))
          clear HA HX
          go_wp2
          go_roundg g
          case measure => omega
          case rel => exact ⟨k + 1, by omega, by go_num, HA2, rfl⟩
        · have F := Lib.hid (FIN.out k (by omega) HA.out (by rw [HX.out]; exact NoDig.cons (by simp [isDig]; omega)))
          clear HX
          go_wp2
          go_ret
          exact ⟨by rw [F.out]; rfl, rfl⟩
      · have F := Lib.hid (FIN.out k (by omega) HA.out (by rw [HX.out]; exact NoDig.cons (by simp [isDig]; omega)))
        clear HX
        go_wp2
        go_ret
        exact ⟨by rw [F.out]; rfl, rfl⟩

theorem trim_step (t : List UInt8) : Lib.trimLeftB (48 :: t) 48 = Lib.trimLeftB t 48 := by
  unfold Lib.trimLeftB; rw [List.dropWhile_cons, if_pos (by simp)]
theorem trim_stop {c : UInt8} (t : List UInt8) (h : c ≠ 48) : Lib.trimLeftB (c :: t) 48 = c :: t := by
  unfold Lib.trimLeftB; rw [List.dropWhile_cons, if_neg (by simpa using h)]

set_option maxHeartbeats 1000000 in
theorem ref_trim (l : List UInt8) (hs : l.length ≤ maxLen) (w : World) :
    Calls Tryd.prog 59 #[.string (tx l)] w fun e w' => e = .returned (.string (tx (Lib.trimLeftB l 48))) ∧ w = w' := by
  unfold maxLen at hs
  go_enter Tryd.func59, Tryd.ntmps59
  go_wp2
  go_loopg [0] l.length (fun g s0 wx => ∃ m : List UInt8, m.length ≤ g ∧ m.length ≤ l.length ∧ s0 = .string (tx m) ∧ Hid (Lib.trimLeftB m 48 = Lib.trimLeftB l 48) ∧ wx = w)
  case atStart => exact ⟨l, Nat.le_refl _, Nat.le_refl _, rfl, Lib.hid rfl, rfl⟩
  case round =>
    obtain ⟨m, hmg, hml, rfl, HM, rfl⟩ := hrel
    cases m with
    | nil =>
      have hem : (tx ([] : List UInt8)).toList = [] := is_empty rfl
      have HE : Hid (tx ([] : List UInt8) = tx (Lib.trimLeftB l 48)) := Lib.hid (by rw [← HM.out]; rfl)
      generalize tx ([] : List UInt8) = M at hem HE
      go_wp2
      go_ret
      exact ⟨by rw [← HE.out]; rfl, rfl⟩
    | cons c t =>
      obtain ⟨hz, hx, he⟩ := first_of (s := tx (c :: t)) (c := c) (t := t) rfl
      have hn := tx_ne (l := c :: t) (by simp)
      have hn2 := tx_ne2 (l := c :: t) (by simp)
      have hsz : (tx (c :: t)).size ≤ 9223372036854775807 := by rw [tx_len]; omega
      by_cases hc : c = 48
      · have HN : Hid (Lib.trimLeftB t 48 = Lib.trimLeftB l 48) := Lib.hid (by rw [← HM.out, hc, trim_step])
        have e4 : (c.toNat : Int) = 48 := by rw [hc]; rfl
        have HEX := Lib.hid he
        cases gk with
        | zero => simp at hmg
        | succ g =>
          simp only [List.length_cons] at hmg hml
          clear HM hc he
          generalize tx (c :: t) = M at *
          go_wp2
          go_roundg g
          case measure => omega
          case rel => exact ⟨t, by omega, by omega, by rw [HEX.out], HN, rfl⟩
      · have HE : Hid (tx (c :: t) = tx (Lib.trimLeftB l 48)) := Lib.hid (by rw [← HM.out, trim_stop t hc])
        have e4 : ((c.toNat : Int) == 48) = false := by
          rw [beq_eq_false_iff_ne]
          intro h
          exact hc (UInt8.toNat_inj.1 (by have : c.toNat = 48 := by omega
                                          rw [this]; rfl))
        clear HM hc he
        generalize tx (c :: t) = M at *
        go_wp2
        go_ret
        exact ⟨by rw [← HE.out]; rfl, rfl⟩
end Go.Proofs.YtdhkonaebhpeeaaDoor

namespace Go.Proofs.YtdhkonaebhpeeaaDoor
open Go Go.RowKit

set_option maxRecDepth 100000 in
set_option maxHeartbeats 8000000 in
theorem ref_number (b : Bool) (l : List UInt8) (hd : AllDig l) (hl : l.length ≤ 40000) (w : World) :
    Calls Tryd.prog 54 #[.string (tx l), .bool b] w fun e w' => e = .returned (.tuple #[.int .i64 (fitF b (val l)).1, .int .i64 (fitF b (val l)).2]) ∧ w = w' := by
  have h1 := fun w => ref_trim l (by unfold maxLen; omega) w
  by_cases h19 : 19 < (Lib.trimLeftB l 48).length
  · have hf : fitF b (val l) = (0, 7) := fit_far (Nat.le_trans (Nat.pow_le_pow_right (by decide) (by omega)) (trimL_ge hd (by intro h; rw [h] at h19; simp at h19)))
    rw [hf]
    have hsz : (19 : Int) < ((tx (Lib.trimLeftB l 48)).size : Int) := by rw [tx_len]; omega
    clear hf h19
    generalize tx (Lib.trimLeftB l 48) = M at h1 hsz
    go_enter Tryd.func54, Tryd.ntmps54
    go_wp2_with fail
    refine (h1 _).mono ?_
    rintro e w1 ⟨rfl, rfl⟩
    go_wp2
    go_ret2
    exact ⟨rfl, rfl⟩
  · have hsd : AllDig (tx (Lib.trimLeftB l 48)).data.toList := trimL_all hd
    have hsz : (tx (Lib.trimLeftB l 48)).size ≤ 19 := by rw [tx_len]; omega
    have hsv : val (tx (Lib.trimLeftB l 48)).data.toList = val l := trimL_val l
    have hvl : val l < 10 ^ 19 := by
      have h2 := val_lt (trimL_all hd)
      rw [trimL_val] at h2
      exact Nat.lt_of_lt_of_le h2 (Nat.pow_le_pow_right (by decide) (by omega))
    generalize val l = v at hsv hvl ⊢
    generalize tx (Lib.trimLeftB l 48) = s at h1 hsd hsz hsv
    have HD := Lib.hid hsd
    have HV0 := Lib.hid hsv
    have hvb : v < 18446744073709551616 := Nat.lt_trans hvl (by decide)
    clear hsd hsv h19 hvl
    have hres : Hid (fitF b v = if v ≤ most b then (sgn b v, 0) else (0, 7)) := Lib.hid rfl
    generalize fitF b v = r at hres ⊢
    obtain ⟨r1, r2⟩ := r
    have HNF := Lib.hid (fun h => neg_far v h)
    cases b
    · go_enter Tryd.func54, Tryd.ntmps54
      go_wp2_with fail
      refine (h1 _).mono ?_
      rintro e w1 ⟨rfl, rfl⟩
      clear h1
      go_wp2
      go_loop [6, 7] (fun f i => ∃ k : Nat, k ≤ s.size ∧ i = .int .i64 k ∧ f = .int .u64 (val (s.data.toList.take k))) (fun _ i => s.size - (intOf i).toNat)
      case atStart => exact ⟨0, Nat.zero_le _, rfl, rfl⟩
      case round =>
        obtain ⟨k, hk, rfl, rfl⟩ := hrel
        by_cases hlt : k < s.size
        · have hts := val_snoc (s.data.toList.take k) s[k]
          rw [← take_at hlt] at hts
          have hb := val_take HD.out k (by omega)
          have hc := HD.out s[k] (by rw [← List.take_append_drop k s.data.toList, drop_at hlt]; simp)
          simp only [isDig, Bool.and_eq_true, decide_eq_true_eq] at hc
          obtain ⟨hc1, hc2⟩ := hc
          have hc3 : (48 : Int) ≤ (s[k].toNat : Int) := by omega
          have hc4 : (s[k].toNat : Int) ≤ 57 := by omega
          have HT := Lib.hid hts
          generalize hV : val (s.data.toList.take k) = V at hb ⊢
          have hb2 : (V : Int) ≤ 999999999999999999 := by omega
          have HV := Lib.hid hV
          clear hts hV hb hc1 hc2
          go_wp2
          go_round
          case rel => exact ⟨k + 1, by omega, by go_num, by rw [HT.out, HV.out]; congr 1; omega⟩
          case measure => simp [intOf]; omega
        · have hkz : k = s.size := by omega
          have ht : s.data.toList.take k = s.data.toList := List.take_of_length_le (by rw [size_list]; omega)
          rw [ht, HV0.out]
          clear ht hkz
          have hr := hres.out
          unfold most at hr
          simp only [Bool.false_eq_true, if_false] at hr
          by_cases hv : v ≤ 9223372036854775807
          · rw [if_pos hv] at hr
            obtain ⟨rfl, rfl⟩ := Prod.mk.inj hr
            have hnf := HNF.out (by omega)
            have hvi : (v : Int) < 9223372036854775808 := by omega
            clear hr hres hvb hv
            go_wp2
            go_ret2
            exact ⟨by first | rfl | simp [sgn, hnf], rfl⟩
          · rw [if_neg hv] at hr
            obtain ⟨rfl, rfl⟩ := Prod.mk.inj hr
            have hvi : ¬ ((v : Int) < 9223372036854775808) := by omega
            clear hr hres hvb hv
            go_wp2
            go_ret2
            exact ⟨rfl, rfl⟩
    · go_enter Tryd.func54, Tryd.ntmps54
      go_wp2_with fail
      refine (h1 _).mono ?_
      rintro e w1 ⟨rfl, rfl⟩
      clear h1
      go_wp2
      go_loop [6, 7] (fun f i => ∃ k : Nat, k ≤ s.size ∧ i = .int .i64 k ∧ f = .int .u64 (val (s.data.toList.take k))) (fun _ i => s.size - (intOf i).toNat)
      case atStart => exact ⟨0, Nat.zero_le _, rfl, rfl⟩
      case round =>
        obtain ⟨k, hk, rfl, rfl⟩ := hrel
        by_cases hlt : k < s.size
        · have hts := val_snoc (s.data.toList.take k) s[k]
          rw [← take_at hlt] at hts
          have hb := val_take HD.out k (by omega)
          have hc := HD.out s[k] (by rw [← List.take_append_drop k s.data.toList, drop_at hlt]; simp)
          simp only [isDig, Bool.and_eq_true, decide_eq_true_eq] at hc
          obtain ⟨hc1, hc2⟩ := hc
          have hc3 : (48 : Int) ≤ (s[k].toNat : Int) := by omega
          have hc4 : (s[k].toNat : Int) ≤ 57 := by omega
          have HT := Lib.hid hts
          generalize hV : val (s.data.toList.take k) = V at hb ⊢
          have hb2 : (V : Int) ≤ 999999999999999999 := by omega
          have HV := Lib.hid hV
          clear hts hV hb hc1 hc2
          go_wp2
          go_round
          case rel => exact ⟨k + 1, by omega, by go_num, by rw [HT.out, HV.out]; congr 1; omega⟩
          case measure => simp [intOf]; omega
        · have hkz : k = s.size := by omega
          have ht : s.data.toList.take k = s.data.toList := List.take_of_length_le (by rw [size_list]; omega)
          rw [ht, HV0.out]
          clear ht hkz
          have hr := hres.out
          unfold most at hr
          simp only [if_true] at hr
          by_cases hv : v ≤ 9223372036854775808
          · rw [if_pos hv] at hr
            obtain ⟨rfl, rfl⟩ := Prod.mk.inj hr
            have hnf := HNF.out (by omega)
            have hvi : (v : Int) ≤ 9223372036854775808 := by omega
            clear hr hres hvb hv
            go_wp2
            go_ret2
            exact ⟨by first | rfl | simp [sgn, hnf], rfl⟩
          · rw [if_neg hv] at hr
            obtain ⟨rfl, rfl⟩ := Prod.mk.inj hr
            have hvi : ¬ ((v : Int) ≤ 9223372036854775808) := by omega
            clear hr hres hvb hv
            go_wp2
            go_ret2
            exact ⟨rfl, rfl⟩

theorem dig_whole {l : List UInt8} : (dig l).length = l.length ↔ rst l = [] := by
  have := dig_len l
  constructor
  · intro h
    exact List.eq_nil_of_length_eq_zero (by omega)
  · intro h
    rw [h] at this
    simpa using this
theorem whole_alt (l : List UInt8) : wholeF l = if (tkR [45] l).length < 1 ∨ 19 < (tkR [45] l).length ∨ (dig (tkR [45] l)).length ≠ (tkR [45] l).length then (0, 2) else fitF (sgB [45] l) (val (tkR [45] l)) := by
  generalize hm : tkR [45] l = m
  unfold wholeF
  rw [hm]
  have hl := dig_len m
  have hw := dig_whole (l := m)
  by_cases h : (dig m).length = m.length
  · have hr := hw.1 h
    have hd : dig m = m := by have := dig_rst m; rwa [hr, List.append_nil] at this
    rw [hd, hr]
    by_cases h2 : m.length < 1 ∨ 19 < m.length
    · rw [if_pos h2, if_pos (by omega)]
    · rw [if_neg h2, if_pos rfl, if_neg (by omega)]
  · rw [if_pos (show m.length < 1 ∨ 19 < m.length ∨ (dig m).length ≠ m.length from .inr (.inr h))]
    by_cases h2 : (dig m).length < 1 ∨ 19 < (dig m).length
    · rw [if_pos h2]
    · rw [if_neg h2, if_neg (fun hr => h (hw.2 hr))]
end Go.Proofs.YtdhkonaebhpeeaaDoor

namespace Go.Proofs.YtdhkonaebhpeeaaDoor
open Go Go.RowKit

/-- The first region of a piece of code. -/
def leftR : Code → Option Nat
  | .region i _ _ => some i
  | .seq a _ => leftR a
  | _ => none
/-- The outermost sequence that begins with region n. -/
def findR (n : Nat) : Code → Option Code
  | .seq a b => match leftR a == some n with
    | true => some (.seq a b)
    | false => match findR n a with
      | some c => some c
      | none => findR n b
  | .cond _ a b => match findR n a with
      | some c => some c
      | none => findR n b
  | .block _ a => findR n a
  | .loop a => findR n a
  | .scope a => findR n a
  | _ => none
def isT : Operand → Nat → Bool
  | .tmp d, t => d == t
  | _, _ => false
/-- The outermost test of slot t. -/
def findC (t : Nat) : Code → Option Code
  | .cond c a b => match isT c t with
    | true => some (.cond c a b)
    | false => match findC t a with
      | some c => some c
      | none => findC t b
  | .seq a b => match findC t a with
      | some c => some c
      | none => findC t b
  | .block _ a => findC t a
  | .loop a => findC t a
  | .scope a => findC t a
  | _ => none
theorem byte_ne {c d : UInt8} {i : Int} (hd : (d.toNat : Int) = i) (hc : c ≠ d) : ((c.toNat : Int) == i) = false := by
  rw [beq_eq_false_iff_ne]
  intro h
  exact hc (UInt8.toNat_inj.1 (by omega))
theorem dig_take (l : List UInt8) : l.take (dig l).length = dig l := by
  have h := List.take_left (l₁ := dig l) (l₂ := rst l)
  rwa [dig_rst] at h
theorem dig_drop (l : List UInt8) : l.drop (dig l).length = rst l := by
  have h := List.drop_left (l₁ := dig l) (l₂ := rst l)
  rwa [dig_rst] at h

set_option maxRecDepth 100000 in
set_option maxHeartbeats 8000000 in
theorem ref_whole (l : List UInt8) (hl : l.length ≤ maxLen) (w : World) :
    Calls Tryd.prog 43 #[.string (tx l)] w fun e w' => e = .returned (.tuple #[.int .i64 (wholeF l).1, .int .i64 (wholeF l).2]) ∧ w = w' := by
  rw [whole_alt]
  unfold maxLen at hl
  cases l with
  | nil =>
    rw [if_pos (Or.inl (by decide))]
    have hem := empty_eq (l := []) rfl
    have hsz : (tx ([] : List UInt8)).size = 0 := rfl
    generalize tx ([] : List UInt8) = S at *
    go_enter Tryd.func43, Tryd.ntmps43
    go_wp2
    go_ret2
    exact ⟨rfl, rfl⟩
  | cons c t =>
    obtain ⟨hz, hx, hex⟩ := first_of (s := tx (c :: t)) (c := c) (t := t) rfl
    have hn := tx_ne (l := c :: t) (by simp)
    have hn2 := tx_ne2 (l := c :: t) (by simp)
    have hSs : (tx (c :: t)).size = t.length + 1 := by rw [tx_len]; rfl
    simp only [List.length_cons] at hl
    by_cases hc : c = 45
    · have e45 : (c.toNat : Int) = 45 := by rw [hc]; rfl
      have e1 : tkR [45] (c :: t) = t := by rw [hc]; rfl
      have e2 : sgB [45] (c :: t) = true := by rw [hc]; rfl
      rw [e1, e2]
      have hSb : (tx (c :: t)).size ≤ 9223372036854775807 := by omega
      clear hSs e1 e2 hc
      have hts : ((tx t).size : Int) = (t.length : Int) := by rw [tx_len]
      have hd := fun w => ref_digits (tx t) (by rw [tx_len]; unfold maxLen; omega) w
      simp only at hd
      generalize tx (c :: t) = S at *
      by_cases hbad : t.length < 1 ∨ 19 < t.length ∨ (dig t).length ≠ t.length
      · rw [if_pos hbad]
        by_cases h1 : t.length < 1
        · have hz1 : (tx t).size < 1 := by rw [tx_len]; exact h1
          clear hbad h1 hts hd
          generalize tx t = T at *
          go_enter Tryd.func43, Tryd.ntmps43
          go_wp2
          go_ret2
          exact ⟨rfl, rfl⟩
        · by_cases h19 : 19 < t.length
          · have hz1 : 19 < (tx t).size := by rw [tx_len]; exact h19
            clear hbad h1 h19 hts hd
            generalize tx t = T at *
            go_enter Tryd.func43, Tryd.ntmps43
            go_wp2
            go_ret2
            exact ⟨rfl, rfl⟩
          · have hz1 : 1 ≤ (tx t).size := by rw [tx_len]; omega
            have hz2 : (tx t).size ≤ 19 := by rw [tx_len]; omega
            have hne : (((dig t).length : Int) != ((tx t).size : Int)) = true := by rw [bne_iff_ne, tx_len]; omega
            clear hbad h1 h19 hts
            generalize (dig t).length = k at *
            generalize tx t = T at *
            go_enter Tryd.func43, Tryd.ntmps43
            go_wp2_with fail
            refine (hd _).mono ?_
            rintro e w1 ⟨rfl, rfl⟩
            go_wp2
            go_ret2
            exact ⟨rfl, rfl⟩
      · rw [if_neg hbad]
        have hz1 : 1 ≤ (tx t).size := by rw [tx_len]; omega
        have hz2 : (tx t).size ≤ 19 := by rw [tx_len]; omega
        have hdw : (dig t).length = t.length := by omega
        have hdl : dig t = t := by have h5 := dig_rst t; rwa [dig_whole.1 hdw, List.append_nil] at h5
        have hq := fun w => ref_number true t (by rw [← hdl]; exact dig_all _) (by omega) w
        have hne : (((dig t).length : Int) != ((tx t).size : Int)) = false := by rw [bne_eq_false_iff_eq, tx_len, hdw]
        clear hbad hts hdw hdl
        generalize fitF true (val t) = r at hq ⊢
        obtain ⟨r1, r2⟩ := r
        generalize (dig t).length = k at *
        generalize tx t = T at *
        go_enter Tryd.func43, Tryd.ntmps43
        go_wp2_with fail
        refine (hd _).mono ?_
        rintro e w1 ⟨rfl, rfl⟩
        go_wp2_with fail
        refine (hq _).mono ?_
        rintro e w2 ⟨rfl, rfl⟩
        go_wp2
        go_ret2
        exact ⟨rfl, rfl⟩
    · have e45 := byte_ne (c := c) (d := 45) (i := 45) rfl hc
      have e1 : tkR [45] (c :: t) = c :: t := by rw [tkR_cons, if_neg (by simp [hc])]
      have e2 : sgB [45] (c :: t) = false := by rw [sgB_cons]; simp [hc]
      rw [e1, e2]
      have hd := fun w => ref_digits (tx (c :: t)) (by rw [tx_len]; unfold maxLen; simp; try omega) w
      simp only at hd
      have hlu : (c :: t).length = t.length + 1 := rfl
      have hts : ((tx (c :: t)).size : Int) = ((c :: t).length : Int) := by rw [tx_len]
      clear hSs e1 e2 hc hex
      by_cases hbad : (c :: t).length < 1 ∨ 19 < (c :: t).length ∨ (dig (c :: t)).length ≠ (c :: t).length
      · rw [if_pos hbad]
        by_cases h1 : (c :: t).length < 1
        · simp at h1
        · by_cases h19 : 19 < (c :: t).length
          · have hz1 : 19 < (tx (c :: t)).size := by rw [tx_len]; exact h19
            clear hbad h1 h19 hts hd
            generalize tx (c :: t) = T at *
            go_enter Tryd.func43, Tryd.ntmps43
            go_wp2
            go_ret2
            exact ⟨rfl, rfl⟩
          · have hz1 : 1 ≤ (tx (c :: t)).size := by rw [tx_len]; omega
            have hz2 : (tx (c :: t)).size ≤ 19 := by rw [tx_len]; omega
            have hne : (((dig (c :: t)).length : Int) != ((tx (c :: t)).size : Int)) = true := by rw [bne_iff_ne, tx_len]; omega
            clear hbad h1 h19 hts
            generalize (dig (c :: t)).length = k at *
            generalize tx (c :: t) = T at *
            go_enter Tryd.func43, Tryd.ntmps43
            go_wp2_with fail
            refine (hd _).mono ?_
            rintro e w1 ⟨rfl, rfl⟩
            go_wp2
            go_ret2
            exact ⟨rfl, rfl⟩
      · rw [if_neg hbad]
        have hz1 : 1 ≤ (tx (c :: t)).size := by rw [tx_len]; omega
        have hz2 : (tx (c :: t)).size ≤ 19 := by rw [tx_len]; omega
        have hdw : (dig (c :: t)).length = (c :: t).length := by omega
        have hdl : dig (c :: t) = (c :: t) := by have h5 := dig_rst (c :: t); rwa [dig_whole.1 hdw, List.append_nil] at h5
        have hq := fun w => ref_number false (c :: t) (by rw [← hdl]; exact dig_all _) (by omega) w
        have hne : (((dig (c :: t)).length : Int) != ((tx (c :: t)).size : Int)) = false := by rw [bne_eq_false_iff_eq, tx_len, hdw]
        clear hbad hts hdw hdl
        generalize fitF false (val (c :: t)) = r at hq ⊢
        obtain ⟨r1, r2⟩ := r
        generalize (dig (c :: t)).length = k at *
        generalize tx (c :: t) = T at *
        go_enter Tryd.func43, Tryd.ntmps43
        go_wp2_with fail
        refine (hd _).mono ?_
        rintro e w1 ⟨rfl, rfl⟩
        go_wp2_with fail
        refine (hq _).mono ?_
        rintro e w2 ⟨rfl, rfl⟩
        go_wp2
        go_ret2
        exact ⟨rfl, rfl⟩
end Go.Proofs.YtdhkonaebhpeeaaDoor

