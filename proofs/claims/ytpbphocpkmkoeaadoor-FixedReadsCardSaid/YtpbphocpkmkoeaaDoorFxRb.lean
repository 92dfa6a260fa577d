/- The chapter's own answer: signs, numbers, whole numbers. -/
import Derived.Test.YtpbphocpkmkoeaaDoorFxRa
namespace Go.Proofs.YtpbphocpkmkoeaaDoor
open Go Go.RowKit

set_option maxHeartbeats 2000000 in
theorem ref_sign (l : List UInt8) (hs : l.length ≤ maxLen) (w : World) :
    Calls Tryd.prog 27 #[.string (tx l)] w fun e w' => e = .returned (.tuple #[.bool (sgB [43, 45] l), .string (tx (tkR [43, 45] l))]) ∧ ∃ n, w' = w.drewN n := by
  unfold maxLen at hs
  cases l with
  | nil =>
    have hem : (tx ([] : List UInt8)).toList = [] := is_empty rfl
    have e1 : sgB [43, 45] [] = false := rfl
    have e2 : tkR [43, 45] [] = [] := rfl
    rw [e1, e2]
    generalize tx ([] : List UInt8) = M at hem ⊢
    go_enter Tryd.func27, Tryd.ntmps27
    go_wp2
    go_ret2
    exact ⟨rfl, 0, rfl⟩
  | cons c t =>
    obtain ⟨hz, hx, he⟩ := first_of (s := tx (c :: t)) (c := c) (t := t) rfl
    have hn := tx_ne (l := c :: t) (by simp)
    have hn2 := tx_ne2 (l := c :: t) (by simp)
    have hsz : (tx (c :: t)).size ≤ 9223372036854775807 := by rw [tx_len]; exact hs
    have key : ∀ d : UInt8, ∀ i : Int, (d.toNat : Int) = i → c ≠ d → ((c.toNat : Int) == i) = false := by
      intro d i hd hc
      rw [beq_eq_false_iff_ne]
      intro h
      exact hc (UInt8.toNat_inj.1 (by omega))
    by_cases h45 : c = 45
    · have e1 : sgB [43, 45] (c :: t) = true := by rw [h45]; rfl
      have e2 : tkR [43, 45] (c :: t) = t := by rw [h45]; rfl
      have e4 : (c.toNat : Int) = 45 := by rw [h45]; rfl
      rw [e1, e2, ← he]
      clear he key h45 e1 e2
      generalize tx (c :: t) = M at *
      go_enter Tryd.func27, Tryd.ntmps27
      go_wp2
      go_quiet (fail)
      go_wp2
      go_ret2
      exact ⟨rfl, _, rfl⟩
    · have e45 := key 45 45 rfl h45
      by_cases h43 : c = 43
      · have e1 : sgB [43, 45] (c :: t) = false := by rw [h43]; rfl
        have e2 : tkR [43, 45] (c :: t) = t := by rw [h43]; rfl
        have e4 : (c.toNat : Int) = 43 := by rw [h43]; rfl
        rw [e1, e2, ← he]
        clear he key h45 h43 e1 e2 e45
        generalize tx (c :: t) = M at *
        go_enter Tryd.func27, Tryd.ntmps27
        go_wp2
        go_quiet (fail)
        go_wp2
        go_ret2
        exact ⟨rfl, _, rfl⟩
      · have e43 := key 43 43 rfl h43
        have hc : ([43, 45] : List UInt8).contains c = false := by simp [h43, h45]
        have e1 : sgB [43, 45] (c :: t) = false := by rw [sgB_cons, hc]; rfl
        have e2 : tkR [43, 45] (c :: t) = c :: t := by rw [tkR_cons, if_neg (by rw [hc]; decide)]
        rw [e1, e2]
        clear he key h45 h43 e1 e2 hc
        generalize tx (c :: t) = M at *
        go_enter Tryd.func27, Tryd.ntmps27
        go_wp2
        go_ret2
        exact ⟨rfl, 0, rfl⟩

set_option maxRecDepth 100000 in
set_option maxHeartbeats 8000000 in
theorem ref_number (b : Bool) (l : List UInt8) (hd : AllDig l) (hl : l.length ≤ 40000) (w : World) :
    Calls Tryd.prog 30 #[.string (tx l), .bool b] w fun e w' => e = .returned (.tuple #[.int .i64 (fitF b (val l)).1, .int .i64 (fitF b (val l)).2]) ∧ w = w' := by
  have h1 := fun w => ref_trim l (by unfold maxLen; omega) w
  by_cases h19 : 19 < (Lib.trimLeftB l 48).length
  · have hf : fitF b (val l) = (0, 7) := fit_far (Nat.le_trans (Nat.pow_le_pow_right (by decide) (by omega)) (trimL_ge hd (by intro h; rw [h] at h19; simp at h19)))
    rw [hf]
    have hsz : (19 : Int) < ((tx (Lib.trimLeftB l 48)).size : Int) := by rw [tx_len]; omega
    clear hf h19
    generalize tx (Lib.trimLeftB l 48) = M at h1 hsz
    go_enter Tryd.func30, Tryd.ntmps30
    go_wp2_with fail
    refine (h1 _).mono ?_
    rintro e w1 ⟨rfl, rfl⟩
    go_wp2
    go_ret2
    exact ⟨rfl, rfl⟩
  · have hsd : AllDig (tx (Lib.trimLeftB l 48)).data.toList := trimL_all hd
    have hsz : (tx (Lib.trimLeftB l 48)).size ≤ 19 := by rw [tx_len]; omega
    have hsv : val (tx (Lib.trimLeftB l 48)).data.toList = val l := trimL_val l
    have hvl : val l < 10 ^ 19 := by
      have h2 := val_lt (trimL_all hd)
      rw [trimL_val] at h2
      exact Nat.lt_of_lt_of_le h2 (Nat.pow_le_pow_right (by decide) (by omega))
    generalize val l = v at hsv hvl ⊢
    generalize tx (Lib.trimLeftB l 48) = s at h1 hsd hsz hsv
    have HD := Lib.hid hsd
    have HV0 := Lib.hid hsv
    have hvb : v < 18446744073709551616 := Nat.lt_trans hvl (by decide)
    clear hsd hsv h19 hvl
    have hres : Hid (fitF b v = if v ≤ most b then (sgn b v, 0) else (0, 7)) := Lib.hid rfl
    generalize fitF b v = r at hres ⊢
    obtain ⟨r1, r2⟩ := r
    have HNF := Lib.hid (fun h => neg_far v h)
    cases b
    · go_enter Tryd.func30, Tryd.ntmps30
      go_wp2_with fail
      refine (h1 _).mono ?_
      rintro e w1 ⟨rfl, rfl⟩
      clear h1
      go_wp2
      go_loop [6, 7] (fun f i => ∃ k : Nat, k ≤ s.size ∧ i = .int .i64 k ∧ f = .int .u64 (val (s.data.toList.take k))) (fun _ i => s.size - (intOf i).toNat)
      case atStart => exact ⟨0, Nat.zero_le _, rfl, rfl⟩
      case round =>
        obtain ⟨k, hk, rfl, rfl⟩ := hrel
        by_cases hlt : k < s.size
        · have hts := val_snoc (s.data.toList.take k) s[k]
          rw [← take_at hlt] at hts
          have hb := val_take HD.out k (by omega)
          have hc := HD.out s[k] (by rw [← List.take_append_drop k s.data.toList, drop_at hlt]; simp)
          simp only [isDig, Bool.and_eq_true, decide_eq_true_eq] at hc
          obtain ⟨hc1, hc2⟩ := hc
          have hc3 : (48 : Int) ≤ (s[k].toNat : Int) := by omega
          have hc4 : (s[k].toNat : Int) ≤ 57 := by omega
          have HT := Lib.hid hts
          generalize hV : val (s.data.toList.take k) = V at hb ⊢
          have hb2 : (V : Int) ≤ 999999999999999999 := by omega
          have HV := Lib.hid hV
          clear hts hV hb hc1 hc2
          go_wp2
          go_round
          case rel => exact ⟨k + 1, by omega, by go_num, by rw [HT.out, HV.out]; congr 1; omega⟩
          case measure => simp [intOf]; omega
        · have hkz : k = s.size := by omega
          have ht : s.data.toList.take k = s.data.toList := List.take_of_length_le (by rw [size_list]; omega)
          rw [ht, HV0.out]
          clear ht hkz
          have hr := hres.out
          unfold most at hr
          simp only [if_true, Bool.false_eq_true, if_false] at hr
          by_cases hv : v ≤ 9223372036854775807
          · rw [if_pos hv] at hr
            obtain ⟨rfl, rfl⟩ := Prod.mk.inj hr
            have hnf := HNF.out (by omega)
            have hvi : (v : Int) < 9223372036854775808 := by omega
            clear hr hres hvb hv
            go_wp2
            go_ret2
            exact ⟨by first | rfl | simp [sgn, hnf], rfl⟩
          · rw [if_neg hv] at hr
            obtain ⟨rfl, rfl⟩ := Prod.mk.inj hr
            have hvi : ¬ ((v : Int) < 9223372036854775808) := by omega
            clear hr hres hvb hv
            go_wp2
            go_ret2
            exact ⟨rfl, rfl⟩
    · go_enter Tryd.func30, Tryd.ntmps30
      go_wp2_with fail
      refine (h1 _).mono ?_
      rintro e w1 ⟨rfl, rfl⟩
      clear h1
      go_wp2
      go_loop [6, 7] (fun f i => ∃ k : Nat, k ≤ s.size ∧ i = .int .i64 k ∧ f = .int .u64 (val (s.data.toList.take k))) (fun _ i => s.size - (intOf i).toNat)
      case atStart => exact ⟨0, Nat.zero_le _, rfl, rfl⟩
      case round =>
        obtain ⟨k, hk, rfl, rfl⟩ := hrel
        by_cases hlt : k < s.size
        · have hts := val_snoc (s.data.toList.take k) s[k]
          rw [← take_at hlt] at hts
          have hb := val_take HD.out k (by omega)
          have hc := HD.out s[k] (by rw [← List.take_append_drop k s.data.toList, drop_at hlt]; simp)
          simp only [isDig, Bool.and_eq_true, decide_eq_true_eq] at hc
          obtain ⟨hc1, hc2⟩ := hc
          have hc3 : (48 : Int) ≤ (s[k].toNat : Int) := by omega
          have hc4 : (s[k].toNat : Int) ≤ 57 := by omega
          have HT := Lib.hid hts
          generalize hV : val (s.data.toList.take k) = V at hb ⊢
          have hb2 : (V : Int) ≤ 999999999999999999 := by omega
          have HV := Lib.hid hV
          clear hts hV hb hc1 hc2
          go_wp2
          go_round
          case rel => exact ⟨k + 1, by omega, by go_num, by rw [HT.out, HV.out]; congr 1; omega⟩
          case measure => simp [intOf]; omega
        · have hkz : k = s.size := by omega
          have ht : s.data.toList.take k = s.data.toList := List.take_of_length_le (by rw [size_list]; omega)
          rw [ht, HV0.out]
          clear ht hkz
          have hr := hres.out
          unfold most at hr
          simp only [if_true, Bool.false_eq_true, if_false] at hr
          by_cases hv : v ≤ 9223372036854775808
          · rw [if_pos hv] at hr
            obtain ⟨rfl, rfl⟩ := Prod.mk.inj hr
            have hnf := HNF.out (by omega)
            have hvi : (v : Int) ≤ 9223372036854775808 := by omega
            clear hr hres hvb hv
            go_wp2
            go_ret2
            exact ⟨by first | rfl | simp [sgn, hnf], rfl⟩
          · rw [if_neg hv] at hr
            obtain ⟨rfl, rfl⟩ := Prod.mk.inj hr
            have hvi : ¬ ((v : Int) ≤ 9223372036854775808) := by omega
            clear hr hres hvb hv
            go_wp2
            go_ret2
            exact ⟨rfl, rfl⟩

theorem dig_whole {l : List UInt8} : (dig l).length = l.length ↔ rst l = [] := by
  have := dig_len l
  constructor
  · intro h
    exact List.eq_nil_of_length_eq_zero (by omega)
  · intro h
    rw [h] at this
    simpa using this
theorem whole_alt (l : List UInt8) : wholeF l = if (tkR [45] l).length < 1 ∨ 19 < (tkR [45] l).length ∨ (dig (tkR [45] l)).length ≠ (tkR [45] l).length then (0, 2) else fitF (sgB [45] l) (val (tkR [45] l)) := by
  generalize hm : tkR [45] l = m
  unfold wholeF
  rw [hm]
  have hl := dig_len m
  have hw := dig_whole (l := m)
  by_cases h : (dig m).length = m.length
  · have hr := hw.1 h
    have hd : dig m = m := by have := dig_rst m; rwa [hr, List.append_nil] at this
    rw [hd, hr]
    by_cases h2 : m.length < 1 ∨ 19 < m.length
    · rw [if_pos h2, if_pos (by omega)]
    · rw [if_neg h2, if_pos rfl, if_neg (by omega)]
  · rw [if_pos (show m.length < 1 ∨ 19 < m.length ∨ (dig m).length ≠ m.length from .inr (.inr h))]
    by_cases h2 : (dig m).length < 1 ∨ 19 < (dig m).length
    · rw [if_pos h2]
    · rw [if_neg h2, if_neg (fun hr => h (hw.2 hr))]
end Go.Proofs.YtpbphocpkmkoeaaDoor
