/- The chapter's own answer: what a text means. The chapter's own answer: whole numbers. -/
import Derived.Test.YtdmkiiggpelmaaaGreatDoorFxRv
import Derived.Test.YtdmkiiggpelmaaaGreatDoorFxRb
import Derived.Test.YtdmkiiggpelmaaaGreatDoorFxRu
namespace Go.Proofs.YtdmkiiggpelmaaaGreatDoor
open Go Go.RowKit

theorem read_means (l : List UInt8) (h : ¬ 64 < l.length) : Means (sgB [43, 45] l) (tkR [43, 45] l) (readF l) :=
  ⟨fun W p m x hd he => read_yes h hd he, fun hd => by unfold readF; rw [if_neg h, hd],
    fun W p m hd he => by unfold readF; rw [if_neg h, hd]; simp only [he],
    fun W p m m' x hd he hm => by unfold readF; rw [if_neg h, hd]; simp only [he]; rw [if_neg hm]⟩

set_option maxRecDepth 100000 in
set_option maxHeartbeats 16000000 in
theorem ref_read (l : List UInt8) (hl : l.length ≤ maxLen) (w : World) :
    Calls Tryz.prog 22 #[.string (tx l)] w (RPost w (readF l)) := by
  unfold maxLen at hl
  have hsz : (tx l).size = l.length := tx_len l
  by_cases h64 : 64 < l.length
  · have hr : readF l = (0, 2) := by unfold readF; rw [if_pos h64]
    rw [hr]
    rw [← hsz] at h64 hl
    clear hsz hr
    generalize tx l = s at hl h64
    go_enter Tryz.func22, Tryz.ntmps22
    go_wp2
    go_ret2
    exact ⟨rfl, 0, rfl⟩
  · have h1 := fun w => ref_sign l (by unfold maxLen; omega) w
    have hk := tkR_len [43, 45] l
    have HM := Lib.hid (read_means l h64)
    have hs64 : (tx l).size ≤ 64 := by omega
    generalize sgB [43, 45] l = b at *
    generalize tkR [43, 45] l = l1 at *
    generalize readF l = r at *
    have hl1 : l1.length ≤ 64 := by omega
    have h2 := fun w => ref_digits (tx l1) (tx_max hl1 (by decide)) w
    simp only at h2
    have hszl : (tx l1).size = l1.length := tx_len l1
    have hdrl := dig_len l1
    have ht1 : (tx l1).extract 0 (dig l1).length = tx (dig l1) := by rw [ext_take, list_tx]; exact congrArg tx (dig_take l1)
    have ht2 : (tx l1).extract (dig l1).length (tx l1).size = tx (rst l1) := by rw [ext_drop, list_tx]; exact congrArg tx (dig_drop l1)
    have hd2 : (dig l1).length ≤ (tx l1).size := by omega
    have hz1 : (tx l1).size ≤ 64 := by omega
    have hd1 : (dig l1).length ≤ 64 := by omega
    obtain ⟨dn, hdn⟩ : ∃ dn, (dig l1).length = dn := ⟨_, rfl⟩
    rw [hdn] at h2 ht1 ht2 hd2 hd1 hdrl
    have hrl : (rst l1).length ≤ 64 := by omega
    have HDA := Lib.hid (dig_all l1)
    have HDL := Lib.hid (show (dig l1).length ≤ 64 by omega)
    have HLL := Lib.hid (show (dig l1).length + (rst l1).length ≤ 64 by omega)
    clear hsz hszl hl hk h64 hl1
    have hdec : Hid (decF l1 = if tkB [46] (rst l1) = true then (if dig (tkR [46] (rst l1)) = [] then none else some (dig l1, dig (tkR [46] (rst l1)), rst (tkR [46] (rst l1)))) else if dig l1 = [] then none else some (dig l1, [], rst l1)) := Lib.hid rfl
    clear hdn
    generalize rst l1 = rl at *
    generalize dig l1 = dl at *
    generalize tx l = S at h1 hs64
    generalize tx l1 = S1 at h1 h2 hz1 hd2 ht1 ht2
    cases hrl2 : rl with
    | nil =>
      subst hrl2
      have hem := empty_eq (l := []) rfl
      have HQ : Hid (PtRel l1 (.string (tx ([] : List UInt8))) (.string (tx dl)) (.int .i64 0) (w.drewN 0) (w.drewN 0)) := Lib.hid (by
        have hd := hdec.out
        rw [if_neg (by decide)] at hd
        refine ⟨dl, [], [], 0, by rw [List.append_nil], rfl, rfl, fun h => ?_, fun h => ?_, by simp, by rw [List.append_nil]; exact HDL.out, by simp, by rw [List.append_nil]; exact HDA.out, rfl⟩
        · rw [List.append_nil] at h; rw [hd, if_neg h]
        · rw [List.append_nil] at h; rw [hd, if_pos h])
      generalize tx ([] : List UInt8) = S5 at *
      generalize tx dl = D at *
      go_enter Tryz.func22, Tryz.ntmps22
      go_wp2_with fail
      refine (h1 _).mono ?_
      rintro e w1 ⟨rfl, n1, rfl⟩
      go_wp2_with fail
      refine (h2 _).mono ?_
      rintro e w2 ⟨rfl, rfl⟩
      clear h1 h2
      go_upto_if 37 with fail
      go_cut [5, 7, 8] (fun s5 s7 s8 wx => PtRel l1 s5 s7 s8 wx w)
      case first =>
        go_wp2
        go_meet
        case rel => obtain ⟨W, p, m, n, q1, q2, q3, q4, q5, q6, q7, q8, q9, q10⟩ := HQ.out; exact ⟨W, p, m, _, q1, q2, q3, q4, q5, q6, q7, q8, q9, rfl⟩
      case rest =>
        rename_i K hK
        refine hK _ _ ?_
        exact ref_rest _ (by kernel_rfl) w wc b l1 r HM.out _ _ _ _ _ _ _ _ _ _ _ _ _ _ _ _ _ _ _ _ _ _ _ _ _ _ _ _ _ _ _ _ _ _ _ _ _ _ _ _ _ _ _ _ _ _ _ _ _ _ _ _ _ _ _ _ _ _ _ _ _ _ _ _ _ _ _ _ _ _ _ _ _ _ _ _ _ _ _ _ _ _ _ _ _ _ _ _ _ _ _ _ _ _ _ _ _ _ _ _ _ _ _ _ _ _ _ _ _ _ _ _ _ _ _ _ _ _ _ _ _ _ _ _ _ _ _ _ _ _ _ _ _ _ _ _ _ _ _ _ _ _ hcut
    | cons c t =>
      subst hrl2
      obtain ⟨hz, hx, hex⟩ := first_of (s := tx (c :: t)) (c := c) (t := t) rfl
      have hn := tx_ne (l := c :: t) (by simp)
      have hn2 := tx_ne2 (l := c :: t) (by simp)
      have htl : t.length ≤ 63 := by simp at hrl; omega
      have hS5s : (tx (c :: t)).size = t.length + 1 := by rw [tx_len]; rfl
      by_cases hc : c = 46
      · have e46 : (c.toNat : Int) = 46 := by rw [hc]; rfl
        have hd := hdec.out
        rw [if_pos (show tkB [46] (c :: t) = true by rw [hc]; simp [tkB]), show tkR [46] (c :: t) = t by rw [hc]; simp [tkR]] at hd
        have h3 := fun w => ref_digits (tx t) (tx_max htl (by decide)) w
        simp only at h3
        have hpl := dig_len t
        by_cases hp : dig t = []
        · have hr : r = (0, 2) := HM.out.2.1 (by rw [hd, if_pos hp])
          rw [hp] at h3
          subst hr
          have hS5b : (tx (c :: t)).size ≤ 64 := by omega
          clear hp hpl hc hdec HM hS5s hd
          generalize tx (c :: t) = S5 at *
          generalize tx t = T at *
          generalize tx dl = D at *
          go_enter Tryz.func22, Tryz.ntmps22
          go_wp2_with fail
          refine (h1 _).mono ?_
          rintro e w1 ⟨rfl, n1, rfl⟩
          go_wp2_with fail
          refine (h2 _).mono ?_
          rintro e w2 ⟨rfl, rfl⟩
          clear h1 h2
          go_wp2_with fail
          refine (h3 _).mono ?_
          rintro e w3 ⟨rfl, rfl⟩
          go_wp2
          go_ret2
          exact ⟨rfl, _, rfl⟩
        · rw [if_neg hp] at hd
          obtain ⟨pn, hpn⟩ : ∃ pn, (dig t).length = pn := ⟨_, rfl⟩
          have hpn1 : 1 ≤ pn := by rw [← hpn]; exact List.length_pos_iff.2 hp
          rw [hpn] at h3 hpl
          have x1 : (tx (c :: t)).extract 1 (1 + pn) = tx (dig t) := by
            have := Lib.extract_mk (c :: t) 1 (1 + pn)
            rw [show 1 + pn - 1 = pn by omega, List.drop_succ_cons, List.drop_zero, ← hpn, dig_take] at this
            rw [← hpn]; exact this
          have x2 : (tx (c :: t)).extract (1 + pn) (tx (c :: t)).size = tx (rst t) := by
            rw [ext_drop, list_tx, show 1 + pn = pn + 1 by omega, List.drop_succ_cons, ← hpn]
            exact congrArg tx (dig_drop t)
          have HQ : Hid (PtRel l1 (.string (tx (rst t))) (.string (tx dl ++ tx (dig t))) (.int .i64 pn) (w.drewN 0) (w.drewN 0)) := Lib.hid (by
            refine ⟨dl, dig t, rst t, 0, by rw [tx_app], by rw [hpn], rfl, fun _ => hd, fun h => absurd (List.append_eq_nil_iff.1 h).2 hp, by omega, ?_, by omega, HDA.out.app (dig_all t), rfl⟩
            rw [List.length_append, hpn]
            simp only [List.length_cons] at hdrl
            have := HLL.out
            simp only [List.length_cons] at this
            omega)
          have hDs : (tx dl).size ≤ 64 := by rw [tx_len]; exact HDL.out
          have hPs : (tx (dig t)).size ≤ 64 := by rw [tx_len]; omega
          have hS5b : (tx (c :: t)).size ≤ 64 := by omega
          have hp1 : 1 + pn ≤ (tx (c :: t)).size := by omega
          have hpnb : pn ≤ 64 := by omega
          have ep : (1 : Int) + (pn : Int) = ((1 + pn : Nat) : Int) := by omega
          obtain ⟨p1, hp1e⟩ : ∃ p1, 1 + pn = p1 := ⟨_, rfl⟩
          rw [hp1e] at x1 x2 hp1 ep
          have hp0 : ((pn : Int) == 0) = false := by rw [beq_eq_false_iff_ne]; omega
          have hp11 : 1 ≤ p1 := by omega
          clear hpn hp hd hpl hc hdec hS5s hp1e
          generalize tx (c :: t) = S5 at *
          generalize tx t = T at *
          generalize tx (rst t) = S6 at *
          generalize tx dl = D at *
          generalize tx (dig t) = P at *
          go_enter Tryz.func22, Tryz.ntmps22
          go_wp2_with fail
          refine (h1 _).mono ?_
          rintro e w1 ⟨rfl, n1, rfl⟩
          go_wp2_with fail
          refine (h2 _).mono ?_
          rintro e w2 ⟨rfl, rfl⟩
          clear h1 h2
          go_upto_if 37 with fail
          go_cut [5, 7, 8] (fun s5 s7 s8 wx => PtRel l1 s5 s7 s8 wx w)
          case first =>
            go_wp2_with fail
            refine (h3 _).mono ?_
            rintro e w3 ⟨rfl, rfl⟩
            go_wp2
            go_meet
            case rel => obtain ⟨W, p, m, n, q1, q2, q3, q4, q5, q6, q7, q8, q9, q10⟩ := HQ.out; exact ⟨W, p, m, _, q1, q2, q3, q4, q5, q6, q7, q8, q9, rfl⟩
          case rest =>
            rename_i K hK
            refine hK _ _ ?_
            exact ref_rest _ (by kernel_rfl) w wc b l1 r HM.out _ _ _ _ _ _ _ _ _ _ _ _ _ _ _ _ _ _ _ _ _ _ _ _ _ _ _ _ _ _ _ _ _ _ _ _ _ _ _ _ _ _ _ _ _ _ _ _ _ _ _ _ _ _ _ _ _ _ _ _ _ _ _ _ _ _ _ _ _ _ _ _ _ _ _ _ _ _ _ _ _ _ _ _ _ _ _ _ _ _ _ _ _ _ _ _ _ _ _ _ _ _ _ _ _ _ _ _ _ _ _ _ _ _ _ _ _ _ _ _ _ _ _ _ _ _ _ _ _ _ _ _ _ _ _ _ _ _ _ _ _ _ hcut
      · have e46 := byte_ne (c := c) (d := 46) (i := 46) rfl hc
        have HQ : Hid (PtRel l1 (.string (tx (c :: t))) (.string (tx dl)) (.int .i64 0) (w.drewN 0) (w.drewN 0)) := Lib.hid (by
          have hd := hdec.out
          rw [if_neg (by simp [tkB, hc])] at hd
          refine ⟨dl, [], c :: t, 0, by rw [List.append_nil], rfl, rfl, fun h => ?_, fun h => ?_, hrl, by rw [List.append_nil]; exact HDL.out, by simp, by rw [List.append_nil]; exact HDA.out, rfl⟩
          · rw [List.append_nil] at h; rw [hd, if_neg h]
          · rw [List.append_nil] at h; rw [hd, if_pos h])
        have hS5b : (tx (c :: t)).size ≤ 64 := by omega
        clear hc hdec hS5s
        generalize tx (c :: t) = S5 at *
        generalize tx dl = D at *
        go_enter Tryz.func22, Tryz.ntmps22
        go_wp2_with fail
        refine (h1 _).mono ?_
        rintro e w1 ⟨rfl, n1, rfl⟩
        go_wp2_with fail
        refine (h2 _).mono ?_
        rintro e w2 ⟨rfl, rfl⟩
        clear h1 h2
        go_upto_if 37 with fail
        go_cut [5, 7, 8] (fun s5 s7 s8 wx => PtRel l1 s5 s7 s8 wx w)
        case first =>
          go_wp2
          go_meet
          case rel => obtain ⟨W, p, m, n, q1, q2, q3, q4, q5, q6, q7, q8, q9, q10⟩ := HQ.out; exact ⟨W, p, m, _, q1, q2, q3, q4, q5, q6, q7, q8, q9, rfl⟩
        case rest =>
          rename_i K hK
          refine hK _ _ ?_
          exact ref_rest _ (by kernel_rfl) w wc b l1 r HM.out _ _ _ _ _ _ _ _ _ _ _ _ _ _ _ _ _ _ _ _ _ _ _ _ _ _ _ _ _ _ _ _ _ _ _ _ _ _ _ _ _ _ _ _ _ _ _ _ _ _ _ _ _ _ _ _ _ _ _ _ _ _ _ _ _ _ _ _ _ _ _ _ _ _ _ _ _ _ _ _ _ _ _ _ _ _ _ _ _ _ _ _ _ _ _ _ _ _ _ _ _ _ _ _ _ _ _ _ _ _ _ _ _ _ _ _ _ _ _ _ _ _ _ _ _ _ _ _ _ _ _ _ _ _ _ _ _ _ _ _ _ _ hcut
end Go.Proofs.YtdmkiiggpelmaaaGreatDoor

namespace Go.Proofs.YtdmkiiggpelmaaaGreatDoor
open Go Go.RowKit

set_option maxRecDepth 100000 in
set_option maxHeartbeats 8000000 in
theorem ref_whole (l : List UInt8) (hl : l.length ≤ maxLen) (w : World) :
    Calls Tryz.prog 23 #[.string (tx l)] w fun e w' => e = .returned (.tuple #[.int .i64 (wholeF l).1, .int .i64 (wholeF l).2]) ∧ w = w' := by
  rw [whole_alt]
  unfold maxLen at hl
  cases l with
  | nil =>
    rw [if_pos (Or.inl (by decide))]
    have hem := empty_eq (l := []) rfl
    have hsz : (tx ([] : List UInt8)).size = 0 := rfl
    generalize tx ([] : List UInt8) = S at *
    go_enter Tryz.func23, Tryz.ntmps23
    go_wp2
    go_ret2
    exact ⟨rfl, rfl⟩
  | cons c t =>
    obtain ⟨hz, hx, hex⟩ := first_of (s := tx (c :: t)) (c := c) (t := t) rfl
    have hn := tx_ne (l := c :: t) (by simp)
    have hn2 := tx_ne2 (l := c :: t) (by simp)
    have hSs : (tx (c :: t)).size = t.length + 1 := by rw [tx_len]; rfl
    simp only [List.length_cons] at hl
    by_cases hc : c = 45
    · have e45 : (c.toNat : Int) = 45 := by rw [hc]; rfl
      have e1 : tkR [45] (c :: t) = t := by rw [hc]; rfl
      have e2 : sgB [45] (c :: t) = true := by rw [hc]; rfl
      rw [e1, e2]
      have hSb : (tx (c :: t)).size ≤ 9223372036854775807 := by omega
      clear hSs e1 e2 hc
      have hts : ((tx t).size : Int) = (t.length : Int) := by rw [tx_len]
      have hd := fun w => ref_digits (tx t) (by rw [tx_len]; unfold maxLen; omega) w
      simp only at hd
      generalize tx (c :: t) = S at *
      by_cases hbad : t.length < 1 ∨ 19 < t.length ∨ (dig t).length ≠ t.length
      · rw [if_pos hbad]
        by_cases h1 : t.length < 1
        · have hz1 : (tx t).size < 1 := by rw [tx_len]; exact h1
          clear hbad h1 hts hd
          generalize tx t = T at *
          go_enter Tryz.func23, Tryz.ntmps23
          go_wp2
          go_ret2
          exact ⟨rfl, rfl⟩
        · by_cases h19 : 19 < t.length
          · have hz1 : 19 < (tx t).size := by rw [tx_len]; exact h19
            clear hbad h1 h19 hts hd
            generalize tx t = T at *
            go_enter Tryz.func23, Tryz.ntmps23
            go_wp2
            go_ret2
            exact ⟨rfl, rfl⟩
          · have hz1 : 1 ≤ (tx t).size := by rw [tx_len]; omega
            have hz2 : (tx t).size ≤ 19 := by rw [tx_len]; omega
            have hne : (((dig t).length : Int) != ((tx t).size : Int)) = true := by rw [bne_iff_ne, tx_len]; omega
            clear hbad h1 h19 hts
            generalize (dig t).length = k at *
            generalize tx t = T at *
            go_enter Tryz.func23, Tryz.ntmps23
            go_wp2_with fail
            refine (hd _).mono ?_
            rintro e w1 ⟨rfl, rfl⟩
            go_wp2
            go_ret2
            exact ⟨rfl, rfl⟩
      · rw [if_neg hbad]
        have hz1 : 1 ≤ (tx t).size := by rw [tx_len]; omega
        have hz2 : (tx t).size ≤ 19 := by rw [tx_len]; omega
        have hdw : (dig t).length = t.length := by omega
        have hdl : dig t = t := by have h5 := dig_rst t; rwa [dig_whole.1 hdw, List.append_nil] at h5
        have hq := fun w => ref_number true t (by rw [← hdl]; exact dig_all _) (by omega) w
        have hne : (((dig t).length : Int) != ((tx t).size : Int)) = false := by rw [bne_eq_false_iff_eq, tx_len, hdw]
        clear hbad hts hdw hdl
        generalize fitF true (val t) = r at hq ⊢
        obtain ⟨r1, r2⟩ := r
        generalize (dig t).length = k at *
        generalize tx t = T at *
        go_enter Tryz.func23, Tryz.ntmps23
        go_wp2_with fail
        refine (hd _).mono ?_
        rintro e w1 ⟨rfl, rfl⟩
        go_wp2_with fail
        refine (hq _).mono ?_
        rintro e w2 ⟨rfl, rfl⟩
        go_wp2
        go_ret2
        exact ⟨rfl, rfl⟩
    · have e45 := byte_ne (c := c) (d := 45) (i := 45) rfl hc
      have e1 : tkR [45] (c :: t) = c :: t := by rw [tkR_cons, if_neg (by simp [hc])]
      have e2 : sgB [45] (c :: t) = false := by rw [sgB_cons]; simp [hc]
      rw [e1, e2]
      have hd := fun w => ref_digits (tx (c :: t)) (by rw [tx_len]; unfold maxLen; simp; try omega) w
      simp only at hd
      have hlu : (c :: t).length = t.length + 1 := rfl
      have hts : ((tx (c :: t)).size : Int) = ((c :: t).length : Int) := by rw [tx_len]
      clear hSs e1 e2 hc hex
      by_cases hbad : (c :: t).length < 1 ∨ 19 < (c :: t).length ∨ (dig (c :: t)).length ≠ (c :: t).length
      · rw [if_pos hbad]
        by_cases h1 : (c :: t).length < 1
        · simp at h1
        · by_cases h19 : 19 < (c :: t).length
          · have hz1 : 19 < (tx (c :: t)).size := by rw [tx_len]; exact h19
            clear hbad h1 h19 hts hd
            generalize tx (c :: t) = T at *
            go_enter Tryz.func23, Tryz.ntmps23
            go_wp2
            go_ret2
            exact ⟨rfl, rfl⟩
          · have hz1 : 1 ≤ (tx (c :: t)).size := by rw [tx_len]; omega
            have hz2 : (tx (c :: t)).size ≤ 19 := by rw [tx_len]; omega
            have hne : (((dig (c :: t)).length : Int) != ((tx (c :: t)).size : Int)) = true := by rw [bne_iff_ne, tx_len]; omega
            clear hbad h1 h19 hts
            generalize (dig (c :: t)).length = k at *
            generalize tx (c :: t) = T at *
            go_enter Tryz.func23, Tryz.ntmps23
            go_wp2_with fail
            refine (hd _).mono ?_
            rintro e w1 ⟨rfl, rfl⟩
            go_wp2
            go_ret2
            exact ⟨rfl, rfl⟩
      · rw [if_neg hbad]
        have hz1 : 1 ≤ (tx (c :: t)).size := by rw [tx_len]; omega
        have hz2 : (tx (c :: t)).size ≤ 19 := by rw [tx_len]; omega
        have hdw : (dig (c :: t)).length = (c :: t).length := by omega
        have hdl : dig (c :: t) = (c :: t) := by have h5 := dig_rst (c :: t); rwa [dig_whole.1 hdw, List.append_nil] at h5
        have hq := fun w => ref_number false (c :: t) (by rw [← hdl]; exact dig_all _) (by omega) w
        have hne : (((dig (c :: t)).length : Int) != ((tx (c :: t)).size : Int)) = false := by rw [bne_eq_false_iff_eq, tx_len, hdw]
        clear hbad hts hdw hdl
        generalize fitF false (val (c :: t)) = r at hq ⊢
        obtain ⟨r1, r2⟩ := r
        generalize (dig (c :: t)).length = k at *
        generalize tx (c :: t) = T at *
        go_enter Tryz.func23, Tryz.ntmps23
        go_wp2_with fail
        refine (hd _).mono ?_
        rintro e w1 ⟨rfl, rfl⟩
        go_wp2_with fail
        refine (hq _).mono ?_
        rintro e w2 ⟨rfl, rfl⟩
        go_wp2
        go_ret2
        exact ⟨rfl, rfl⟩
end Go.Proofs.YtdmkiiggpelmaaaGreatDoor

