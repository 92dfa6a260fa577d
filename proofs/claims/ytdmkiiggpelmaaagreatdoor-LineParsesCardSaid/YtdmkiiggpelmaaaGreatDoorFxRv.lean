/- The chapter's own answer: behind the point: the exponent. -/
import Derived.Test.YtdmkiiggpelmaaaGreatDoorFxRu
namespace Go.Proofs.YtdmkiiggpelmaaaGreatDoor
open Go Go.RowKit

/-- What the parts around the point are. -/
def PtRel (l1 : List UInt8) (s5 s7 s8 : Value) (wx w : World) : Prop :=
  ∃ (W p m : List UInt8) (n : Nat), s7 = .string (tx (W ++ p)) ∧ s8 = .int .i64 (p.length : Nat) ∧ s5 = .string (tx m) ∧ (W ++ p ≠ [] → decF l1 = some (W, p, m)) ∧ (W ++ p = [] → decF l1 = none) ∧ m.length ≤ 64 ∧ (W ++ p).length ≤ 64 ∧ p.length ≤ 64 ∧ AllDig (W ++ p) ∧ wx = w.drewN n
/-- What the exponent is. -/
def ExRel (m : List UInt8) (pl : Nat) (s9 : Value) (wx w : World) : Prop :=
  ∃ (x : Int) (n : Nat), s9 = .int .i64 (x + 6 - pl) ∧ expF m = some (x, []) ∧ -9999 ≤ x ∧ x ≤ 9999 ∧ wx = w.drewN n
/-- What a text's parts come to. -/
def Means (b : Bool) (l1 : List UInt8) (r : Int × Int) : Prop :=
  (∀ (W p m : List UInt8) (x : Int), decF l1 = some (W, p, m) → expF m = some (x, []) → r = shV b (val (W ++ p)) (x + 6 - p.length)) ∧ (decF l1 = none → r = (0, 2)) ∧
  (∀ (W p m : List UInt8), decF l1 = some (W, p, m) → expF m = none → r = (0, 2)) ∧ ∀ (W p m m' : List UInt8) (x : Int), decF l1 = some (W, p, m) → expF m = some (x, m') → m' ≠ [] → r = (0, 2)

set_option maxRecDepth 100000 in
set_option maxHeartbeats 16000000 in
theorem ref_rest (C : Code) (hC : Tryz.f22.body.bind (findR 14) = some C) (w wc : World) (b : Bool) (l1 : List UInt8) (r : Int × Int) (hM : Means b l1 r) (s0 s1 s2 s3 s5 s6 s7 s8 s9 s10 s11 s12 s13 s14 s15 s16 s17 s18 s19 s20 s21 s22 s23 s24 s25 s26 s27 s28 s29 s30 s31 s32 s33 s34 s35 s36 s37 s38 s39 s40 s41 s42 s43 s44 s45 s46 s47 s48 s49 s50 s51 s52 s53 s54 s55 s56 s57 s58 s59 s60 s61 s62 s63 s64 s65 s66 s67 s68 s69 s70 s71 s72 s73 s74 s75 s76 s77 s78 s79 s80 s81 s82 s83 s84 s85 s86 s87 s88 s89 s90 s91 s92 s93 s94 s95 s96 s97 s98 s99 s100 s101 s102 s103 s104 s105 s106 s107 s108 s109 s110 s111 s112 s113 s114 s115 s116 s117 s118 s119 s120 s121 s122 s123 s124 s125 s126 s127 s128 s129 s130 s131 s132 s133 s134 s135 s136 s137 s138 s139 s140 s141 s142 : Value) (hcut : PtRel l1 s5 s7 s8 wc w) :
    Code.wp Tryz.prog C (bodyPost Tryz.prog Tryz.f22 (RPost w r)) { tmps := (s0 :: s1 :: s2 :: s3 :: .bool b :: s5 :: s6 :: s7 :: s8 :: s9 :: s10 :: s11 :: s12 :: s13 :: s14 :: s15 :: s16 :: s17 :: s18 :: s19 :: s20 :: s21 :: s22 :: s23 :: s24 :: s25 :: s26 :: s27 :: s28 :: s29 :: s30 :: s31 :: s32 :: s33 :: s34 :: s35 :: s36 :: s37 :: s38 :: s39 :: s40 :: s41 :: s42 :: s43 :: s44 :: s45 :: s46 :: s47 :: s48 :: s49 :: s50 :: s51 :: s52 :: s53 :: s54 :: s55 :: s56 :: s57 :: s58 :: s59 :: s60 :: s61 :: s62 :: s63 :: s64 :: s65 :: s66 :: s67 :: s68 :: s69 :: s70 :: s71 :: s72 :: s73 :: s74 :: s75 :: s76 :: s77 :: s78 :: s79 :: s80 :: s81 :: s82 :: s83 :: s84 :: s85 :: s86 :: s87 :: s88 :: s89 :: s90 :: s91 :: s92 :: s93 :: s94 :: s95 :: s96 :: s97 :: s98 :: s99 :: s100 :: s101 :: s102 :: s103 :: s104 :: s105 :: s106 :: s107 :: s108 :: s109 :: s110 :: s111 :: s112 :: s113 :: s114 :: s115 :: s116 :: s117 :: s118 :: s119 :: s120 :: s121 :: s122 :: s123 :: s124 :: s125 :: s126 :: s127 :: s128 :: s129 :: s130 :: s131 :: s132 :: s133 :: s134 :: s135 :: s136 :: s137 :: s138 :: s139 :: s140 :: s141 :: s142 :: []).toArray, defers := [] } wc := by
  cases hC
  obtain ⟨W, p, m, n, rfl, rfl, rfl, hd, hno, hml, hDl, hpl, hDd, rfl⟩ := hcut
  by_cases hD0 : W ++ p = []
  · have hr : r = (0, 2) := hM.2.1 (hno hD0)
    have hem := empty_eq hD0
    subst hr
    clear hno hd hM hD0
    generalize tx (W ++ p) = S at *
    go_wp2
    go_ret2
    exact ⟨rfl, _, rfl⟩
  · have hdd := hd hD0
    have hem := tx_ne2 hD0
    have HM := Lib.hid hM
    have HDD := Lib.hid hdd
    have HDA := Lib.hid (And.intro hDd (And.intro hDl hpl))
    have hplb : (p.length : Int) ≤ 64 := by omega
    obtain ⟨pl, hple⟩ : ∃ pl, p.length = pl := ⟨_, rfl⟩
    rw [hple] at hplb ⊢
    have HPL := Lib.hid hple
    clear hno hd hM hDd hDl hpl hdd hple
    -- the last part, walked once
    have tail : ∀ (x : Int) (n' : Nat), expF m = some (x, []) → -9999 ≤ x → x ≤ 9999 → Hid (∀ (HH : True), AllDig (W ++ p) ∧ (W ++ p).length ≤ 128 ∧ -20000 ≤ x + 6 - pl ∧ x + 6 - pl ≤ 20000 ∧ r = shV b (val (W ++ p)) (x + 6 - pl)) := by
      intro x n' he h1 h2
      obtain ⟨g1, g2, g3⟩ := HDA.out
      refine Lib.hid fun _ => ⟨g1, by omega, by omega, by omega, ?_⟩
      rw [← HPL.out]
      exact HM.out.1 W p m x HDD.out he
    obtain ⟨D, hD⟩ : ∃ D, W ++ p = D := ⟨_, rfl⟩
    rw [hD] at hem tail ⊢
    have hemD : D.isEmpty = false := by rw [← hD]; cases hw : W ++ p with | nil => exact absurd hw hD0 | cons => rfl
    clear hD hD0
    cases hm : m with
    | nil =>
      subst hm
      have hme := empty_eq (l := []) rfl
      generalize tx ([] : List UInt8) = S5 at *
      go_upto_if 58 with fail
      go_cut [9] (fun s9 wx => ExRel [] pl s9 wx w)
      case first =>
        go_wp2
        go_meet
        case rel => exact ⟨0, n, by simp, rfl, by decide, by decide, rfl⟩
      case rest =>
        rename_i K hK
        obtain ⟨x, n', rfl, he, h1, h2, rfl⟩ := hcut
        obtain ⟨t1, t2, t3, t4, t5⟩ := (tail x n' he h1 h2).out trivial
        refine hK _ _ ?_
        exact ref_tail _ (by kernel_rfl) w n' b D _ r t1 t2 t3 t4 t5 _ _ _ _ _ _ _ _ _ _ _ _ _ _ _ _ _ _ _ _ _ _ _ _ _ _ _ _ _ _ _ _ _ _ _ _ _ _ _ _ _ _ _ _ _ _ _ _ _ _ _ _ _ _ _ _ _ _ _ _ _ _ _ _ _ _ _ _ _ _ _ _ _ _ _ _ _ _ _ _ _ _ _ _ _ _ _ _ _ _ _ _ _ _ _ _ _ _ _ _ _ _ _ _ _ _ _ _ _ _ _ _ _ _ _ _ _ _ _ _ _ _ _ _ _ _ _ _ _ _ _ _ _ _ _ _ _ _ _ _
    | cons c t =>
      subst hm
      obtain ⟨hz, hx, hex⟩ := first_of (s := tx (c :: t)) (c := c) (t := t) rfl
      have hn := tx_ne (l := c :: t) (by simp)
      have hn2 := tx_ne2 (l := c :: t) (by simp)
      have hS5s : (tx (c :: t)).size ≤ 64 := by rw [tx_len]; exact hml
      have htl : t.length ≤ 64 := by simp at hml; omega
      generalize tx (c :: t) = S5 at hz hx hex hn hn2 hS5s ⊢
      go_upto_if 58 with fail
      go_cut [9] (fun s9 wx => ExRel (c :: t) pl s9 wx w)
      case first =>
        by_cases he : c = 101 ∨ c = 69
        · have htk : tkB [101, 69] (c :: t) = true := by rcases he with rfl | rfl <;> simp [tkB]
          have htr : tkR [101, 69] (c :: t) = t := by rcases he with rfl | rfl <;> simp [tkR]
          have h1 := fun w => ref_sign t (by unfold maxLen; omega) w
          have hu := tkR_len [43, 45] t
          have hexp : expF (c :: t) = if (dig (tkR [43, 45] t)).length < 1 ∨ 4 < (dig (tkR [43, 45] t)).length then none else some (sgn (sgB [43, 45] t) (val (dig (tkR [43, 45] t))), rst (tkR [43, 45] t)) := by
            unfold expF
            rw [if_pos htk, htr]
          generalize sgB [43, 45] t = dn at *
          generalize tkR [43, 45] t = u at *
          have h2 := fun w => ref_digits (tx u) (by rw [tx_len]; unfold maxLen; omega) w
          simp only at h2
          have hus : ((tx u).size : Int) = (u.length : Int) := by rw [tx_len]
          have hub : u.length ≤ 64 := by omega
          have hduL := dig_len u
          have hDU := Lib.hid (dig_whole (l := u))
          obtain ⟨k, hk⟩ : ∃ k, (dig u).length = k := ⟨_, rfl⟩
          rw [hk] at h2 hexp hduL
          by_cases hbad : k < 1 ∨ 4 < k ∨ k ≠ u.length
          · have hr : r = (0, 2) := by
              by_cases hb2 : k < 1 ∨ 4 < k
              · rw [if_pos hb2] at hexp
                exact HM.out.2.2.1 W p (c :: t) HDD.out hexp
              · rw [if_neg hb2] at hexp
                refine HM.out.2.2.2 W p (c :: t) (rst u) _ HDD.out hexp (fun h => ?_)
                have := hDU.out.2 h
                omega
            subst hr
            have HUS := Lib.hid hus
            clear hus hexp hk htk htr HDA HM HDD tail hduL
            generalize tx u = U at *
            rcases he with rfl | rfl
            all_goals
              by_cases hb1 : k < 1
              · go_wp2_with fail
                refine (h1 _).mono ?_
                rintro e w1 ⟨rfl, n1, rfl⟩
                go_wp2_with fail
                refine (h2 _).mono ?_
                rintro e w2 ⟨rfl, rfl⟩
                go_wp2
                go_ret2
                exact ⟨rfl, _, rfl⟩
              · by_cases hb4 : 4 < k
                · go_wp2_with fail
                  refine (h1 _).mono ?_
                  rintro e w1 ⟨rfl, n1, rfl⟩
                  go_wp2_with fail
                  refine (h2 _).mono ?_
                  rintro e w2 ⟨rfl, rfl⟩
                  go_wp2
                  go_ret2
                  exact ⟨rfl, _, rfl⟩
                · have hkn0 : ¬ k = U.size := by have := HUS.out; omega
                  have hkn : (k == U.size) = false := by rw [beq_eq_false_iff_ne]; exact hkn0
                  have hkn1 : ((k : Int) != (U.size : Int)) = true := by rw [bne_iff_ne]; omega
                  go_wp2_with fail
                  refine (h1 _).mono ?_
                  rintro e w1 ⟨rfl, n1, rfl⟩
                  go_wp2_with fail
                  refine (h2 _).mono ?_
                  rintro e w2 ⟨rfl, rfl⟩
                  go_wp2
                  go_ret2
                  exact ⟨rfl, _, rfl⟩
          · have hk1 : 1 ≤ k := by omega
            have hk4 : k ≤ 4 := by omega
            have hkl : k = u.length := by omega
            have hrs : rst u = [] := hDU.out.1 (by omega)
            have hdu : dig u = u := by have := dig_rst u; rwa [hrs, List.append_nil] at this
            have hua : AllDig u := by rw [← hdu]; exact dig_all u
            rw [if_neg (by omega), hdu, hrs] at hexp
            have hvb : ∀ i, i ≤ k → val (u.take i) ≤ 9999 := fun i hi => by
              have g1 := val_lt (l := u.take i) (fun x hx => hua x (List.mem_of_mem_take hx))
              have g2 : (u.take i).length ≤ 4 := Nat.le_trans (List.length_take_le _ _) (by omega)
              have g3 : 10 ^ (u.take i).length ≤ 10 ^ 4 := Nat.pow_le_pow_right (by decide) g2
              have g4 : (10 : Nat) ^ 4 = 10000 := by decide
              omega
            have hvu : val u ≤ 9999 := by have := hvb k (Nat.le_refl _); rwa [hkl, List.take_length] at this
            have hxb : -9999 ≤ sgn dn (val u) ∧ sgn dn (val u) ≤ 9999 := by unfold sgn; split <;> omega
            have HE := Lib.hid hexp
            have HU := Lib.hid (And.intro hua hvb)
            have hkus : (tx u).size = k := by rw [tx_len]; exact hkl.symm
            have hsu : ∀ i (h : i < k), ∃ h2 : i < (tx u).size, val (u.take (i + 1)) = val (u.take i) * 10 + ((tx u)[i].toNat - 48) ∧ isDig ((tx u)[i]) = true := fun i h => by
              have h2 : i < (tx u).size := by omega
              refine ⟨h2, ?_, ?_⟩
              · have g1 := val_snoc (u.take i) ((tx u)[i])
                have g2 := take_at (s := tx u) (k := i) h2
                rw [list_tx] at g2
                rw [g2, g1]
              · have g2 := drop_at (s := tx u) (k := i) h2
                rw [list_tx] at g2
                exact hua _ (List.mem_of_mem_drop (i := i) (by rw [g2]; simp))
            have HSU := Lib.hid hsu
            obtain ⟨V, hV⟩ : ∃ V, val u = V := ⟨_, rfl⟩
            have hVf : val (u.take k) = V := by rw [hkl, List.take_length, hV]
            have HVF := Lib.hid hVf
            rw [hV] at HE hxb
            have hVb : (V : Int) ≤ 9999 := by omega
            clear hbad hexp hk htk htr HDA HM HDD tail hduL hus hDU hrs hdu hua hvb hvu hsu hV hVf hkl
            generalize tx u = U at *
            have HUN := Lib.hid hkus
            have hul : U.size ≤ 4 := by omega
            clear hkus
            rcases he with rfl | rfl
            all_goals
              go_wp2_with fail
              refine (h1 _).mono ?_
              rintro e w1 ⟨rfl, n1, rfl⟩
              go_wp2_with fail
              refine (h2 _).mono ?_
              rintro e w2 ⟨rfl, rfl⟩
              have hkk : k = U.size := HUN.out.symm
              subst hkk
              clear HUN h1 h2
              cases dn
              all_goals
                go_wp2
                go_loop [13, 14] (fun s13 s14 => ∃ i : Nat, i ≤ U.size ∧ s14 = .int .i64 i ∧ s13 = .int .i64 (val (u.take i) : Nat)) (fun _ s14 => U.size - (intOf s14).toNat)
                case atStart => exact ⟨0, Nat.zero_le _, rfl, rfl⟩
                case round =>
                  obtain ⟨i, hi, rfl, rfl⟩ := hrel
                  by_cases hlt : i < U.size
                  · obtain ⟨hi2, hs1, hs2⟩ := HSU.out i hlt
                    have hvi := HU.out.2 i (by omega)
                    simp only [isDig, Bool.and_eq_true, decide_eq_true_eq] at hs2
                    have hc3 : (48 : Int) ≤ (U[i].toNat : Int) := by omega
                    have hc4 : (U[i].toNat : Int) ≤ 57 := by omega
                    have HS1 := Lib.hid hs1
                    generalize hVi : val (u.take i) = v at hvi ⊢
                    have HVI := Lib.hid hVi
                    have hvb : (v : Int) ≤ 9999 := by omega
                    clear hs1 hs2 hVi hvi
                    go_wp2
                    go_round
                    case rel => exact ⟨i + 1, by omega, by go_num, by rw [HS1.out, HVI.out]; congr 1; omega⟩
                    case measure => simp [intOf]; omega
                  · obtain rfl : i = U.size := by omega
                    rw [HVF.out]
                    clear hlt
                    go_wp2
                    go_meet
                    case rel => exact ⟨_, _, congrArg (Value.int IntKind.i64) (by simp [sgn]; omega), HE.out, hxb.1, hxb.2, rfl⟩
        · have h101 : c ≠ 101 := fun h => he (.inl h)
          have h69 : c ≠ 69 := fun h => he (.inr h)
          have e101 := byte_ne (c := c) (d := 101) (i := 101) rfl h101
          have e69 := byte_ne (c := c) (d := 69) (i := 69) rfl h69
          have f101 : ((c.toNat : Int) != 101) = true := by rw [bne_iff_ne]; simpa using e101
          have f69 : ((c.toNat : Int) != 69) = true := by rw [bne_iff_ne]; simpa using e69
          have hexp : expF (c :: t) = some (0, c :: t) := by unfold expF; rw [if_neg (by simp [tkB, h101, h69])]
          have hr : r = (0, 2) := HM.out.2.2.2 W p (c :: t) (c :: t) 0 HDD.out hexp (by simp)
          subst hr
          clear he hexp HDA HM HDD tail
          go_wp2
          go_ret2
          exact ⟨rfl, _, rfl⟩
      case rest =>
        rename_i K hK
        obtain ⟨x, n', rfl, he, h1, h2, rfl⟩ := hcut
        obtain ⟨t1, t2, t3, t4, t5⟩ := (tail x n' he h1 h2).out trivial
        refine hK _ _ ?_
        exact ref_tail _ (by kernel_rfl) w n' b D _ r t1 t2 t3 t4 t5 _ _ _ _ _ _ _ _ _ _ _ _ _ _ _ _ _ _ _ _ _ _ _ _ _ _ _ _ _ _ _ _ _ _ _ _ _ _ _ _ _ _ _ _ _ _ _ _ _ _ _ _ _ _ _ _ _ _ _ _ _ _ _ _ _ _ _ _ _ _ _ _ _ _ _ _ _ _ _ _ _ _ _ _ _ _ _ _ _ _ _ _ _ _ _ _ _ _ _ _ _ _ _ _ _ _ _ _ _ _ _ _ _ _ _ _ _ _ _ _ _ _ _ _ _ _ _ _ _ _ _ _ _ _ _ _ _ _ _ _
end Go.Proofs.YtdmkiiggpelmaaaGreatDoor
