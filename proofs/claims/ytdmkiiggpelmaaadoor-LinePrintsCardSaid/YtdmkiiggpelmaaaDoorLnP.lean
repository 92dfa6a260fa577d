/- The chapter's own answer: names, lines that are right, digits. -/
import Derived.Test.YtdmkiiggpelmaaaDoorLnR
namespace Go.Proofs.YtdmkiiggpelmaaaDoor.Lx
open Go Go.RowKit

theorem ref_named (l : List UInt8) (hl : l.length ≤ maxLen) (w : World) :
    Calls Tryd.prog 24 #[.string (tx l)] w fun e w' => e = .returned (.bool (namedL l)) ∧ w' = w := by
  have hs : (tx l).size = l.length := tx_len l
  have hp := fun w => ref_plain (tx l) (by rw [tx_len]; exact hl) w
  rw [list_tx] at hp
  unfold maxLen at hl
  have hn : namedL l = (plainL l && (decide (1 ≤ l.length) && decide (l.length ≤ 64))) := by
    unfold namedL shortL
    cases l <;> simp
  rw [hn, ← hs]
  have hz : (tx l).size ≤ 9223372036854775807 := by omega
  clear hs hl hn
  generalize tx l = T at *
  generalize plainL l = q at *
  obtain ⟨R, hR⟩ : ∃ R, (q && (decide (1 ≤ T.size) && decide (T.size ≤ 64))) = R := ⟨_, rfl⟩
  rw [hR]
  have HR := Lib.hid hR
  clear hR
  go_enter Tryd.func24, Tryd.ntmps24
  go_wp2_with fail
  refine (hp _).mono ?_
  rintro e w1 ⟨rfl, rfl⟩
  clear hp
  have hr := HR.out
  clear HR
  cases q
  · obtain rfl : R = false := hr.symm.trans rfl
    go_wp2
    go_ret
    exact ⟨rfl, rfl⟩
  · by_cases h1 : 1 ≤ T.size
    · by_cases h2 : T.size ≤ 64
      · rw [decide_eq_true h1, decide_eq_true h2] at hr
        obtain rfl : R = true := hr.symm.trans rfl
        have e1 : decide (1 ≤ (T.size : Int)) = true := decide_eq_true (by omega)
        have e2 : decide ((T.size : Int) ≤ 64) = true := decide_eq_true (by omega)
        clear hr
        go_wp2
        go_ret
        exact ⟨rfl, rfl⟩
      · rw [decide_eq_true h1, decide_eq_false h2] at hr
        obtain rfl : R = false := hr.symm.trans rfl
        have e1 : decide (1 ≤ (T.size : Int)) = true := decide_eq_true (by omega)
        have e2 : decide ((T.size : Int) ≤ 64) = false := decide_eq_false (by omega)
        have h2 : 64 < T.size := by omega
        clear hr
        go_wp2
        go_ret
        exact ⟨rfl, rfl⟩
    · rw [decide_eq_false h1] at hr
      obtain rfl : R = false := hr.symm.trans rfl
      have e1 : decide (1 ≤ (T.size : Int)) = false := decide_eq_false (by omega)
      have h1 : T.size = 0 := by omega
      clear hr
      go_wp2
      go_ret
      exact ⟨rfl, rfl⟩

set_option maxRecDepth 100000 in
set_option maxHeartbeats 4000000 in
theorem ref_right (n : List UInt8) (hn : n.length ≤ maxLen) (p : Option Addr) (cap : Nat) (ls : List Lab) (a b : Int) (hlm : ls.length ≤ maxLen) (w : World) (hL : LbAt p ls w) :
    Calls Tryd.prog 14 #[.agg (lineC (tx n) (.slice p ls.length cap) a b)] w fun e w' => e = .returned (.bool (rightF ⟨n, ls, a, b⟩)) ∧ Below w.heap.size w w' := by
  have hr : rightF ⟨n, ls, a, b⟩ = (ls.all okL && (namedL n && (decide (ls.length ≤ 16) && decide (0 ≤ b)))) := by
    rw [rightF_eq]
    cases decide (0 ≤ b) <;> cases decide (ls.length ≤ 16) <;> cases namedL n <;> cases ls.all okL <;> rfl
  rw [hr]
  have hnm := fun w => ref_named n hn w
  have hbel : Below w.heap.size w (w.alloc (.cells (lineC (tx n) (.slice p ls.length cap) a b) 34)) := (Below.refl _ _).alloc (Nat.le_refl _) _
  have HL0 := Lib.hid (hL.below hbel)
  have HB0 := Lib.hid hbel
  have HC0 := Lib.hid (CellsAt.new (lineC (tx n) (.slice p ls.length cap) a b) 34 w)
  unfold maxLen at hlm
  obtain ⟨V, hV⟩ : ∃ V, ls.all okL = V := ⟨_, rfl⟩
  obtain ⟨Q, hQ⟩ : ∃ V, namedL n = V := ⟨_, rfl⟩
  rw [hQ] at hnm
  rw [hV, hQ]
  have HV := Lib.hid hV
  obtain ⟨R, hRR⟩ : ∃ R, (V && (Q && (decide (ls.length ≤ 16) && decide (0 ≤ b)))) = R := ⟨_, rfl⟩
  rw [hRR]
  have HRR := Lib.hid hRR
  clear hL hn hr hbel hV hQ hRR
  go_enter Tryd.func14, Tryd.ntmps14
  go_wp2
  go_loopg [3] ls.length (fun g s3 wx => ∃ k : Nat, s3 = .int .i64 (k : Int) ∧ g + k = ls.length ∧ Hid (V = (ls.drop k).all okL) ∧ Hid (LbAt p ls wx) ∧ Hid (CellsAt w.heap.size (lineC (tx n) (.slice p ls.length cap) a b) wx) ∧ Hid (Below w.heap.size w wx))
  case atStart => exact ⟨0, rfl, rfl, Lib.hid HV.out.symm, HL0, HC0, HB0⟩
  case round =>
    clear HL0 HB0 HV HC0
    obtain ⟨k, rfl, hgk, HV, HL, HC, HB⟩ := hrel
    have k0 := HC.out.cell 0 _ rfl
    have k1 := HC.out.cell 1 _ rfl
    have k3 := HC.out.cell 3 _ rfl
    cases gk with
    | zero =>
      have hk : k = ls.length := by omega
      subst hk
      have hr := HV.out
      rw [List.drop_length, List.all_nil] at hr
      obtain rfl : V = true := hr
      clear HV HL HC
      have hr := HRR.out
      clear HRR
      go_wp2_with fail
      refine (hnm _).mono ?_
      rintro e w1 ⟨rfl, rfl⟩
      clear hnm
      cases Q
      · obtain rfl : R = false := hr.symm.trans rfl
        clear hr
        go_wp2
        go_ret
        exact ⟨rfl, HB.out⟩
      · by_cases h1 : ls.length ≤ 16
        · by_cases h2 : 0 ≤ b
          · rw [decide_eq_true h1, decide_eq_true h2] at hr
            obtain rfl : R = true := hr.symm.trans rfl
            have e2 : decide (0 ≤ b) = true := decide_eq_true h2
            clear hr
            go_wp2
            go_ret
            exact ⟨rfl, HB.out⟩
          · rw [decide_eq_true h1, decide_eq_false h2] at hr
            obtain rfl : R = false := hr.symm.trans rfl
            have e2 : decide (0 ≤ b) = false := decide_eq_false h2
            clear hr
            go_wp2
            go_ret
            exact ⟨rfl, HB.out⟩
        · rw [decide_eq_false h1] at hr
          obtain rfl : R = false := hr.symm.trans rfl
          have e1 : decide ((ls.length : Int) ≤ 16) = false := decide_eq_false (by omega)
          clear hr
          go_wp2
          go_ret
          exact ⟨rfl, HB.out⟩
    | succ g =>
      have hlt : k < ls.length := by omega
      obtain ⟨C, off, rfl, hC, c0, c1, b0, b1⟩ := HL.out k hlt
      have hr := HV.out
      rw [List.drop_eq_getElem_cons hlt, List.all_cons] at hr
      have HR := Lib.hid hr
      clear hr HV
      generalize ls[k] = x at c0 c1 b0 b1 HR
      obtain ⟨x1, x2⟩ := x
      have hn1 := fun w => ref_named x1 b0 w
      have hn2 := fun w => ref_named x2 b1 w
      clear b0 b1 hnm
      obtain ⟨N1, h1⟩ : ∃ b, namedL x1 = b := ⟨_, rfl⟩
      obtain ⟨N2, h2⟩ : ∃ b, namedL x2 = b := ⟨_, rfl⟩
      rw [h1] at hn1
      rw [h2] at hn2
      have HR2 : Hid (V = ((N1 && N2) && (ls.drop (k + 1)).all okL)) := Lib.hid (by rw [HR.out]; unfold okL; rw [h1, h2])
      clear h1 h2 HR
      generalize tx x1 = y1 at *
      generalize tx x2 = y2 at *
      cases N1
      · obtain rfl : V = false := HR2.out.trans rfl
        obtain rfl : R = false := HRR.out.symm.trans rfl
        go_wp2_with fail
        refine (hn1 _).mono ?_
        rintro e w1 ⟨rfl, rfl⟩
        go_wp2_with fail
        refine (hn2 _).mono ?_
        rintro e w1 ⟨rfl, rfl⟩
        go_wp2
        go_ret
        exact ⟨rfl, HB.out⟩
      · cases N2
        · obtain rfl : V = false := HR2.out.trans rfl
          obtain rfl : R = false := HRR.out.symm.trans rfl
          go_wp2_with fail
          refine (hn1 _).mono ?_
          rintro e w1 ⟨rfl, rfl⟩
          go_wp2_with fail
          refine (hn2 _).mono ?_
          rintro e w1 ⟨rfl, rfl⟩
          go_wp2
          go_ret
          exact ⟨rfl, HB.out⟩
        · have HR3 : Hid (V = (ls.drop (k + 1)).all okL) := Lib.hid (HR2.out.trans rfl)
          clear HR2
          go_wp2_with fail
          refine (hn1 _).mono ?_
          rintro e w1 ⟨rfl, rfl⟩
          go_wp2_with fail
          refine (hn2 _).mono ?_
          rintro e w1 ⟨rfl, rfl⟩
          go_wp2
          go_roundg g
          case measure => omega
          case rel => exact ⟨k + 1, by go_num, by omega, HR3, HL, HC, HB⟩
end Go.Proofs.YtdmkiiggpelmaaaDoor.Lx
