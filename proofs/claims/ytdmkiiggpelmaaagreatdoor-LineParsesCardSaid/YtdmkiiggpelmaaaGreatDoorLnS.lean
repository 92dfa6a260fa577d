/- The chapter's own answer: names, lines that are right, digits. The chapter's own answer: a line printed. The chapter's own answer: a line printed, when it is right. -/
import Derived.Test.YtdmkiiggpelmaaaGreatDoorLnR
import Derived.Test.YtdmkiiggpelmaaaGreatDoorLnT
namespace Go.Proofs.YtdmkiiggpelmaaaGreatDoor.Lx
open Go Go.RowKit

theorem ref_named (l : List UInt8) (hl : l.length ≤ maxLen) (w : World) :
    Calls Tryz.prog 28 #[.string (tx l)] w fun e w' => e = .returned (.bool (namedL l)) ∧ w' = w := by
  have hs : (tx l).size = l.length := tx_len l
  have hp := fun w => ref_plain (tx l) (by rw [tx_len]; exact hl) w
  rw [list_tx] at hp
  unfold maxLen at hl
  have hn : namedL l = (plainL l && (decide (1 ≤ l.length) && decide (l.length ≤ 64))) := by
    unfold namedL shortL
    cases l <;> simp
  rw [hn, ← hs]
  have hz : (tx l).size ≤ 9223372036854775807 := by omega
  clear hs hl hn
  generalize tx l = T at *
  generalize plainL l = q at *
  obtain ⟨R, hR⟩ : ∃ R, (q && (decide (1 ≤ T.size) && decide (T.size ≤ 64))) = R := ⟨_, rfl⟩
  rw [hR]
  have HR := Lib.hid hR
  clear hR
  go_enter Tryz.func28, Tryz.ntmps28
  go_wp2_with fail
  refine (hp _).mono ?_
  rintro e w1 ⟨rfl, rfl⟩
  clear hp
  have hr := HR.out
  clear HR
  cases q
  · obtain rfl : R = false := hr.symm.trans rfl
    go_wp2
    go_ret
    exact ⟨rfl, rfl⟩
  · by_cases h1 : 1 ≤ T.size
    · by_cases h2 : T.size ≤ 64
      · rw [decide_eq_true h1, decide_eq_true h2] at hr
        obtain rfl : R = true := hr.symm.trans rfl
        have e1 : decide (1 ≤ (T.size : Int)) = true := decide_eq_true (by omega)
        have e2 : decide ((T.size : Int) ≤ 64) = true := decide_eq_true (by omega)
        clear hr
        go_wp2
        go_ret
        exact ⟨rfl, rfl⟩
      · rw [decide_eq_true h1, decide_eq_false h2] at hr
        obtain rfl : R = false := hr.symm.trans rfl
        have e1 : decide (1 ≤ (T.size : Int)) = true := decide_eq_true (by omega)
        have e2 : decide ((T.size : Int) ≤ 64) = false := decide_eq_false (by omega)
        have h2 : 64 < T.size := by omega
        clear hr
        go_wp2
        go_ret
        exact ⟨rfl, rfl⟩
    · rw [decide_eq_false h1] at hr
      obtain rfl : R = false := hr.symm.trans rfl
      have e1 : decide (1 ≤ (T.size : Int)) = false := decide_eq_false (by omega)
      have h1 : T.size = 0 := by omega
      clear hr
      go_wp2
      go_ret
      exact ⟨rfl, rfl⟩

set_option maxRecDepth 100000 in
set_option maxHeartbeats 4000000 in
theorem ref_right (n : List UInt8) (hn : n.length ≤ maxLen) (p : Option Addr) (cap : Nat) (ls : List Lab) (a b : Int) (hlm : ls.length ≤ maxLen) (w : World) (hL : LbAt p ls w) :
    Calls Tryz.prog 14 #[.agg (lineC (tx n) (.slice p ls.length cap) a b)] w fun e w' => e = .returned (.bool (rightF ⟨n, ls, a, b⟩)) ∧ Below w.heap.size w w' := by
  have hr : rightF ⟨n, ls, a, b⟩ = (ls.all okL && (namedL n && (decide (ls.length ≤ 16) && decide (0 ≤ b)))) := by
    rw [rightF_eq]
    cases decide (0 ≤ b) <;> cases decide (ls.length ≤ 16) <;> cases namedL n <;> cases ls.all okL <;> rfl
  rw [hr]
  have hnm := fun w => ref_named n hn w
  have hbel : Below w.heap.size w (w.alloc (.cells (lineC (tx n) (.slice p ls.length cap) a b) 32)) := (Below.refl _ _).alloc (Nat.le_refl _) _
  have HL0 := Lib.hid (hL.below hbel)
  have HB0 := Lib.hid hbel
  have HC0 := Lib.hid (CellsAt.new (lineC (tx n) (.slice p ls.length cap) a b) 32 w)
  unfold maxLen at hlm
  obtain ⟨V, hV⟩ : ∃ V, ls.all okL = V := ⟨_, rfl⟩
  obtain ⟨Q, hQ⟩ : ∃ V, namedL n = V := ⟨_, rfl⟩
  rw [hQ] at hnm
  rw [hV, hQ]
  have HV := Lib.hid hV
  obtain ⟨R, hRR⟩ : ∃ R, (V && (Q && (decide (ls.length ≤ 16) && decide (0 ≤ b)))) = R := ⟨_, rfl⟩
  rw [hRR]
  have HRR := Lib.hid hRR
  clear hL hn hr hbel hV hQ hRR
  go_enter Tryz.func14, Tryz.ntmps14
  go_wp2
  go_loopg [3] ls.length (fun g s3 wx => ∃ k : Nat, s3 = .int .i64 (k : Int) ∧ g + k = ls.length ∧ Hid (V = (ls.drop k).all okL) ∧ Hid (LbAt p ls wx) ∧ Hid (CellsAt w.heap.size (lineC (tx n) (.slice p ls.length cap) a b) wx) ∧ Hid (Below w.heap.size w wx))
  case atStart => exact ⟨0, rfl, rfl, Lib.hid HV.out.symm, HL0, HC0, HB0⟩
  case round =>
    clear HL0 HB0 HV HC0
    obtain ⟨k, rfl, hgk, HV, HL, HC, HB⟩ := hrel
    have k0 := HC.out.cell 0 _ rfl
    have k1 := HC.out.cell 1 _ rfl
    have k3 := HC.out.cell 3 _ rfl
    cases gk with
    | zero =>
      have hk : k = ls.length := by omega
      subst hk
      have hr := HV.out
      rw [List.drop_length, List.all_nil] at hr
      obtain rfl : V = true := hr
      clear HV HL HC
      have hr := HRR.out
      clear HRR
      go_wp2_with fail
      refine (hnm _).mono ?_
      rintro e w1 ⟨rfl, rfl⟩
      clear hnm
      cases Q
      · obtain rfl : R = false := hr.symm.trans rfl
        clear hr
        go_wp2
        go_ret
        exact ⟨rfl, HB.out⟩
      · by_cases h1 : ls.length ≤ 16
        · by_cases h2 : 0 ≤ b
          · rw [decide_eq_true h1, decide_eq_true h2] at hr
            obtain rfl : R = true := hr.symm.trans rfl
            have e2 : decide (0 ≤ b) = true := decide_eq_true h2
            clear hr
            go_wp2
            go_ret
            exact ⟨rfl, HB.out⟩
          · rw [decide_eq_true h1, decide_eq_false h2] at hr
            obtain rfl : R = false := hr.symm.trans rfl
            have e2 : decide (0 ≤ b) = false := decide_eq_false h2
            clear hr
            go_wp2
            go_ret
            exact ⟨rfl, HB.out⟩
        · rw [decide_eq_false h1] at hr
          obtain rfl : R = false := hr.symm.trans rfl
          have e1 : decide ((ls.length : Int) ≤ 16) = false := decide_eq_false (by omega)
          clear hr
          go_wp2
          go_ret
          exact ⟨rfl, HB.out⟩
    | succ g =>
      have hlt : k < ls.length := by omega
      obtain ⟨C, off, rfl, hC, c0, c1, b0, b1⟩ := HL.out k hlt
      have hr := HV.out
      rw [List.drop_eq_getElem_cons hlt, List.all_cons] at hr
      have HR := Lib.hid hr
      clear hr HV
      generalize ls[k] = x at c0 c1 b0 b1 HR
      obtain ⟨x1, x2⟩ := x
      have hn1 := fun w => ref_named x1 b0 w
      have hn2 := fun w => ref_named x2 b1 w
      clear b0 b1 hnm
      obtain ⟨N1, h1⟩ : ∃ b, namedL x1 = b := ⟨_, rfl⟩
      obtain ⟨N2, h2⟩ : ∃ b, namedL x2 = b := ⟨_, rfl⟩
      rw [h1] at hn1
      rw [h2] at hn2
      have HR2 : Hid (V = ((N1 && N2) && (ls.drop (k + 1)).all okL)) := Lib.hid (by rw [HR.out]; unfold okL; rw [h1, h2])
      clear h1 h2 HR
      generalize tx x1 = y1 at *
      generalize tx x2 = y2 at *
      cases N1
      · obtain rfl : V = false := HR2.out.trans rfl
        obtain rfl : R = false := HRR.out.symm.trans rfl
        go_wp2_with fail
        refine (hn1 _).mono ?_
        rintro e w1 ⟨rfl, rfl⟩
        go_wp2_with fail
        refine (hn2 _).mono ?_
        rintro e w1 ⟨rfl, rfl⟩
        go_wp2
        go_ret
        exact ⟨rfl, HB.out⟩
      · cases N2
        · obtain rfl : V = false := HR2.out.trans rfl
          obtain rfl : R = false := HRR.out.symm.trans rfl
          go_wp2_with fail
          refine (hn1 _).mono ?_
          rintro e w1 ⟨rfl, rfl⟩
          go_wp2_with fail
          refine (hn2 _).mono ?_
          rintro e w1 ⟨rfl, rfl⟩
          go_wp2
          go_ret
          exact ⟨rfl, HB.out⟩
        · have HR3 : Hid (V = (ls.drop (k + 1)).all okL) := Lib.hid (HR2.out.trans rfl)
          clear HR2
          go_wp2_with fail
          refine (hn1 _).mono ?_
          rintro e w1 ⟨rfl, rfl⟩
          go_wp2_with fail
          refine (hn2 _).mono ?_
          rintro e w1 ⟨rfl, rfl⟩
          go_wp2
          go_roundg g
          case measure => omega
          case rel => exact ⟨k + 1, by go_num, by omega, HR3, HL, HC, HB⟩
end Go.Proofs.YtdmkiiggpelmaaaGreatDoor.Lx

namespace Go.Proofs.YtdmkiiggpelmaaaGreatDoor.Lx
open Go Go.RowKit

theorem ref_line (n : ByteArray) (p : Option Addr) (m cap : Nat) (a b : Int) (w : World) :
    Calls Tryz.prog 6 #[.agg (lineC n (.slice p m cap) a b)] w fun e w' => e = .returned (.agg (lineC n (.slice p m cap) a b)) ∧ Below w.heap.size w w' := by
  have HC0 := Lib.hid ((CellsAt.new (lineC n (.slice p m cap) a b) 24 w).past (.cells (lineC ⟨#[]⟩ (.slice none 0 0) 0 0) 32))
  have HB0 := Lib.hid (((Below.refl w.heap.size w).alloc (Nat.le_refl _) (.cells (lineC n (.slice p m cap) a b) 24)).alloc (by simp) (.cells (lineC n (.slice p m cap) a b) 32))
  have k0 := HC0.out.cell 0 _ rfl
  have k1 := HC0.out.cell 1 _ rfl
  have k2 := HC0.out.cell 2 _ rfl
  have k3 := HC0.out.cell 3 _ rfl
  go_enter Tryz.func6, Tryz.ntmps6
  go_wp2
  refine bodyPost_ret (v := .agg (lineC n (.slice p m cap) a b)) (by simp [results, Tryz.results6, go_sem]) rfl ⟨rfl, HB0.out⟩

set_option maxRecDepth 100000 in
theorem made_own (x : MadeV) (ho : x.own = false) (w : World) :
    Calls Tryz.prog 7 #[.agg x.vals] w fun e w' => e = .returned (.agg (lineC (tx x.name) (.slice x.lp x.ls.length x.lcap) x.value x.time)) ∧ Below w.heap.size w w' := by
  have hE0 : Below w.heap.size w (w.alloc (.cells x.vals 28)) := (Below.refl _ _).alloc (Nat.le_refl _) _
  have HE1 := Lib.hid (hE0.alloc hE0.size (.cells (lineC (tx x.name) (.slice x.lp x.ls.length x.lcap) x.value x.time) 24))
  have HV := Lib.hid ((CellsAt.new x.vals 28 w).past (.cells (lineC ⟨#[]⟩ (.slice none 0 0) 0 0) 24))
  obtain ⟨name, lp, ls, lcap, value, time, own, np, nm, ncap, ip, it, icap⟩ := x
  simp only at ho
  subst ho
  clear hE0
  simp only [MadeV.vals] at HV HE1 ⊢
  have k0 := HV.out.cell 0 _ rfl
  have k1 := HV.out.cell 1 _ rfl
  have k2 := HV.out.cell 2 _ rfl
  have k3 := HV.out.cell 3 _ rfl
  have k4 := HV.out.cell 4 _ rfl
  go_enter Tryz.func7, Tryz.ntmps7
  go_wp2
  refine bodyPost_ret (v := .agg (lineC (tx name) (.slice lp ls.length lcap) value time)) (by simp [results, Tryz.results7, go_sem]) rfl ⟨rfl, HE1.out⟩

theorem esc_tx (l : List UInt8) (hl : l.length ≤ 64) (w : World) :
    Calls Tryz.prog 15 #[.string (tx l)] w fun e w' => e = .returned (.string (tx (escL l))) ∧ Below w.heap.size w w' := by
  have h := ref_escape (tx l) (by rw [tx_len]; omega) w
  rwa [list_tx] at h
theorem dgs_tx (n : Nat) (hn : n < 18446744073709551616) (w : World) :
    Calls Tryz.prog 17 #[.int .u64 n] w fun e w' => e = .returned (.string (tx (Lib.decDigits n))) ∧ Below w.heap.size w w' := Go.Proofs.YtdmkiiggpelmaaaGreatDoor.ref_dgs n hn w
theorem txt_tx (n : Int) (hn : In64 n) (w : World) :
    Calls Tryz.prog 16 #[.int .i64 n] w fun e w' => e = .returned (.string (tx (textF n))) ∧ Below w.heap.size w w' := Go.Proofs.YtdmkiiggpelmaaaGreatDoor.ref_text n hn w

set_option maxRecDepth 100000 in
set_option maxHeartbeats 4000000 in
theorem ref_print_wrong (n : List UInt8) (hn : n.length ≤ maxLen) (p : Option Addr) (cap : Nat) (ls : List Lab) (a b : Int) (hlm : ls.length ≤ maxLen) (hr : rightF ⟨n, ls, a, b⟩ = false) (w : World) (hL : LbAt p ls w) :
    Calls Tryz.prog 5 #[.agg (lineC (tx n) (.slice p ls.length cap) a b)] w fun e w' => e = .returned (.tuple #[.string ⟨#[]⟩, .bool false]) ∧ Below w.heap.size w w' := by
  have hR := fun w h => ref_right n hn p cap ls a b hlm w h
  rw [hr] at hR
  have hbel : Below w.heap.size w (w.alloc (.cells (lineC (tx n) (.slice p ls.length cap) a b) 32)) := (Below.refl _ _).alloc (Nat.le_refl _) _
  have HL0 := Lib.hid (hL.below hbel)
  have HB0 := Lib.hid hbel
  clear hr hL hbel
  go_enter Tryz.func5, Tryz.ntmps5
  go_wp2_with fail
  refine (hR _ HL0.out).mono ?_
  rintro e w1 ⟨rfl, hB1⟩
  have HB1 := Lib.hid (HB0.out.trans (hB1.mono HB0.out.size))
  clear hR hB1 HL0 HB0
  go_wp2
  go_ret2
  exact ⟨rfl, HB1.out⟩

end Go.Proofs.YtdmkiiggpelmaaaGreatDoor.Lx

namespace Go.Proofs.YtdmkiiggpelmaaaGreatDoor.Lx
open Go Go.RowKit

set_option maxRecDepth 100000 in
set_option maxHeartbeats 1000000 in
theorem ref_print_right (n : List UInt8) (p : Option Addr) (cap : Nat) (ls : List Lab) (a b : Int) (ha : In64 a) (hb : b ≤ 9223372036854775807) (hr : rightF ⟨n, ls, a, b⟩ = true) (w : World) (hL : LbAt p ls w) :
    Calls Tryz.prog 5 #[.agg (lineC (tx n) (.slice p ls.length cap) a b)] w fun e w' => e = .returned (printV ⟨n, ls, a, b⟩ (decide ((printF ⟨n, ls, a, b⟩).length ≤ 1024))) ∧ Below w.heap.size w w' := by
  obtain ⟨hb0, hm, hn, hx⟩ := right_parts hr
  have hR := fun w h => ref_right n (by unfold maxLen; omega) p cap ls a b (by unfold maxLen; omega) w h
  rw [hr] at hR
  have hbel : Below w.heap.size w (w.alloc (.cells (lineC (tx n) (.slice p ls.length cap) a b) 32)) := (Below.refl _ _).alloc (Nat.le_refl _) _
  have HL0 := Lib.hid (hL.below hbel)
  have HB0 := Lib.hid hbel
  have HC0 := Lib.hid (CellsAt.new (lineC (tx n) (.slice p ls.length cap) a b) 32 w)
  have he := esc_tx n hn
  obtain ⟨R, hRR⟩ : ∃ R, printV ⟨n, ls, a, b⟩ (decide ((printF ⟨n, ls, a, b⟩).length ≤ 1024)) = R := ⟨_, rfl⟩
  rw [hRR]
  have HRR := Lib.hid hRR
  have HX := Lib.hid hx
  have hS0 := esc_size hn
  obtain ⟨t, rfl⟩ : ∃ t : Nat, b = (t : Int) := ⟨b.toNat, by omega⟩
  clear hL hn hr hbel hRR hx
  have k0 := HC0.out.cell 0 _ rfl
  have k1 := HC0.out.cell 1 _ rfl
  have k2 := HC0.out.cell 2 _ rfl
  have k3 := HC0.out.cell 3 _ rfl
  go_enter Tryz.func5, Tryz.ntmps5
  go_wp2_with fail
  refine (hR _ HL0.out).mono ?_
  rintro e w1 ⟨rfl, hB1⟩
  have HB1 := Lib.hid (HB0.out.trans (hB1.mono HB0.out.size))
  have HL1 := Lib.hid (HL0.out.below hB1)
  have HC1 := Lib.hid (HC0.out.below hB1)
  clear hR hB1 HL0 HB0 HC0 k0 k1 k2 k3
  have k0 := HC1.out.cell 0 _ rfl
  go_wp2_with fail
  refine (he _).mono ?_
  rintro e w2 ⟨rfl, hB2⟩
  have HB2 := Lib.hid (HB1.out.trans (hB2.mono HB1.out.size))
  have HL2 := Lib.hid (HL1.out.below hB2)
  have HC2 := Lib.hid (HC1.out.below hB2)
  clear k0 hB2 HL1 HB1 HC1 he
  obtain ⟨S0, hS⟩ : ∃ S, tx (escL n) = S := ⟨_, rfl⟩
  rw [hS] at hS0 ⊢
  have HS := Lib.hid hS
  clear hS
  go_wp2
  go_loopg [5, 6] ls.length (fun g s5 s6 wx => ∃ (k : Nat) (S : ByteArray), k + g = ls.length ∧ s6 = .int .i64 (k : Int) ∧ s5 = .string S ∧ S.size ≤ 128 + 258 * k ∧ Hid (S = tx (escL n ++ (ls.take k).flatMap labelP)) ∧ Hid (LbAt p ls wx) ∧ Hid (CellsAt w.heap.size (lineC (tx n) (.slice p ls.length cap) a (t : Int)) wx) ∧ Hid (Below w.heap.size w wx))
  case atStart => exact ⟨0, S0, by omega, rfl, rfl, by omega, Lib.hid (by rw [← HS.out]; simp), HL2, HC2, HB2⟩
  case round =>
    clear HL2 HC2 HB2 HS hS0
    obtain ⟨k, S, hkg, rfl, rfl, hSs, HS, HL, HC, HB⟩ := hrel
    have k1 := HC.out.cell 1 _ rfl
    cases gk with
    | zero =>
      obtain rfl : k = ls.length := by omega
      have he1 := fun (p : Beh wr) => txt_tx a ha p.u
      have he2 := fun (p : Beh wr) => dgs_tx t (by omega) p.u
      have hBl := HC.out.lt
      have q1 := Beh.cell (w := wr) hBl (HC.out.cell 2 _ rfl)
      have q2 := Beh.cell (w := wr) hBl (HC.out.cell 3 _ rfl)
      have s1 : (tx (textF a)).size ≤ 21 := by rw [tx_len]; exact (text_len ha).1
      have s2 : (tx (Lib.decDigits t)).size ≤ 20 := by rw [tx_len]; exact dec_20 (by omega)
      have HP : Hid (S ++ ⟨#[32, 118, 97, 108, 117, 101, 61]⟩ ++ tx (textF a) ++ ⟨#[32]⟩ ++ tx (Lib.decDigits t) = tx (printF ⟨n, ls, a, (t : Int)⟩)) := Lib.hid (by
        rw [HS.out, show (⟨#[32, 118, 97, 108, 117, 101, 61]⟩ : ByteArray) = tx [32, 118, 97, 108, 117, 101, 61] from rfl, show (⟨#[32]⟩ : ByteArray) = tx [32] from rfl]
        simp only [tx_append]
        rw [List.take_length]
        simp [printF, valueL])
      generalize tx (textF a) = E1 at *
      generalize tx (Lib.decDigits t) = E2 at *
      have hwrap : IntKind.u64.wrap (t : Int) = (t : Int) := IntWalk.u64_in _ (by omega)
      have z1 : (9223372036854775807 < S.size + 7) = False := eq_false (by omega)
      have z2 : (9223372036854775807 < S.size + 7 + E1.size) = False := eq_false (by omega)
      have z3 : (9223372036854775807 < S.size + 7 + E1.size + 1) = False := eq_false (by omega)
      have z4 : (9223372036854775807 < S.size + 7 + E1.size + 1 + E2.size) = False := eq_false (by omega)
      go_wp2
      refine wp_region_beh (by kernel_rfl) (by kernel_rfl) ?_
      iterate 5 (quiet_step (exact calls_beh _ (he1 _)))
      iterate 8 (quiet_step (exact calls_beh _ (he2 _)))
      refine wpQuiet_nil ?_
      intro _ hw'
      obtain ⟨⟨W, hBW⟩, hw''⟩ := hw'
      subst hw''
      have HB2 := Lib.hid (HB.out.trans (hBW.mono HB.out.size))
      have hS2 : (S ++ ⟨#[32, 118, 97, 108, 117, 101, 61]⟩ ++ E1 ++ ⟨#[32]⟩ ++ E2).size ≤ 128 + 258 * ls.length + 100 := by
        rw [ByteArray.size_append, ByteArray.size_append, ByteArray.size_append, ByteArray.size_append]
        show S.size + 7 + E1.size + 1 + E2.size ≤ _
        omega
      clear he1 he2 q1 q2 hBW z1 z2 z3 z4 HB k1 hwrap
      generalize S ++ ⟨#[32, 118, 97, 108, 117, 101, 61]⟩ ++ E1 ++ ⟨#[32]⟩ ++ E2 = S2 at *
      have hlen : (printF ⟨n, ls, a, (t : Int)⟩).length = S2.size := by rw [HP.out, tx_len]
      have hr := HRR.out
      rw [hlen] at hr
      clear hlen
      by_cases h : S2.size ≤ 1024
      · rw [decide_eq_true h] at hr
        unfold printV at hr
        simp only at hr
        rw [← HP.out] at hr
        subst hr
        clear HP HRR
        go_wp2
        go_ret2
        exact ⟨rfl, HB2.out⟩
      · rw [decide_eq_false h] at hr
        unfold printV at hr
        simp only at hr
        subst hr
        have h : 1024 < S2.size := by omega
        clear HP HRR
        go_wp2
        go_ret2
        exact ⟨rfl, HB2.out⟩
    | succ g =>
      have hlt : k < ls.length := by omega
      obtain ⟨C, off, rfl, hC, c0, c1, _, _⟩ := HL.out k hlt
      obtain ⟨b0, b1⟩ := HX.out _ (List.getElem_mem hlt)
      have htk : (ls.take (k + 1)).flatMap labelP = (ls.take k).flatMap labelP ++ labelP ls[k] := by
        rw [List.take_succ_eq_append_getElem hlt, List.flatMap_append]
        simp
      have HTK := Lib.hid htk
      clear htk
      generalize ls[k] = x at c0 c1 b0 b1 HTK
      obtain ⟨x1, x2⟩ := x
      have he1 := fun (p : Beh wr) => esc_tx x1 b0 p.u
      have he2 := fun (p : Beh wr) => esc_tx x2 b1 p.u
      have s1 := esc_size b0
      have s2 := esc_size b1
      have hBl := HC.out.lt
      have q1 := Beh.cell (w := wr) hC c0
      have q2 := Beh.cell (w := wr) hC c1
      have q3 := Beh.cell (w := wr) hBl k1
      have HP : Hid (S ++ ⟨#[44]⟩ ++ tx (escL x1) ++ ⟨#[61]⟩ ++ tx (escL x2) = tx (escL n ++ (ls.take (k + 1)).flatMap labelP)) := Lib.hid (by
        rw [HTK.out, HS.out, show (⟨#[44]⟩ : ByteArray) = tx [44] from rfl, show (⟨#[61]⟩ : ByteArray) = tx [61] from rfl]
        simp only [tx_append]
        simp [labelP])
      clear HTK b0 b1
      generalize tx (escL x1) = E1 at *
      generalize tx (escL x2) = E2 at *
      generalize tx x1 = y1 at *
      generalize tx x2 = y2 at *
      have z1 : (9223372036854775807 < S.size + 1) = False := eq_false (by omega)
      have z2 : (9223372036854775807 < S.size + 1 + E1.size) = False := eq_false (by omega)
      have z3 : (9223372036854775807 < S.size + 1 + E1.size + 1) = False := eq_false (by omega)
      have z4 : (9223372036854775807 < S.size + 1 + E1.size + 1 + E2.size) = False := eq_false (by omega)
      go_wp2
      refine wp_region_beh (by kernel_rfl) (by kernel_rfl) ?_
      iterate 9 (quiet_step (exact calls_beh _ (he1 _)))
      iterate 11 (quiet_step (exact calls_beh _ (he2 _)))
      refine wpQuiet_nil ?_
      intro _ hw'
      obtain ⟨⟨W, hBW⟩, hw''⟩ := hw'
      subst hw''
      have HB2 := Lib.hid (HB.out.trans (hBW.mono HB.out.size))
      have HL2 := Lib.hid (HL.out.below hBW)
      have HC2 := Lib.hid (HC.out.below hBW)
      have hS2 : (S ++ ⟨#[44]⟩ ++ E1 ++ ⟨#[61]⟩ ++ E2).size ≤ 128 + 258 * (k + 1) := by
        rw [ByteArray.size_append, ByteArray.size_append, ByteArray.size_append, ByteArray.size_append]
        show S.size + 1 + E1.size + 1 + E2.size ≤ _
        omega
      clear he1 he2 q1 q2 q3 hBW z1 z2 z3 z4 HB HL HC k1
      generalize S ++ ⟨#[44]⟩ ++ E1 ++ ⟨#[61]⟩ ++ E2 = S2 at *
      go_wp2
      go_roundg g
      case measure => omega
      case rel => exact ⟨k + 1, S2, by omega, by go_num, rfl, hS2, HP, HL2, HC2, HB2⟩
end Go.Proofs.YtdmkiiggpelmaaaGreatDoor.Lx

