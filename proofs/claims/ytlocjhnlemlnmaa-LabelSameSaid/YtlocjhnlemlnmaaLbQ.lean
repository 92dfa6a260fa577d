/- The chapter's own answer: labels sorted. -/
import Derived.Test.YtlocjhnlemlnmaaLbK
namespace Go.Proofs.Ytlocjhnlemlnmaa.Lx
open Go Go.RowKit

theorem insK_cons (x y : LabB) (r : List LabB) : insK x (y :: r) = if ltB y.1 x.1 then (insK x r).map (y :: ·) else if y.1 = x.1 then none else some (x :: y :: r) := rfl
theorem Short.take' {ls : List LabB} (h : Short ls) (k : Nat) : Short (ls.take k) := fun x hx => h x (List.take_sublist _ _ |>.subset hx)

theorem less_is : ∀ a b : List UInt8, Op.bytesLess a b = ltB a b
  | [], [] => rfl
  | [], _ :: _ => rfl
  | _ :: _, [] => rfl
  | x :: a, y :: b => by
    unfold Op.bytesLess ltB
    rw [less_is a b]
    simp only [UInt8.lt_iff_toNat_lt]
    by_cases h1 : x.toNat < y.toNat
    · simp [h1]
    · by_cases h2 : y.toNat < x.toNat
      · simp [h1, h2]
        try (rintro rfl; omega)
      · have : x = y := UInt8.toNat_inj.1 (by omega)
        simp [this]
theorem less_tx (a b : List UInt8) : Op.bytesLess (tx a).toList (tx b).toList = ltB a b := by rw [Lib.toList_data, Lib.toList_data, list_tx, list_tx, less_is]
theorem insK_step {x : LabB} {O : List LabB} {a : Nat} (ha : a < O.length) (h : ltB O[a].1 x.1 = true) (hi : insK x O = (insK x (O.drop a)).map (O.take a ++ ·)) : insK x O = (insK x (O.drop (a + 1))).map (O.take (a + 1) ++ ·) := by
  rw [hi, List.drop_eq_getElem_cons ha, insK_cons, if_pos h]
  cases insK x (O.drop (a + 1)) with
  | none => rfl
  | some v =>
    have := List.take_succ_eq_append_getElem ha
    simp only [Option.map_some, this, List.append_assoc, List.singleton_append]

theorem insK_stop {x : LabB} {O : List LabB} {a : Nat} (ha : ∀ h : a < O.length, ltB O[a].1 x.1 = false ∧ O[a].1 ≠ x.1) (hi : insK x O = (insK x (O.drop a)).map (O.take a ++ ·)) : insK x O = some (O.take a ++ x :: O.drop a) := by
  rw [hi]
  by_cases h : a < O.length
  · obtain ⟨h1, h2⟩ := ha h
    rw [List.drop_eq_getElem_cons h, insK_cons, if_neg (by rw [h1]; decide), if_neg h2]
    rfl
  · rw [List.drop_of_length_le (by omega)]
    rfl
theorem insK_twice {x : LabB} {O : List LabB} {a : Nat} (h : a < O.length) (he : O[a].1 = x.1) (hi : insK x O = (insK x (O.drop a)).map (O.take a ++ ·)) : insK x O = none := by
  rw [hi, List.drop_eq_getElem_cons h, insK_cons, if_neg (by rw [he, ltB_irrefl]; decide), if_pos he]
  rfl
theorem sortG_go {x : LabB} {O Q r : List LabB} (h : insK x O = some Q) : sortG O (x :: r) = sortG Q r := by simp only [sortG, h]
theorem sortG_no {x : LabB} {O r : List LabB} (h : insK x O = none) : sortG O (x :: r) = none := by simp only [sortG, h]
theorem ins_perm {x : LabB} {O : List LabB} (a : Nat) : (O.take a ++ x :: O.drop a).Perm (O ++ [x]) := by
  refine List.perm_middle.trans ?_
  rw [List.take_append_drop]
  exact List.perm_append_comm (l₁ := [x]) (l₂ := O)
theorem OwnL.capz {B : Nat} {p : Option Addr} {n c : Nat} {ls : List LabB} {w : World} (h : OwnL B (.slice p n c) ls w) : p = none → c = 0 := fun e => by
  rcases h.2 with ⟨h1, _⟩ | ⟨g, cap, cur, h1, _⟩
  · cases h1; rfl
  · cases h1; cases e

theorem ins_app {N a d : Nat} {q P : Option Addr} {O : List LabB} {x : LabB} {Z : World} (ty : TypeId) (hq : q = none → d = 0) (hL : LbAt q O Z) (hP : LbAt P (O.drop a) Z) (hPn : P = none → d - a = 0) (_hPZ : ∀ C off, P = some ⟨C, off, none⟩ → C < Z.heap.size) (hlen : O.length + 1 ≤ maxLab) (ha : a ≤ O.length) (hN : N ≤ Z.heap.size) :
    ∃ v1 w1 v2 w2 v3 w3, (Builtin.append_ #[23, 23] ty #[.slice none 0 0, .slice q a d]).run Try.prog Z = .ok v1 w1 ∧
      (Builtin.append_ #[23, 23] ty #[v1, .slice (some ⟨w1.heap.size, 0, none⟩) 1 1]).run Try.prog (w1.alloc (.cells #[.string (tx x.1), .string (tx x.2)] 47)) = .ok v2 w2 ∧
      (Builtin.append_ #[23, 23] ty #[v2, .slice P (O.length - a) (d - a)]).run Try.prog w2 = .ok v3 w3 ∧
      OwnL N v3 (O.take a ++ x :: O.drop a) w3 ∧ Below Z.heap.size Z w1 ∧ Below Z.heap.size Z w3 := by
  unfold maxLab at hlen
  have hOa : (O.take a).length = a := by rw [List.length_take]; omega
  have hOd : (O.drop a).length = O.length - a := List.length_drop
  obtain ⟨v1, w1, h1, g1⟩ := append_labs ty (OwnL.nil N Z) q d hq (hL.take a) (by rw [hOa]; show _ ≤ (4398046511104 : Nat); simp; omega) hN
  rw [hOa] at h1
  rw [List.nil_append] at g1
  have B1 : Below Z.heap.size Z w1 := g1.low (fun g hg => by cases hg) (Nat.le_refl _)
  obtain ⟨v2, w2, h2, g2⟩ := append_label ty g1.1 x (by rw [hOa]; show _ ≤ (4398046511104 : Nat); omega) (Nat.le_trans hN B1.size)
  have o1 : ∀ g, v1.ownBlock = some g → Z.heap.size ≤ g := fun g hg => (g1.2.2 g hg).resolve_left (fun e => by cases e)
  have B2 : Below Z.heap.size Z w2 := B1.trans (g2.low o1 B1.size)
  have o2 : ∀ g, v2.ownBlock = some g → Z.heap.size ≤ g := fun g hg => by
    rcases g2.2.2 g hg with e | e
    · exact o1 g e
    · have := B1.size; omega
  obtain ⟨v3, w3, h3, g3⟩ := append_labs ty g2.1 P (d - a) hPn (hP.below B2) (by rw [hOd, List.length_append, hOa, List.length_singleton]; show _ ≤ (4398046511104 : Nat); omega) (Nat.le_trans hN B2.size)
  rw [hOd] at h3
  refine ⟨v1, w1, v2, w2, v3, w3, h1, h2, h3, ?_, B1, B2.trans (g3.low o2 B2.size)⟩
  have := g3.1
  rwa [List.append_assoc, List.singleton_append] at this

set_option maxRecDepth 100000 in
set_option maxHeartbeats 8000000 in
theorem ref_sort (p : Option Addr) (c : Nat) (ls : List LabB) (hlen : ls.length ≤ maxLab) (w : World) (hL : LbAt p ls w) :
    Calls Try.prog 13 #[.slice p ls.length c] w (SortEnd w (sortK ls)) := by
  unfold maxLab at hlen
  obtain ⟨R, hR⟩ : ∃ R, sortK ls = R := ⟨_, rfl⟩
  rw [hR]
  have HR0 : Hid (sortG [] (ls.drop 0) = R) := Lib.hid hR
  have HL := Lib.hid hL
  have hsh := hL.short
  have HSH := Lib.hid hsh
  have HB0 := Lib.hid (Below.refl w.heap.size w)
  have HO0 := Lib.hid (OwnL.nil w.heap.size w)
  clear hR hL hsh
  go_enter Try.func13, Try.ntmps13
  go_wp2
  go_loopg [4, 5] ls.length (fun g s4 s5 wx => ∃ (k : Nat) (O : List LabB), s5 = .int .i64 (k : Int) ∧ g + k = ls.length ∧ Hid (sortG O (ls.drop k) = R) ∧ O.length = k ∧ Hid (O.Perm (ls.take k)) ∧ Hid (OwnL w.heap.size s4 O wx) ∧ Hid (Below w.heap.size w wx))
  case atStart => exact ⟨0, [], rfl, rfl, HR0, rfl, Lib.hid (by simp), HO0, HB0⟩
  case round =>
    clear HR0 HB0 HO0
    obtain ⟨k, O, rfl, hgk, HV, hOl, HP, HO, HB⟩ := hrel
    obtain ⟨q, d, rfl⟩ := HO.out.len
    cases gk with
    | zero =>
      have hk : k = ls.length := by omega
      subst hk
      obtain rfl : R = some O := by rw [← HV.out, List.drop_length]; rfl
      clear HV HP
      go_wp2
      go_ret2
      exact ⟨_, rfl, HO.out, HB.out⟩
    | succ g =>
      have hlt : k < ls.length := by omega
      have hLx := HL.out.below (HB.out.mono (Nat.le_refl _))
      obtain ⟨C, off, rfl, hC, c0, c1, b0, b1⟩ := hLx k hlt
      have hv := HV.out
      rw [List.drop_eq_getElem_cons hlt] at hv
      have HX := Lib.hid hv
      have hOs : Short O := (HSH.out.take' k).perm HP.out
      have HOS := Lib.hid hOs
      have HLK := Lib.hid (show (ls.take (k + 1)) = ls.take k ++ [ls[k]] from List.take_succ_eq_append_getElem hlt)
      clear hv HV hLx hOs
      generalize ls[k] = x at c0 c1 b0 b1 HX HLK
      obtain ⟨m, hm⟩ : ∃ m, O.length = m := ⟨_, rfl⟩
      have hOk : m ≤ 4398046511104 := by omega
      have hmk : m = k := by omega
      rw [hm] at HO ⊢
      have HM := Lib.hid hm
      have HMK := Lib.hid hmk
      have HI0 : Hid (insK x O = (insK x (O.drop 0)).map (O.take 0 ++ ·)) := Lib.hid (by cases h : insK x O <;> simp [h])
      have HQ := Lib.hid (HO.out.lies (n := m) (cap := d) HOS.out)
      have HXA : Hid (LbAt (some ⟨C, off + k * 2, none⟩) [x] wr) := Lib.hid (fun j hj => by
        obtain rfl : j = 0 := by simpa using hj
        exact ⟨C, off + k * 2, rfl, hC, c0, c1, b0, b1⟩)
      clear hOl hm hmk
      have hcl := hC
      generalize wr = W0 at *
      go_wp2
      go_loopg [6] m (fun gg s6 wx => ∃ a : Nat, s6 = .int .i64 (a : Int) ∧ gg + a = m ∧ Hid (insK x O = (insK x (O.drop a)).map (O.take a ++ ·)) ∧ Hid (Mov (fun _ => False) W0 wx))
      case atStart => exact ⟨0, rfl, by omega, HI0, Lib.hid (Mov.refl _ _)⟩
      case round =>
        clear HI0
        obtain ⟨a, rfl, hga, HI, HMv⟩ := hrel
        have e0 := (HMv.out.cell hcl (fun h => h)).trans c0
        by_cases hgo : ∃ h : a < O.length, ltB O[a].1 x.1 = true
        · obtain ⟨hal, hlt2⟩ := hgo
          have HI2 := Lib.hid (insK_step hal hlt2 HI.out)
          obtain ⟨G, off2, rfl, hG, d0, _, _, _⟩ := (HQ.out.mov HMv.out (fun _ _ _ h => h)) a hal
          have hbl : Op.bytesLess (tx O[a].1).toList (tx x.1).toList = true := by rw [less_tx]; exact hlt2
          have ham : a < m := by rw [← HM.out]; exact hal
          have hd1 : decide (a < m) = true := decide_eq_true ham
          clear HI hlt2
          generalize tx O[a].1 = y1 at *
          generalize tx x.1 = y2 at *
          go_wp2
          go_quiet (fail)
          go_wp2
          go_roundg (m - (a + 1))
          case measure => omega
          case rel => exact ⟨a + 1, by go_num, by omega, HI2, Lib.hid (HMv.out.drewN _)⟩
        · by_cases htw : ∃ h : a < O.length, O[a].1 = x.1
          · obtain ⟨hal, heq⟩ := htw
            obtain rfl : R = none := by rw [← HX.out]; exact sortG_no (insK_twice hal heq HI.out)
            obtain ⟨G, off2, rfl, hG, d0, _, _, _⟩ := (HQ.out.mov HMv.out (fun _ _ _ h => h)) a hal
            have hbl : Op.bytesLess (tx O[a].1).toList (tx x.1).toList = false := by rw [less_tx, heq, ltB_irrefl]
            have hbe : ((tx O[a].1).toList == (tx x.1).toList) = true := by rw [tx_eq]; exact decide_eq_true heq
            have ham : a < m := by rw [← HM.out]; exact hal
            have hd1 : decide (a < m) = true := decide_eq_true ham
            have HBx := Lib.hid (HB.out.trans (HMv.out.below (N := w.heap.size) (fun _ h => h.elim) HB.out.size))
            clear HI heq hgo
            generalize tx O[a].1 = y1 at *
            generalize tx x.1 = y2 at *
            go_wp2
            go_quiet (fail)
            go_wp2
            go_quiet (fail)
            go_wp2
            go_ret2
            exact ⟨rfl, below_drewN (below_drewN HBx.out _) _⟩
          · have hins : insK x O = some (O.take a ++ x :: O.drop a) := insK_stop (fun h => ⟨by
              rw [Bool.eq_false_iff]
              exact fun h2 => hgo ⟨h, h2⟩, fun e => htw ⟨h, e⟩⟩) HI.out
            have HX2 := Lib.hid ((sortG_go hins).symm.trans HX.out)
            have ham : a ≤ m := by omega
            have hcz := HO.out.capz
            have hOa : (O.take a).length = a := by rw [List.length_take, HM.out]; omega
            have hOd : (O.drop a).length = m - a := by rw [List.length_drop, HM.out]
            have HNEW : Hid ((O.take a ++ x :: O.drop a).length = k + 1) := Lib.hid (by rw [List.length_append, List.length_cons, hOa, hOd]; have := HMK.out; omega)
            have HPN : Hid ((O.take a ++ x :: O.drop a).Perm (ls.take (k + 1))) := Lib.hid (by
              rw [HLK.out]
              exact (ins_perm a).trans (HP.out.append_right [x]))
            have hmd : m ≤ d := by
              rcases HO.out.2 with ⟨h1, h2⟩ | ⟨g', cap', cur, h1, _, _, h2, _⟩
              · rw [← HM.out, show O.length = 0 from h2]; omega
              · simp only [Value.slice.injEq] at h1
                obtain ⟨_, _, rfl⟩ := h1
                rw [HM.out] at h2
                exact h2
            clear hOa hOd hins
            rcases HO.out.form with ⟨hv0, -⟩ | ⟨G, cap', hv0, hNG, hGW, -, -⟩
            · simp only [Value.slice.injEq] at hv0
              obtain ⟨rfl, rfl, rfl⟩ := hv0
              obtain rfl : a = 0 := by omega
              have hd1 : decide ((0 : Nat) < 0) = false := rfl
              have HON := Lib.hid (List.eq_nil_of_length_eq_zero HM.out)
              clear HI hgo htw hmd hcz
              go_wp2
              go_quiet (fail)
              have M1 := Lib.hid (HMv.out.drewN nq)
              generalize wr.drewN nq = Z1 at *
              have e0 := (M1.out.cell hcl (fun h => h)).trans c0
              go_wp2
              go_quiet (fail)
              have M2 := Lib.hid (M1.out.drewN nq)
              generalize Z1.drewN nq = Z2 at *
              have hLZ := HQ.out.mov M2.out (fun _ _ _ h => h)
              have hNZ : w.heap.size ≤ Z2.heap.size := Nat.le_trans HB.out.size M2.out.size
              obtain ⟨v1, w1, v2, w2, v3, w3, hr1, hr2, hr3, hO3, hB1, hB3⟩ := ins_app (N := w.heap.size) (a := 0) (d := 0) (P := none) (x := x) 23 (fun _ => rfl) hLZ (by rw [HON.out]; exact LbAt.nil _ _) (fun _ => rfl) (fun C off e => by cases e) (by rw [HM.out, HMK.out]; show _ ≤ (4398046511104 : Nat); omega) (by rw [HM.out]; exact ham) hNZ
              rw [HM.out] at hr3
              have hcz9 : C < Z2.heap.size := Nat.lt_of_lt_of_le hcl M2.out.size
              have x0 : w1.cell? ⟨C, off + k * 2, none⟩ = some (.string (tx x.1)) := (hB1.cell (p := ⟨C, off + k * 2, none⟩) hcz9).trans ((M2.out.cell hcl (fun h => h)).trans c0)
              have x1 : w1.cell? ⟨C, off + k * 2 + 1, none⟩ = some (.string (tx x.2)) := (hB1.cell (p := ⟨C, off + k * 2 + 1, none⟩) hcz9).trans ((M2.out.cell hcl (fun h => h)).trans c1)
              have HO3 := Lib.hid hO3
              have HB3 := Lib.hid ((HB.out.trans (M2.out.below (N := w.heap.size) (fun _ h => h.elim) HB.out.size)).trans (hB3.mono hNZ))
              clear hO3 hB1 hB3 hLZ e0
              go_wp2_with (first | (at_builtin; refine Lib.wpList_append_run _ rfl _ _ _ _ rfl _ _ rfl rfl _ _ hr1 ?_) | (at_builtin; refine Lib.wpList_append_run _ rfl _ _ _ _ rfl _ _ rfl rfl _ _ hr2 ?_) | (at_builtin; refine Lib.wpList_append_run _ rfl _ _ _ _ rfl _ _ rfl rfl _ _ hr3 ?_))
              go_roundg g
              case measure => omega
              case rel => exact ⟨k + 1, O.take 0 ++ x :: O.drop 0, by go_num, by omega, HX2, HNEW.out, HPN, HO3, HB3⟩
            · simp only [Value.slice.injEq] at hv0
              obtain ⟨rfl, -, rfl⟩ := hv0
              have HLD : Hid (LbAt (some ⟨G, a * 2, none⟩) (O.drop a) W0) := Lib.hid (by
                have := HQ.out.drop a
                rwa [Nat.zero_add] at this)
              by_cases hal : a < m
              · have hal2 : a < O.length := by rw [HM.out]; exact hal
                obtain ⟨G9, off2, hG9, hG, d0, _, _, _⟩ := (HQ.out.mov HMv.out (fun _ _ _ h => h)) a hal2
                simp only [Option.some.injEq, Addr.mk.injEq, and_true] at hG9
                obtain ⟨rfl, rfl⟩ := hG9
                rw [Nat.zero_add] at d0
                have hbl : Op.bytesLess (tx O[a].1).toList (tx x.1).toList = false := by rw [less_tx, Bool.eq_false_iff]; exact fun h2 => hgo ⟨hal2, h2⟩
                have hbe : ((tx O[a].1).toList == (tx x.1).toList) = false := by rw [tx_eq]; exact decide_eq_false (fun e => htw ⟨hal2, e⟩)
                have hd1 : decide (a < m) = true := decide_eq_true hal
                have D0 := Lib.hid ((HMv.out.cell hGW (fun h => h)).symm.trans d0)
                obtain ⟨r1, hr1'⟩ : ∃ r, m - a = r := ⟨_, rfl⟩
                obtain ⟨r2, hr2'⟩ : ∃ r, d - a = r := ⟨_, rfl⟩
                have hda : (d = a) = False := eq_false (by omega)
                have i1 : (a : Int) ≤ (m : Int) := by omega
                have i2 : (m : Int) ≤ (d : Int) := by omega
                have i3 : (a : Int) ≤ (d : Int) := by omega
                clear HI hgo htw hcz
                generalize tx O[a].1 = y1 at *
                go_wp2
                go_quiet (fail)
                have M1 := Lib.hid (HMv.out.drewN nq)
                generalize wr.drewN nq = Z1 at *
                have e0 := (M1.out.cell hcl (fun h => h)).trans c0
                have d0 := (M1.out.cell hGW (fun h => h)).trans D0.out
                go_wp2
                go_quiet (fail)
                have M2 := Lib.hid (M1.out.drewN nq)
                generalize Z1.drewN nq = Z2 at *
                have hLZ := HQ.out.mov M2.out (fun _ _ _ h => h)
                have hNZ : w.heap.size ≤ Z2.heap.size := Nat.le_trans HB.out.size M2.out.size
                obtain ⟨v1, w1, v2, w2, v3, w3, hr1, hr2, hr3, hO3, hB1, hB3⟩ := ins_app (N := w.heap.size) (a := a) (d := d) (P := some ⟨G, a * 2, none⟩) (x := x) 23 (fun e => by cases e) hLZ (HLD.out.mov M2.out (fun _ _ _ h => h)) (fun e => by cases e) (fun C off e => by simp only [Option.some.injEq, Addr.mk.injEq] at e; rw [← e.1]; exact Nat.lt_of_lt_of_le hGW M2.out.size) (by rw [HM.out, HMK.out]; show _ ≤ (4398046511104 : Nat); omega) (by rw [HM.out]; exact ham) hNZ
                rw [HM.out, hr1', hr2'] at hr3
                have hcz9 : C < Z2.heap.size := Nat.lt_of_lt_of_le hcl M2.out.size
                have x0 : w1.cell? ⟨C, off + k * 2, none⟩ = some (.string (tx x.1)) := (hB1.cell (p := ⟨C, off + k * 2, none⟩) hcz9).trans ((M2.out.cell hcl (fun h => h)).trans c0)
                have x1 : w1.cell? ⟨C, off + k * 2 + 1, none⟩ = some (.string (tx x.2)) := (hB1.cell (p := ⟨C, off + k * 2 + 1, none⟩) hcz9).trans ((M2.out.cell hcl (fun h => h)).trans c1)
                have HO3 := Lib.hid hO3
                have HB3 := Lib.hid ((HB.out.trans (M2.out.below (N := w.heap.size) (fun _ h => h.elim) HB.out.size)).trans (hB3.mono hNZ))
                clear hO3 hB1 hB3 hLZ e0
                go_wp2_with (first | (at_builtin; refine Lib.wpList_append_run _ rfl _ _ _ _ rfl _ _ rfl rfl _ _ hr1 ?_) | (at_builtin; refine Lib.wpList_append_run _ rfl _ _ _ _ rfl _ _ rfl rfl _ _ hr2 ?_) | (at_builtin; refine Lib.wpList_append_run _ rfl _ _ _ _ rfl _ _ rfl rfl _ _ hr3 ?_))
                go_roundg g
                case measure => omega
                case rel => exact ⟨k + 1, O.take a ++ x :: O.drop a, by go_num, by omega, HX2, HNEW.out, HPN, HO3, HB3⟩
              · obtain rfl : a = m := by omega
                have hd1 : decide (a < a) = false := decide_eq_false (by omega)
                have HON : Hid (O.drop a = []) := Lib.hid (List.drop_of_length_le (by rw [HM.out]; exact Nat.le_refl _))
                by_cases hda : d = a
                · subst hda
                  clear HI hgo htw hcz
                  go_wp2
                  go_quiet (fail)
                  have M1 := Lib.hid (HMv.out.drewN nq)
                  generalize wr.drewN nq = Z1 at *
                  have e0 := (M1.out.cell hcl (fun h => h)).trans c0
                  go_wp2
                  go_quiet (fail)
                  have M2 := Lib.hid (M1.out.drewN nq)
                  generalize Z1.drewN nq = Z2 at *
                  have hLZ := HQ.out.mov M2.out (fun _ _ _ h => h)
                  have hNZ : w.heap.size ≤ Z2.heap.size := Nat.le_trans HB.out.size M2.out.size
                  obtain ⟨v1, w1, v2, w2, v3, w3, hr1, hr2, hr3, hO3, hB1, hB3⟩ := ins_app (N := w.heap.size) (a := d) (d := d) (P := some ⟨G, 0, none⟩) (x := x) 23 (fun e => by cases e) hLZ (by rw [HON.out]; exact LbAt.nil _ _) (fun e => by cases e) (fun C off e => by simp only [Option.some.injEq, Addr.mk.injEq] at e; rw [← e.1]; exact Nat.lt_of_lt_of_le hGW M2.out.size) (by rw [HM.out, HMK.out]; show _ ≤ (4398046511104 : Nat); omega) (by rw [HM.out]; exact Nat.le_refl _) hNZ
                  rw [HM.out, Nat.sub_self] at hr3
                  have hcz9 : C < Z2.heap.size := Nat.lt_of_lt_of_le hcl M2.out.size
                  have x0 : w1.cell? ⟨C, off + k * 2, none⟩ = some (.string (tx x.1)) := (hB1.cell (p := ⟨C, off + k * 2, none⟩) hcz9).trans ((M2.out.cell hcl (fun h => h)).trans c0)
                  have x1 : w1.cell? ⟨C, off + k * 2 + 1, none⟩ = some (.string (tx x.2)) := (hB1.cell (p := ⟨C, off + k * 2 + 1, none⟩) hcz9).trans ((M2.out.cell hcl (fun h => h)).trans c1)
                  have HO3 := Lib.hid hO3
                  have HB3 := Lib.hid ((HB.out.trans (M2.out.below (N := w.heap.size) (fun _ h => h.elim) HB.out.size)).trans (hB3.mono hNZ))
                  clear hO3 hB1 hB3 hLZ e0
                  go_wp2_with (first | (at_builtin; refine Lib.wpList_append_run _ rfl _ _ _ _ rfl _ _ rfl rfl _ _ hr1 ?_) | (at_builtin; refine Lib.wpList_append_run _ rfl _ _ _ _ rfl _ _ rfl rfl _ _ hr2 ?_) | (at_builtin; refine Lib.wpList_append_run _ rfl _ _ _ _ rfl _ _ rfl rfl _ _ hr3 ?_))
                  go_roundg g
                  case measure => omega
                  case rel => exact ⟨k + 1, O.take d ++ x :: O.drop d, by go_num, by omega, HX2, HNEW.out, HPN, HO3, HB3⟩
                · obtain ⟨r2, hr2'⟩ : ∃ r, d - a = r := ⟨_, rfl⟩
                  have i2 : (a : Int) ≤ (d : Int) := by omega
                  clear HI hgo htw hcz
                  go_wp2
                  go_quiet (fail)
                  have M1 := Lib.hid (HMv.out.drewN nq)
                  generalize wr.drewN nq = Z1 at *
                  have e0 := (M1.out.cell hcl (fun h => h)).trans c0
                  go_wp2
                  go_quiet (fail)
                  have M2 := Lib.hid (M1.out.drewN nq)
                  generalize Z1.drewN nq = Z2 at *
                  have hLZ := HQ.out.mov M2.out (fun _ _ _ h => h)
                  have hNZ : w.heap.size ≤ Z2.heap.size := Nat.le_trans HB.out.size M2.out.size
                  obtain ⟨v1, w1, v2, w2, v3, w3, hr1, hr2, hr3, hO3, hB1, hB3⟩ := ins_app (N := w.heap.size) (a := a) (d := d) (P := some ⟨G, a * 2, none⟩) (x := x) 23 (fun e => by cases e) hLZ (by rw [HON.out]; exact LbAt.nil _ _) (fun e => by cases e) (fun C off e => by simp only [Option.some.injEq, Addr.mk.injEq] at e; rw [← e.1]; exact Nat.lt_of_lt_of_le hGW M2.out.size) (by rw [HM.out, HMK.out]; show _ ≤ (4398046511104 : Nat); omega) (by rw [HM.out]; exact Nat.le_refl _) hNZ
                  rw [HM.out, Nat.sub_self, hr2'] at hr3
                  have hcz9 : C < Z2.heap.size := Nat.lt_of_lt_of_le hcl M2.out.size
                  have x0 : w1.cell? ⟨C, off + k * 2, none⟩ = some (.string (tx x.1)) := (hB1.cell (p := ⟨C, off + k * 2, none⟩) hcz9).trans ((M2.out.cell hcl (fun h => h)).trans c0)
                  have x1 : w1.cell? ⟨C, off + k * 2 + 1, none⟩ = some (.string (tx x.2)) := (hB1.cell (p := ⟨C, off + k * 2 + 1, none⟩) hcz9).trans ((M2.out.cell hcl (fun h => h)).trans c1)
                  have HO3 := Lib.hid hO3
                  have HB3 := Lib.hid ((HB.out.trans (M2.out.below (N := w.heap.size) (fun _ h => h.elim) HB.out.size)).trans (hB3.mono hNZ))
                  clear hO3 hB1 hB3 hLZ e0
                  go_wp2_with (first | (at_builtin; refine Lib.wpList_append_run _ rfl _ _ _ _ rfl _ _ rfl rfl _ _ hr1 ?_) | (at_builtin; refine Lib.wpList_append_run _ rfl _ _ _ _ rfl _ _ rfl rfl _ _ hr2 ?_) | (at_builtin; refine Lib.wpList_append_run _ rfl _ _ _ _ rfl _ _ rfl rfl _ _ hr3 ?_))
                  go_roundg g
                  case measure => omega
                  case rel => exact ⟨k + 1, O.take a ++ x :: O.drop a, by go_num, by omega, HX2, HNEW.out, HPN, HO3, HB3⟩
end Go.Proofs.Ytlocjhnlemlnmaa.Lx
