/- The chapter's own answer: the text of a sum, walked. -/
import Derived.Test.YthddnhnhlgnlhaaDoorWRefM
namespace Go.Proofs.YthddnhnhlgnlhaaDoor
open Go Go.RowKit


set_option maxRecDepth 100000 in
set_option maxHeartbeats 1000000 in
theorem refText_pos (a : Int) (ha : InS a) (hn : ¬ a < 0) (w : World) :
    Calls Tryd.prog 22 #[sv a] w fun e w' => e = .returned (.string (tx (Lib.itoa a))) ∧ Below w.heap.size w w' := by
  have a1 := shi_lo ha
  have a2 := shi_hi ha
  have a3 := slo_lo a
  have a4 := slo_hi a
  have hmag := mag_pos ha hn
  obtain ⟨M, hM⟩ : ∃ M, a.toNat = M := ⟨_, rfl⟩
  rw [itoa_pos' hn, hM]
  rw [hM] at hmag
  have hM39 := nDigits_le 39 M (by decide) (by simp; omega)
  have hu : 0 ≤ IntKind.u64.wrap (shi a) ∧ IntKind.u64.wrap (shi a) ≤ 18446744073709551615 := by rw [IntKind.wrap_u64]; omega
  have hlim := fun w => limbs_any _ _ _ hu.1 hu.2 a3 a4 hmag.1 w
  have hs0 : ¬ shi a < 0 := by unfold shi; unfold InS at ha; omega
  have hwu : IntKind.u64.wrap (shi a) = shi a := by rw [IntKind.wrap_u64]; omega
  rw [hwu] at hlim
  clear hwu
  clear hmag hu hM ha hn
  rw [show sv a = .agg #[.int .i64 (shi a), .int .u64 (slo a)] from rfl]
  go_enter Tryd.func22, Tryd.ntmps22
  go_wp2_with fail
  refine (hlim _).mono ?_
  rintro e W ⟨y0, y1, y2, y3, rfl, hy0, hy1, hy2, hy3, hlm, hY, hB1⟩
  have hBw : Below w.heap.size w W := ((Below.refl _ _).alloc (Nat.le_refl _) _).trans (hB1.mono (by simp))
  replace hY : CellsAt (w.heap.size + 1) #[.int .u64 y0, .int .u64 y1, .int .u64 y2, .int .u64 y3] W := by simpa using hY
  have hLw : w.heap.size ≤ w.heap.size + 1 := Nat.le_succ _
  clear hlim hB1 hs0 a1 a2 a3 a4
  go_wp2_with fail
  obtain ⟨L, hL⟩ : ∃ L, w.heap.size + 1 = L := ⟨_, rfl⟩
  rw [hL] at hY hLw
  simp only [hL]
  clear hL
  go_loopg [5, 6, 7, 8] (M + 1) (fun g s5 s6 s7 s8 wx => ∃ (s : List UInt8) (x0 x1 x2 x3 : Int), s5 = .string (tx s) ∧ Lim x0 ∧ Lim x1 ∧ Lim x2 ∧ Lim x3 ∧ Hid (Told M (lim x0 x1 x2 x3).toNat s) ∧ (if s = [] then (lim x0 x1 x2 x3).toNat + 1 else (lim x0 x1 x2 x3).toNat) = g ∧ CellsAt L #[.int .u64 x0, .int .u64 x1, .int .u64 x2, .int .u64 x3] wx ∧ Below w.heap.size w wx)
  case atStart => exact ⟨[], y0, y1, y2, y3, rfl, hy0, hy1, hy2, hy3, Lib.hid (Or.inl ⟨rfl, by rw [hlm]; omega⟩), by rw [if_pos rfl, hlm]; omega, hY, hBw⟩
  case round =>
    obtain ⟨s, x0, x1, x2, x3, rfl, hx0, hx1, hx2, hx3, HTo, hg, hX, hBx⟩ := hrel
    clear hY hBw hy0 hy1 hy2 hy3 hlm y0 y1 y2 y3
    have hlen := told_len HTo.out
    have hsl : (tx s).size ≤ 40 := by rw [tx_size]; omega
    obtain ⟨hlp, hli⟩ := lim_in hx0 hx1 hx2 hx3
    obtain ⟨a0, b0⟩ := id hx0
    obtain ⟨a1, b1⟩ := id hx1
    obtain ⟨a2, b2⟩ := id hx2
    obtain ⟨a3, b3⟩ := id hx3
    have c0 := hX.cell 0 (.int .u64 x0) rfl
    have c1 := hX.cell 1 (.int .u64 x1) rfl
    have c2 := hX.cell 2 (.int .u64 x2) rfl
    have c3 := hX.cell 3 (.int .u64 x3) rfl
    by_cases hgo : s = [] ∨ 0 < lim x0 x1 x2 x3
    · obtain ⟨m, hm⟩ : ∃ m, (lim x0 x1 x2 x3).toNat = m := ⟨_, rfl⟩
      have hmi : lim x0 x1 x2 x3 = (m : Int) := by omega
      have hgo2 : s = [] ∨ 0 < m := by rcases hgo with h | h; exact Or.inl h; right; omega
      have HTn := Lib.hid (told_next (by rw [← hm]; exact HTo.out) hgo2)
      have hP : Part x0 x1 x2 x3 0 x0 x1 x2 x3 0 := by unfold Part; exact ⟨hx0, hx1, hx2, hx3, by decide, by decide, rfl, rfl, rfl, rfl, rfl⟩
      have HP0 := Lib.hid hP
      have hgm : gk = (if s = [] then m + 1 else m) := by rw [← hm]; exact hg.symm
      have HG := Lib.hid hgm
      have HM := Lib.hid hmi
      obtain ⟨sb, hsb⟩ : ∃ sb, tx s = sb := ⟨_, rfl⟩
      have HSB := Lib.hid hsb
      rw [hsb] at hsl
      have HGO := Lib.hid hgo2
      clear hP hgm hg hm hmi HTo hlp
      have hq1 : (1 : Nat) + sb.size ≤ 9223372036854775807 := by omega
      rw [hsb]
      clear hsb
      have hcond : (sb.toList == []) = true ∨ ((sb.toList == []) = false ∧ 0 < x0 + x1 + x2 + x3) := by
        by_cases hs : s = []
        · left; rw [← HSB.out, hs, Lib.toList_data]; rfl
        · right
          refine ⟨?_, hli.2 (by rcases hgo with h | h; exact absurd h hs; exact h)⟩
          rw [← HSB.out, Lib.toList_data]
          simpa using hs
      clear hli hgo hgo2
      have hsum : IntKind.u64.wrap (IntKind.u64.wrap (IntKind.u64.wrap (x0 + x1) + x2) + x3) = x0 + x1 + x2 + x3 := by rw [IntKind.wrap_u64, IntKind.wrap_u64, IntKind.wrap_u64]; omega
      rcases hcond with hcond | ⟨hcond, hpos⟩
      · go_wp2_with fail
        go_quiet (fail)
        have hXd := hX.drewN nq
        have hBd := below_drewN hBx nq
        generalize wr.drewN nq = wi at *
        clear c0 c1 c2 c3 hX hBx
        go_wp2_with fail
        go_loopg [6, 7, 8] 4 (fun g s6 s7 s8 wx => ∃ (k : Nat) (z0 z1 z2 z3 r : Int), k + g = 4 ∧ s6 = .int .u64 r ∧ s7 = .int .i64 k ∧ Hid (Part x0 x1 x2 x3 k z0 z1 z2 z3 r) ∧ CellsAt L #[.int .u64 z0, .int .u64 z1, .int .u64 z2, .int .u64 z3] wx ∧ Below w.heap.size w wx)
        case atStart => exact ⟨0, x0, x1, x2, x3, 0, rfl, rfl, rfl, HP0, hXd, hBd⟩
        case round =>
          obtain ⟨k, z0, z1, z2, z3, r, hkg, rfl, rfl, HP, hX, hBi⟩ := hrel
          clear hXd hBd
          obtain ⟨p0, p1, p2, p3, p4, p5, p6, p7, p8, p9⟩ := part_in HP.out
          cases gk with
          | zero =>
            obtain rfl : k = 4 := by omega
            have hlast := HP.out.2.2.2.2.2.2
            simp only at hlast
            have hzl := lim_in HP.out.1 HP.out.2.1 HP.out.2.2.1 HP.out.2.2.2.1
            have hmz : (lim z0 z1 z2 z3).toNat = m / 10 ∧ r = ((m % 10 : Nat) : Int) := by have := HM.out; omega
            have hl0 := HP.out.1
            have hl1 := HP.out.2.1
            have hl2 := HP.out.2.2.1
            have hl3 := HP.out.2.2.2.1
            obtain ⟨c, hc⟩ : ∃ c : UInt8, UInt8.ofNat (48 + m % 10) = c := ⟨_, rfl⟩
            have hcn : (c.toNat : Int) = 48 + r := by rw [← hc, dig_byte _ (Nat.mod_lt _ (by decide)), hmz.2]; omega
            have hu8 : IntKind.u8.wrap (48 + r) = 48 + r := by simp [IntKind.wrap, IntKind.bits, IntKind.signed]; omega
            have hu64 : IntKind.u64.wrap (48 + r) = 48 + r := by rw [IntKind.wrap_u64]; omega
            have hcv := one_byte c (48 + r) hcn.symm wr
            obtain ⟨cb, hcb⟩ : ∃ cb, tx [c] = cb := ⟨_, rfl⟩
            have hcs : cb.size = 1 := by rw [← hcb, tx_size]; rfl
            have hq2 : cb.size + sb.size ≤ 9223372036854775807 := by omega
            rw [hcb] at hcv
            have hnew : cb ++ sb = tx (c :: s) := by rw [← hcb, ← HSB.out, tx_append]; rfl
            have HNW := Lib.hid hnew
            have HTN := HTn
            rw [hc] at HTN
            have HMZ := Lib.hid hmz
            have hmeas : m / 10 < (if s = [] then m + 1 else m) := by
              split
              · omega
              · rename_i hsn
                rcases HGO.out with h | h
                · exact absurd h hsn
                · omega
            have HME := Lib.hid hmeas
            clear hlast hzl hmz hc hcn hnew hmeas hcb p0 p1 p2 p3 p4 p5 p6 p7
            go_wp2
            go_roundg (m / 10)
            case measure => have h1 := HG.out; have h2 := HME.out; omega
            case rel => exact ⟨c :: s, z0, z1, z2, z3, congrArg Value.string HNW.out, hl0, hl1, hl2, hl3, by rw [HMZ.out.1]; exact HTN, by rw [if_neg (by simp)]; exact HMZ.out.1, hX.past _, hBi.alloc hBi.size _⟩
          | succ g =>
            obtain hk0 | hk0 : k = 0 ∨ k ≠ 0 := by omega
            · subst hk0
              have pn := part_0 HP.out
              have nb : 0 ≤ (r * 4294967296 + z0) / 10 ∧ (r * 4294967296 + z0) / 10 ≤ 18446744073709551615 ∧ 0 ≤ (r * 4294967296 + z0) % 10 ∧ (r * 4294967296 + z0) % 10 < 10 := by omega
              have u1 : IntKind.u64.wrap (r * 4294967296) = r * 4294967296 := by rw [IntKind.wrap_u64]; omega
              have u2 : IntKind.u64.wrap (r * 4294967296 + z0) = r * 4294967296 + z0 := by rw [IntKind.wrap_u64]; omega
              have d0 := hX.cell 0 (.int .u64 z0) rfl
              have e0 := hX.fro 0 (.int .u64 z0) rfl
              have PN := Lib.hid pn
              clear pn
              go_wp2
              go_roundg g
              case measure => omega
              case rel => exact ⟨1, ((r * 4294967296 + z0) / 10), z1, z2, z3, (r * 4294967296 + z0) % 10, by omega, rfl, rfl, PN, hX.set 0 (.int .u64 ((r * 4294967296 + z0) / 10)) (by simp), hBi.setCell hLw _⟩
            obtain hk1 | hk1 : k = 1 ∨ k ≠ 1 := by omega
            · subst hk1
              have pn := part_1 HP.out
              have nb : 0 ≤ (r * 4294967296 + z1) / 10 ∧ (r * 4294967296 + z1) / 10 ≤ 18446744073709551615 ∧ 0 ≤ (r * 4294967296 + z1) % 10 ∧ (r * 4294967296 + z1) % 10 < 10 := by omega
              have u1 : IntKind.u64.wrap (r * 4294967296) = r * 4294967296 := by rw [IntKind.wrap_u64]; omega
              have u2 : IntKind.u64.wrap (r * 4294967296 + z1) = r * 4294967296 + z1 := by rw [IntKind.wrap_u64]; omega
              have d0 := hX.cell 1 (.int .u64 z1) rfl
              have e0 := hX.fro 1 (.int .u64 z1) rfl
              have PN := Lib.hid pn
              clear pn
              go_wp2
              go_roundg g
              case measure => omega
              case rel => exact ⟨2, z0, ((r * 4294967296 + z1) / 10), z2, z3, (r * 4294967296 + z1) % 10, by omega, rfl, rfl, PN, hX.set 1 (.int .u64 ((r * 4294967296 + z1) / 10)) (by simp), hBi.setCell hLw _⟩
            obtain hk2 | hk2 : k = 2 ∨ k ≠ 2 := by omega
            · subst hk2
              have pn := part_2 HP.out
              have nb : 0 ≤ (r * 4294967296 + z2) / 10 ∧ (r * 4294967296 + z2) / 10 ≤ 18446744073709551615 ∧ 0 ≤ (r * 4294967296 + z2) % 10 ∧ (r * 4294967296 + z2) % 10 < 10 := by omega
              have u1 : IntKind.u64.wrap (r * 4294967296) = r * 4294967296 := by rw [IntKind.wrap_u64]; omega
              have u2 : IntKind.u64.wrap (r * 4294967296 + z2) = r * 4294967296 + z2 := by rw [IntKind.wrap_u64]; omega
              have d0 := hX.cell 2 (.int .u64 z2) rfl
              have e0 := hX.fro 2 (.int .u64 z2) rfl
              have PN := Lib.hid pn
              clear pn
              go_wp2
              go_roundg g
              case measure => omega
              case rel => exact ⟨3, z0, z1, ((r * 4294967296 + z2) / 10), z3, (r * 4294967296 + z2) % 10, by omega, rfl, rfl, PN, hX.set 2 (.int .u64 ((r * 4294967296 + z2) / 10)) (by simp), hBi.setCell hLw _⟩
            obtain hk3 | hk3 : k = 3 ∨ k ≠ 3 := by omega
            · subst hk3
              have pn := part_3 HP.out
              have nb : 0 ≤ (r * 4294967296 + z3) / 10 ∧ (r * 4294967296 + z3) / 10 ≤ 18446744073709551615 ∧ 0 ≤ (r * 4294967296 + z3) % 10 ∧ (r * 4294967296 + z3) % 10 < 10 := by omega
              have u1 : IntKind.u64.wrap (r * 4294967296) = r * 4294967296 := by rw [IntKind.wrap_u64]; omega
              have u2 : IntKind.u64.wrap (r * 4294967296 + z3) = r * 4294967296 + z3 := by rw [IntKind.wrap_u64]; omega
              have d0 := hX.cell 3 (.int .u64 z3) rfl
              have e0 := hX.fro 3 (.int .u64 z3) rfl
              have PN := Lib.hid pn
              clear pn
              go_wp2
              go_roundg g
              case measure => omega
              case rel => exact ⟨4, z0, z1, z2, ((r * 4294967296 + z3) / 10), (r * 4294967296 + z3) % 10, by omega, rfl, rfl, PN, hX.set 3 (.int .u64 ((r * 4294967296 + z3) / 10)) (by simp), hBi.setCell hLw _⟩
            exfalso; omega
      · go_wp2_with fail
        go_quiet (fail)
        have hXd := hX.drewN nq
        have hBd := below_drewN hBx nq
        generalize wr.drewN nq = wi at *
        clear c0 c1 c2 c3 hX hBx
        go_wp2_with fail
        go_loopg [6, 7, 8] 4 (fun g s6 s7 s8 wx => ∃ (k : Nat) (z0 z1 z2 z3 r : Int), k + g = 4 ∧ s6 = .int .u64 r ∧ s7 = .int .i64 k ∧ Hid (Part x0 x1 x2 x3 k z0 z1 z2 z3 r) ∧ CellsAt L #[.int .u64 z0, .int .u64 z1, .int .u64 z2, .int .u64 z3] wx ∧ Below w.heap.size w wx)
        case atStart => exact ⟨0, x0, x1, x2, x3, 0, rfl, rfl, rfl, HP0, hXd, hBd⟩
        case round =>
          obtain ⟨k, z0, z1, z2, z3, r, hkg, rfl, rfl, HP, hX, hBi⟩ := hrel
          clear hXd hBd
          obtain ⟨p0, p1, p2, p3, p4, p5, p6, p7, p8, p9⟩ := part_in HP.out
          cases gk with
          | zero =>
            obtain rfl : k = 4 := by omega
            have hlast := HP.out.2.2.2.2.2.2
            simp only at hlast
            have hzl := lim_in HP.out.1 HP.out.2.1 HP.out.2.2.1 HP.out.2.2.2.1
            have hmz : (lim z0 z1 z2 z3).toNat = m / 10 ∧ r = ((m % 10 : Nat) : Int) := by have := HM.out; omega
            have hl0 := HP.out.1
            have hl1 := HP.out.2.1
            have hl2 := HP.out.2.2.1
            have hl3 := HP.out.2.2.2.1
            obtain ⟨c, hc⟩ : ∃ c : UInt8, UInt8.ofNat (48 + m % 10) = c := ⟨_, rfl⟩
            have hcn : (c.toNat : Int) = 48 + r := by rw [← hc, dig_byte _ (Nat.mod_lt _ (by decide)), hmz.2]; omega
            have hu8 : IntKind.u8.wrap (48 + r) = 48 + r := by simp [IntKind.wrap, IntKind.bits, IntKind.signed]; omega
            have hu64 : IntKind.u64.wrap (48 + r) = 48 + r := by rw [IntKind.wrap_u64]; omega
            have hcv := one_byte c (48 + r) hcn.symm wr
            obtain ⟨cb, hcb⟩ : ∃ cb, tx [c] = cb := ⟨_, rfl⟩
            have hcs : cb.size = 1 := by rw [← hcb, tx_size]; rfl
            have hq2 : cb.size + sb.size ≤ 9223372036854775807 := by omega
            rw [hcb] at hcv
            have hnew : cb ++ sb = tx (c :: s) := by rw [← hcb, ← HSB.out, tx_append]; rfl
            have HNW := Lib.hid hnew
            have HTN := HTn
            rw [hc] at HTN
            have HMZ := Lib.hid hmz
            have hmeas : m / 10 < (if s = [] then m + 1 else m) := by
              split
              · omega
              · rename_i hsn
                rcases HGO.out with h | h
                · exact absurd h hsn
                · omega
            have HME := Lib.hid hmeas
            clear hlast hzl hmz hc hcn hnew hmeas hcb p0 p1 p2 p3 p4 p5 p6 p7
            go_wp2
            go_roundg (m / 10)
            case measure => have h1 := HG.out; have h2 := HME.out; omega
            case rel => exact ⟨c :: s, z0, z1, z2, z3, congrArg Value.string HNW.out, hl0, hl1, hl2, hl3, by rw [HMZ.out.1]; exact HTN, by rw [if_neg (by simp)]; exact HMZ.out.1, hX.past _, hBi.alloc hBi.size _⟩
          | succ g =>
            obtain hk0 | hk0 : k = 0 ∨ k ≠ 0 := by omega
            · subst hk0
              have pn := part_0 HP.out
              have nb : 0 ≤ (r * 4294967296 + z0) / 10 ∧ (r * 4294967296 + z0) / 10 ≤ 18446744073709551615 ∧ 0 ≤ (r * 4294967296 + z0) % 10 ∧ (r * 4294967296 + z0) % 10 < 10 := by omega
              have u1 : IntKind.u64.wrap (r * 4294967296) = r * 4294967296 := by rw [IntKind.wrap_u64]; omega
              have u2 : IntKind.u64.wrap (r * 4294967296 + z0) = r * 4294967296 + z0 := by rw [IntKind.wrap_u64]; omega
              have d0 := hX.cell 0 (.int .u64 z0) rfl
              have e0 := hX.fro 0 (.int .u64 z0) rfl
              have PN := Lib.hid pn
              clear pn
              go_wp2
              go_roundg g
              case measure => omega
              case rel => exact ⟨1, ((r * 4294967296 + z0) / 10), z1, z2, z3, (r * 4294967296 + z0) % 10, by omega, rfl, rfl, PN, hX.set 0 (.int .u64 ((r * 4294967296 + z0) / 10)) (by simp), hBi.setCell hLw _⟩
            obtain hk1 | hk1 : k = 1 ∨ k ≠ 1 := by omega
            · subst hk1
              have pn := part_1 HP.out
              have nb : 0 ≤ (r * 4294967296 + z1) / 10 ∧ (r * 4294967296 + z1) / 10 ≤ 18446744073709551615 ∧ 0 ≤ (r * 4294967296 + z1) % 10 ∧ (r * 4294967296 + z1) % 10 < 10 := by omega
              have u1 : IntKind.u64.wrap (r * 4294967296) = r * 4294967296 := by rw [IntKind.wrap_u64]; omega
              have u2 : IntKind.u64.wrap (r * 4294967296 + z1) = r * 4294967296 + z1 := by rw [IntKind.wrap_u64]; omega
              have d0 := hX.cell 1 (.int .u64 z1) rfl
              have e0 := hX.fro 1 (.int .u64 z1) rfl
              have PN := Lib.hid pn
              clear pn
              go_wp2
              go_roundg g
              case measure => omega
              case rel => exact ⟨2, z0, ((r * 4294967296 + z1) / 10), z2, z3, (r * 4294967296 + z1) % 10, by omega, rfl, rfl, PN, hX.set 1 (.int .u64 ((r * 4294967296 + z1) / 10)) (by simp), hBi.setCell hLw _⟩
            obtain hk2 | hk2 : k = 2 ∨ k ≠ 2 := by omega
            · subst hk2
              have pn := part_2 HP.out
              have nb : 0 ≤ (r * 4294967296 + z2) / 10 ∧ (r * 4294967296 + z2) / 10 ≤ 18446744073709551615 ∧ 0 ≤ (r * 4294967296 + z2) % 10 ∧ (r * 4294967296 + z2) % 10 < 10 := by omega
              have u1 : IntKind.u64.wrap (r * 4294967296) = r * 4294967296 := by rw [IntKind.wrap_u64]; omega
              have u2 : IntKind.u64.wrap (r * 4294967296 + z2) = r * 4294967296 + z2 := by rw [IntKind.wrap_u64]; omega
              have d0 := hX.cell 2 (.int .u64 z2) rfl
              have e0 := hX.fro 2 (.int .u64 z2) rfl
              have PN := Lib.hid pn
              clear pn
              go_wp2
              go_roundg g
              case measure => omega
              case rel => exact ⟨3, z0, z1, ((r * 4294967296 + z2) / 10), z3, (r * 4294967296 + z2) % 10, by omega, rfl, rfl, PN, hX.set 2 (.int .u64 ((r * 4294967296 + z2) / 10)) (by simp), hBi.setCell hLw _⟩
            obtain hk3 | hk3 : k = 3 ∨ k ≠ 3 := by omega
            · subst hk3
              have pn := part_3 HP.out
              have nb : 0 ≤ (r * 4294967296 + z3) / 10 ∧ (r * 4294967296 + z3) / 10 ≤ 18446744073709551615 ∧ 0 ≤ (r * 4294967296 + z3) % 10 ∧ (r * 4294967296 + z3) % 10 < 10 := by omega
              have u1 : IntKind.u64.wrap (r * 4294967296) = r * 4294967296 := by rw [IntKind.wrap_u64]; omega
              have u2 : IntKind.u64.wrap (r * 4294967296 + z3) = r * 4294967296 + z3 := by rw [IntKind.wrap_u64]; omega
              have d0 := hX.cell 3 (.int .u64 z3) rfl
              have e0 := hX.fro 3 (.int .u64 z3) rfl
              have PN := Lib.hid pn
              clear pn
              go_wp2
              go_roundg g
              case measure => omega
              case rel => exact ⟨4, z0, z1, z2, ((r * 4294967296 + z3) / 10), (r * 4294967296 + z3) % 10, by omega, rfl, rfl, PN, hX.set 3 (.int .u64 ((r * 4294967296 + z3) / 10)) (by simp), hBi.setCell hLw _⟩
            exfalso; omega
    · have hs : s ≠ [] := fun h => hgo (Or.inl h)
      have hl0 : lim x0 x1 x2 x3 = 0 := by have : ¬ 0 < lim x0 x1 x2 x3 := fun h => hgo (Or.inr h); omega
      have hx0 : ¬ 0 < x0 + x1 + x2 + x3 := fun h => hgo (Or.inr (hli.1 h))
      have hend := told_end HTo.out hs (by rw [hl0]; rfl)
      have hempty : ((tx s).toList == []) = false := by rw [Lib.toList_data]; simpa using hs
      have hsum : IntKind.u64.wrap (IntKind.u64.wrap (IntKind.u64.wrap (x0 + x1) + x2) + x3) = x0 + x1 + x2 + x3 := by rw [IntKind.wrap_u64, IntKind.wrap_u64, IntKind.wrap_u64]; omega
      have hz : x0 + x1 + x2 + x3 = 0 := by omega
      rw [hz] at hsum
      have hdec : decide (0 < x0 + x1 + x2 + x3) = false := by simpa using hx0
      obtain ⟨sb, hsb⟩ : ∃ sb, tx s = sb := ⟨_, rfl⟩
      rw [hsb] at hsl hempty ⊢
      have hfin : ⟨#[]⟩ ++ sb = tx (Lib.decDigits M) := by rw [← hsb, hend]; exact tx_append _ _
      have hq0 : (⟨#[]⟩ : ByteArray).size + sb.size ≤ 9223372036854775807 := by show 0 + sb.size ≤ _; omega
      have hq1 : 0 + sb.size ≤ 9223372036854775807 := by omega
      have hq3 : sb.size ≤ 9223372036854775807 := by omega
      have HF := Lib.hid hfin
      clear hfin hend hl0 hx0 hz hgo hg hli hlp hlen hs HTo hsb
      go_wp2_with fail
      go_quiet (fail)
      go_wp2
      go_ret
      exact ⟨congrArg (fun x => Ending.returned (.string x)) HF.out, below_drewN hBx _⟩


set_option maxRecDepth 100000 in
set_option maxHeartbeats 1000000 in
theorem refText_neg (a : Int) (ha : InS a) (hn : a < 0) (w : World) :
    Calls Tryd.prog 22 #[sv a] w fun e w' => e = .returned (.string (tx (Lib.itoa a))) ∧ Below w.heap.size w w' := by
  have a1 := shi_lo ha
  have a2 := shi_hi ha
  have a3 := slo_lo a
  have a4 := slo_hi a
  have hmag := mag_neg ha hn
  obtain ⟨M, hM⟩ : ∃ M, (-a).toNat = M := ⟨_, rfl⟩
  rw [itoa_neg' hn, hM]
  rw [hM] at hmag
  have hM39 := nDigits_le 39 M (by decide) (by simp; omega)
  obtain ⟨z, hz⟩ : ∃ z, w128 (-a) = z := ⟨_, rfl⟩
  have hzin : InS z := by rw [← hz]; exact w128_in _
  rw [hz] at hmag
  have z3 := slo_lo z
  have z4 := slo_hi z
  have z1 := shi_lo hzin
  have z2 := shi_hi hzin
  obtain ⟨u, hu'⟩ : ∃ u, IntKind.u64.wrap (shi z) = u := ⟨_, rfl⟩
  have hu : 0 ≤ u ∧ u ≤ 18446744073709551615 := by rw [← hu', IntKind.wrap_u64]; omega
  rw [hu'] at hmag
  have hlim := fun w => limbs_any u _ _ hu.1 hu.2 z3 z4 hmag.1 w
  have hs0 : shi a < 0 := by unfold shi; unfold InS at ha; omega
  have hneg := fun w => refNeg_any a ha w
  rw [hz] at hneg
  clear hmag hu hM ha hn hz hzin
  rw [show sv a = .agg #[.int .i64 (shi a), .int .u64 (slo a)] from rfl]
  go_enter Tryd.func22, Tryd.ntmps22
  go_wp2_with fail
  refine (hneg _).mono ?_
  rintro e w1 ⟨rfl, hB0⟩
  have hA := (CellsAt.new #[.int .i64 (shi a), .int .u64 (slo a)] 26 w).below hB0
  have hE1 : Below w.heap.size w w1 := ((Below.refl _ _).alloc (Nat.le_refl _) _).trans (hB0.mono (by simp))
  have hD := (hA.set 0 (.int .i64 (shi z)) (by simp)).set 1 (.int .u64 (slo z)) (by simp)
  have hE2 := (hE1.setCell (p := ⟨w.heap.size, 0, none⟩) (Nat.le_refl _) (.int .i64 (shi z))).setCell (p := ⟨w.heap.size, 1, none⟩) (Nat.le_refl _) (.int .u64 (slo z))
  have c0 := hA.cell 0 (.int .i64 (shi a)) rfl
  have c1 := hA.cell 1 (.int .u64 (slo a)) rfl
  have f0 := hA.fro 0 (.int .i64 (shi a)) rfl
  have f1 := hA.fro 1 (.int .u64 (slo a)) rfl
  have d0 := hD.cell 0 (.int .i64 (shi z)) rfl
  have d1 := hD.cell 1 (.int .u64 (slo z)) rfl
  clear hneg hB0
  go_wp2_with fail
  refine (hlim _).mono ?_
  rintro e W ⟨y0, y1, y2, y3, rfl, hy0, hy1, hy2, hy3, hlm, hY, hB1⟩
  have hBw : Below w.heap.size w W := hE2.trans (hB1.mono hE2.size)
  have hLw : w.heap.size ≤ w1.heap.size := hE1.size
  replace hY : CellsAt w1.heap.size #[.int .u64 y0, .int .u64 y1, .int .u64 y2, .int .u64 y3] W := by simpa using hY
  clear hlim hB1 hs0 a1 a2 a3 a4 z1 z2 z3 z4 hA hD hE1 hE2 c0 c1 f0 f1 d0 d1 hu'
  go_wp2_with fail
  generalize w1.heap.size = L at *
  go_loopg [5, 6, 7, 8] (M + 1) (fun g s5 s6 s7 s8 wx => ∃ (s : List UInt8) (x0 x1 x2 x3 : Int), s5 = .string (tx s) ∧ Lim x0 ∧ Lim x1 ∧ Lim x2 ∧ Lim x3 ∧ Hid (Told M (lim x0 x1 x2 x3).toNat s) ∧ (if s = [] then (lim x0 x1 x2 x3).toNat + 1 else (lim x0 x1 x2 x3).toNat) = g ∧ CellsAt L #[.int .u64 x0, .int .u64 x1, .int .u64 x2, .int .u64 x3] wx ∧ Below w.heap.size w wx)
  case atStart => exact ⟨[], y0, y1, y2, y3, rfl, hy0, hy1, hy2, hy3, Lib.hid (Or.inl ⟨rfl, by rw [hlm]; omega⟩), by rw [if_pos rfl, hlm]; omega, hY, hBw⟩
  case round =>
    obtain ⟨s, x0, x1, x2, x3, rfl, hx0, hx1, hx2, hx3, HTo, hg, hX, hBx⟩ := hrel
    clear hY hBw hy0 hy1 hy2 hy3 hlm y0 y1 y2 y3
    have hlen := told_len HTo.out
    have hsl : (tx s).size ≤ 40 := by rw [tx_size]; omega
    obtain ⟨hlp, hli⟩ := lim_in hx0 hx1 hx2 hx3
    obtain ⟨a0, b0⟩ := id hx0
    obtain ⟨a1, b1⟩ := id hx1
    obtain ⟨a2, b2⟩ := id hx2
    obtain ⟨a3, b3⟩ := id hx3
    have c0 := hX.cell 0 (.int .u64 x0) rfl
    have c1 := hX.cell 1 (.int .u64 x1) rfl
    have c2 := hX.cell 2 (.int .u64 x2) rfl
    have c3 := hX.cell 3 (.int .u64 x3) rfl
    by_cases hgo : s = [] ∨ 0 < lim x0 x1 x2 x3
    · obtain ⟨m, hm⟩ : ∃ m, (lim x0 x1 x2 x3).toNat = m := ⟨_, rfl⟩
      have hmi : lim x0 x1 x2 x3 = (m : Int) := by omega
      have hgo2 : s = [] ∨ 0 < m := by rcases hgo with h | h; exact Or.inl h; right; omega
      have HTn := Lib.hid (told_next (by rw [← hm]; exact HTo.out) hgo2)
      have hP : Part x0 x1 x2 x3 0 x0 x1 x2 x3 0 := by unfold Part; exact ⟨hx0, hx1, hx2, hx3, by decide, by decide, rfl, rfl, rfl, rfl, rfl⟩
      have HP0 := Lib.hid hP
      have hgm : gk = (if s = [] then m + 1 else m) := by rw [← hm]; exact hg.symm
      have HG := Lib.hid hgm
      have HM := Lib.hid hmi
      obtain ⟨sb, hsb⟩ : ∃ sb, tx s = sb := ⟨_, rfl⟩
      have HSB := Lib.hid hsb
      rw [hsb] at hsl
      have HGO := Lib.hid hgo2
      clear hP hgm hg hm hmi HTo hlp
      have hq1 : (1 : Nat) + sb.size ≤ 9223372036854775807 := by omega
      rw [hsb]
      clear hsb
      have hcond : (sb.toList == []) = true ∨ ((sb.toList == []) = false ∧ 0 < x0 + x1 + x2 + x3) := by
        by_cases hs : s = []
        · left; rw [← HSB.out, hs, Lib.toList_data]; rfl
        · right
          refine ⟨?_, hli.2 (by rcases hgo with h | h; exact absurd h hs; exact h)⟩
          rw [← HSB.out, Lib.toList_data]
          simpa using hs
      clear hli hgo hgo2
      have hsum : IntKind.u64.wrap (IntKind.u64.wrap (IntKind.u64.wrap (x0 + x1) + x2) + x3) = x0 + x1 + x2 + x3 := by rw [IntKind.wrap_u64, IntKind.wrap_u64, IntKind.wrap_u64]; omega
      rcases hcond with hcond | ⟨hcond, hpos⟩
      · go_wp2_with fail
        go_quiet (fail)
        have hXd := hX.drewN nq
        have hBd := below_drewN hBx nq
        generalize wr.drewN nq = wi at *
        clear c0 c1 c2 c3 hX hBx
        go_wp2_with fail
        go_loopg [6, 7, 8] 4 (fun g s6 s7 s8 wx => ∃ (k : Nat) (z0 z1 z2 z3 r : Int), k + g = 4 ∧ s6 = .int .u64 r ∧ s7 = .int .i64 k ∧ Hid (Part x0 x1 x2 x3 k z0 z1 z2 z3 r) ∧ CellsAt L #[.int .u64 z0, .int .u64 z1, .int .u64 z2, .int .u64 z3] wx ∧ Below w.heap.size w wx)
        case atStart => exact ⟨0, x0, x1, x2, x3, 0, rfl, rfl, rfl, HP0, hXd, hBd⟩
        case round =>
          obtain ⟨k, z0, z1, z2, z3, r, hkg, rfl, rfl, HP, hX, hBi⟩ := hrel
          clear hXd hBd
          obtain ⟨p0, p1, p2, p3, p4, p5, p6, p7, p8, p9⟩ := part_in HP.out
          cases gk with
          | zero =>
            obtain rfl : k = 4 := by omega
            have hlast := HP.out.2.2.2.2.2.2
            simp only at hlast
            have hzl := lim_in HP.out.1 HP.out.2.1 HP.out.2.2.1 HP.out.2.2.2.1
            have hmz : (lim z0 z1 z2 z3).toNat = m / 10 ∧ r = ((m % 10 : Nat) : Int) := by have := HM.out; omega
            have hl0 := HP.out.1
            have hl1 := HP.out.2.1
            have hl2 := HP.out.2.2.1
            have hl3 := HP.out.2.2.2.1
            obtain ⟨c, hc⟩ : ∃ c : UInt8, UInt8.ofNat (48 + m % 10) = c := ⟨_, rfl⟩
            have hcn : (c.toNat : Int) = 48 + r := by rw [← hc, dig_byte _ (Nat.mod_lt _ (by decide)), hmz.2]; omega
            have hu8 : IntKind.u8.wrap (48 + r) = 48 + r := by simp [IntKind.wrap, IntKind.bits, IntKind.signed]; omega
            have hu64 : IntKind.u64.wrap (48 + r) = 48 + r := by rw [IntKind.wrap_u64]; omega
            have hcv := one_byte c (48 + r) hcn.symm wr
            obtain ⟨cb, hcb⟩ : ∃ cb, tx [c] = cb := ⟨_, rfl⟩
            have hcs : cb.size = 1 := by rw [← hcb, tx_size]; rfl
            have hq2 : cb.size + sb.size ≤ 9223372036854775807 := by omega
            rw [hcb] at hcv
            have hnew : cb ++ sb = tx (c :: s) := by rw [← hcb, ← HSB.out, tx_append]; rfl
            have HNW := Lib.hid hnew
            have HTN := HTn
            rw [hc] at HTN
            have HMZ := Lib.hid hmz
            have hmeas : m / 10 < (if s = [] then m + 1 else m) := by
              split
              · omega
              · rename_i hsn
                rcases HGO.out with h | h
                · exact absurd h hsn
                · omega
            have HME := Lib.hid hmeas
            clear hlast hzl hmz hc hcn hnew hmeas hcb p0 p1 p2 p3 p4 p5 p6 p7
            go_wp2
            go_roundg (m / 10)
            case measure => have h1 := HG.out; have h2 := HME.out; omega
            case rel => exact ⟨c :: s, z0, z1, z2, z3, congrArg Value.string HNW.out, hl0, hl1, hl2, hl3, by rw [HMZ.out.1]; exact HTN, by rw [if_neg (by simp)]; exact HMZ.out.1, hX.past _, hBi.alloc hBi.size _⟩
          | succ g =>
            obtain hk0 | hk0 : k = 0 ∨ k ≠ 0 := by omega
            · subst hk0
              have pn := part_0 HP.out
              have nb : 0 ≤ (r * 4294967296 + z0) / 10 ∧ (r * 4294967296 + z0) / 10 ≤ 18446744073709551615 ∧ 0 ≤ (r * 4294967296 + z0) % 10 ∧ (r * 4294967296 + z0) % 10 < 10 := by omega
              have u1 : IntKind.u64.wrap (r * 4294967296) = r * 4294967296 := by rw [IntKind.wrap_u64]; omega
              have u2 : IntKind.u64.wrap (r * 4294967296 + z0) = r * 4294967296 + z0 := by rw [IntKind.wrap_u64]; omega
              have d0 := hX.cell 0 (.int .u64 z0) rfl
              have e0 := hX.fro 0 (.int .u64 z0) rfl
              have PN := Lib.hid pn
              clear pn
              go_wp2
              go_roundg g
              case measure => omega
              case rel => exact ⟨1, ((r * 4294967296 + z0) / 10), z1, z2, z3, (r * 4294967296 + z0) % 10, by omega, rfl, rfl, PN, hX.set 0 (.int .u64 ((r * 4294967296 + z0) / 10)) (by simp), hBi.setCell hLw _⟩
            obtain hk1 | hk1 : k = 1 ∨ k ≠ 1 := by omega
            · subst hk1
              have pn := part_1 HP.out
              have nb : 0 ≤ (r * 4294967296 + z1) / 10 ∧ (r * 4294967296 + z1) / 10 ≤ 18446744073709551615 ∧ 0 ≤ (r * 4294967296 + z1) % 10 ∧ (r * 4294967296 + z1) % 10 < 10 := by omega
              have u1 : IntKind.u64.wrap (r * 4294967296) = r * 4294967296 := by rw [IntKind.wrap_u64]; omega
              have u2 : IntKind.u64.wrap (r * 4294967296 + z1) = r * 4294967296 + z1 := by rw [IntKind.wrap_u64]; omega
              have d0 := hX.cell 1 (.int .u64 z1) rfl
              have e0 := hX.fro 1 (.int .u64 z1) rfl
              have PN := Lib.hid pn
              clear pn
              go_wp2
              go_roundg g
              case measure => omega
              case rel => exact ⟨2, z0, ((r * 4294967296 + z1) / 10), z2, z3, (r * 4294967296 + z1) % 10, by omega, rfl, rfl, PN, hX.set 1 (.int .u64 ((r * 4294967296 + z1) / 10)) (by simp), hBi.setCell hLw _⟩
            obtain hk2 | hk2 : k = 2 ∨ k ≠ 2 := by omega
            · subst hk2
              have pn := part_2 HP.out
              have nb : 0 ≤ (r * 4294967296 + z2) / 10 ∧ (r * 4294967296 + z2) / 10 ≤ 18446744073709551615 ∧ 0 ≤ (r * 4294967296 + z2) % 10 ∧ (r * 4294967296 + z2) % 10 < 10 := by omega
              have u1 : IntKind.u64.wrap (r * 4294967296) = r * 4294967296 := by rw [IntKind.wrap_u64]; omega
              have u2 : IntKind.u64.wrap (r * 4294967296 + z2) = r * 4294967296 + z2 := by rw [IntKind.wrap_u64]; omega
              have d0 := hX.cell 2 (.int .u64 z2) rfl
              have e0 := hX.fro 2 (.int .u64 z2) rfl
              have PN := Lib.hid pn
              clear pn
              go_wp2
              go_roundg g
              case measure => omega
              case rel => exact ⟨3, z0, z1, ((r * 4294967296 + z2) / 10), z3, (r * 4294967296 + z2) % 10, by omega, rfl, rfl, PN, hX.set 2 (.int .u64 ((r * 4294967296 + z2) / 10)) (by simp), hBi.setCell hLw _⟩
            obtain hk3 | hk3 : k = 3 ∨ k ≠ 3 := by omega
            · subst hk3
              have pn := part_3 HP.out
              have nb : 0 ≤ (r * 4294967296 + z3) / 10 ∧ (r * 4294967296 + z3) / 10 ≤ 18446744073709551615 ∧ 0 ≤ (r * 4294967296 + z3) % 10 ∧ (r * 4294967296 + z3) % 10 < 10 := by omega
              have u1 : IntKind.u64.wrap (r * 4294967296) = r * 4294967296 := by rw [IntKind.wrap_u64]; omega
              have u2 : IntKind.u64.wrap (r * 4294967296 + z3) = r * 4294967296 + z3 := by rw [IntKind.wrap_u64]; omega
              have d0 := hX.cell 3 (.int .u64 z3) rfl
              have e0 := hX.fro 3 (.int .u64 z3) rfl
              have PN := Lib.hid pn
              clear pn
              go_wp2
              go_roundg g
              case measure => omega
              case rel => exact ⟨4, z0, z1, z2, ((r * 4294967296 + z3) / 10), (r * 4294967296 + z3) % 10, by omega, rfl, rfl, PN, hX.set 3 (.int .u64 ((r * 4294967296 + z3) / 10)) (by simp), hBi.setCell hLw _⟩
            exfalso; omega
      · go_wp2_with fail
        go_quiet (fail)
        have hXd := hX.drewN nq
        have hBd := below_drewN hBx nq
        generalize wr.drewN nq = wi at *
        clear c0 c1 c2 c3 hX hBx
        go_wp2_with fail
        go_loopg [6, 7, 8] 4 (fun g s6 s7 s8 wx => ∃ (k : Nat) (z0 z1 z2 z3 r : Int), k + g = 4 ∧ s6 = .int .u64 r ∧ s7 = .int .i64 k ∧ Hid (Part x0 x1 x2 x3 k z0 z1 z2 z3 r) ∧ CellsAt L #[.int .u64 z0, .int .u64 z1, .int .u64 z2, .int .u64 z3] wx ∧ Below w.heap.size w wx)
        case atStart => exact ⟨0, x0, x1, x2, x3, 0, rfl, rfl, rfl, HP0, hXd, hBd⟩
        case round =>
          obtain ⟨k, z0, z1, z2, z3, r, hkg, rfl, rfl, HP, hX, hBi⟩ := hrel
          clear hXd hBd
          obtain ⟨p0, p1, p2, p3, p4, p5, p6, p7, p8, p9⟩ := part_in HP.out
          cases gk with
          | zero =>
            obtain rfl : k = 4 := by omega
            have hlast := HP.out.2.2.2.2.2.2
            simp only at hlast
            have hzl := lim_in HP.out.1 HP.out.2.1 HP.out.2.2.1 HP.out.2.2.2.1
            have hmz : (lim z0 z1 z2 z3).toNat = m / 10 ∧ r = ((m % 10 : Nat) : Int) := by have := HM.out; omega
            have hl0 := HP.out.1
            have hl1 := HP.out.2.1
            have hl2 := HP.out.2.2.1
            have hl3 := HP.out.2.2.2.1
            obtain ⟨c, hc⟩ : ∃ c : UInt8, UInt8.ofNat (48 + m % 10) = c := ⟨_, rfl⟩
            have hcn : (c.toNat : Int) = 48 + r := by rw [← hc, dig_byte _ (Nat.mod_lt _ (by decide)), hmz.2]; omega
            have hu8 : IntKind.u8.wrap (48 + r) = 48 + r := by simp [IntKind.wrap, IntKind.bits, IntKind.signed]; omega
            have hu64 : IntKind.u64.wrap (48 + r) = 48 + r := by rw [IntKind.wrap_u64]; omega
            have hcv := one_byte c (48 + r) hcn.symm wr
            obtain ⟨cb, hcb⟩ : ∃ cb, tx [c] = cb := ⟨_, rfl⟩
            have hcs : cb.size = 1 := by rw [← hcb, tx_size]; rfl
            have hq2 : cb.size + sb.size ≤ 9223372036854775807 := by omega
            rw [hcb] at hcv
            have hnew : cb ++ sb = tx (c :: s) := by rw [← hcb, ← HSB.out, tx_append]; rfl
            have HNW := Lib.hid hnew
            have HTN := HTn
            rw [hc] at HTN
            have HMZ := Lib.hid hmz
            have hmeas : m / 10 < (if s = [] then m + 1 else m) := by
              split
              · omega
              · rename_i hsn
                rcases HGO.out with h | h
                · exact absurd h hsn
                · omega
            have HME := Lib.hid hmeas
            clear hlast hzl hmz hc hcn hnew hmeas hcb p0 p1 p2 p3 p4 p5 p6 p7
            go_wp2
            go_roundg (m / 10)
            case measure => have h1 := HG.out; have h2 := HME.out; omega
            case rel => exact ⟨c :: s, z0, z1, z2, z3, congrArg Value.string HNW.out, hl0, hl1, hl2, hl3, by rw [HMZ.out.1]; exact HTN, by rw [if_neg (by simp)]; exact HMZ.out.1, hX.past _, hBi.alloc hBi.size _⟩
          | succ g =>
            obtain hk0 | hk0 : k = 0 ∨ k ≠ 0 := by omega
            · subst hk0
              have pn := part_0 HP.out
              have nb : 0 ≤ (r * 4294967296 + z0) / 10 ∧ (r * 4294967296 + z0) / 10 ≤ 18446744073709551615 ∧ 0 ≤ (r * 4294967296 + z0) % 10 ∧ (r * 4294967296 + z0) % 10 < 10 := by omega
              have u1 : IntKind.u64.wrap (r * 4294967296) = r * 4294967296 := by rw [IntKind.wrap_u64]; omega
              have u2 : IntKind.u64.wrap (r * 4294967296 + z0) = r * 4294967296 + z0 := by rw [IntKind.wrap_u64]; omega
              have d0 := hX.cell 0 (.int .u64 z0) rfl
              have e0 := hX.fro 0 (.int .u64 z0) rfl
              have PN := Lib.hid pn
              clear pn
              go_wp2
              go_roundg g
              case measure => omega
              case rel => exact ⟨1, ((r * 4294967296 + z0) / 10), z1, z2, z3, (r * 4294967296 + z0) % 10, by omega, rfl, rfl, PN, hX.set 0 (.int .u64 ((r * 4294967296 + z0) / 10)) (by simp), hBi.setCell hLw _⟩
            obtain hk1 | hk1 : k = 1 ∨ k ≠ 1 := by omega
            · subst hk1
              have pn := part_1 HP.out
              have nb : 0 ≤ (r * 4294967296 + z1) / 10 ∧ (r * 4294967296 + z1) / 10 ≤ 18446744073709551615 ∧ 0 ≤ (r * 4294967296 + z1) % 10 ∧ (r * 4294967296 + z1) % 10 < 10 := by omega
              have u1 : IntKind.u64.wrap (r * 4294967296) = r * 4294967296 := by rw [IntKind.wrap_u64]; omega
              have u2 : IntKind.u64.wrap (r * 4294967296 + z1) = r * 4294967296 + z1 := by rw [IntKind.wrap_u64]; omega
              have d0 := hX.cell 1 (.int .u64 z1) rfl
              have e0 := hX.fro 1 (.int .u64 z1) rfl
              have PN := Lib.hid pn
              clear pn
              go_wp2
              go_roundg g
              case measure => omega
              case rel => exact ⟨2, z0, ((r * 4294967296 + z1) / 10), z2, z3, (r * 4294967296 + z1) % 10, by omega, rfl, rfl, PN, hX.set 1 (.int .u64 ((r * 4294967296 + z1) / 10)) (by simp), hBi.setCell hLw _⟩
            obtain hk2 | hk2 : k = 2 ∨ k ≠ 2 := by omega
            · subst hk2
              have pn := part_2 HP.out
              have nb : 0 ≤ (r * 4294967296 + z2) / 10 ∧ (r * 4294967296 + z2) / 10 ≤ 18446744073709551615 ∧ 0 ≤ (r * 4294967296 + z2) % 10 ∧ (r * 4294967296 + z2) % 10 < 10 := by omega
              have u1 : IntKind.u64.wrap (r * 4294967296) = r * 4294967296 := by rw [IntKind.wrap_u64]; omega
              have u2 : IntKind.u64.wrap (r * 4294967296 + z2) = r * 4294967296 + z2 := by rw [IntKind.wrap_u64]; omega
              have d0 := hX.cell 2 (.int .u64 z2) rfl
              have e0 := hX.fro 2 (.int .u64 z2) rfl
              have PN := Lib.hid pn
              clear pn
              go_wp2
              go_roundg g
              case measure => omega
              case rel => exact ⟨3, z0, z1, ((r * 4294967296 + z2) / 10), z3, (r * 4294967296 + z2) % 10, by omega, rfl, rfl, PN, hX.set 2 (.int .u64 ((r * 4294967296 + z2) / 10)) (by simp), hBi.setCell hLw _⟩
            obtain hk3 | hk3 : k = 3 ∨ k ≠ 3 := by omega
            · subst hk3
              have pn := part_3 HP.out
              have nb : 0 ≤ (r * 4294967296 + z3) / 10 ∧ (r * 4294967296 + z3) / 10 ≤ 18446744073709551615 ∧ 0 ≤ (r * 4294967296 + z3) % 10 ∧ (r * 4294967296 + z3) % 10 < 10 := by omega
              have u1 : IntKind.u64.wrap (r * 4294967296) = r * 4294967296 := by rw [IntKind.wrap_u64]; omega
              have u2 : IntKind.u64.wrap (r * 4294967296 + z3) = r * 4294967296 + z3 := by rw [IntKind.wrap_u64]; omega
              have d0 := hX.cell 3 (.int .u64 z3) rfl
              have e0 := hX.fro 3 (.int .u64 z3) rfl
              have PN := Lib.hid pn
              clear pn
              go_wp2
              go_roundg g
              case measure => omega
              case rel => exact ⟨4, z0, z1, z2, ((r * 4294967296 + z3) / 10), (r * 4294967296 + z3) % 10, by omega, rfl, rfl, PN, hX.set 3 (.int .u64 ((r * 4294967296 + z3) / 10)) (by simp), hBi.setCell hLw _⟩
            exfalso; omega
    · have hs : s ≠ [] := fun h => hgo (Or.inl h)
      have hl0 : lim x0 x1 x2 x3 = 0 := by have : ¬ 0 < lim x0 x1 x2 x3 := fun h => hgo (Or.inr h); omega
      have hx0 : ¬ 0 < x0 + x1 + x2 + x3 := fun h => hgo (Or.inr (hli.1 h))
      have hend := told_end HTo.out hs (by rw [hl0]; rfl)
      have hempty : ((tx s).toList == []) = false := by rw [Lib.toList_data]; simpa using hs
      have hsum : IntKind.u64.wrap (IntKind.u64.wrap (IntKind.u64.wrap (x0 + x1) + x2) + x3) = x0 + x1 + x2 + x3 := by rw [IntKind.wrap_u64, IntKind.wrap_u64, IntKind.wrap_u64]; omega
      have hz : x0 + x1 + x2 + x3 = 0 := by omega
      rw [hz] at hsum
      have hdec : decide (0 < x0 + x1 + x2 + x3) = false := by simpa using hx0
      obtain ⟨sb, hsb⟩ : ∃ sb, tx s = sb := ⟨_, rfl⟩
      rw [hsb] at hsl hempty ⊢
      have hfin : ⟨#[45]⟩ ++ sb = tx (45 :: Lib.decDigits M) := by rw [← hsb, hend]; exact tx_append _ _
      have hq0 : (⟨#[45]⟩ : ByteArray).size + sb.size ≤ 9223372036854775807 := by show 1 + sb.size ≤ _; omega
      have hq1 : 1 + sb.size ≤ 9223372036854775807 := by omega
      have hq3 : sb.size ≤ 9223372036854775807 := by omega
      have HF := Lib.hid hfin
      clear hfin hend hl0 hx0 hz hgo hg hli hlp hlen hs HTo hsb
      go_wp2_with fail
      go_quiet (fail)
      go_wp2
      go_ret
      exact ⟨congrArg (fun x => Ending.returned (.string x)) HF.out, below_drewN hBx _⟩

theorem refText_any (a : Int) (ha : InS a) (w : World) :
    Calls Tryd.prog 22 #[sv a] w fun e w' => e = .returned (.string (tx (Lib.itoa a))) ∧ Below w.heap.size w w' := by
  by_cases hn : a < 0
  · exact refText_neg a ha hn w
  · exact refText_pos a ha hn w
end Go.Proofs.YthddnhnhlgnlhaaDoor
