/- The chapter's own answer: a text that is none. -/
import Derived.Test.YthddnhnhlgnlhaaDoorWRefY
namespace Go.Proofs.YthddnhnhlgnlhaaDoor
open Go Go.RowKit


set_option maxRecDepth 100000 in
set_option maxHeartbeats 16000000 in
theorem refRead_no (s : ByteArray) (hs : s.size ≤ maxLen) (he : Lib.itoa (rcand s.data.toList) ≠ s.data.toList) (w : World) :
    Calls Tryd.prog 29 #[.string s] w fun e w' => e = .returned (.tuple #[sv 0, .bool false]) ∧ Below w.heap.size w w' := by
  unfold maxLen at hs
  obtain ⟨c, hcc⟩ : ∃ c, rcand s.data.toList = c := ⟨_, rfl⟩
  obtain ⟨m, hm⟩ : ∃ m, rgo 0 (s.data.toList.take 45) = m := ⟨_, rfl⟩
  have hhead := read_head s m c hm hcc
  have hin : InS c := by rw [← hcc]; exact rcand_in _
  have hmin := Lib.hid (show InS m by rw [← hm]; exact rgo_in _ _ (InS.small (by decide) (by decide)))
  rw [hcc] at he
  have HM : Hid (rgo 0 ((s.data.toList.take 45).drop 0) = m) := Lib.hid (by rw [List.drop_zero]; exact hm)
  have htx := fun w => refText_any c hin w
  obtain ⟨t, ht⟩ : ∃ t, tx (Lib.itoa c) = t := ⟨_, rfl⟩
  have hne : t.toList ≠ s.toList := by
    intro h
    apply he
    have : t.data.toList = s.data.toList := by rw [← Lib.toList_data, ← Lib.toList_data]; exact h
    rw [← this, ← ht]
  have hts1 : (t.toList == s.toList) = false := by simpa using hne
  have hts2 : (t.toList != s.toList) = true := by simpa using hne
  have e0 : sv 0 = .agg #[.int .i64 0, .int .u64 0] := by unfold sv; rw [show shi 0 = 0 by decide, show slo 0 = 0 by decide]
  rw [ht] at htx
  rw [e0]
  clear he ht hne e0 hm hcc hin
  go_enter Tryd.func29, Tryd.ntmps29
  go_wp2
  refine wp_gen (fun W => CellsAt w.heap.size #[.int .i64 0, .int .u64 0] W ∧ CellsAt (w.heap.size + 1) #[.int .i64 (shi 0), .int .u64 (slo 0)] W ∧ Below w.heap.size w W) ?_ ?_
  · rw [show shi 0 = 0 by decide, show slo 0 = 0 by decide]
    exact ⟨(CellsAt.new _ _ _).past _, CellsAt.newAt _ _ _ _ (by simp), ((Below.refl _ _).alloc (Nat.le_refl _) _).alloc (by simp) _⟩
  intro W ⟨hR0, hZ0, hB0⟩
  go_loopg [5] 45 (fun g s5 wx => ∃ (k : Nat) (z : Int), k + g = 45 ∧ s5 = .int .i64 k ∧ k ≤ s.size ∧ Hid (InS z) ∧ Hid (rgo z ((s.data.toList.take 45).drop k) = m) ∧ CellsAt w.heap.size #[.int .i64 0, .int .u64 0] wx ∧ CellsAt (w.heap.size + 1) #[.int .i64 (shi z), .int .u64 (slo z)] wx ∧ Below w.heap.size w wx)
  case atStart => exact ⟨0, 0, rfl, rfl, Nat.zero_le _, Lib.hid (InS.small (by decide) (by decide)), HM, hR0, hZ0, hB0⟩
  case round =>
    clear hR0 hZ0 hB0
    obtain ⟨k, z, hkg, rfl, hkn, HI, HG, hR, hZ, hBw⟩ := hrel
    have hgo := HG.out
    clear HG
    by_cases hgo2 : k < s.size ∧ k < 45
    · obtain ⟨hks, hk4⟩ := hgo2
      have hki : (k : Int) < (s.size : Int) := by omega
      have hk45 : (k : Int) < 45 := by omega
      cases gk with
      | zero => omega
      | succ g =>
        clear hhead hmin
        obtain ⟨x, hx⟩ : ∃ x : UInt8, s[k]'hks = x := ⟨_, rfl⟩
        have hxl : (s.data.toList.take 45).drop k = x :: (s.data.toList.take 45).drop (k + 1) := by
          rw [List.drop_eq_getElem_cons (by rw [List.length_take, ← Lib.size_eq]; omega), List.getElem_take]
          congr 1
        have hx8 : x.toNat < 256 := x.toNat_lt
        rw [hxl, rgo] at hgo
        by_cases hdig : 48 ≤ x.toNat ∧ x.toNat ≤ 57
        · obtain ⟨b, hb⟩ : ∃ b, w128 (z + z) = b := ⟨_, rfl⟩
          obtain ⟨y2, hy2⟩ : ∃ y, w128 (b + b) = y := ⟨_, rfl⟩
          obtain ⟨y3, hy3⟩ : ∃ y, w128 (y2 + b) = y := ⟨_, rfl⟩
          obtain ⟨y4, hy4⟩ : ∃ y, w128 (y3 + b) = y := ⟨_, rfl⟩
          obtain ⟨y5, hy5⟩ : ∃ y, w128 (y4 + b) = y := ⟨_, rfl⟩
          obtain ⟨d, hd⟩ : ∃ d, (x.toNat : Int) - 48 = d := ⟨_, rfl⟩
          obtain ⟨z2, hz2⟩ : ∃ y, w128 (y5 + d) = y := ⟨_, rfl⟩
          have hst : rstep z x = z2 := by rw [rstep, if_pos hdig, hb, hy2, hy3, hy4, hy5, hd, hz2]
          rw [hst] at hgo
          have ib : InS b := by rw [← hb]; exact w128_in _
          have i2 : InS y2 := by rw [← hy2]; exact w128_in _
          have i3 : InS y3 := by rw [← hy3]; exact w128_in _
          have i4 : InS y4 := by rw [← hy4]; exact w128_in _
          have i5 : InS y5 := by rw [← hy5]; exact w128_in _
          have hz2' : InS z2 := by rw [← hz2]; exact w128_in _
          have IZ2 := Lib.hid hz2'
          have HGO := Lib.hid hgo
          have d0 : 0 ≤ d := by omega
          have d1 : d < 10 := by omega
          have hA1 := fun w => refAdd_any z z HI.out HI.out w
          have hA2 := fun w => refAdd_any b b ib ib w
          have hA3 := fun w => refAdd_any y2 b i2 ib w
          have hA4 := fun w => refAdd_any y3 b i3 ib w
          have hA5 := fun w => refAdd_any y4 b i4 ib w
          have hA6 := fun w => refAdd_any y5 d i5 (InS.small (by omega) (by omega)) w
          rw [hb] at hA1
          rw [hy2] at hA2
          rw [hy3] at hA3
          rw [hy4] at hA4
          rw [hy5] at hA5
          rw [hz2, show sv d = .agg #[.int .i64 0, .int .u64 d] by unfold sv; rw [show shi d = 0 by unfold shi; omega, show slo d = d by unfold slo; omega]] at hA6
          have h48 : (48 : Int) ≤ (x.toNat : Int) := by omega
          have h57 : (x.toNat : Int) ≤ 57 := by omega
          have HD1 : Hid (IntKind.u8.wrap ((x.toNat : Int) - 48) = d) := Lib.hid (by rw [hd]; simp [IntKind.wrap, IntKind.bits, IntKind.signed]; omega)
          have HD2 : Hid (IntKind.u64.wrap d = d) := Lib.hid (by rw [IntKind.wrap_u64]; omega)
          have c0 := hZ.cell 0 (.int .i64 (shi z)) rfl
          have c1 := hZ.cell 1 (.int .u64 (slo z)) rfl
          clear hgo hst hb hy2 hy3 hy4 hy5 hd hz2 hz2' i2 i3 i4 i5 ib hxl hdig htx
          go_wp2_with fail
          refine (hA1 _).mono ?_
          rintro e w1 ⟨rfl, hB1⟩
          have hZ1 := hZ.below hB1
          have hR1 := hR.below hB1
          have hE1 := hBw.trans (hB1.mono hBw.size)
          clear hB1 c0 c1 hZ hR hBw
          rw [show sv b = .agg #[.int .i64 (shi b), .int .u64 (slo b)] from rfl]
          go_wp2_with fail
          refine wp_gen (fun W => CellsAt w.heap.size #[.int .i64 0, .int .u64 0] W ∧ CellsAt (w.heap.size + 1) #[.int .i64 (shi z), .int .u64 (slo z)] W ∧ CellsAt w1.heap.size #[.int .i64 (shi b), .int .u64 (slo b)] W ∧ Below w.heap.size w W) ?_ ?_
          · exact ⟨hR1.past _, hZ1.past _, CellsAt.new _ _ _, hE1.alloc hE1.size _⟩
          clear hR1 hZ1 hE1
          generalize w1.heap.size = R6 at *
          intro W ⟨hR, hZ, h6, hBw⟩
          obtain ⟨K, hK⟩ : ∃ K, W.drew.heap.size = K := ⟨_, rfl⟩
          have hK2 : w.heap.size + 1 < K := by rw [← hK]; exact hZ.lt
          refine Reg.wp_region_last (n := 64) 10 (R7Phi K b y2 y3 y4 y5) (by kernel_rfl) rfl (by kernel_rfl) (by kernel_rfl) rfl R7Phi.stays ?_ ?_
          · refine ⟨?_, ?_, ?_, ?_, ?_, ?_, ?_, ?_, ?_, ?_, ?_, trivial⟩
            · intro _ cx wc hB hp hs
              have g6 : cx.tmps[6]? = some (.pointer (some ⟨R6, 0, none⟩)) := (hs 6 (by kernel_rfl)).trans rfl
              have hc := h6.drew.below hB
              have k0 := hc.cell 0 (.int .i64 (shi b)) rfl
              have k1 := hc.cell 1 (.int .u64 (slo b)) rfl
              refine Reg.ok_value Reg.Old.refl (v := sv b) (Reg.wanted_none rfl) ?_ rfl
              go_simp
            · intro _ cx wc hB hp hs
              have g6 : cx.tmps[6]? = some (.pointer (some ⟨R6, 0, none⟩)) := (hs 6 (by kernel_rfl)).trans rfl
              have hc := h6.drew.below hB
              have k0 := hc.cell 0 (.int .i64 (shi b)) rfl
              have k1 := hc.cell 1 (.int .u64 (slo b)) rfl
              refine Reg.ok_value Reg.Old.refl (v := sv b) (Reg.wanted_none rfl) ?_ rfl
              go_simp
            · intro _ cx wc hB hp hs
              have g32 : cx.tmps[32]? = some (sv b) := by obtain ⟨_, g, hv⟩ := Reg.pred hp 0 32 (by kernel_rfl) rfl rfl; exact g.trans (congrArg some hv)
              have g33 : cx.tmps[33]? = some (sv b) := by obtain ⟨_, g, hv⟩ := Reg.pred hp 1 33 (by kernel_rfl) rfl rfl; exact g.trans (congrArg some hv)
              refine Reg.ok_call (f := 14) (args := #[sv b, sv b]) (Reg.wanted_none rfl) (by go_simp) ((hA2 wc).mono ?_)
              rintro e w' ⟨rfl, hB2⟩
              exact ⟨_, rfl, hB2, rfl⟩
            · intro _ cx wc hB hp hs
              have g6 : cx.tmps[6]? = some (.pointer (some ⟨R6, 0, none⟩)) := (hs 6 (by kernel_rfl)).trans rfl
              have hc := h6.drew.below hB
              have k0 := hc.cell 0 (.int .i64 (shi b)) rfl
              have k1 := hc.cell 1 (.int .u64 (slo b)) rfl
              refine Reg.ok_value Reg.Old.refl (v := sv b) (Reg.wanted_none rfl) ?_ rfl
              go_simp
            · intro _ cx wc hB hp hs
              have g34 : cx.tmps[34]? = some (sv y2) := by obtain ⟨_, g, hv⟩ := Reg.pred hp 2 34 (by kernel_rfl) rfl rfl; exact g.trans (congrArg some hv)
              have g35 : cx.tmps[35]? = some (sv b) := by obtain ⟨_, g, hv⟩ := Reg.pred hp 3 35 (by kernel_rfl) rfl rfl; exact g.trans (congrArg some hv)
              refine Reg.ok_call (f := 14) (args := #[sv y2, sv b]) (Reg.wanted_none rfl) (by go_simp) ((hA3 wc).mono ?_)
              rintro e w' ⟨rfl, hB2⟩
              exact ⟨_, rfl, hB2, rfl⟩
            · intro _ cx wc hB hp hs
              have g6 : cx.tmps[6]? = some (.pointer (some ⟨R6, 0, none⟩)) := (hs 6 (by kernel_rfl)).trans rfl
              have hc := h6.drew.below hB
              have k0 := hc.cell 0 (.int .i64 (shi b)) rfl
              have k1 := hc.cell 1 (.int .u64 (slo b)) rfl
              refine Reg.ok_value Reg.Old.refl (v := sv b) (Reg.wanted_none rfl) ?_ rfl
              go_simp
            · intro _ cx wc hB hp hs
              have g36 : cx.tmps[36]? = some (sv y3) := by obtain ⟨_, g, hv⟩ := Reg.pred hp 4 36 (by kernel_rfl) rfl rfl; exact g.trans (congrArg some hv)
              have g37 : cx.tmps[37]? = some (sv b) := by obtain ⟨_, g, hv⟩ := Reg.pred hp 5 37 (by kernel_rfl) rfl rfl; exact g.trans (congrArg some hv)
              refine Reg.ok_call (f := 14) (args := #[sv y3, sv b]) (Reg.wanted_none rfl) (by go_simp) ((hA4 wc).mono ?_)
              rintro e w' ⟨rfl, hB2⟩
              exact ⟨_, rfl, hB2, rfl⟩
            · intro _ cx wc hB hp hs
              have g6 : cx.tmps[6]? = some (.pointer (some ⟨R6, 0, none⟩)) := (hs 6 (by kernel_rfl)).trans rfl
              have hc := h6.drew.below hB
              have k0 := hc.cell 0 (.int .i64 (shi b)) rfl
              have k1 := hc.cell 1 (.int .u64 (slo b)) rfl
              refine Reg.ok_value Reg.Old.refl (v := sv b) (Reg.wanted_none rfl) ?_ rfl
              go_simp
            · intro _ cx wc hB hp hs
              have g38 : cx.tmps[38]? = some (sv y4) := by obtain ⟨_, g, hv⟩ := Reg.pred hp 6 38 (by kernel_rfl) rfl rfl; exact g.trans (congrArg some hv)
              have g39 : cx.tmps[39]? = some (sv b) := by obtain ⟨_, g, hv⟩ := Reg.pred hp 7 39 (by kernel_rfl) rfl rfl; exact g.trans (congrArg some hv)
              refine Reg.ok_call (f := 14) (args := #[sv y4, sv b]) (Reg.wanted_none rfl) (by go_simp) ((hA5 wc).mono ?_)
              rintro e w' ⟨rfl, hB2⟩
              exact ⟨_, rfl, hB2, rfl⟩
            · intro _ cx wc hB hp hs
              refine Reg.ok_made (w2 := wc.alloc (.cells #[.int .i64 0, .int .u64 0] 26)) (v := .pointer (some ⟨wc.heap.size, 0, none⟩)) (Reg.wanted_none rfl) ?_ (Below.alloc (Below.refl _ _) (Nat.le_refl _) _) ⟨_, rfl, by have := hB.size; omega, CellsAt.new _ _ _⟩
              go_simp
            · exact fun h => absurd rfl h
          · intro c9 wc hB hsz hdf hv ho
            obtain ⟨_, g7, r, rfl, hKr, h7⟩ := hv 9 _ 7 (by decide) rfl rfl
            have hr7 := g7
            have hfr := Reg.frame_eq [_, _, _, _, _, _, _, .pointer (some ⟨r, 0, none⟩), _, _, _, _, _, _, _, _, _, _, _, _, _, _, _, _, _, _, _, _, _, _, _, _, sv b, sv b, sv y2, sv b, sv y3, sv b, sv y4, sv b, sv y5, _, _, _, _, _, _, _, _, _, _, _, _, _, _, _, _, _, _, _, _, _, _, _] (by simpa using hsz) hdf ⟨((Reg.kept_but ho 0 (by kernel_rfl)).trans rfl), ((Reg.kept_but ho 1 (by kernel_rfl)).trans rfl), ((Reg.kept_but ho 2 (by kernel_rfl)).trans rfl), ((Reg.kept_but ho 3 (by kernel_rfl)).trans rfl), ((Reg.kept_but ho 4 (by kernel_rfl)).trans rfl), ((Reg.kept_but ho 5 (by kernel_rfl)).trans rfl), ((Reg.kept_but ho 6 (by kernel_rfl)).trans rfl), hr7, ((Reg.kept_but ho 8 (by kernel_rfl)).trans rfl), ((Reg.kept_but ho 9 (by kernel_rfl)).trans rfl), ((Reg.kept_but ho 10 (by kernel_rfl)).trans rfl), ((Reg.kept_but ho 11 (by kernel_rfl)).trans rfl), ((Reg.kept_but ho 12 (by kernel_rfl)).trans rfl), ((Reg.kept_but ho 13 (by kernel_rfl)).trans rfl), ((Reg.kept_but ho 14 (by kernel_rfl)).trans rfl), ((Reg.kept_but ho 15 (by kernel_rfl)).trans rfl), ((Reg.kept_but ho 16 (by kernel_rfl)).trans rfl), ((Reg.kept_but ho 17 (by kernel_rfl)).trans rfl), ((Reg.kept_but ho 18 (by kernel_rfl)).trans rfl), ((Reg.kept_but ho 19 (by kernel_rfl)).trans rfl), ((Reg.kept_but ho 20 (by kernel_rfl)).trans rfl), ((Reg.kept_but ho 21 (by kernel_rfl)).trans rfl), ((Reg.kept_but ho 22 (by kernel_rfl)).trans rfl), ((Reg.kept_but ho 23 (by kernel_rfl)).trans rfl), ((Reg.kept_but ho 24 (by kernel_rfl)).trans rfl), ((Reg.kept_but ho 25 (by kernel_rfl)).trans rfl), ((Reg.kept_but ho 26 (by kernel_rfl)).trans rfl), ((Reg.kept_but ho 27 (by kernel_rfl)).trans rfl), ((Reg.kept_but ho 28 (by kernel_rfl)).trans rfl), ((Reg.kept_but ho 29 (by kernel_rfl)).trans rfl), ((Reg.kept_but ho 30 (by kernel_rfl)).trans rfl), ((Reg.kept_but ho 31 (by kernel_rfl)).trans rfl), (by obtain ⟨_, g, hx⟩ := hv 0 _ 32 (by decide) rfl rfl; exact g.trans (congrArg some hx)), (by obtain ⟨_, g, hx⟩ := hv 1 _ 33 (by decide) rfl rfl; exact g.trans (congrArg some hx)), (by obtain ⟨_, g, hx⟩ := hv 2 _ 34 (by decide) rfl rfl; exact g.trans (congrArg some hx)), (by obtain ⟨_, g, hx⟩ := hv 3 _ 35 (by decide) rfl rfl; exact g.trans (congrArg some hx)), (by obtain ⟨_, g, hx⟩ := hv 4 _ 36 (by decide) rfl rfl; exact g.trans (congrArg some hx)), (by obtain ⟨_, g, hx⟩ := hv 5 _ 37 (by decide) rfl rfl; exact g.trans (congrArg some hx)), (by obtain ⟨_, g, hx⟩ := hv 6 _ 38 (by decide) rfl rfl; exact g.trans (congrArg some hx)), (by obtain ⟨_, g, hx⟩ := hv 7 _ 39 (by decide) rfl rfl; exact g.trans (congrArg some hx)), (by obtain ⟨_, g, hx⟩ := hv 8 _ 40 (by decide) rfl rfl; exact g.trans (congrArg some hx)), ((Reg.kept_but ho 41 (by kernel_rfl)).trans rfl), ((Reg.kept_but ho 42 (by kernel_rfl)).trans rfl), ((Reg.kept_but ho 43 (by kernel_rfl)).trans rfl), ((Reg.kept_but ho 44 (by kernel_rfl)).trans rfl), ((Reg.kept_but ho 45 (by kernel_rfl)).trans rfl), ((Reg.kept_but ho 46 (by kernel_rfl)).trans rfl), ((Reg.kept_but ho 47 (by kernel_rfl)).trans rfl), ((Reg.kept_but ho 48 (by kernel_rfl)).trans rfl), ((Reg.kept_but ho 49 (by kernel_rfl)).trans rfl), ((Reg.kept_but ho 50 (by kernel_rfl)).trans rfl), ((Reg.kept_but ho 51 (by kernel_rfl)).trans rfl), ((Reg.kept_but ho 52 (by kernel_rfl)).trans rfl), ((Reg.kept_but ho 53 (by kernel_rfl)).trans rfl), ((Reg.kept_but ho 54 (by kernel_rfl)).trans rfl), ((Reg.kept_but ho 55 (by kernel_rfl)).trans rfl), ((Reg.kept_but ho 56 (by kernel_rfl)).trans rfl), ((Reg.kept_but ho 57 (by kernel_rfl)).trans rfl), ((Reg.kept_but ho 58 (by kernel_rfl)).trans rfl), ((Reg.kept_but ho 59 (by kernel_rfl)).trans rfl), ((Reg.kept_but ho 60 (by kernel_rfl)).trans rfl), ((Reg.kept_but ho 61 (by kernel_rfl)).trans rfl), ((Reg.kept_but ho 62 (by kernel_rfl)).trans rfl), ((Reg.kept_but ho 63 (by kernel_rfl)).trans rfl), trivial⟩
            subst hfr
            have hR2 := hR.drew.below hB
            have hZ2 := hZ.drew.below hB
            have hE2 := hBw.drew.trans (Below.mono hB hBw.drew.size)
            have k0 := h7.cell 0 (.int .i64 0) rfl
            have k1 := h7.cell 1 (.int .u64 0) rfl
            have f0 := h7.fro 0 (.int .i64 0) rfl
            have f1 := h7.fro 1 (.int .u64 0) rfl
            refine Reg.store_then (w2 := (wc.setCell ⟨r, 0, none⟩ (.int .i64 (shi y5))).setCell ⟨r, 1, none⟩ (.int .u64 (slo y5))) ?_ rfl ?_
            · go_simp
            have h7b : CellsAt r #[.int .i64 (shi y5), .int .u64 (slo y5)] ((wc.setCell ⟨r, 0, none⟩ (.int .i64 (shi y5))).setCell ⟨r, 1, none⟩ (.int .u64 (slo y5))) := (h7.set 0 (.int .i64 (shi y5)) (by simp)).set 1 (.int .u64 (slo y5)) (by simp)
            have hR3 := (hR2.other ⟨r, 0, none⟩ (.int .i64 (shi y5)) (by simp; omega)).other ⟨r, 1, none⟩ (.int .u64 (slo y5)) (by simp; omega)
            have hZ3 := (hZ2.other ⟨r, 0, none⟩ (.int .i64 (shi y5)) (by simp; omega)).other ⟨r, 1, none⟩ (.int .u64 (slo y5)) (by simp; omega)
            have hE3 := (hE2.setCell (p := ⟨r, 0, none⟩) (by simp; omega) (.int .i64 (shi y5))).setCell (p := ⟨r, 1, none⟩) (by simp; omega) (.int .u64 (slo y5))
            clear k0 k1 f0 f1 hv ho hB h7 g7 hr7 hR2 hZ2 hE2 h6 hR hZ hBw
            generalize (wc.setCell ⟨r, 0, none⟩ (.int .i64 (shi y5))).setCell ⟨r, 1, none⟩ (.int .u64 (slo y5)) = wd at *
            have h7 := h7b
            have hZ := hZ3
            clear h7b
            go_wp2_with fail
            refine Reg.wp_region_last (n := 64) 8 (R8Phi r k s y5 x d z2) (by kernel_rfl) rfl (by kernel_rfl) (by kernel_rfl) rfl R8Phi.stays ?_ ?_
            · refine ⟨?_, ?_, ?_, ?_, ?_, ?_, ?_, ?_, ?_, trivial⟩
              · intro _ cx wc hB hp hs
                have g7 : cx.tmps[7]? = some (.pointer (some ⟨r, 0, none⟩)) := (hs 7 (by kernel_rfl)).trans rfl
                have hc := h7.drew.below hB
                have k0 := hc.cell 0 (.int .i64 (shi y5)) rfl
                have k1 := hc.cell 1 (.int .u64 (slo y5)) rfl
                refine Reg.ok_value Reg.Old.refl (v := sv y5) (Reg.wanted_none rfl) ?_ rfl
                go_simp
              · intro _ cx wc hB hp hs
                have g0 : cx.tmps[0]? = some (.string s) := (hs 0 (by kernel_rfl)).trans rfl
                refine Reg.ok_value Reg.Old.refl (v := .string s) (Reg.wanted_none rfl) ?_ rfl
                go_simp
              · intro _ cx wc hB hp hs
                have g5 : cx.tmps[5]? = some (.int .i64 k) := (hs 5 (by kernel_rfl)).trans rfl
                refine Reg.ok_value Reg.Old.refl (v := .int .i64 k) (Reg.wanted_none rfl) ?_ rfl
                go_simp
              · intro _ cx wc hB hp hs
                have g42 : cx.tmps[42]? = some (.string s) := by obtain ⟨_, g, hv⟩ := Reg.pred hp 1 42 (by kernel_rfl) rfl rfl; exact g.trans (congrArg some hv)
                have g43 : cx.tmps[43]? = some (.int .i64 k) := by obtain ⟨_, g, hv⟩ := Reg.pred hp 2 43 (by kernel_rfl) rfl rfl; exact g.trans (congrArg some hv)
                have i0 : (0 : Int) ≤ (k : Int) := by omega
                have i1 : (k : Int) < (s.size : Int) := by omega
                refine Reg.ok_value Reg.Old.refl (v := .int .u8 x.toNat) (Reg.wanted_none rfl) ?_ rfl
                go_simp
              · intro _ cx wc hB hp hs
                have g44 : cx.tmps[44]? = some (.int .u8 x.toNat) := by obtain ⟨_, g, hv⟩ := Reg.pred hp 3 44 (by kernel_rfl) rfl rfl; exact g.trans (congrArg some hv)
                have e1 := HD1.out
                refine Reg.ok_value Reg.Old.refl (v := .int .u8 d) (Reg.wanted_none rfl) ?_ rfl
                go_simp
              · intro _ cx wc hB hp hs
                have g45 : cx.tmps[45]? = some (.int .u8 d) := by obtain ⟨_, g, hv⟩ := Reg.pred hp 4 45 (by kernel_rfl) rfl rfl; exact g.trans (congrArg some hv)
                have e1 := HD2.out
                refine Reg.ok_value Reg.Old.refl (v := .int .u64 d) (Reg.wanted_none rfl) ?_ rfl
                go_simp
              · intro _ cx wc hB hp hs
                have g46 : cx.tmps[46]? = some (.int .u64 d) := by obtain ⟨_, g, hv⟩ := Reg.pred hp 5 46 (by kernel_rfl) rfl rfl; exact g.trans (congrArg some hv)
                refine Reg.ok_value Reg.Old.refl (v := .agg #[.int .i64 0, .int .u64 d]) (Reg.wanted_none rfl) ?_ rfl
                go_simp
              · intro _ cx wc hB hp hs
                have g41 : cx.tmps[41]? = some (sv y5) := by obtain ⟨_, g, hv⟩ := Reg.pred hp 0 41 (by kernel_rfl) rfl rfl; exact g.trans (congrArg some hv)
                have g47 : cx.tmps[47]? = some (.agg #[.int .i64 0, .int .u64 d]) := by obtain ⟨_, g, hv⟩ := Reg.pred hp 6 47 (by kernel_rfl) rfl rfl; exact g.trans (congrArg some hv)
                refine Reg.ok_call (f := 14) (args := #[sv y5, .agg #[.int .i64 0, .int .u64 d]]) (Reg.wanted_none rfl) (by go_simp) ((hA6 wc).mono ?_)
                rintro e w' ⟨rfl, hB2⟩
                exact ⟨_, rfl, hB2, rfl⟩
              · exact fun h => absurd rfl h
            · intro c9 wc hB hsz hdf hv ho
              have hfr := Reg.frame_eq [_, _, _, _, _, _, _, _, _, _, _, _, _, _, _, _, _, _, _, _, _, _, _, _, _, _, _, _, _, _, _, _, _, _, _, _, _, _, _, _, _, sv y5, .string s, .int .i64 k, .int .u8 x.toNat, .int .u8 d, .int .u64 d, .agg #[.int .i64 0, .int .u64 d], sv z2, _, _, _, _, _, _, _, _, _, _, _, _, _, _, _] (by simpa using hsz) hdf ⟨((Reg.kept_but ho 0 (by kernel_rfl)).trans rfl), ((Reg.kept_but ho 1 (by kernel_rfl)).trans rfl), ((Reg.kept_but ho 2 (by kernel_rfl)).trans rfl), ((Reg.kept_but ho 3 (by kernel_rfl)).trans rfl), ((Reg.kept_but ho 4 (by kernel_rfl)).trans rfl), ((Reg.kept_but ho 5 (by kernel_rfl)).trans rfl), ((Reg.kept_but ho 6 (by kernel_rfl)).trans rfl), ((Reg.kept_but ho 7 (by kernel_rfl)).trans rfl), ((Reg.kept_but ho 8 (by kernel_rfl)).trans rfl), ((Reg.kept_but ho 9 (by kernel_rfl)).trans rfl), ((Reg.kept_but ho 10 (by kernel_rfl)).trans rfl), ((Reg.kept_but ho 11 (by kernel_rfl)).trans rfl), ((Reg.kept_but ho 12 (by kernel_rfl)).trans rfl), ((Reg.kept_but ho 13 (by kernel_rfl)).trans rfl), ((Reg.kept_but ho 14 (by kernel_rfl)).trans rfl), ((Reg.kept_but ho 15 (by kernel_rfl)).trans rfl), ((Reg.kept_but ho 16 (by kernel_rfl)).trans rfl), ((Reg.kept_but ho 17 (by kernel_rfl)).trans rfl), ((Reg.kept_but ho 18 (by kernel_rfl)).trans rfl), ((Reg.kept_but ho 19 (by kernel_rfl)).trans rfl), ((Reg.kept_but ho 20 (by kernel_rfl)).trans rfl), ((Reg.kept_but ho 21 (by kernel_rfl)).trans rfl), ((Reg.kept_but ho 22 (by kernel_rfl)).trans rfl), ((Reg.kept_but ho 23 (by kernel_rfl)).trans rfl), ((Reg.kept_but ho 24 (by kernel_rfl)).trans rfl), ((Reg.kept_but ho 25 (by kernel_rfl)).trans rfl), ((Reg.kept_but ho 26 (by kernel_rfl)).trans rfl), ((Reg.kept_but ho 27 (by kernel_rfl)).trans rfl), ((Reg.kept_but ho 28 (by kernel_rfl)).trans rfl), ((Reg.kept_but ho 29 (by kernel_rfl)).trans rfl), ((Reg.kept_but ho 30 (by kernel_rfl)).trans rfl), ((Reg.kept_but ho 31 (by kernel_rfl)).trans rfl), ((Reg.kept_but ho 32 (by kernel_rfl)).trans rfl), ((Reg.kept_but ho 33 (by kernel_rfl)).trans rfl), ((Reg.kept_but ho 34 (by kernel_rfl)).trans rfl), ((Reg.kept_but ho 35 (by kernel_rfl)).trans rfl), ((Reg.kept_but ho 36 (by kernel_rfl)).trans rfl), ((Reg.kept_but ho 37 (by kernel_rfl)).trans rfl), ((Reg.kept_but ho 38 (by kernel_rfl)).trans rfl), ((Reg.kept_but ho 39 (by kernel_rfl)).trans rfl), ((Reg.kept_but ho 40 (by kernel_rfl)).trans rfl), (by obtain ⟨_, g, hx⟩ := hv 0 _ 41 (by decide) rfl rfl; exact g.trans (congrArg some hx)), (by obtain ⟨_, g, hx⟩ := hv 1 _ 42 (by decide) rfl rfl; exact g.trans (congrArg some hx)), (by obtain ⟨_, g, hx⟩ := hv 2 _ 43 (by decide) rfl rfl; exact g.trans (congrArg some hx)), (by obtain ⟨_, g, hx⟩ := hv 3 _ 44 (by decide) rfl rfl; exact g.trans (congrArg some hx)), (by obtain ⟨_, g, hx⟩ := hv 4 _ 45 (by decide) rfl rfl; exact g.trans (congrArg some hx)), (by obtain ⟨_, g, hx⟩ := hv 5 _ 46 (by decide) rfl rfl; exact g.trans (congrArg some hx)), (by obtain ⟨_, g, hx⟩ := hv 6 _ 47 (by decide) rfl rfl; exact g.trans (congrArg some hx)), (by obtain ⟨_, g, hx⟩ := hv 7 _ 48 (by decide) rfl rfl; exact g.trans (congrArg some hx)), ((Reg.kept_but ho 49 (by kernel_rfl)).trans rfl), ((Reg.kept_but ho 50 (by kernel_rfl)).trans rfl), ((Reg.kept_but ho 51 (by kernel_rfl)).trans rfl), ((Reg.kept_but ho 52 (by kernel_rfl)).trans rfl), ((Reg.kept_but ho 53 (by kernel_rfl)).trans rfl), ((Reg.kept_but ho 54 (by kernel_rfl)).trans rfl), ((Reg.kept_but ho 55 (by kernel_rfl)).trans rfl), ((Reg.kept_but ho 56 (by kernel_rfl)).trans rfl), ((Reg.kept_but ho 57 (by kernel_rfl)).trans rfl), ((Reg.kept_but ho 58 (by kernel_rfl)).trans rfl), ((Reg.kept_but ho 59 (by kernel_rfl)).trans rfl), ((Reg.kept_but ho 60 (by kernel_rfl)).trans rfl), ((Reg.kept_but ho 61 (by kernel_rfl)).trans rfl), ((Reg.kept_but ho 62 (by kernel_rfl)).trans rfl), ((Reg.kept_but ho 63 (by kernel_rfl)).trans rfl), trivial⟩
              subst hfr
              have hR4 := hR3.drew.below hB
              have hZ4 := hZ.drew.below hB
              have hE4 := hE3.drew.trans (Below.mono hB hE3.drew.size)
              have k0 := hZ4.cell 0 (.int .i64 (shi z)) rfl
              have k1 := hZ4.cell 1 (.int .u64 (slo z)) rfl
              have f0 := hZ4.fro 0 (.int .i64 (shi z)) rfl
              have f1 := hZ4.fro 1 (.int .u64 (slo z)) rfl
              refine Reg.store_then (w2 := (wc.setCell ⟨w.heap.size + 1, 0, none⟩ (.int .i64 (shi z2))).setCell ⟨w.heap.size + 1, 1, none⟩ (.int .u64 (slo z2))) ?_ rfl ?_
              · go_simp
              have hZ5 : CellsAt (w.heap.size + 1) #[.int .i64 (shi z2), .int .u64 (slo z2)] ((wc.setCell ⟨w.heap.size + 1, 0, none⟩ (.int .i64 (shi z2))).setCell ⟨w.heap.size + 1, 1, none⟩ (.int .u64 (slo z2))) := (hZ4.set 0 (.int .i64 (shi z2)) (by simp)).set 1 (.int .u64 (slo z2)) (by simp)
              have hR5 := (hR4.other ⟨w.heap.size + 1, 0, none⟩ (.int .i64 (shi z2)) (by simp)).other ⟨w.heap.size + 1, 1, none⟩ (.int .u64 (slo z2)) (by simp)
              have hE5 := (hE4.setCell (p := ⟨w.heap.size + 1, 0, none⟩) (by simp) (.int .i64 (shi z2))).setCell (p := ⟨w.heap.size + 1, 1, none⟩) (by simp) (.int .u64 (slo z2))
              clear k0 k1 f0 f1 hv ho hB hZ4 hR4 hE4
              generalize (wc.setCell ⟨w.heap.size + 1, 0, none⟩ (.int .i64 (shi z2))).setCell ⟨w.heap.size + 1, 1, none⟩ (.int .u64 (slo z2)) = we at *
              go_wp2
              go_roundg g
              case measure => omega
              case rel => exact ⟨k + 1, z2, by omega, by go_num, by omega, IZ2, HGO, hR5, hZ5, hE5⟩
        · have hst : rstep z x = z := by rw [rstep, if_neg hdig]
          rw [hst] at hgo
          have HGO := Lib.hid hgo
          clear hgo hst hxl
          by_cases h48 : (48 : Int) ≤ (x.toNat : Int)
          · have h57 : ¬ ((x.toNat : Int) ≤ 57) := by omega
            go_wp2
            go_roundg g
            case measure => omega
            case rel => exact ⟨k + 1, z, by omega, by go_num, by omega, HI, HGO, hR, hZ, hBw⟩
          · go_wp2
            go_roundg g
            case measure => omega
            case rel => exact ⟨k + 1, z, by omega, by go_num, by omega, HI, HGO, hR, hZ, hBw⟩
    · have hend : z = m := by
        rw [List.drop_eq_nil_of_le (by rw [List.length_take, ← Lib.size_eq]; omega)] at hgo
        exact hgo
      rw [hend] at hZ
      clear hgo HM HI hend
      by_cases hks : k < s.size
      · have hki : (k : Int) < (s.size : Int) := by omega
        have hk45 : ¬ ((k : Int) < 45) := by omega
        rcases hhead with ⟨he1, he2, hcm⟩ | ⟨h00, he1, he2, h45, hcm⟩ | ⟨h00, he1, he2, h45, hcm⟩
        · rw [hcm] at hZ
          have c0 := hZ.cell 0 (.int .i64 (shi c)) rfl
          have c1 := hZ.cell 1 (.int .u64 (slo c)) rfl
          clear hmin hcm
          go_wp2_with fail
          have hZ5 := hZ
          have hR5 := hR
          have hE5 := hBw
          refine (htx _).mono ?_
          rintro e w6 ⟨rfl, hB6⟩
          have hZ6 := hZ5.below hB6
          have hR6 := hR5.below hB6
          have hE6 := hE5.trans (hB6.mono hE5.size)
          have y0 := hZ6.cell 0 (.int .i64 (shi c)) rfl
          have y1 := hZ6.cell 1 (.int .u64 (slo c)) rfl
          have r0 := hR6.cell 0 (.int .i64 0) rfl
          have r1 := hR6.cell 1 (.int .u64 0) rfl
          have rf0 := hR6.fro 0 (.int .i64 0) rfl
          have rf1 := hR6.fro 1 (.int .u64 0) rfl
          clear hB6
          go_wp2
          have hD := (hR6.set 0 (.int .i64 (0)) (by simp)).set 1 (.int .u64 (0)) (by simp)
          have k0 := hD.cell 0 (.int .i64 (0)) rfl
          have k1 := hD.cell 1 (.int .u64 (0)) rfl
          simp [bodyPost, results, Tryd.results29, go_sem, k0, k1]
          exact (hE6.setCell (Nat.le_refl _) _).setCell (Nat.le_refl _) _
        · obtain ⟨x, hx⟩ : ∃ x : UInt8, s[0]'h00 = x := ⟨_, rfl⟩
          rw [hx] at h45
          have hx45 : (x.toNat : Int) = 45 := by rw [h45]; rfl
          clear h45
          have hneg := fun w => refNeg_any m hmin.out w
          rw [hcm] at hneg
          have c0 := hZ.cell 0 (.int .i64 (shi m)) rfl
          have c1 := hZ.cell 1 (.int .u64 (slo m)) rfl
          clear hmin hcm
          go_wp2_with fail
          refine (hneg _).mono ?_
          rintro e w4 ⟨rfl, hB4⟩
          have hZ4 := hZ.below hB4
          have hR4 := hR.below hB4
          have hE4 := hBw.trans (hB4.mono hBw.size)
          have z0 := hZ4.cell 0 (.int .i64 (shi m)) rfl
          have z1 := hZ4.cell 1 (.int .u64 (slo m)) rfl
          have zf0 := hZ4.fro 0 (.int .i64 (shi m)) rfl
          have zf1 := hZ4.fro 1 (.int .u64 (slo m)) rfl
          clear hB4 c0 c1
          go_wp2_with fail
          have hZ5 := (hZ4.set 0 (.int .i64 (shi c)) (by simp)).set 1 (.int .u64 (slo c)) (by simp)
          have hR5 := (hR4.other ⟨w.heap.size + 1, 0, none⟩ (.int .i64 (shi c)) (by simp)).other ⟨w.heap.size + 1, 1, none⟩ (.int .u64 (slo c)) (by simp)
          have hE5 := (hE4.setCell (p := ⟨w.heap.size + 1, 0, none⟩) (by simp) (.int .i64 (shi c))).setCell (p := ⟨w.heap.size + 1, 1, none⟩) (by simp) (.int .u64 (slo c))
          refine (htx _).mono ?_
          rintro e w6 ⟨rfl, hB6⟩
          have hZ6 := hZ5.below hB6
          have hR6 := hR5.below hB6
          have hE6 := hE5.trans (hB6.mono hE5.size)
          have y0 := hZ6.cell 0 (.int .i64 (shi c)) rfl
          have y1 := hZ6.cell 1 (.int .u64 (slo c)) rfl
          have r0 := hR6.cell 0 (.int .i64 0) rfl
          have r1 := hR6.cell 1 (.int .u64 0) rfl
          have rf0 := hR6.fro 0 (.int .i64 0) rfl
          have rf1 := hR6.fro 1 (.int .u64 0) rfl
          clear hB6
          go_wp2
          have hD := (hR6.set 0 (.int .i64 (0)) (by simp)).set 1 (.int .u64 (0)) (by simp)
          have k0 := hD.cell 0 (.int .i64 (0)) rfl
          have k1 := hD.cell 1 (.int .u64 (0)) rfl
          simp [bodyPost, results, Tryd.results29, go_sem, k0, k1]
          exact (hE6.setCell (Nat.le_refl _) _).setCell (Nat.le_refl _) _
        · obtain ⟨x, hx⟩ : ∃ x : UInt8, s[0]'h00 = x := ⟨_, rfl⟩
          rw [hx] at h45
          have hx45 : ¬ (x.toNat : Int) = 45 := fun h => h45 (by apply UInt8.toNat_inj.1; show x.toNat = 45; omega)
          clear h45
          rw [hcm] at hZ
          have c0 := hZ.cell 0 (.int .i64 (shi c)) rfl
          have c1 := hZ.cell 1 (.int .u64 (slo c)) rfl
          clear hmin hcm
          go_wp2_with fail
          have hZ5 := hZ
          have hR5 := hR
          have hE5 := hBw
          refine (htx _).mono ?_
          rintro e w6 ⟨rfl, hB6⟩
          have hZ6 := hZ5.below hB6
          have hR6 := hR5.below hB6
          have hE6 := hE5.trans (hB6.mono hE5.size)
          have y0 := hZ6.cell 0 (.int .i64 (shi c)) rfl
          have y1 := hZ6.cell 1 (.int .u64 (slo c)) rfl
          have r0 := hR6.cell 0 (.int .i64 0) rfl
          have r1 := hR6.cell 1 (.int .u64 0) rfl
          have rf0 := hR6.fro 0 (.int .i64 0) rfl
          have rf1 := hR6.fro 1 (.int .u64 0) rfl
          clear hB6
          go_wp2
          have hD := (hR6.set 0 (.int .i64 (0)) (by simp)).set 1 (.int .u64 (0)) (by simp)
          have k0 := hD.cell 0 (.int .i64 (0)) rfl
          have k1 := hD.cell 1 (.int .u64 (0)) rfl
          simp [bodyPost, results, Tryd.results29, go_sem, k0, k1]
          exact (hE6.setCell (Nat.le_refl _) _).setCell (Nat.le_refl _) _
      · have hki : ¬ ((k : Int) < (s.size : Int)) := by omega
        rcases hhead with ⟨he1, he2, hcm⟩ | ⟨h00, he1, he2, h45, hcm⟩ | ⟨h00, he1, he2, h45, hcm⟩
        · rw [hcm] at hZ
          have c0 := hZ.cell 0 (.int .i64 (shi c)) rfl
          have c1 := hZ.cell 1 (.int .u64 (slo c)) rfl
          clear hmin hcm
          go_wp2_with fail
          have hZ5 := hZ
          have hR5 := hR
          have hE5 := hBw
          refine (htx _).mono ?_
          rintro e w6 ⟨rfl, hB6⟩
          have hZ6 := hZ5.below hB6
          have hR6 := hR5.below hB6
          have hE6 := hE5.trans (hB6.mono hE5.size)
          have y0 := hZ6.cell 0 (.int .i64 (shi c)) rfl
          have y1 := hZ6.cell 1 (.int .u64 (slo c)) rfl
          have r0 := hR6.cell 0 (.int .i64 0) rfl
          have r1 := hR6.cell 1 (.int .u64 0) rfl
          have rf0 := hR6.fro 0 (.int .i64 0) rfl
          have rf1 := hR6.fro 1 (.int .u64 0) rfl
          clear hB6
          go_wp2
          have hD := (hR6.set 0 (.int .i64 (0)) (by simp)).set 1 (.int .u64 (0)) (by simp)
          have k0 := hD.cell 0 (.int .i64 (0)) rfl
          have k1 := hD.cell 1 (.int .u64 (0)) rfl
          simp [bodyPost, results, Tryd.results29, go_sem, k0, k1]
          exact (hE6.setCell (Nat.le_refl _) _).setCell (Nat.le_refl _) _
        · obtain ⟨x, hx⟩ : ∃ x : UInt8, s[0]'h00 = x := ⟨_, rfl⟩
          rw [hx] at h45
          have hx45 : (x.toNat : Int) = 45 := by rw [h45]; rfl
          clear h45
          have hneg := fun w => refNeg_any m hmin.out w
          rw [hcm] at hneg
          have c0 := hZ.cell 0 (.int .i64 (shi m)) rfl
          have c1 := hZ.cell 1 (.int .u64 (slo m)) rfl
          clear hmin hcm
          go_wp2_with fail
          refine (hneg _).mono ?_
          rintro e w4 ⟨rfl, hB4⟩
          have hZ4 := hZ.below hB4
          have hR4 := hR.below hB4
          have hE4 := hBw.trans (hB4.mono hBw.size)
          have z0 := hZ4.cell 0 (.int .i64 (shi m)) rfl
          have z1 := hZ4.cell 1 (.int .u64 (slo m)) rfl
          have zf0 := hZ4.fro 0 (.int .i64 (shi m)) rfl
          have zf1 := hZ4.fro 1 (.int .u64 (slo m)) rfl
          clear hB4 c0 c1
          go_wp2_with fail
          have hZ5 := (hZ4.set 0 (.int .i64 (shi c)) (by simp)).set 1 (.int .u64 (slo c)) (by simp)
          have hR5 := (hR4.other ⟨w.heap.size + 1, 0, none⟩ (.int .i64 (shi c)) (by simp)).other ⟨w.heap.size + 1, 1, none⟩ (.int .u64 (slo c)) (by simp)
          have hE5 := (hE4.setCell (p := ⟨w.heap.size + 1, 0, none⟩) (by simp) (.int .i64 (shi c))).setCell (p := ⟨w.heap.size + 1, 1, none⟩) (by simp) (.int .u64 (slo c))
          refine (htx _).mono ?_
          rintro e w6 ⟨rfl, hB6⟩
          have hZ6 := hZ5.below hB6
          have hR6 := hR5.below hB6
          have hE6 := hE5.trans (hB6.mono hE5.size)
          have y0 := hZ6.cell 0 (.int .i64 (shi c)) rfl
          have y1 := hZ6.cell 1 (.int .u64 (slo c)) rfl
          have r0 := hR6.cell 0 (.int .i64 0) rfl
          have r1 := hR6.cell 1 (.int .u64 0) rfl
          have rf0 := hR6.fro 0 (.int .i64 0) rfl
          have rf1 := hR6.fro 1 (.int .u64 0) rfl
          clear hB6
          go_wp2
          have hD := (hR6.set 0 (.int .i64 (0)) (by simp)).set 1 (.int .u64 (0)) (by simp)
          have k0 := hD.cell 0 (.int .i64 (0)) rfl
          have k1 := hD.cell 1 (.int .u64 (0)) rfl
          simp [bodyPost, results, Tryd.results29, go_sem, k0, k1]
          exact (hE6.setCell (Nat.le_refl _) _).setCell (Nat.le_refl _) _
        · obtain ⟨x, hx⟩ : ∃ x : UInt8, s[0]'h00 = x := ⟨_, rfl⟩
          rw [hx] at h45
          have hx45 : ¬ (x.toNat : Int) = 45 := fun h => h45 (by apply UInt8.toNat_inj.1; show x.toNat = 45; omega)
          clear h45
          rw [hcm] at hZ
          have c0 := hZ.cell 0 (.int .i64 (shi c)) rfl
          have c1 := hZ.cell 1 (.int .u64 (slo c)) rfl
          clear hmin hcm
          go_wp2_with fail
          have hZ5 := hZ
          have hR5 := hR
          have hE5 := hBw
          refine (htx _).mono ?_
          rintro e w6 ⟨rfl, hB6⟩
          have hZ6 := hZ5.below hB6
          have hR6 := hR5.below hB6
          have hE6 := hE5.trans (hB6.mono hE5.size)
          have y0 := hZ6.cell 0 (.int .i64 (shi c)) rfl
          have y1 := hZ6.cell 1 (.int .u64 (slo c)) rfl
          have r0 := hR6.cell 0 (.int .i64 0) rfl
          have r1 := hR6.cell 1 (.int .u64 0) rfl
          have rf0 := hR6.fro 0 (.int .i64 0) rfl
          have rf1 := hR6.fro 1 (.int .u64 0) rfl
          clear hB6
          go_wp2
          have hD := (hR6.set 0 (.int .i64 (0)) (by simp)).set 1 (.int .u64 (0)) (by simp)
          have k0 := hD.cell 0 (.int .i64 (0)) rfl
          have k1 := hD.cell 1 (.int .u64 (0)) rfl
          simp [bodyPost, results, Tryd.results29, go_sem, k0, k1]
          exact (hE6.setCell (Nat.le_refl _) _).setCell (Nat.le_refl _) _
end Go.Proofs.YthddnhnhlgnlhaaDoor
