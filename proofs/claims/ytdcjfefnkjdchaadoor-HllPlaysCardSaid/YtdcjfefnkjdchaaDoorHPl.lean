/- HllPlays, walked. -/
import Derived.Test.YtdcjfefnkjdchaaDoorHRefF
import Derived.Test.YtdcjfefnkjdchaaDoorHRefR
import Derived.Test.YtdcjfefnkjdchaaDoorHRefM
import Derived.Test.YtdcjfefnkjdchaaDoorHDeed
import Derived.Deep.RegionWith
namespace Go.Proofs.YtdcjfefnkjdchaaDoor
open Go Go.RowKit

theorem CellsAt.chg {b : Nat} {vs : Array Value} {w w' : World} (h : CellsAt b vs w) {C : Nat} (hC : Chg C w w') (hn : b ≠ C) : CellsAt b vs w' :=
  ⟨Nat.lt_of_lt_of_le h.lt hC.size, fun i v hi => (hC.cell h.lt hn).trans (h.cell i v hi), fun i v hi => (hC.frozen h.lt hn).trans (h.fro i v hi)⟩
theorem below_drewN {B : Nat} {a w : World} (h : Below B a w) (n : Nat) : Below B a (w.drewN n) := h.trans ⟨rfl, rfl, rfl, Nat.le_refl _, fun _ _ => rfl⟩
/-- What holds at the head of a round: both sketches have the same registers. -/
structure Both (R b : Nat) (P A : Nat) (l : List UInt8) (w wx : World) : Prop where
  s : Sk R b l wx
  x : RSk P A b l wx
  low : Low l
  rp : R ≠ P
  ra : R ≠ A
  hr : w.heap.size ≤ R
  hp : w.heap.size ≤ P
  ha : w.heap.size ≤ A
  below : Below w.heap.size w wx
theorem Both.chgOn {R b P A : Nat} {l : List UInt8} {w wx wy : World} (h : Both R b P A l w wx) {C : Nat} (hC : Chg C wx wy) (hw : w.heap.size ≤ C) (h1 : R ≠ C) (h2 : P ≠ C) (h3 : A ≠ C) : Both R b P A l w wy :=
  ⟨h.s.chg hC h1, h.x.chg hC h2 h3, h.low, h.rp, h.ra, h.hr, h.hp, h.ha, below_chg h.below hC hw (Nat.le_refl _)⟩
theorem Both.on {R b P A : Nat} {l : List UInt8} {w wx wy : World} (h : Both R b P A l w wx) (hB : Below wx.heap.size wx wy) : Both R b P A l w wy :=
  ⟨h.s.below hB, h.x.below hB, h.low, h.rp, h.ra, h.hr, h.hp, h.ha, below_on h.below hB (Nat.le_refl _)⟩
theorem Both.drewN {R b P A : Nat} {l : List UInt8} {w wx : World} (h : Both R b P A l w wx) (n : Nat) : Both R b P A l w (wx.drewN n) :=
  ⟨h.s.drewN n, h.x.drewN n, h.low, h.rp, h.ra, h.hr, h.hp, h.ha, below_drewN h.below n⟩
set_option maxRecDepth 100000 in
set_option maxHeartbeats 16000000 in
theorem plays_in (b : Nat) (lo : 4 ≤ b) (hi : b ≤ 10) (p : Option Addr) (n cap : Nat) (hn : n ≤ 9223372036854775807) (w : World) (hT : Tab w) (hD : Deeds p n w) :
    Calls Tryd.prog 3 #[.int .i64 b, .bool false, .slice p n cap] w fun e w' => e = .returned (.bool true) ∧ Below w.heap.size w w' := by
  have HT := Lib.hid hT
  have HD := Lib.hid hD
  clear hT hD
  have hnw := new_any b lo hi
  have hrn := ref_new_any b lo hi
  go_enter Tryd.func3, Tryd.ntmps3
  go_wp2_with fail
  refine (examples_any _ HT.out).mono ?_
  rintro e W1 ⟨rfl, hB⟩
  go_wp2_with fail
  refine (hnw _).mono ?_
  rintro e W2 ⟨rfl, hB2, hS⟩
  have hrw := hB.size
  replace hB := below_on hB hB2 (Nat.le_refl _)
  generalize W1.heap.size = R at hS hB2 hrw
  clear hB2
  go_wp2_with fail
  refine (hrn _).mono ?_
  rintro e W3 ⟨P, A, rfl, hB2, hX, hP, hA⟩
  have hlt := hS.lt
  have hBo : Both R b P A (List.replicate (2 ^ b) 0) w W3 := ⟨hS.below hB2, hX, Low.zero _, by omega, by omega, hrw, Nat.le_trans hB.size hP, Nat.le_trans hB.size hA, below_on hB hB2 (Nat.le_refl _)⟩
  clear hB hB2 hS hX hrw hP hA hlt
  go_wp2_with fail
  go_loopg [10, 11] (min n 200) (fun g x i wx => ∃ (k P A : Nat) (l : List UInt8), k + g = min n 200 ∧ i = .int .i64 k ∧ x = .pointer (some ⟨P, 0, none⟩) ∧ Both R b P A l w wx)
  case atStart => exact ⟨0, P, A, _, by omega, rfl, rfl, hBo⟩
  case round =>
    obtain ⟨k, P, A, l, hkg, rfl, rfl, hBo'⟩ := hrel
    clear hBo
    cases gk with
    | zero =>
      have hke : k = min n 200 := by omega
      clear hkg
      have HBN := Lib.hid hBo'
      clear hBo'
      by_cases hl : n ≤ 200
      · have hkl : ¬ ((k : Int) < (n : Int)) := by omega
        clear hke
        obtain ⟨E, hE⟩ : ∃ E, estOf b l = E := ⟨_, rfl⟩
        have HE := Lib.hid hE
        clear hE
        go_wp2_with fail
        refine (est_is HBN.out.s HBN.out.low HE.out).mono ?_
        rintro e Wa ⟨rfl, hB2⟩
        have HBA := Lib.hid (HBN.out.on hB2)
        clear hB2
        have hre := ref_est_any HBA.out.x HBA.out.low
        rw [HE.out] at hre
        go_wp2_with fail
        refine hre.mono ?_
        rintro e Wb ⟨rfl, nq, rfl⟩
        have HBB := Lib.hid (HBA.out.drewN nq)
        clear hre
        generalize Wa.drewN nq = Wb at *
        go_wp2_with fail
        refine (bits_any R b _ HBB.out.s.bits).mono ?_
        rintro e Wc ⟨rfl, rfl⟩
        go_wp2_with fail
        refine (ref_bits_any HBB.out.x).mono ?_
        rintro e Wd ⟨rfl, nr, rfl⟩
        have HBC := Lib.hid (HBB.out.drewN nr)
        go_wp2
        go_ret
        exact ⟨rfl, HBC.out.below⟩
      · obtain rfl : k = 200 := by omega
        have hkl : ((200 : Nat) : Int) < (n : Int) := by omega
        clear hke
        obtain ⟨E, hE⟩ : ∃ E, estOf b l = E := ⟨_, rfl⟩
        have HE := Lib.hid hE
        clear hE
        go_wp2_with fail
        refine (est_is HBN.out.s HBN.out.low HE.out).mono ?_
        rintro e Wa ⟨rfl, hB2⟩
        have HBA := Lib.hid (HBN.out.on hB2)
        clear hB2
        have hre := ref_est_any HBA.out.x HBA.out.low
        rw [HE.out] at hre
        go_wp2_with fail
        refine hre.mono ?_
        rintro e Wb ⟨rfl, nq, rfl⟩
        have HBB := Lib.hid (HBA.out.drewN nq)
        clear hre
        generalize Wa.drewN nq = Wb at *
        go_wp2_with fail
        refine (bits_any R b _ HBB.out.s.bits).mono ?_
        rintro e Wc ⟨rfl, rfl⟩
        go_wp2_with fail
        refine (ref_bits_any HBB.out.x).mono ?_
        rintro e Wd ⟨rfl, nr, rfl⟩
        have HBC := Lib.hid (HBB.out.drewN nr)
        go_wp2
        go_ret
        exact ⟨rfl, HBC.out.below⟩
    | succ g =>
      have hk1 : k < n := by omega
      have hk2 : k < 200 := by omega
      obtain ⟨C, off, d, hpe, hC, hcell, hfit⟩ := HD.out k hk1
      subst hpe
      have c0 : wr.cell? ⟨C, off + k * 4, none⟩ = some (.int .u8 d.kind) := (hBo'.below.cell (p := ⟨C, off + k * 4 + 0, none⟩) hC).trans (hcell 0 _ rfl)
      have c1 := (hBo'.below.cell (p := ⟨C, off + k * 4 + 1, none⟩) hC).trans (hcell 1 _ rfl)
      have c2 := (hBo'.below.cell (p := ⟨C, off + k * 4 + 2, none⟩) hC).trans (hcell 2 _ rfl)
      have c3 := (hBo'.below.cell (p := ⟨C, off + k * 4 + 3, none⟩) hC).trans (hcell 3 _ rfl)
      obtain ⟨kind, h, lp, ls, lcap, bt⟩ := d
      obtain ⟨hkd, hh, hll, hln, hb1, hb2⟩ := hfit
      simp only at c0 c1 c2 c3 hkd hh hll hln hb1 hb2
      have HLN := Lib.hid hln
      clear hcell hln
      have hBd : Below wr.heap.size wr (wr.alloc (.cells #[.int .u8 kind, .int .u64 h, .slice lp ls.length lcap, .int .i64 bt] 34)) := (Below.refl _ _).alloc (Nat.le_refl _) _
      have hDc := CellsAt.new #[.int .u8 kind, .int .u64 h, .slice lp ls.length lcap, .int .i64 bt] 34 wr
      have hBo2 := hBo'.on hBd
      have hRD := hBo'.s.lt
      have hPD := hBo'.x.ltP
      have hAD := hBo'.x.ltA
      have hwD := hBo'.below.size
      obtain ⟨km, hkm⟩ : ∃ km, kind % 8 = km := ⟨_, rfl⟩
      have hkmi : (kind : Int) % 8 = km := by omega
      have hW : ∃ W, W = wr.alloc (.cells #[.int .u8 kind, .int .u64 h, .slice lp ls.length lcap, .int .i64 bt] 34) := ⟨_, rfl⟩
      clear hkm hBd hW
      by_cases h6 : km = 6
      · obtain rfl : km = 6 := h6
        have hk6 : (kind : Int) % 8 = 6 := hkmi
        clear hkmi
        by_cases h4 : bt.tmod 4 = 0
        · have e4 : (bt.tmod 4 == 0) = true := by rw [h4]; rfl
          obtain ⟨c, hc, lo2, hi2⟩ : ∃ c : Nat, wrap64 (4 + wrap64 ((IntKind.u64.wrap bt).tmod 7)) = (c : Int) ∧ 4 ≤ c ∧ c ≤ 10 := by
            have hu : 0 ≤ IntKind.u64.wrap bt := wrap_u64_nonneg bt
            rw [Int.tmod_eq_emod_of_nonneg hu]
            refine ⟨(4 + IntKind.u64.wrap bt % 7).toNat, ?_, ?_, ?_⟩
            · unfold wrap64; omega
            · omega
            · omega
          clear h4
          go_wp2_with fail
          rw [hc]
          refine (new_any c lo2 hi2 _).mono ?_
          rintro e Wa ⟨rfl, hB2, hT⟩
          have hDT := hDc.lt
          have hBo3 := hBo2.on hB2
          have hD3 := hDc.below hB2
          have hTlt := hT.lt
          generalize (wr.alloc (.cells #[.int .u8 kind, .int .u64 h, .slice lp ls.length lcap, .int .i64 bt] 34)).heap.size = T at *
          generalize wr.heap.size = D at *
          clear hB2 hBo2 hDc hBo' c0 c1 c2 c3
          go_wp2_with fail
          refine (ref_new_any c lo2 hi2 _).mono ?_
          rintro e Wb ⟨Q, G, rfl, hB3, hY, hQ, hG⟩
          have hBo4 := hBo3.on hB3
          have hD4 := hD3.below hB3
          have hT4 := hT.below hB3
          have hRQ : R < Q := by omega
          have hRG : R < G := by omega
          have hAQ : A < Q := by omega
          have hAG : A < G := by omega
          have hDQ : D < Q := by omega
          have hDG : D < G := by omega
          have hTQ : T < Q := by omega
          have hTG : T < G := by omega
          have hPG : P < G := by omega
          have hwT : w.heap.size ≤ T := by omega
          have hwG : w.heap.size ≤ G := by omega
          have HNE := Lib.hid (show R < T ∧ P < T ∧ A < T ∧ D < T from ⟨by omega, by omega, by omega, by omega⟩)
          clear hB3 hBo3 hD3 hT hQ hG
          go_wp2_with fail
          go_loopg [17] (min ls.length 40) (fun gi s wx => ∃ j : Nat, j + gi = min ls.length 40 ∧ s = .int .i64 j ∧ Both R b P A l w wx ∧ Sk T c (regs c (ls.take j)) wx ∧ RSk Q G c (regs c (ls.take j)) wx ∧ CellsAt D #[.int .u8 kind, .int .u64 h, .slice lp ls.length lcap, .int .i64 bt] wx)
          case atStart => exact ⟨0, by omega, rfl, hBo4, hT4, hY, hD4⟩
          case round =>
            obtain ⟨j, hjg, rfl, hBo5, hT5, hY5, hD5⟩ := hrel
            clear hBo4 hT4 hY hD4
            have d0 := hD5.cell 0 _ rfl
            have d2 := hD5.cell 2 _ rfl
            cases gk with
            | zero =>
              have hje : j = min ls.length 40 := by omega
              clear hjg hD5
              by_cases hl : ls.length ≤ 40
              · have hkl : ¬ ((j : Int) < (ls.length : Int)) := by omega
                clear hje
                by_cases hcb : c = b
                · subst hcb
                  go_wp2_with fail
                  refine (merge_yes hBo5.s hT5).mono ?_
                  rintro e Wm ⟨rfl, hCm, hSm⟩
                  have hXm := hBo5.x.chg hCm (Ne.symm hBo5.rp) (Ne.symm hBo5.ra)
                  have hYm := hY5.chg hCm (Nat.ne_of_gt hRQ) (Nat.ne_of_gt hRG)
                  have hBm := below_chg hBo5.below hCm hBo5.hr (Nat.le_refl _)
                  clear hCm
                  go_wp2_with fail
                  refine (ref_merge_yes hXm hYm (Nat.ne_of_gt hAQ) (Nat.ne_of_gt hAG)).mono ?_
                  rintro e Wn ⟨rfl, hCn, hXn⟩
                  have HBN := Lib.hid (show Both R c P A (mergeL l (regs c _)) w Wn from ⟨hSm.chg hCn hBo5.ra, hXn, mergeL_low hBo5.low (regs_low _ _), hBo5.rp, hBo5.ra, hBo5.hr, hBo5.hp, hBo5.ha, below_chg hBm hCn hBo5.ha (Nat.le_refl _)⟩)
                  clear hCn hXn hSm hXm hYm hBm hBo5 hT5 hY5
                  go_wp2_with fail
                  refine (registers_any HBN.out.s).mono ?_
                  rintro e Wx ⟨rfl, rfl⟩
                  go_wp2_with fail
                  refine (ref_registers_any HBN.out.x).mono ?_
                  rintro e Wy ⟨rfl, hB9⟩
                  have hBo9 := Lib.hid (HBN.out.on hB9)
                  clear hB9
                  generalize tx _ = t
                  go_wp2
                  go_roundg g
                  case measure => omega
                  case rel => exact ⟨k + 1, P, A, _, by omega, by go_num, rfl, hBo9.out⟩
                · skip
                  have hcb2 : ¬ (c : Int) = (b : Int) := by omega
                  go_wp2_with fail
                  refine (merge_no R T b c hcb2 _ hBo5.s.bits hT5.bits).mono ?_
                  rintro e Wm ⟨rfl, nm, rfl⟩
                  have hBo6 := hBo5.drewN nm
                  have hY6 := hY5.drewN nm
                  clear hBo5 hT5 hY5
                  generalize wr.drewN nm = Wm at *
                  go_wp2_with fail
                  refine (ref_merge_no hBo6.x hY6 hcb).mono ?_
                  rintro e Wn ⟨rfl, nn, rfl⟩
                  have HBN := Lib.hid (hBo6.drewN nn)
                  clear hBo6 hY6
                  go_wp2_with fail
                  refine (registers_any HBN.out.s).mono ?_
                  rintro e Wx ⟨rfl, rfl⟩
                  go_wp2_with fail
                  refine (ref_registers_any HBN.out.x).mono ?_
                  rintro e Wy ⟨rfl, hB9⟩
                  have hBo9 := Lib.hid (HBN.out.on hB9)
                  clear hB9
                  generalize tx _ = t
                  go_wp2
                  go_roundg g
                  case measure => omega
                  case rel => exact ⟨k + 1, P, A, _, by omega, by go_num, rfl, hBo9.out⟩
              · obtain rfl : j = 40 := by omega
                have hkl : ((40 : Nat) : Int) < (ls.length : Int) := by omega
                clear hje
                by_cases hcb : c = b
                · subst hcb
                  go_wp2_with fail
                  refine (merge_yes hBo5.s hT5).mono ?_
                  rintro e Wm ⟨rfl, hCm, hSm⟩
                  have hXm := hBo5.x.chg hCm (Ne.symm hBo5.rp) (Ne.symm hBo5.ra)
                  have hYm := hY5.chg hCm (Nat.ne_of_gt hRQ) (Nat.ne_of_gt hRG)
                  have hBm := below_chg hBo5.below hCm hBo5.hr (Nat.le_refl _)
                  clear hCm
                  go_wp2_with fail
                  refine (ref_merge_yes hXm hYm (Nat.ne_of_gt hAQ) (Nat.ne_of_gt hAG)).mono ?_
                  rintro e Wn ⟨rfl, hCn, hXn⟩
                  have HBN := Lib.hid (show Both R c P A (mergeL l (regs c _)) w Wn from ⟨hSm.chg hCn hBo5.ra, hXn, mergeL_low hBo5.low (regs_low _ _), hBo5.rp, hBo5.ra, hBo5.hr, hBo5.hp, hBo5.ha, below_chg hBm hCn hBo5.ha (Nat.le_refl _)⟩)
                  clear hCn hXn hSm hXm hYm hBm hBo5 hT5 hY5
                  go_wp2_with fail
                  refine (registers_any HBN.out.s).mono ?_
                  rintro e Wx ⟨rfl, rfl⟩
                  go_wp2_with fail
                  refine (ref_registers_any HBN.out.x).mono ?_
                  rintro e Wy ⟨rfl, hB9⟩
                  have hBo9 := Lib.hid (HBN.out.on hB9)
                  clear hB9
                  generalize tx _ = t
                  go_wp2
                  go_roundg g
                  case measure => omega
                  case rel => exact ⟨k + 1, P, A, _, by omega, by go_num, rfl, hBo9.out⟩
                · skip
                  have hcb2 : ¬ (c : Int) = (b : Int) := by omega
                  go_wp2_with fail
                  refine (merge_no R T b c hcb2 _ hBo5.s.bits hT5.bits).mono ?_
                  rintro e Wm ⟨rfl, nm, rfl⟩
                  have hBo6 := hBo5.drewN nm
                  have hY6 := hY5.drewN nm
                  clear hBo5 hT5 hY5
                  generalize wr.drewN nm = Wm at *
                  go_wp2_with fail
                  refine (ref_merge_no hBo6.x hY6 hcb).mono ?_
                  rintro e Wn ⟨rfl, nn, rfl⟩
                  have HBN := Lib.hid (hBo6.drewN nn)
                  clear hBo6 hY6
                  go_wp2_with fail
                  refine (registers_any HBN.out.s).mono ?_
                  rintro e Wx ⟨rfl, rfl⟩
                  go_wp2_with fail
                  refine (ref_registers_any HBN.out.x).mono ?_
                  rintro e Wy ⟨rfl, hB9⟩
                  have hBo9 := Lib.hid (HBN.out.on hB9)
                  clear hB9
                  generalize tx _ = t
                  go_wp2
                  go_roundg g
                  case measure => omega
                  case rel => exact ⟨k + 1, P, A, _, by omega, by go_num, rfl, hBo9.out⟩
            | succ gi =>
              have hj1 : j < ls.length := by omega
              have hj2 : j < 40 := by omega
              have hj1i : (j : Int) < (ls.length : Int) := by omega
              obtain ⟨E, oe, hpe, hE, hce, hxe⟩ := HLN.out j hj1
              subst hpe
              have he1 := (hBo5.below.cell (p := ⟨E, oe + j, none⟩) hE).trans hce
              have hst : addL c ls[j] (regs c (ls.take j)) = regs c (ls.take (j + 1)) := by rw [regs_snoc, List.take_add_one, List.getElem?_eq_getElem hj1]; rfl
              have HST := Lib.hid hst
              have had := fun w hT hS => add_any (B := T) (b := c) (l := regs c (ls.take j)) ls[j] hxe (w := w) hT hS
              have hrd := fun w hS => ref_add_any (P := Q) (A := G) (b := c) (l := regs c (ls.take j)) ls[j] hxe (w := w) hS
              generalize ls[j] = xe at *
              clear hst hce
              go_wp2_with fail
              refine (had _ (HT.out.below hBo5.below) hT5).mono ?_
              rintro e w2 ⟨rfl, hCa, hTa⟩
              rw [HST.out] at hTa
              have hBo6 := hBo5.chgOn hCa hwT (Nat.ne_of_lt HNE.out.1) (Nat.ne_of_lt HNE.out.2.1) (Nat.ne_of_lt HNE.out.2.2.1)
              have hD6 := hD5.chg hCa (Nat.ne_of_lt HNE.out.2.2.2)
              have hY6 := hY5.chg hCa (Nat.ne_of_gt hTQ) (Nat.ne_of_gt hTG)
              have he2 := (hBo6.below.cell (p := ⟨E, oe + j, none⟩) hE).trans ((hBo5.below.cell (p := ⟨E, oe + j, none⟩) hE).symm.trans he1)
              have d2' := hD6.cell 2 _ rfl
              clear hCa hBo5 hT5 hY5 hD5 had d0 d2 he1
              go_wp2_with fail
              refine (hrd _ hY6).mono ?_
              rintro e w3 ⟨rfl, hCb, hYb⟩
              rw [HST.out] at hYb
              have hBo7 := hBo6.chgOn hCb hwG (Nat.ne_of_lt hRG) (Nat.ne_of_lt hPG) (Nat.ne_of_lt hAG)
              have hD7 := hD6.chg hCb (Nat.ne_of_lt hDG)
              have hT7 := hTa.chg hCb (Nat.ne_of_lt hTG)
              clear hCb hBo6 hD6 hY6 hTa hrd d2' he2
              go_wp2
              go_roundg gi
              case measure => omega
              case rel => exact ⟨j + 1, by omega, by go_num, hBo7, hT7, hYb, hD7⟩
        · have e4 : (bt.tmod 4 == 0) = false := beq_eq_false_iff_ne.2 h4
          have lo2 := lo
          have hi2 := hi
          clear h4
          go_wp2_with fail
          refine (new_any b lo2 hi2 _).mono ?_
          rintro e Wa ⟨rfl, hB2, hT⟩
          have hDT := hDc.lt
          have hBo3 := hBo2.on hB2
          have hD3 := hDc.below hB2
          have hTlt := hT.lt
          generalize (wr.alloc (.cells #[.int .u8 kind, .int .u64 h, .slice lp ls.length lcap, .int .i64 bt] 34)).heap.size = T at *
          generalize wr.heap.size = D at *
          clear hB2 hBo2 hDc hBo' c0 c1 c2 c3
          go_wp2_with fail
          refine (ref_new_any b lo2 hi2 _).mono ?_
          rintro e Wb ⟨Q, G, rfl, hB3, hY, hQ, hG⟩
          have hBo4 := hBo3.on hB3
          have hD4 := hD3.below hB3
          have hT4 := hT.below hB3
          have hRQ : R < Q := by omega
          have hRG : R < G := by omega
          have hAQ : A < Q := by omega
          have hAG : A < G := by omega
          have hDQ : D < Q := by omega
          have hDG : D < G := by omega
          have hTQ : T < Q := by omega
          have hTG : T < G := by omega
          have hPG : P < G := by omega
          have hwT : w.heap.size ≤ T := by omega
          have hwG : w.heap.size ≤ G := by omega
          have HNE := Lib.hid (show R < T ∧ P < T ∧ A < T ∧ D < T from ⟨by omega, by omega, by omega, by omega⟩)
          clear hB3 hBo3 hD3 hT hQ hG
          go_wp2_with fail
          go_loopg [17] (min ls.length 40) (fun gi s wx => ∃ j : Nat, j + gi = min ls.length 40 ∧ s = .int .i64 j ∧ Both R b P A l w wx ∧ Sk T b (regs b (ls.take j)) wx ∧ RSk Q G b (regs b (ls.take j)) wx ∧ CellsAt D #[.int .u8 kind, .int .u64 h, .slice lp ls.length lcap, .int .i64 bt] wx)
          case atStart => exact ⟨0, by omega, rfl, hBo4, hT4, hY, hD4⟩
          case round =>
            obtain ⟨j, hjg, rfl, hBo5, hT5, hY5, hD5⟩ := hrel
            clear hBo4 hT4 hY hD4
            have d0 := hD5.cell 0 _ rfl
            have d2 := hD5.cell 2 _ rfl
            cases gk with
            | zero =>
              have hje : j = min ls.length 40 := by omega
              clear hjg hD5
              by_cases hl : ls.length ≤ 40
              · have hkl : ¬ ((j : Int) < (ls.length : Int)) := by omega
                clear hje
                go_wp2_with fail
                refine (merge_yes hBo5.s hT5).mono ?_
                rintro e Wm ⟨rfl, hCm, hSm⟩
                have hXm := hBo5.x.chg hCm (Ne.symm hBo5.rp) (Ne.symm hBo5.ra)
                have hYm := hY5.chg hCm (Nat.ne_of_gt hRQ) (Nat.ne_of_gt hRG)
                have hBm := below_chg hBo5.below hCm hBo5.hr (Nat.le_refl _)
                clear hCm
                go_wp2_with fail
                refine (ref_merge_yes hXm hYm (Nat.ne_of_gt hAQ) (Nat.ne_of_gt hAG)).mono ?_
                rintro e Wn ⟨rfl, hCn, hXn⟩
                have HBN := Lib.hid (show Both R b P A (mergeL l (regs b _)) w Wn from ⟨hSm.chg hCn hBo5.ra, hXn, mergeL_low hBo5.low (regs_low _ _), hBo5.rp, hBo5.ra, hBo5.hr, hBo5.hp, hBo5.ha, below_chg hBm hCn hBo5.ha (Nat.le_refl _)⟩)
                clear hCn hXn hSm hXm hYm hBm hBo5 hT5 hY5
                go_wp2_with fail
                refine (registers_any HBN.out.s).mono ?_
                rintro e Wx ⟨rfl, rfl⟩
                go_wp2_with fail
                refine (ref_registers_any HBN.out.x).mono ?_
                rintro e Wy ⟨rfl, hB9⟩
                have hBo9 := Lib.hid (HBN.out.on hB9)
                clear hB9
                generalize tx _ = t
                go_wp2
                go_roundg g
                case measure => omega
                case rel => exact ⟨k + 1, P, A, _, by omega, by go_num, rfl, hBo9.out⟩
              · obtain rfl : j = 40 := by omega
                have hkl : ((40 : Nat) : Int) < (ls.length : Int) := by omega
                clear hje
                go_wp2_with fail
                refine (merge_yes hBo5.s hT5).mono ?_
                rintro e Wm ⟨rfl, hCm, hSm⟩
                have hXm := hBo5.x.chg hCm (Ne.symm hBo5.rp) (Ne.symm hBo5.ra)
                have hYm := hY5.chg hCm (Nat.ne_of_gt hRQ) (Nat.ne_of_gt hRG)
                have hBm := below_chg hBo5.below hCm hBo5.hr (Nat.le_refl _)
                clear hCm
                go_wp2_with fail
                refine (ref_merge_yes hXm hYm (Nat.ne_of_gt hAQ) (Nat.ne_of_gt hAG)).mono ?_
                rintro e Wn ⟨rfl, hCn, hXn⟩
                have HBN := Lib.hid (show Both R b P A (mergeL l (regs b _)) w Wn from ⟨hSm.chg hCn hBo5.ra, hXn, mergeL_low hBo5.low (regs_low _ _), hBo5.rp, hBo5.ra, hBo5.hr, hBo5.hp, hBo5.ha, below_chg hBm hCn hBo5.ha (Nat.le_refl _)⟩)
                clear hCn hXn hSm hXm hYm hBm hBo5 hT5 hY5
                go_wp2_with fail
                refine (registers_any HBN.out.s).mono ?_
                rintro e Wx ⟨rfl, rfl⟩
                go_wp2_with fail
                refine (ref_registers_any HBN.out.x).mono ?_
                rintro e Wy ⟨rfl, hB9⟩
                have hBo9 := Lib.hid (HBN.out.on hB9)
                clear hB9
                generalize tx _ = t
                go_wp2
                go_roundg g
                case measure => omega
                case rel => exact ⟨k + 1, P, A, _, by omega, by go_num, rfl, hBo9.out⟩
            | succ gi =>
              have hj1 : j < ls.length := by omega
              have hj2 : j < 40 := by omega
              have hj1i : (j : Int) < (ls.length : Int) := by omega
              obtain ⟨E, oe, hpe, hE, hce, hxe⟩ := HLN.out j hj1
              subst hpe
              have he1 := (hBo5.below.cell (p := ⟨E, oe + j, none⟩) hE).trans hce
              have hst : addL b ls[j] (regs b (ls.take j)) = regs b (ls.take (j + 1)) := by rw [regs_snoc, List.take_add_one, List.getElem?_eq_getElem hj1]; rfl
              have HST := Lib.hid hst
              have had := fun w hT hS => add_any (B := T) (b := b) (l := regs b (ls.take j)) ls[j] hxe (w := w) hT hS
              have hrd := fun w hS => ref_add_any (P := Q) (A := G) (b := b) (l := regs b (ls.take j)) ls[j] hxe (w := w) hS
              generalize ls[j] = xe at *
              clear hst hce
              go_wp2_with fail
              refine (had _ (HT.out.below hBo5.below) hT5).mono ?_
              rintro e w2 ⟨rfl, hCa, hTa⟩
              rw [HST.out] at hTa
              have hBo6 := hBo5.chgOn hCa hwT (Nat.ne_of_lt HNE.out.1) (Nat.ne_of_lt HNE.out.2.1) (Nat.ne_of_lt HNE.out.2.2.1)
              have hD6 := hD5.chg hCa (Nat.ne_of_lt HNE.out.2.2.2)
              have hY6 := hY5.chg hCa (Nat.ne_of_gt hTQ) (Nat.ne_of_gt hTG)
              have he2 := (hBo6.below.cell (p := ⟨E, oe + j, none⟩) hE).trans ((hBo5.below.cell (p := ⟨E, oe + j, none⟩) hE).symm.trans he1)
              have d2' := hD6.cell 2 _ rfl
              clear hCa hBo5 hT5 hY5 hD5 had d0 d2 he1
              go_wp2_with fail
              refine (hrd _ hY6).mono ?_
              rintro e w3 ⟨rfl, hCb, hYb⟩
              rw [HST.out] at hYb
              have hBo7 := hBo6.chgOn hCb hwG (Nat.ne_of_lt hRG) (Nat.ne_of_lt hPG) (Nat.ne_of_lt hAG)
              have hD7 := hD6.chg hCb (Nat.ne_of_lt hDG)
              have hT7 := hTa.chg hCb (Nat.ne_of_lt hTG)
              clear hCb hBo6 hD6 hY6 hTa hrd d2' he2
              go_wp2
              go_roundg gi
              case measure => omega
              case rel => exact ⟨j + 1, by omega, by go_num, hBo7, hT7, hYb, hD7⟩
      by_cases h7 : km = 7
      · obtain rfl : km = 7 := h7
        have hk7 : (kind : Int) % 8 = 7 := hkmi
        clear hkmi h6
        by_cases h8 : h % 8 = 0
        · have h8i : (h : Int) % 8 = 0 := by omega
          clear h8
          go_wp2_with fail
          refine (clear_any hBo2.s).mono ?_
          rintro e Wa ⟨rfl, hC8, hS8⟩
          have hBa := below_chg hBo2.below hC8 hBo2.hr (Nat.le_refl _)
          go_wp2_with fail
          refine (hrn _).mono ?_
          rintro e Wb ⟨NP, NA, rfl, hB2, hX8, hP8, hA8⟩
          have hlt8 := hS8.lt
          have HBN := Lib.hid (show Both R b NP NA (List.replicate (2 ^ b) 0) w Wb from ⟨hS8.below hB2, hX8, Low.zero _, by omega, by omega, hBo2.hr, Nat.le_trans hBa.size hP8, Nat.le_trans hBa.size hA8, below_on hBa hB2 (Nat.le_refl _)⟩)
          clear hC8 hS8 hB2 hX8 hP8 hA8 hBa hBo2 hBo' hDc
          go_wp2_with fail
          refine (registers_any HBN.out.s).mono ?_
          rintro e Wx ⟨rfl, rfl⟩
          go_wp2_with fail
          refine (ref_registers_any HBN.out.x).mono ?_
          rintro e Wy ⟨rfl, hB2⟩
          have hBo9 := Lib.hid (HBN.out.on hB2)
          clear hB2
          generalize tx _ = t
          go_wp2
          go_roundg g
          case measure => omega
          case rel => exact ⟨k + 1, NP, NA, _, by omega, by go_num, rfl, hBo9.out⟩
        · have e8 : ((h : Int) % 8 == 0) = false := beq_eq_false_iff_ne.2 (by omega)
          have HBN := Lib.hid hBo2
          clear hBo2 hBo' h8
          go_wp2_with fail
          refine (registers_any HBN.out.s).mono ?_
          rintro e Wx ⟨rfl, rfl⟩
          go_wp2_with fail
          refine (ref_registers_any HBN.out.x).mono ?_
          rintro e Wy ⟨rfl, hB2⟩
          have hBo9 := Lib.hid (HBN.out.on hB2)
          clear hB2
          generalize tx _ = t
          go_wp2
          go_roundg g
          case measure => omega
          case rel => exact ⟨k + 1, P, A, _, by omega, by go_num, rfl, hBo9.out⟩
      have e6 : ((km : Int) == 6) = false := beq_eq_false_iff_ne.2 (by omega)
      have e7 : ((km : Int) == 7) = false := beq_eq_false_iff_ne.2 (by omega)
      clear h6 h7
      go_wp2_with fail
      have hBoD : Both R b P A l w (World.drew _) := hBo2.drewN 1
      have hcD := hDc.drew.cell 1 _ rfl
      have hTD := HT.out.below hBoD.below
      have hltD := hDc.drew.lt
      generalize hDe : wr.heap.size = D at *
      clear hBo2 hDc hBo' c0 c1 c2 c3
      generalize wr.alloc (.cells #[.int .u8 kind, .int .u64 h, .slice lp ls.length lcap, .int .i64 bt] 34) = W at *
      go_region_with (first | (refine (add_any (B := R) (b := b) (l := l) h hh hTD hBoD.s).mono ?_; rintro e Wa ⟨rfl, hCa, hSa⟩; have hXa := hBoD.x.chg hCa (Ne.symm hBoD.rp) (Ne.symm hBoD.ra); have hca := (hCa.cell (b := D) (i := 1) hltD (by omega)).trans hcD) | (refine (ref_add_any h hh hXa).mono ?_; rintro e Wb ⟨rfl, hCb, hXb⟩))
      all_goals
        have HBN := Lib.hid (show Both R b P A (addL b h l) w _ from ⟨hSa.chg hCb hBoD.ra, hXb, hBoD.low.add b h, hBoD.rp, hBoD.ra, hBoD.hr, hBoD.hp, hBoD.ha, below_chg (below_chg hBoD.below hCa hBoD.hr (Nat.le_refl _)) hCb hBoD.ha (Nat.le_refl _)⟩)
        clear hSa hXb hCa hCb hBoD hcD hTD hXa hca hltD
        generalize addB b h l = vb
        generalize addL b h l = l2 at *
        go_wp2_with fail
        refine (registers_any HBN.out.s).mono ?_
        rintro e Wx ⟨rfl, rfl⟩
        go_wp2_with fail
        refine (ref_registers_any HBN.out.x).mono ?_
        rintro e Wy ⟨rfl, hB2⟩
        have hBo9 := Lib.hid (HBN.out.on hB2)
        clear hB2
        generalize tx _ = t
        go_wp2
        go_roundg g
        case measure => omega
        case rel => exact ⟨k + 1, P, A, _, by omega, by go_num, rfl, hBo9.out⟩
end Go.Proofs.YtdcjfefnkjdchaaDoor
