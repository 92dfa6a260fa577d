/- TopFew, walked. -/
import Derived.Test.YtnkcobmccfcanaaTFewM
import Derived.Deep.LoopGhost
import Derived.Deep.QuietTactic
import Derived.BigQuiet
namespace Go.Proofs.Ytnkcobmccfcanaa
open Go Go.RowKit

theorem info_u64 : (Try.prog.info? 31).map (fun i => (i.zero, i.size, i.bytes)) = some (some (.int .u64 0), 1, 8) := by kernel_rfl
theorem make_u64 (n : Nat) (hn : n ≤ 1000000) (w : World) : ∃ w', (Instr.makeSlice 59 (.int .i64 n) (.int .i64 n)).run Try.prog w = .ok (.slice (some ⟨w.heap.size, 0, none⟩) n n) w' ∧ Below w.heap.size w w' ∧ CntAt w.heap.size n (fun _ => 0) w' := by
  obtain ⟨i, hi, hz0, hz1, hz2⟩ := info_parts info_u64
  obtain ⟨w', h1, h2, h3⟩ := run_make_full (P := Try.prog) w w.heap.size 59 31 i (.int .u64 0) 1 Try.underlying59 hi hz0 hz1 .i64 .i64 n (by rw [hz2]; omega) (by unfold maxLen; omega) (Nat.le_refl _)
  have hc : ∀ j, j < n → (madeCells (Value.int .u64 0).cells (n * 1)).toList[j]? = some (.int .u64 0) := fun j hj => by
    simp [madeCells, Value.cells, Nat.mod_one, hj]
  refine ⟨w', h1, (Below.refl _ _).grown h3 (Nat.le_refl _) (fun k hk => by cases hk), ?_, fun j hj => ?_, fun j hj => World.ownsRow.frozenAt h2 j⟩
  · rcases h2.2 with ⟨h, _⟩ | ⟨g, cap, cur, h, _, hg, _⟩
    · cases h
    · cases h
      exact (Array.getElem?_eq_some_iff.1 hg).1
  · rw [World.ownsRow.cellAt h2 j (by omega), hc j hj]
    rfl
/-- What holds at the head of a round. -/
structure FewAt (N B R k i : Nat) (v : Value) (c : Nat → Nat) (l : List Itm) (w wx : World) : Prop where
  few : Few k c l
  sn : seen l = i
  tp : Tp N B k v l wx
  ct : CntAt R k c wx
  rb : R ≠ B
  rv : v.ownBlock ≠ some R
  lo : N ≤ R
  below : Below N w wx
set_option maxRecDepth 100000 in
set_option maxHeartbeats 16000000 in
theorem few_in (a : Nat) (ha : a < 256) (p : Option Addr) (hs : List Nat) (cap : Nat) (hlen : hs.length ≤ 9223372036854775807) (w : World) (hO : Octs p hs w) :
    Calls Try.prog 6 #[.int .u8 a, .slice p hs.length cap] w fun e w' => e = .returned (.bool true) ∧ Below w.heap.size w w' := by
  obtain ⟨N, hN⟩ : ∃ N, w.heap.size = N := ⟨_, rfl⟩
  have HN := Lib.hid hN
  rw [hN]
  have HO := Lib.hid hO
  obtain ⟨k, hk⟩ : ∃ k, 1 + a % 16 = k := ⟨_, rfl⟩
  have hk1 : 1 ≤ k := by omega
  have hk2 : k ≤ 16 := by omega
  have hki : (1 : Int) + (a : Int) % 16 = k := by omega
  obtain ⟨n, hln⟩ : ∃ n, hs.length = n := ⟨_, rfl⟩
  have HLN := Lib.hid hln
  rw [hln] at hlen ⊢
  clear hk hN ha hO hln
  have hnw := new_any k hk1 hk2
  go_enter Try.func6, Try.ntmps6
  go_wp2_with fail
  refine (examples_any _).mono ?_
  rintro e W1 ⟨rfl, hB⟩
  rw [HN.out] at hB
  go_wp2_with fail
  refine (hnw _).mono ?_
  rintro e W2 ⟨rfl, hB2, hT⟩
  have hT2 := hT.mono (Nat.le_trans (Nat.le_of_eq HN.out.symm) hB.size)
  replace hB := hB.trans (hB2.mono (Nat.le_trans (Nat.le_of_eq HN.out.symm) hB.size))
  generalize W1.heap.size = B at *
  clear hB2 hT hnw
  obtain ⟨W3, hmk, hBk, hC⟩ := make_u64 k (by omega) W2
  have hRB := hT2.lt
  have hRN := Nat.le_trans (Nat.le_of_eq HN.out.symm) hB.size
  have hF0 : FewAt N B W2.heap.size k 0 (.slice none 0 0) (fun _ => 0) [] w W3 := ⟨few_nil hk1 hk2, rfl, hT2.below hBk, hC, by omega, by simp [Value.ownBlock], hRN, hB.trans (hBk.mono hRN)⟩
  clear hT2 hBk hC hB hRB hRN
  generalize W2.heap.size = R at *
  have HF0 := Lib.hid hF0
  clear hF0
  go_wp2_with fail
  go_loopg [10] (min n 100) (fun g i wx => ∃ (k' : Nat) (v : Value) (c : Nat → Nat) (l : List Itm), k' + g = min n 100 ∧ i = .int .i64 k' ∧ FewAt N B R k k' v c l w wx)
  case atStart => exact ⟨0, _, _, _, by omega, rfl, HF0.out⟩
  case round =>
    obtain ⟨i, v, c, l, hig, rfl, hF⟩ := hrel
    clear hmk
    cases gk with
    | zero =>
      have hke : i = min n 100 := by omega
      have HF := Lib.hid hF
      clear hF hig
      have hend : ¬ (i < n) ∨ (i < n ∧ ¬ (i < 100)) := by omega
      clear hke
      rcases hend with hend | ⟨hend1, hend⟩
      all_goals
        go_wp2_with fail
        refine (items_any HF.out.tp).mono ?_
        rintro e W4 ⟨v5, s, rfl, hI, hp, _, hB4⟩
        have hT4 := HF.out.tp.below hB4
        have hC4 := HF.out.ct.below hB4
        have hBW := below_on HF.out.below hB4 (Nat.le_of_eq HN.out.symm)
        obtain ⟨p5, cap5, hv5, hcap5, hmax5⟩ := hI.cap
        have HI := Lib.hid hI
        have HP := Lib.hid hp
        have HT4 := Lib.hid hT4
        have HC4 := Lib.hid hC4
        have HBW := Lib.hid hBW
        clear hI hp hB4 hT4 hC4 hBW hend
        unfold maxLen at hmax5
        obtain ⟨sl, hsl⟩ : ∃ sl, s.length = sl := ⟨_, rfl⟩
        have HSL := Lib.hid hsl
        rw [hsl] at hv5 hcap5
        have HV5 := Lib.hid hv5
        rw [hv5]
        clear hsl hv5
        go_wp2
        go_loop [12, 13] (fun m i' => ∃ j : Nat, j ≤ k ∧ i' = .int .i64 j ∧ m = .int .i64 (cnt c j)) (fun _ i' => k - (intOf i').toNat)
        case atStart => exact ⟨0, Nat.zero_le _, rfl, rfl⟩
        case round =>
          obtain ⟨j, hj, rfl, rfl⟩ := hrel
          have hcl := cnt_le c j
          by_cases hjk : j < k
          · have hcj := HC4.out.cell j hjk
            have hjk2 : (j : Int) < (k : Int) := by omega
            have hcs : cnt c (j + 1) = cnt c j + if 0 < c j then 1 else 0 := rfl
            have HCS := Lib.hid hcs
            clear hcs
            by_cases h0 : 0 < c j
            · have h0i : (0 : Int) < (c j : Int) := by omega
              generalize hx : c j = x at *
              go_wp2
              go_round
              case rel => exact ⟨j + 1, by omega, by go_num, by rw [HCS.out, if_pos h0]; go_num⟩
              case measure => simp [intOf]; omega
            · have h0i : ¬ (0 : Int) < (c j : Int) := by omega
              generalize hx : c j = x at *
              go_wp2
              go_round
              case rel => exact ⟨j + 1, by omega, by go_num, by rw [HCS.out, if_neg h0]; go_num⟩
              case measure => simp [intOf]; omega
          · obtain rfl : j = k := by omega
            clear hj hjk
            have hcnt : cnt c j = sl := by rw [← few_cnt HF.out.few, ← HP.out.length_eq, HSL.out]
            rw [hcnt]
            clear hcl
            go_wp2_with fail
            go_loopg [14] sl (fun g i' wx => ∃ i2 : Nat, i2 + g = sl ∧ i' = .int .i64 i2 ∧ Below W4.heap.size W4 wx)
            case atStart => exact ⟨0, by omega, rfl, Below.refl _ _⟩
            case round =>
              obtain ⟨i2, hig2, rfl, hB5⟩ := hrel
              cases gk with
              | zero =>
                obtain rfl : i2 = sl := by omega
                have hT6 := HT4.out.below hB5
                have hle := least_any hT6
                have hlv := few_least HF.out.few
                rw [hcnt] at hlv
                obtain ⟨lv, hlv2⟩ : ∃ lv, leastL j l = lv := ⟨_, rfl⟩
                rw [hlv2] at hle hlv
                have hBE := below_on HBW.out hB5 (Nat.le_of_eq HN.out.symm)
                have HBE := Lib.hid hBE
                clear hT6 hlv2 hBE
                by_cases hl0 : lv = 0
                · subst hl0
                  have hlt : i2 < j := by simpa using hlv
                  clear hlv hcnt
                  go_wp2_with fail
                  refine hle.mono ?_
                  rintro e W6 ⟨rfl, hB6⟩
                  have hBE := below_on HBE.out hB6 (Nat.le_of_eq HN.out.symm)
                  clear hB6 hle
                  go_wp2
                  go_ret
                  exact ⟨rfl, hBE⟩
                · have hlt : ¬ i2 < j := by simpa [hl0] using hlv
                  have hl0i : ((lv : Int) == 0) = false := by simp; omega
                  clear hlv hcnt
                  go_wp2_with fail
                  refine hle.mono ?_
                  rintro e W6 ⟨rfl, hB6⟩
                  have hBE := below_on HBE.out hB6 (Nat.le_of_eq HN.out.symm)
                  clear hB6 hle
                  go_wp2
                  go_ret
                  exact ⟨rfl, hBE⟩
              | succ g2 =>
                have hi2 : i2 < sl := by omega
                obtain ⟨g5, cap6, hv6, _, hg5, _, _, hcell, _⟩ := HI.out.form_pos (by rw [HSL.out]; omega)
                rw [HSL.out, HV5.out] at hv6
                simp only [Value.slice.injEq] at hv6
                obtain ⟨rfl, _, rfl⟩ := hv6
                obtain ⟨d0, d1, d2⟩ := hcell i2 (by rw [HSL.out]; exact hi2)
                obtain ⟨jj, hj1, hj2, hj3, hj4⟩ := HF.out.few.it _ (HP.out.mem_iff.1 (mem_at (l := s) (by rw [HSL.out]; exact hi2)))
                rw [hj2] at d0
                rw [hj4] at d1
                rw [hj3] at d2
                have k0 := (hB5.cell (p := ⟨g5, i2 * 3, none⟩) hg5).trans d0
                have k1 := (hB5.cell (p := ⟨g5, i2 * 3 + 1, none⟩) hg5).trans d1
                have k2 := (hB5.cell (p := ⟨g5, i2 * 3 + 2, none⟩) hg5).trans d2
                have k3 := (hB5.cell (p := ⟨R, jj, none⟩) HC4.out.lt).trans (HC4.out.cell jj hj1)
                have hb8 : ((UInt8.ofNat (97 + jj)).toNat : Int) = ((97 + jj : Nat) : Int) := by rw [UInt8.toNat_ofNat']; omega
                replace k0 : wr.cell? ⟨g5, i2 * 3, none⟩ = some (.string ⟨#[UInt8.ofNat (97 + jj)]⟩) := k0
                generalize UInt8.ofNat (97 + jj) = b8 at *
                obtain ⟨q, hq⟩ : ∃ q, 97 + jj = q := ⟨_, rfl⟩
                rw [hq] at hb8
                have hq1 : 97 ≤ q := by omega
                have hq2 : q < 256 := by omega
                have hqj : (q : Int) - 97 = (jj : Int) := by omega
                have hjj : (jj : Int) < (j : Int) := by omega
                have hjj2 : jj < j := hj1
                have hb9 : (((⟨#[b8]⟩ : ByteArray)[0]'(Nat.zero_lt_one)).toNat : Int) = (q : Int) := hb8
                have t1 : decide ((q : Int) < 97) = false := by simp; omega
                have t2 : decide ((j : Int) ≤ (jj : Int)) = false := by simp; omega
                have t3 : decide (j ≤ jj) = false := by simp; omega
                have t4 : IntKind.u8.wrap ((q : Int) - 97) = (jj : Int) := by rw [hqj]; exact IntWalk.u8_in _ (by omega)
                generalize c jj = x at *
                clear hcell d0 d1 d2 hj1 hj2 hj3 hj4 hq hcnt
                go_wp2
                go_quiet (fail)
                go_wp2
                go_roundg g2
                case measure => omega
                case rel => exact ⟨i2 + 1, by omega, by go_num, below_drewN hB5 _⟩
    | succ g =>
      have hi1 : i < n := by omega
      have hi2 : i < 100 := by omega
      have hkh : i < hs.length := by rw [HLN.out]; exact hi1
      obtain ⟨C, off, rfl, hC, hcell, hlt⟩ := HO.out i hkh
      have hcx : wr.cell? ⟨C, off + i, none⟩ = some (.int .u8 (hs[i] : Nat)) := (hF.below.cell (p := ⟨C, off + i, none⟩) (by rw [← HN.out]; exact hC)).trans hcell
      obtain ⟨j, hj⟩ : ∃ j, hs[i] % k = j := ⟨_, rfl⟩
      have hjk : j < k := by rw [← hj]; exact Nat.mod_lt _ hk1
      have hji : (hs[i] : Int) % (k : Int) = (j : Int) := by rw [← hj]; exact (Int.natCast_emod _ _).symm
      generalize hs[i] = d at *
      have hcj := hF.ct.cell j hjk
      have hcf := hF.ct.fro j hjk
      have hcl : c j ≤ 100 := by have := few_le hF.few hjk; have := hF.sn; omega
      obtain ⟨x, hx⟩ : ∃ x, c j = x := ⟨_, rfl⟩
      rw [hx] at hcj hcl
      obtain ⟨q, hq⟩ : ∃ q, 97 + j = q := ⟨_, rfl⟩
      have hqi : (97 : Int) + (j : Int) = (q : Int) := by omega
      have hq2 : q < 256 := by omega
      have hjk2 : (j : Int) < (k : Int) := by omega
      have hcv := letter_back q hq2 (wr.setCell ⟨R, j, none⟩ (.int .u64 ((x : Int) + 1))) wr.heap.size (by simp)
      have hCR : ¬ (C = R) := by have := hF.lo; have := HN.out; omega
      have HF := Lib.hid hF
      have HX := Lib.hid hx
      have HQ := Lib.hid hq
      clear hF hx hq hj hcell hC
      have hS : FewAt N B R k i v c l w wr := HF.out
      have hM : Mov (fun b => b = R) wr (wr.setCell ⟨R, j, none⟩ (.int .u64 ((x : Int) + 1))) := (Mov.refl (fun b => b = R) wr).set rfl j (.int .u64 ((x : Int) + 1))
      have hC1 : CntAt R k (upd c j (c j + 1)) (wr.setCell ⟨R, j, none⟩ (.int .u64 ((x : Int) + 1))) := by
        have := hS.ct.set j (c j + 1) hjk
        rw [HX.out] at this
        rw [HX.out]
        exact this
      have hT1 := hS.tp.mov hM hS.rb.symm (fun g hg e => hS.rv (e ▸ hg))
      have hB1 : Below N w (wr.setCell ⟨R, j, none⟩ (.int .u64 ((x : Int) + 1))) := hS.below.setCell hS.lo _
      have HC1 := Lib.hid hC1
      have HT1 := Lib.hid hT1
      have HB1 := Lib.hid hB1
      clear hS hM hC1 hT1 hB1
      go_wp2_with fail
      have hBx := (Below.refl wr.heap.size (wr.setCell ⟨R, j, none⟩ (.int .u64 ((x : Int) + 1)))).alloc (by simp) (.cells #[.int .u8 q] 5)
      have hT2 := HT1.out.below (w' := (wr.setCell ⟨R, j, none⟩ (.int .u64 ((x : Int) + 1))).alloc (.cells #[.int .u8 q] 5)) (by simpa using hBx)
      have hsn : addS k (nmC q) 1 l = addL k (nmC (97 + j)) 1 l := by rw [HQ.out]; exact addS_ok (by rw [nmC_size]; decide) (by decide) (by rw [HF.out.sn]; omega)
      refine (add_is hT2 (nmC q) 1 (by rw [nmC_size]; decide) (by decide) hsn (addC_ok (by rw [nmC_size]; decide) (by decide) (by rw [HF.out.sn]; omega))).mono ?_
      intro e Wa hA
      obtain ⟨rfl, va, hTa, hMa, _, hat⟩ := hA.below ⟨_, hT2⟩
      have hCx := HC1.out.below (w' := (wr.setCell ⟨R, j, none⟩ (.int .u64 ((x : Int) + 1))).alloc (.cells #[.int .u8 q] 5)) (by simpa using hBx)
      have hnR : ¬ OwnT B v R := by
        rintro (e | e)
        · exact HF.out.rb e
        · exact HF.out.rv e
      have hFa : FewAt N B R k (i + 1) va (upd c j (c j + 1)) (addL k (nmC (97 + j)) 1 l) w Wa := ⟨few_step HF.out.few hjk (by rw [HF.out.sn]; omega), by rw [seen_addL hk1, HF.out.sn], hTa, hCx.mov hMa hnR, HF.out.rb, fun e => by
          rcases hat R e with e | e
          · exact HF.out.rv e
          · have := hCx.lt; omega, HF.out.lo, below_mov (below_on HB1.out (by simpa using hBx) (Nat.le_of_eq HN.out.symm)) hMa (by
          rintro b (rfl | hb)
          · exact HF.out.tp.lo
          · exact (HF.out.tp.row.lt hb).1) (Nat.le_of_eq HN.out.symm)⟩
      have HFa := Lib.hid hFa
      clear hBx hT2 hsn hA hTa hMa hat hCx hnR hFa hcv hcj hcf hcx
      go_wp2
      go_roundg g
      case measure => omega
      case rel => exact ⟨i + 1, va, _, _, by omega, by go_num, HFa.out⟩
theorem TopFew_walk (a0 : Int) (h0 : (Lit.int .u8 a0).wf = true) (p : Option Addr) (hs : List Nat) (cap : Nat) (hl : hs.length ≤ cap) (hm : cap ≤ maxLen) (w : World) (hO : Octs p hs w) :
    Calls Try.prog 6 #[.int .u8 a0, .slice p hs.length cap] w fun e w' => e = .returned (.bool true) ∧ Below w.heap.size w w' := by
  obtain ⟨a, rfl, ha⟩ := wf_u8 h0
  unfold maxLen at hm
  exact few_in a ha p hs cap (by omega) w hO
end Go.Proofs.Ytnkcobmccfcanaa
