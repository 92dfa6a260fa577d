/- The chapter's own: a number comes, another one is merged. -/
import Derived.Test.YtklklpccpbhfgaaHiRmn
import Derived.Test.YtklklpccpbhfgaaHiCntW
namespace Go.Proofs.Ytklklpccpbhfgaa
open Go Go.RowKit

set_option maxRecDepth 100000 in
set_option maxHeartbeats 2000000 in
theorem ref_add_full {base B k : Nat} {v : Value} {l : List Hit} {w : World} (h : Hs base 83 B k v l w) (n : Int) (hc : ¬ countH l < 1099511627776) :
    Calls Try.prog 15 #[.pointer (some ⟨B, 0, none⟩), .int .i64 n] w (Left base 83 B k v l (.int .i64 7) w) := by
  have hcn := ref_count_any h
  have H := Lib.hid h
  have hq : (1099511627776 : Int) ≤ (countH l : Int) := by omega
  have hsum := h.inv.sum
  clear h hc
  generalize countH l = c at *
  go_enter Try.func15, Try.ntmps15
  go_wp2_with fail
  refine hcn.mono ?_
  rintro e w1 ⟨rfl, rfl⟩
  go_wp2
  go_ret
  exact Left.same H.out (Below.refl _ _)
set_option maxRecDepth 100000 in
set_option maxHeartbeats 2000000 in
theorem ref_add_any {base B k : Nat} {v : Value} {l : List Hit} {w : World} (hbase : base ≤ w.heap.size) (h : Hs base 83 B k v l w) (n : Int) (hn : In64 n) (hc : countH l < 1099511627776) :
    Calls Try.prog 15 #[.pointer (some ⟨B, 0, none⟩), .int .i64 n] w (Left base 83 B k v (more ⟨ofI k n, 1⟩ l) (.int .i64 0) w) := by
  have hcn := ref_count_any h
  have hof := fun w => ref_of_any k h.inv.hk n hn w
  have hmo := fun (W : World) (hb : base ≤ W.heap.size) (hW : Hs base 83 B k v l W) => ref_more_any hb hW ⟨ofI k n, 1⟩ (of_fits k h.inv.hk n hn) (by show 0 < 1; omega) (by show countH l + 1 ≤ _; omega)
  simp only at hmo
  have HM := Lib.hid hmo
  have H := Lib.hid h
  have HBS := Lib.hid hbase
  have c0 := h.c0
  have hq : decide ((1099511627776 : Int) ≤ (countH l : Int)) = false := decide_eq_false (by omega)
  clear h hc hn hmo hbase
  generalize countH l = c at *
  obtain ⟨a, ha⟩ : ∃ a, ofI k n = a := ⟨_, rfl⟩
  rw [ha] at HM hof ⊢
  clear ha
  go_enter Try.func15, Try.ntmps15
  go_wp2_with fail
  refine hcn.mono ?_
  rintro e w1 ⟨rfl, rfl⟩
  clear hcn
  go_wp2_with fail
  refine (hof _).mono ?_
  rintro e w2 ⟨rfl, hB2⟩
  have H2 := Lib.hid (H.out.below hB2)
  have HB2 := Lib.hid hB2
  have hm := HM.out w2 (Nat.le_trans HBS.out hB2.size) H2.out
  clear hof hB2
  go_wp2_with fail
  refine hm.mono ?_
  rintro e w3 ⟨r, rfl, v', hH', hM', hat'⟩
  have HR := Lib.hid (show Left base 83 B k v (more ⟨a, 1⟩ l) (.int .i64 0) w (.returned (.int .i64 0)) w3 from ⟨rfl, v', hH', (Mov.ofB HB2.out).trans hM' (fun _ _ hk => hk), fun g hg => (hat' g hg).imp id fun e => Nat.le_trans HB2.out.size e⟩)
  clear hm hH' hM' hat'
  go_wp2
  go_ret
  exact HR.out
set_option maxRecDepth 100000 in
set_option maxHeartbeats 2000000 in
theorem ref_merge_bits {base base' B B' k k' : Nat} {v v' : Value} {l m : List Hit} {w : World} (h : Hs base 83 B k v l w) (g : Hs base' 83 B' k' v' m w) (hk : k' ≠ k) :
    Calls Try.prog 17 #[.pointer (some ⟨B, 0, none⟩), .pointer (some ⟨B', 0, none⟩)] w fun e w' => e = .returned (.int .i64 1) ∧ Below w.heap.size w w' := by
  have c0 := h.c0
  have d0 := g.c0
  have hne : ¬ ((k' : Int) = (k : Int)) := by omega
  clear h g
  go_enter Try.func17, Try.ntmps17
  go_wp2
  go_quiet (fail)
  go_wp2
  go_ret
  exact ⟨rfl, below_drewN' (Below.refl _ _) _⟩
set_option maxRecDepth 100000 in
set_option maxHeartbeats 2000000 in
theorem ref_merge_over {base base' B B' k : Nat} {v v' : Value} {l m : List Hit} {w : World} (h : Hs base 83 B k v l w) (g : Hs base' 83 B' k v' m w) (hc : 1099511627776 < countH l + countH m) :
    Calls Try.prog 17 #[.pointer (some ⟨B, 0, none⟩), .pointer (some ⟨B', 0, none⟩)] w fun e w' => e = .returned (.int .i64 7) ∧ Below w.heap.size w w' := by
  have s1 := h.inv.sum
  have s2 := g.inv.sum
  have c0 := h.c0
  have d0 := g.c0
  have HH := Lib.hid h
  have HG := Lib.hid g
  have H1 := Lib.hid (fun (W : World) (hW : Hs base 83 B k v l W) => ref_count_any hW)
  have H2 := Lib.hid (fun (W : World) (hW : Hs base' 83 B' k v' m W) => ref_count_any hW)
  clear h g
  generalize countH l = p at *
  generalize countH m = q at *
  have hq : decide ((1099511627776 : Int) < (p : Int) + (q : Int)) = true := decide_eq_true (by omega)
  go_enter Try.func17, Try.ntmps17
  go_wp2
  go_quiet (fail)
  have hB0 := below_drewN' (Below.refl w.heap.size w) nq
  have g1 := H1.out _ (HH.out.drewN nq)
  have g2 := H2.out _ (HG.out.drewN nq)
  go_wp2_with fail
  refine g1.mono ?_
  rintro e w1 ⟨rfl, rfl⟩
  clear g1 c0 d0
  go_wp2_with fail
  refine g2.mono ?_
  rintro e w2 ⟨rfl, rfl⟩
  clear g2
  go_wp2
  go_ret
  exact ⟨rfl, hB0⟩
theorem mergeH_take {l m : List Hit} {j : Nat} (h : j < m.length) : mergeH l (m.take (j + 1)) = more m[j]! (mergeH l (m.take j)) := by
  unfold mergeH
  rw [List.take_add_one, List.getElem?_eq_getElem h, List.foldl_append, getElem!_pos m j h]
  rfl
set_option maxRecDepth 100000 in
set_option maxHeartbeats 4000000 in
theorem ref_merge_any {base base' B B' k : Nat} {v v' : Value} {l m : List Hit} {w : World} (hbase : base ≤ w.heap.size) (h : Hs base 83 B k v l w) (g : Hs base' 83 B' k v' m w) (hc : countH l + countH m ≤ 1099511627776) :
    Calls Try.prog 17 #[.pointer (some ⟨B, 0, none⟩), .pointer (some ⟨B', 0, none⟩)] w (Left base 83 B k v (mergeH l m) (.int .i64 0) w) := by
  have s1 := h.inv.sum
  have s2 := g.inv.sum
  have c0 := h.c0
  have d0 := g.c0
  have HC := Lib.hid hc
  have hml := g.inv.len
  have HH := Lib.hid h
  have HG := Lib.hid g
  have HGI := Lib.hid g.inv
  have H1 := Lib.hid (fun (W : World) (hW : Hs base 83 B k v l W) => ref_count_any hW)
  have H2 := Lib.hid (fun (W : World) (hW : Hs base' 83 B' k v' m W) => ref_count_any hW)
  have HBS := Lib.hid hbase
  obtain ⟨pg, capg, rfl, _, _⟩ := g.row.cap
  clear h g hbase
  obtain ⟨p, hp⟩ : ∃ p, countH l = p := ⟨_, rfl⟩
  obtain ⟨q, hqe⟩ : ∃ q, countH m = q := ⟨_, rfl⟩
  have HP := Lib.hid hp
  have HQ := Lib.hid hqe
  rw [hp] at H1 hc s1
  rw [hqe] at H2 hc s2
  have hq : decide ((1099511627776 : Int) < (p : Int) + (q : Int)) = false := decide_eq_false (by omega)
  have hq0 : (p : Int) + (q : Int) ≤ 1099511627776 := by omega
  obtain ⟨n, hn⟩ : ∃ n, m.length = n := ⟨_, rfl⟩
  have HN := Lib.hid hn
  rw [hn] at hml
  clear hp hqe hn
  go_enter Try.func17, Try.ntmps17
  go_wp2
  go_quiet (fail)
  have g1 := H1.out _ (HH.out.drewN nq)
  have g2 := H2.out _ (HG.out.drewN nq)
  have hB0 := below_drewN' (Below.refl w.heap.size w) nq
  have HH0 := Lib.hid (HH.out.drewN nq)
  have HG0 := Lib.hid (HG.out.drewN nq)
  generalize w.drewN nq = W at *
  go_wp2_with fail
  refine g1.mono ?_
  rintro e w1 ⟨rfl, rfl⟩
  clear g1 c0 d0
  go_wp2_with fail
  refine g2.mono ?_
  rintro e w2 ⟨rfl, rfl⟩
  have d1 := HG0.out.c1
  obtain ⟨v5, w5, r5, o5, m5, a5⟩ := append_rits (B := W.heap.size) 75 (Its.nil W.heap.size 83 W) (by have := HG0.out.row.src_take m.length; rw [List.take_length] at this; exact this) (by simp; rw [HN.out]; omega) (Nat.le_refl _)
  rw [List.nil_append] at o5
  rw [HN.out] at d1
  have b5 : Below W.heap.size W w5 := m5.below (by intro k hk; cases hk) (Nat.le_refl _)
  have hb0 := hB0.size
  have HB5 := Lib.hid (hB0.trans (b5.mono hb0))
  have HH5 := Lib.hid (HH0.out.below b5)
  obtain ⟨p5, cap5, rfl, hc5, _, hcell⟩ := its_cells o5
  have HO5 := Lib.hid o5
  have HCE := Lib.hid hcell
  have HW := Lib.hid (show w.heap.size ≤ W.heap.size from hb0)
  rw [HN.out] at hc5 r5
  have HHW := Lib.hid (show B < W.heap.size ∧ ∀ g, v.ownBlock = some g → g < W.heap.size from ⟨HH0.out.lt, fun g hg => (HH0.out.row.lt hg).2⟩)
  clear g2 o5 m5 a5 b5 hcell hB0 hb0 HH0 HG0
  go_wp2_with (at_builtin; refine Lib.wpList_append_run _ rfl _ _ _ _ rfl _ _ rfl rfl _ _ r5 ?_)
  go_loopg [6] n (fun gk s6 wx => ∃ (j : Nat) (vj : Value), j + gk = n ∧ s6 = .int .i64 j ∧ Hid (Hs base 83 B k vj (mergeH l (m.take j)) wx) ∧ Hid (Mov (OwnT B v) w5 wx) ∧ Hid (∀ g, vj.ownBlock = some g → v.ownBlock = some g ∨ w5.heap.size ≤ g))
  case atStart => exact ⟨0, v, by omega, rfl, Lib.hid (by rw [List.take_zero]; exact HH5.out), Lib.hid (Mov.refl _ _), Lib.hid (fun _ hg => .inl hg)⟩
  case round =>
    clear HH5
    obtain ⟨j, vj, hjn, rfl, HHj, HMj, HAj⟩ := hrel
    cases gk with
    | zero =>
      obtain rfl : j = n := by omega
      have HR := Lib.hid (show Left base 83 B k v (mergeH l m) (.int .i64 0) w (.returned (.int .i64 0)) wr from ⟨rfl, vj, by have := HHj.out; rw [List.take_of_length_le (by rw [HN.out]; exact Nat.le_refl _)] at this; exact this, (Mov.ofB HB5.out).trans HMj.out (fun _ _ hk => hk), fun g hg => (HAj.out g hg).imp id fun e => Nat.le_trans HB5.out.size e⟩)
      go_wp2
      go_ret
      exact HR.out
    | succ gk =>
      have hj : j < n := by omega
      have hjm : j < m.length := by rw [HN.out]; exact hj
      obtain ⟨g5, rfl, hg5, e0, e1⟩ := HCE.out j hjm
      have hg5W : W.heap.size ≤ g5 := (HO5.out.lt (g := g5) rfl).1
      have hno : ¬ OwnT B v g5 := fun hk => by
        rcases hk with e | e
        · have := HHW.out.1; omega
        · have := HHW.out.2 _ e; omega
      have f0 := (HMj.out.cell (i := j * 2) hg5 hno).trans e0
      have f1 := (HMj.out.cell (i := j * 2 + 1) hg5 hno).trans e1
      have hmt := mergeH_take (l := l) hjm
      have hfit := HGI.out.fit _ (at_mem hjm)
      have hpos := HGI.out.many hjm
      have hct : countH (mergeH l (m.take j)) + m[j]!.many ≤ 1099511627776 := by
        rw [countH_mergeH]
        have h1 := countH_take_succ m j hjm
        have h2 := countH_take_le m (j + 1)
        have h3 := HC.out
        omega
      have hmo := ref_more_any (Nat.le_trans HBS.out (Nat.le_trans HB5.out.size HMj.out.size)) HHj.out m[j]! hfit hpos.1 hct
      rw [← hmt] at hmo
      obtain ⟨a, ha⟩ : ∃ a, m[j]!.at_ = a := ⟨_, rfl⟩
      obtain ⟨b, hb⟩ : ∃ b, m[j]!.many = b := ⟨_, rfl⟩
      rw [ha] at f0 hmo
      rw [hb] at f1 hmo
      clear e0 e1 hmt hfit hpos hct ha hb hno hg5W
      go_wp2_with fail
      refine hmo.mono ?_
      rintro e w6 ⟨r, rfl, v6, hH6, hM6, hA6⟩
      have HH6 := Lib.hid hH6
      have HM6 := Lib.hid (HMj.out.trans hM6 (fun i hi hT => by
        rcases hT with rfl | e
        · exact .inl rfl
        · rcases HAj.out i e with e2 | e2
          · exact .inr e2
          · omega))
      have HA6 := Lib.hid (show ∀ g, v6.ownBlock = some g → v.ownBlock = some g ∨ w5.heap.size ≤ g from fun g hg => by
        rcases hA6 g hg with e | e
        · exact HAj.out g e
        · exact .inr (Nat.le_trans HMj.out.size e))
      clear hmo hH6 hM6 hA6
      go_wp2
      go_roundg gk
      case measure => omega
      case rel => exact ⟨j + 1, v6, by omega, by go_num, HH6, HM6, HA6⟩
end Go.Proofs.Ytklklpccpbhfgaa
