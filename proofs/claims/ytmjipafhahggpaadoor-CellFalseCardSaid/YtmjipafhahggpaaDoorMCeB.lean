/- Cells take numbers, and other cells, in. -/
import Derived.Test.YtmjipafhahggpaaDoorMCeA
import Derived.BigQuiet
namespace Go.Proofs.YtmjipafhahggpaaDoor.Ce
open Go Go.RowKit Hi

set_option maxRecDepth 100000 in
set_option maxHeartbeats 4000000 in
theorem reach_any (C B : Nat) (f a lo hi s x y : Int) (ha : Wi.InS a) (hs : Wi.InS s) (w : World)
    (hC : CellsAt C #[.pointer (some ⟨B, 0, none⟩), .int .i64 f, .int .i64 (Wi.shi a), .int .u64 (Wi.slo a), .int .i64 lo, .int .i64 hi] w) :
    Calls Tryd.prog 29 #[.pointer (some ⟨C, 0, none⟩), Wi.sv s, .int .i64 x, .int .i64 y] w fun e w' => e = .returned (.tuple #[]) ∧
      CellsAt C #[.pointer (some ⟨B, 0, none⟩), .int .i64 f, .int .i64 (Wi.shi (Wi.w128 (a + s))), .int .u64 (Wi.slo (Wi.w128 (a + s))), .int .i64 (min lo x), .int .i64 (max hi y)] w' ∧ Mov (fun i => i = C) w w' := by
  have hadd := fun W => Wi.add_any a s ha hs W
  have HA := Lib.hid hadd
  have hlt := hC.lt
  clear hadd ha hs
  rw [show Wi.sv s = .agg #[.int .i64 (Wi.shi s), .int .u64 (Wi.slo s)] from rfl]
  go_enter Tryd.func29, Tryd.ntmps29
  go_wp2
  refine wp_gen (fun W => Hid (CellsAt C #[.pointer (some ⟨B, 0, none⟩), .int .i64 f, .int .i64 (Wi.shi a), .int .u64 (Wi.slo a), .int .i64 lo, .int .i64 hi] W) ∧ CellsAt w.heap.size #[.int .i64 (Wi.shi s), .int .u64 (Wi.slo s)] W ∧ Hid (Mov (fun i => i = C) w W)) ⟨Lib.hid (hC.past _), CellsAt.new _ _ _, Lib.hid ((Mov.refl _ _).alloc _)⟩ ?_
  intro W ⟨HC, hS, HM⟩
  have c2 := HC.out.cell 2 _ rfl
  have c3 := HC.out.cell 3 _ rfl
  have d0 := hS.cell 0 _ rfl
  have d1 := hS.cell 1 _ rfl
  clear hC hS
  go_region_with (refine (HA.out _).mono ?_; rintro e W5 ⟨rfl, hB5⟩; have y2 := (HC.out.drew.below hB5).cell 2 _ rfl; have y3 := (HC.out.drew.below hB5).cell 3 _ rfl; have f2 := (HC.out.drew.below hB5).fro 2 _ rfl; have f3 := (HC.out.drew.below hB5).fro 3 _ rfl)
  all_goals
    have hX := ((HC.out.drew.below hB5).set 2 (.int .i64 (Wi.shi (Wi.w128 (a + s)))) (by simp)).set 3 (.int .u64 (Wi.slo (Wi.w128 (a + s)))) (by simp)
    have hN : Mov (fun i => i = C) w ((W5.setCell ⟨C, 2, none⟩ (.int .i64 (Wi.shi (Wi.w128 (a + s))))).setCell ⟨C, 3, none⟩ (.int .u64 (Wi.slo (Wi.w128 (a + s))))) := (((HM.out.drew).trans (Mov.ofB (S := fun i => i = C) hB5) (fun _ _ h => h)).set rfl 2 _).set rfl 3 _
    generalize ((W5.setCell ⟨C, 2, none⟩ (.int .i64 (Wi.shi (Wi.w128 (a + s))))).setCell ⟨C, 3, none⟩ (.int .u64 (Wi.slo (Wi.w128 (a + s))))) = W6 at hX hN ⊢
    have d4 := hX.cell 4 (.int .i64 lo) rfl
    have e4 := hX.fro 4 (.int .i64 lo) rfl
    have d5 := hX.cell 5 (.int .i64 hi) rfl
    have e5 := hX.fro 5 (.int .i64 hi) rfl
    have HX := Lib.hid hX
    have HN := Lib.hid hN
    clear hX hN HC HM c2 c3 d0 d1 hB5 y2 y3 f2 f3 HA
    go_wp2
    go_end0
    exact ⟨rfl, (HX.out.set 4 (.int .i64 (min lo x)) (by simp)).set 5 (.int .i64 (max hi y)) (by simp), (HN.out.set rfl 4 _).set rfl 5 _⟩
theorem _root_.Go.Proofs.YtmjipafhahggpaaDoor.Hi.Mov.wide {S T : Nat → Prop} {w w' : World} (h : Mov S w w') (hT : ∀ i, S i → T i) : Mov T w w' := ⟨h.os, h.tape, h.output, h.size, fun k hk hn => h.block k hk fun hs => hn (hT k hs)⟩
/-- What a cell is when its histogram is changed, and its sum, its least and its most are. -/
theorem At.turned {C B : Nat} {v v' : Value} {c c' : Cel} {w w1 w2 : World} (h : Ce C B v c w) (hk : c'.k = c.k) (hf : c'.frm = c.frm) (hok : c'.Ok)
    (hH : Hs 0 66 B c.k v' c'.its w1) (hM : Mov (OwnT B v) w w1) (hat : ∀ g, v'.ownBlock = some g → v.ownBlock = some g ∨ w.heap.size ≤ g)
    (hC : CellsAt C #[.pointer (some ⟨B, 0, none⟩), .int .i64 c.frm, .int .i64 (Wi.shi c'.sum), .int .u64 (Wi.slo c'.sum), .int .i64 c'.low, .int .i64 c'.top] w2) (hN : Mov (fun i => i = C) w1 w2) (code : Value) :
    At.Turned (Own C B v) C c' code w (.returned code) w2 := by
  have hnv : v'.ownBlock ≠ some C := fun e => (hat C e).elim h.nv (fun hg => by have := h.lt; omega)
  refine ⟨rfl, Own C B v', ⟨B, v', rfl, Ce.of (by rw [hf]; exact hC) ?_ h.ne hnv hok⟩, ?_, ?_⟩
  · rw [hk]
    exact hH.mov hN (fun e => h.ne e.symm) (fun g hg e => hnv (e ▸ hg))
  · exact (Mov.wide hM fun i hi => .inr hi).trans hN (fun i _ hi => .inl hi)
  · rintro i (rfl | rfl | hg)
    · exact .inl (.inl rfl)
    · exact .inl (.inr (.inl rfl))
    · exact (hat i hg).imp (fun e => .inr (.inr e)) id
set_option maxRecDepth 100000 in
set_option maxHeartbeats 4000000 in
theorem add_any {S : Nat → Prop} {C : Nat} {c : Cel} {w : World} (h : At S C c w) (n : Int) (hn : In64 n) (hc : countH c.its < 1099511627776) :
    Calls Tryd.prog 20 #[.pointer (some ⟨C, 0, none⟩), .int .i64 n] w (At.Turned S C (c.add n) (.int .i64 0) w) := by
  obtain ⟨B, v, rfl, h⟩ := h
  have hA := Hi.add_any (Nat.zero_le _) h.hs n hn hc
  have hof := fun W => Wi.of_any n hn.1 hn.2 W
  have HOK := Lib.hid (h.ok.add hn hc)
  have HIN : Hid (Wi.InS c.sum) := Lib.hid h.ok.insum
  have HNI : Hid (Wi.InS n) := Lib.hid (Wi.InS.small hn.1 hn.2)
  have c0 := h.c0
  have HH := Lib.hid h
  have HF := Lib.hid hof
  clear h hof hn hc
  go_enter Tryd.func20, Tryd.ntmps20
  go_wp2_with fail
  refine hA.mono ?_
  rintro e w1 ⟨rfl, v', hH, hM, hat⟩
  have hC1 := HH.out.cells.mov hM (fun hi => hi.elim HH.out.ne HH.out.nv)
  have HC1 := Lib.hid hC1
  have HX := Lib.hid hH
  have HM := Lib.hid hM
  have HAT := Lib.hid hat
  clear hA hC1 hH hM hat c0
  go_wp2_with fail
  refine (HF.out _).mono ?_
  rintro e w2 ⟨rfl, hB2⟩
  have hr := reach_any C B c.frm c.sum c.low c.top n n n HIN.out HNI.out w2 (HC1.out.below hB2)
  rw [show Wi.w128 (c.sum + n) = c.sum + n from Wi.w128_of HOK.out.insum] at hr
  have HX2 := Lib.hid (HX.out.below hB2)
  have HM2 : Hid (Mov (OwnT B v) _ w2) := Lib.hid (HM.out.trans (Mov.ofB (S := OwnT B v) hB2) (fun _ _ h => h))
  clear hB2 HF HC1 HX HM
  go_wp2_with fail
  refine hr.mono ?_
  rintro e w3 ⟨rfl, hC3, hM3⟩
  have HC3 := Lib.hid hC3
  have HM3 := Lib.hid hM3
  clear hr hC3 hM3
  go_wp2
  go_ret
  exact At.turned HH.out (c' := c.add n) rfl rfl HOK.out HX2.out HM2.out HAT.out HC3.out HM3.out _
set_option maxRecDepth 100000 in
set_option maxHeartbeats 4000000 in
theorem merge_bits {S T : Nat → Prop} {C D : Nat} {c d : Cel} {w : World} (h : At S C c w) (g : At T D d w) (hk : d.k ≠ c.k) :
    Calls Tryd.prog 11 #[.pointer (some ⟨C, 0, none⟩), .pointer (some ⟨D, 0, none⟩)] w fun e w' => e = .returned (.int .i64 1) ∧ Below w.heap.size w w' := by
  obtain ⟨B, v, rfl, h⟩ := h
  obtain ⟨E, u, rfl, g⟩ := g
  have hm := Hi.merge_bits h.hs.drew g.hs.drew hk
  have c0 := h.c0
  have d0 := g.c0
  have hl1 := h.lt
  have hl2 := g.lt
  clear h g hk
  go_enter Tryd.func11, Tryd.ntmps11
  go_wp2
  go_region_with (refine hm.mono ?_; rintro e W5 ⟨rfl, hB5⟩)
  all_goals
    have HB : Hid (Below w.heap.size w W5) := Lib.hid (((Below.refl w.heap.size w).drew).trans hB5)
    clear hB5 hm c0 d0
    go_wp2
    go_ret
    exact ⟨rfl, HB.out⟩
set_option maxRecDepth 100000 in
set_option maxHeartbeats 4000000 in
theorem merge_any {S T : Nat → Prop} {C D : Nat} {c d : Cel} {w : World} (h : At S C c w) (g : At T D d w) (hd : ∀ i, S i → ¬ T i) (hk : d.k = c.k) (hc : countH c.its + countH d.its ≤ 1099511627776) :
    Calls Tryd.prog 11 #[.pointer (some ⟨C, 0, none⟩), .pointer (some ⟨D, 0, none⟩)] w (At.Turned S C (c.merge d) (.int .i64 0) w) := by
  obtain ⟨B, v, rfl, h⟩ := h
  obtain ⟨E, u, rfl, g⟩ := g
  have hm := Hi.merge_any (Nat.zero_le _) h.hs.drew (hk ▸ g.hs.drew) hc
  have HOK := Lib.hid (h.ok.merge g.ok hk hc)
  have c0 := h.c0
  have d0 := g.c0
  have hl1 := h.lt
  have hl2 := g.lt
  have HH := Lib.hid h
  have HG := Lib.hid g
  have HD : Hid (¬ OwnT B v D) := Lib.hid (fun hi => hd D (.inr hi) (.inl rfl))
  clear h g hk hc hd
  go_enter Tryd.func11, Tryd.ntmps11
  go_wp2
  go_region_with (refine hm.mono ?_; rintro e W5 ⟨rfl, v', hH, hM, hat⟩)
  all_goals
    have hM' : Mov (OwnT B v) w W5 := ⟨hM.os, hM.tape, hM.output, hM.size, hM.block⟩
    have HC := Lib.hid (HH.out.cells.mov hM' (fun hi => hi.elim HH.out.ne HH.out.nv))
    have hDc := HG.out.cells.mov hM' HD.out
    have HX := Lib.hid hH
    have HM := Lib.hid hM'
    have HAT : Hid (∀ g, v'.ownBlock = some g → v.ownBlock = some g ∨ w.heap.size ≤ g) := Lib.hid hat
    have y2 := hDc.cell 2 _ rfl
    have y3 := hDc.cell 3 _ rfl
    have y4 := hDc.cell 4 _ rfl
    have y5 := hDc.cell 5 _ rfl
    have hr := reach_any C B c.frm c.sum c.low c.top d.sum d.low d.top HH.out.ok.insum HG.out.ok.insum W5.drew HC.out.drew
    rw [show Wi.w128 (c.sum + d.sum) = c.sum + d.sum from Wi.w128_of HOK.out.insum] at hr
    clear hDc hM hM' hH hat hm c0 d0
    go_wp2
    go_region_with (refine hr.mono ?_; rintro e W6 ⟨rfl, hC6, hM6⟩)
    all_goals
      have HC6 := Lib.hid hC6
      have HM6 : Hid (Mov (fun i => i = C) W5 W6) := Lib.hid ⟨hM6.os, hM6.tape, hM6.output, hM6.size, hM6.block⟩
      clear hC6 hM6 hr y2 y3 y4 y5
      go_wp2
      go_ret
      exact At.turned HH.out (c' := c.merge d) rfl rfl HOK.out HX.out HM.out HAT.out HC6.out HM6.out _
end Go.Proofs.YtmjipafhahggpaaDoor.Ce

