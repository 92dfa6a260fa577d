/- Whether one may come in. -/
import Derived.Test.YtcgkgdhbipbnfaaGreatDoorMqA
import Derived.BigRegion
import Derived.WalkMore
namespace Go.Proofs.YtcgkgdhbipbnfaaGreatDoor.Qu
open Go Go.RowKit

/-- Its top is another one, grown in place. -/
theorem Qo.stepT {base : Nat} {a : Ad} {s : St} {w w' : World} {v' : Value} {l' : List Tq.Itm} (h : Qo base a s w) (hT : Tq.Tp base a.T s.room v' l' w') (hM : Tq.Mov (Tq.OwnT a.T a.v) w w') (hat : ∀ g, v'.ownBlock = some g → a.v.ownBlock = some g ∨ w.heap.size ≤ g) :
    Qo base ⟨a.B, a.N, a.P, a.T, v'⟩ { s with l := l' } w' := by
  have nB : ¬ Tq.OwnT a.T a.v a.B := by
    rintro (e | e)
    · exact h.ap.BT e
    · exact h.ap.vB e
  have nN : ¬ Tq.OwnT a.T a.v a.N := by
    rintro (e | e)
    · exact h.ap.NT e
    · exact h.ap.vN e
  have nP : ¬ Tq.OwnT a.T a.v a.P := by
    rintro (e | e)
    · exact h.ap.PT e
    · exact h.ap.vP e
  have e : ∀ k, k < w.heap.size → a.v.ownBlock ≠ some k → v'.ownBlock ≠ some k := fun k hk hn he => by
    rcases hat k he with h1 | h1
    · exact hn h1
    · omega
  exact ⟨h.lo, h.lN, h.lP, ⟨h.ap.BN, h.ap.BP, h.ap.BT, h.ap.NP, h.ap.NT, h.ap.PT, e _ h.c.lt h.ap.vB, e _ h.now.lt h.ap.vN, e _ h.old.lt h.ap.vP⟩,
    cells_mov h.c hM nB, sk_mov h.now hM nN, sk_mov h.old hM nP, h.nl, h.ol, hT, h.win, h.glo, h.ghi⟩
theorem ownT_own {a : Ad} (k : Nat) (h : Tq.OwnT a.T a.v k) : a.own k := by
  rcases h with h | h
  · exact .inr (.inr (.inr (.inl h)))
  · exact .inr (.inr (.inr (.inr h)))
theorem mov_ofDrew {S : Nat → Prop} {w w' : World} (h : Tq.Mov S w.drew w') : Tq.Mov S w w' := ⟨h.os, h.tape, h.output, h.size, h.block⟩
set_option maxRecDepth 100000 in
set_option maxHeartbeats 4000000 in
theorem refuse_any {base : Nat} {a : Ad} {s : St} {w : World} (h : Qo base a s w) (metric : ByteArray) (hm : metric.size ≤ 64) (c d : Int) (X Y D : Nat) (hX : w.cell? ⟨X, 0, none⟩ = some (.pointer (some ⟨a.B, 0, none⟩))) (hY : w.cell? ⟨Y, 0, none⟩ = some (.string metric))
    (hD : w.cell? ⟨D, 0, none⟩ = some (.int .i64 d)) (hF : w.frozen? ⟨D, 0, none⟩ = false) (_ : X < w.heap.size) (_ : Y < w.heap.size) (hDl : D < w.heap.size) (hDo : ¬ a.own D) :
    Calls Tryz.prog 96 #[.int .i64 c, .pointer (some ⟨X, 0, none⟩), .pointer (some ⟨Y, 0, none⟩), .pointer (some ⟨D, 0, none⟩)] w fun e w' => e = .returned (.tuple #[]) ∧
      ∃ v', Qo base ⟨a.B, a.N, a.P, a.T, v'⟩ { s with l := Tq.addS s.room metric 1 s.l } w' ∧ w'.cell? ⟨D, 0, none⟩ = some (.int .i64 c) ∧ Tq.Mov (fun k => a.own k ∨ k = D) w w' ∧ ∀ g, v'.ownBlock = some g → a.v.ownBlock = some g ∨ w.heap.size ≤ g := by
  have k6 := h.c.cell 6 _ rfl
  have hl := h.c.lt
  have H := Lib.hid h
  have had := Tq.add_any h.top.drew metric 1 (by unfold maxLen; omega) (by decide)
  have HDo := Lib.hid hDo
  clear h hDo
  go_enter Tryz.func96, Tryz.ntmps96
  go_wp2_with fail
  go_region_with (refine had.mono ?_; rintro e W1 ⟨rfl, v', hT, hM, hat⟩; have yD := (hM.cell (k := D) (i := 0) hDl (fun e => HDo.out (ownT_own _ e))).trans hD; have yF := (hM.frozen (k := D) (i := 0) hDl (fun e => HDo.out (ownT_own _ e))).trans hF; have yl : D < W1.heap.size := Nat.lt_of_lt_of_le hDl hM.size)
  all_goals
    have HQ := Lib.hid (H.out.drew.stepT hT hM hat)
    have HM : Hid (Tq.Mov (fun k => a.own k ∨ k = D) w W1) := Lib.hid (mov_weak (mov_ofDrew hM) (fun k _ hk => .inl (ownT_own _ hk)))
    have HAT := Lib.hid hat
    clear hT hM hat had
    go_wp2
    go_end0
    refine ⟨rfl, v', HQ.out.mov (S := fun k => k = D) ((Tq.Mov.refl (fun k => k = D) W1).set rfl 0 (.int .i64 c)) ?_, World.cell?_setCell_same _ ⟨D, 0, none⟩ _ yD, HM.out.trans (T := fun k => k = D) ((Tq.Mov.refl (fun k => k = D) W1).set rfl 0 (.int .i64 c)) (fun _ _ hk => .inr hk), HAT.out⟩
    intro k hk hkd
    subst hkd
    rcases hk with hk | hk | hk | hk | hk
    · exact HDo.out (.inl hk)
    · exact HDo.out (.inr (.inl hk))
    · exact HDo.out (.inr (.inr (.inl hk)))
    · exact HDo.out (.inr (.inr (.inr (.inl hk))))
    · rcases HAT.out _ hk with h1 | h1
      · exact HDo.out (.inr (.inr (.inr (.inr h1))))
      · exact absurd hDl (by simpa using h1)
/-- The quota behind a decision. -/
def decS (s : St) (metric : ByteArray) (kn fu : Bool) : St := if admC s.cl kn fu = 0 then s else { s with l := Tq.addS s.room metric 1 s.l }
theorem decS_yes {s : St} {metric : ByteArray} {kn fu : Bool} (h : ¬ admC s.cl kn fu = 0) : decS s metric kn fu = { s with l := Tq.addS s.room metric 1 s.l } := by unfold decS; rw [if_neg h]
theorem decS_no {s : St} {metric : ByteArray} {kn fu : Bool} (h : admC s.cl kn fu = 0) : decS s metric kn fu = s := by unfold decS; rw [if_pos h]
/-- What holds at the head of a round. -/
structure Dz (N base : Nat) (a : Ad) (s : St) (metric : ByteArray) (w wx : World) : Prop where
  q : Qo base a s wx
  x : CellsAt N #[.pointer (some ⟨a.B, 0, none⟩)] wx
  y : CellsAt (N + 1) #[.string metric] wx
  d : CellsAt (N + 2) #[.int .i64 0] wx
  b : Below N w wx
theorem Dz.below {N base : Nat} {a : Ad} {s : St} {metric : ByteArray} {w wx wy : World} (h : Dz N base a s metric w wx) (hB : Below wx.heap.size wx wy) : Dz N base a s metric w wy :=
  ⟨h.q.below hB, h.x.below hB, h.y.below hB, h.d.below hB, h.b.trans (hB.mono (by have := h.x.lt; omega))⟩
theorem dec_world {base : Nat} {a : Ad} {s : St} {w : World} (h : Qo base a s w) (metric : ByteArray) (N : Nat) (hN : w.heap.size = N) :
    Dz N base a s metric w (((w.alloc (.cells #[.pointer (some ⟨a.B, 0, none⟩)] 32)).alloc (.cells #[.string metric] 9)).alloc (.cells #[.int .i64 0] 33)) := by
  subst hN
  have b1 : Below w.heap.size w (w.alloc (.cells #[.pointer (some ⟨a.B, 0, none⟩)] 32)) := (Below.refl _ _).alloc (Nat.le_refl _) _
  have b2 := b1.alloc (by simp) (.cells #[.string metric] 9)
  have b3 := b2.alloc (by simp; omega) (.cells #[.int .i64 0] 33)
  exact ⟨h.below b3, ((CellsAt.new _ _ _).past _).past _, (CellsAt.newAt _ _ _ _ (by simp)).past _, CellsAt.newAt _ _ _ _ (by simp), b3⟩
theorem idx0 (c f : Bool) (w : World) : (Instr.index 164 (.agg #[.bool c, .int .i64 10, .bool f, .int .i64 4]) (.int .i64 0)).run Tryz.prog w = .ok (.agg #[.bool c, .int .i64 10]) w := by kernel_rfl
theorem idx1 (c f : Bool) (w : World) : (Instr.index 164 (.agg #[.bool c, .int .i64 10, .bool f, .int .i64 4]) (.int .i64 1)).run Tryz.prog w = .ok (.agg #[.bool f, .int .i64 4]) w := by kernel_rfl
attribute [local go_sem] idx0 idx1
set_option maxRecDepth 100000 in
set_option maxHeartbeats 16000000 in
theorem decide_any {base : Nat} {a : Ad} {s : St} {w : World} (h : Qo base a s w) (metric : ByteArray) (hm : metric.size ≤ 64) (kn fu : Bool) :
    Calls Tryz.prog 63 #[.pointer (some ⟨a.B, 0, none⟩), .string metric, .bool kn, .bool fu] w fun e w' => e = .returned (.int .i64 (admC s.cl kn fu)) ∧
      ∃ v', Qo base ⟨a.B, a.N, a.P, a.T, v'⟩ (decS s metric kn fu) w' ∧ Tq.Mov a.own w w' ∧ ∀ g, v'.ownBlock = some g → a.v.ownBlock = some g ∨ w.heap.size ≤ g := by
  have HD0 := Lib.hid (dec_world h metric w.heap.size rfl)
  obtain ⟨cl, hcl⟩ : ∃ c, s.cl = c := ⟨_, rfl⟩
  have HOW : Hid (∀ k, a.own k → k < w.heap.size) := Lib.hid (fun k hk => by have := (h.lt k hk).2; omega)
  have HCL := Lib.hid hcl
  have k1' := h.c.cell 1 _ rfl
  have hl' := h.c.lt
  rw [hcl]
  clear h hcl
  go_enter Tryz.func63, Tryz.ntmps63
  go_wp2
  go_step3
  go_wp2
  have hsz : (((w.alloc (.cells #[.pointer (some ⟨a.B, 0, none⟩)] 32)).alloc (.cells #[.string metric] 9)).alloc (.cells #[.int .i64 0] 33)).heap.size = w.heap.size + 3 := by simp
  generalize ((w.alloc (.cells #[.pointer (some ⟨a.B, 0, none⟩)] 32)).alloc (.cells #[.string metric] 9)).alloc (.cells #[.int .i64 0] 33) = W3 at *
  have HSZ := Lib.hid hsz
  clear hsz k1' hl'
  have k1 := HD0.out.q.c.cell 1 _ rfl
  have hl := HD0.out.q.c.lt
  have hx := HD0.out.x.cell 0 _ rfl
  have hxl := HD0.out.x.lt
  simp only [cellsQ, List.getElem_toArray, List.getElem_cons_zero, List.getElem_cons_succ] at hx k1
  rw [HCL.out] at k1
  generalize hN : w.heap.size = N at *
  have HN := Lib.hid hN
  clear hN
  rw [show N + 1 + 1 = N + 2 from rfl]
  go_step3
  go_wp2
  have HRT : Hid (∀ W W' : World, Below N w W → ∀ v' : Value, Tq.Mov (fun k => a.own k ∨ k = N + 2) W W' → (∀ g, v'.ownBlock = some g → a.v.ownBlock = some g ∨ W.heap.size ≤ g) → Tq.Mov a.own w W' ∧ ∀ g, v'.ownBlock = some g → a.v.ownBlock = some g ∨ N ≤ g) := Lib.hid (fun W W' hB v' hM hat => by
    have h1 : Tq.Mov a.own w W := Tq.Mov.ofB (by rw [HN.out]; exact hB)
    refine ⟨h1.trans hM (fun i hi (h : a.own i ∨ i = N + 2) => h.elim id (fun e => absurd hi (by rw [HN.out]; omega))), fun g hg => ?_⟩
    have h3 : a.v.ownBlock = some g ∨ W.heap.size ≤ g := hat g hg
    have h4 := hB.size
    rw [HN.out] at h4
    rcases h3 with h3 | h3
    · exact .inl h3
    · exact .inr (by omega))
  have HNO : Hid (∀ W : World, Dz N base a s metric w W → Tq.Mov a.own w W ∧ ∀ g, a.v.ownBlock = some g → a.v.ownBlock = some g ∨ N ≤ g) := Lib.hid (fun W h => ⟨Tq.Mov.ofB (by rw [HN.out]; exact h.b), fun g hg => .inl hg⟩)
  clear k1 hl hx hxl
  go_loopg [23] 2 (fun g i wx => Dz N base a s metric w wx ∧ ((g = 2 ∧ i = .int .i64 0) ∨ (g = 1 ∧ i = .int .i64 1 ∧ kn = false ∧ cl = false) ∨ (g = 0 ∧ i = .int .i64 2 ∧ kn = false ∧ cl = false ∧ fu = false)))
  case atStart => exact ⟨HD0.out, .inl ⟨rfl, rfl⟩⟩
  case round =>
    clear HD0
    obtain ⟨hD, ⟨rfl, rfl⟩ | ⟨rfl, rfl, rfl, rfl⟩ | ⟨rfl, rfl, rfl, rfl, rfl⟩⟩ := hrel
    · have kd := hD.d.cell 0 _ rfl
      have kl := hD.d.lt
      simp only [List.getElem_toArray, List.getElem_cons_zero] at kd
      have HD := Lib.hid hD
      clear hD
      cases kn
      · cases cl
        · have HD2 := Lib.hid (HD.out.below ((Below.refl _ _).alloc (Nat.le_refl _) (.cells #[.bool false, .int .i64 10] 163)))
          go_wp2
          go_roundg 1
          case measure => omega
          case rel => exact ⟨HD2.out, .inr (.inl ⟨rfl, by go_num, by simp, by simp⟩)⟩
        · have hD2 := HD.out.below ((Below.refl _ _).alloc (Nat.le_refl _) (.cells #[.bool true, .int .i64 10] 163))
          have hrf := refuse_any hD2.q metric hm 10 0 N (N + 1) (N + 2) (hD2.x.cell 0 _ rfl) (hD2.y.cell 0 _ rfl) (hD2.d.cell 0 _ rfl) (hD2.d.fro 0 _ rfl) hD2.x.lt hD2.y.lt hD2.d.lt (fun h => by have := HOW.out _ h; omega)
          have HD2 := Lib.hid hD2
          clear hD2
          go_wp2_with fail
          refine hrf.mono ?_
          rintro e W5 ⟨rfl, v', hQ, hd, hM, hat⟩
          have HR := Lib.hid (HRT.out _ _ HD2.out.b v' hM hat)
          have HQ := Lib.hid hQ
          have hdl : N + 2 < W5.heap.size := Nat.lt_of_lt_of_le HD2.out.d.lt hM.size
          clear hrf hQ hM hat kd kl
          go_wp2
          (try rw [Exit.noGoto_ret])
          go_ret
          rw [HN.out]
          refine ⟨rfl, v', ?_, HR.out⟩
          rw [decS_yes (by rw [HCL.out]; cases fu <;> decide)]
          exact HQ.out
      · have HD2 : Hid (∀ c : Bool, Dz N base a s metric w (wr.alloc (.cells #[.bool c, .int .i64 10] 163))) := Lib.hid (fun c => HD.out.below ((Below.refl _ _).alloc (Nat.le_refl _) _))
        go_wp2
        (try rw [Exit.noGoto_ret])
        go_ret
        rw [HN.out]
        refine ⟨rfl, a.v, ?_, HNO.out _ (HD2.out _)⟩
        rw [decS_no (by unfold admC; rfl)]
        exact (HD2.out _).q
    · have kd := hD.d.cell 0 _ rfl
      have kl := hD.d.lt
      simp only [List.getElem_toArray, List.getElem_cons_zero] at kd
      have HD := Lib.hid hD
      clear hD
      cases fu
      · have HD2 := Lib.hid (HD.out.below ((Below.refl _ _).alloc (Nat.le_refl _) (.cells #[.bool false, .int .i64 4] 163)))
        go_wp2
        go_roundg 0
        case measure => omega
        case rel => exact ⟨HD2.out, .inr (.inr ⟨rfl, by go_num, by simp, by simp, by simp⟩)⟩
      · have hD2 := HD.out.below ((Below.refl _ _).alloc (Nat.le_refl _) (.cells #[.bool true, .int .i64 4] 163))
        have hrf := refuse_any hD2.q metric hm 4 0 N (N + 1) (N + 2) (hD2.x.cell 0 _ rfl) (hD2.y.cell 0 _ rfl) (hD2.d.cell 0 _ rfl) (hD2.d.fro 0 _ rfl) hD2.x.lt hD2.y.lt hD2.d.lt (fun h => by have := HOW.out _ h; omega)
        have HD2 := Lib.hid hD2
        clear hD2
        go_wp2_with fail
        refine hrf.mono ?_
        rintro e W5 ⟨rfl, v', hQ, hd, hM, hat⟩
        have HR := Lib.hid (HRT.out _ _ HD2.out.b v' hM hat)
        have HQ := Lib.hid hQ
        have hdl : N + 2 < W5.heap.size := Nat.lt_of_lt_of_le HD2.out.d.lt hM.size
        clear hrf hQ hM hat kd kl
        go_wp2
        (try rw [Exit.noGoto_ret])
        go_ret
        rw [HN.out]
        refine ⟨rfl, v', ?_, HR.out⟩
        rw [decS_yes (by rw [HCL.out]; decide)]
        exact HQ.out
    · have kd := hD.d.cell 0 _ rfl
      have kl := hD.d.lt
      simp only [List.getElem_toArray, List.getElem_cons_zero] at kd
      have HD := Lib.hid hD
      clear hD
      go_wp2
      (try rw [Exit.noGoto_ret])
      go_ret
      rw [HN.out]
      refine ⟨rfl, a.v, ?_, HNO.out _ HD.out⟩
      rw [decS_no (by rw [HCL.out]; decide)]
      exact HD.out.q
end Go.Proofs.YtcgkgdhbipbnfaaGreatDoor.Qu

