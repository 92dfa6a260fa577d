/- One that comes. -/
import Derived.Test.YtcgkgdhbipbnfaaGreatDoorQuD
namespace Go.Proofs.YtcgkgdhbipbnfaaGreatDoor.Qu
open Go Go.RowKit

/-- Its first sketch is another one, changed in place. -/
theorem Qo.stepN {base : Nat} {a : Ad} {s : St} {w w' : World} {l' : List UInt8} (h : Qo base a s w) (hC : Hl.Chg a.N w w') (hS : Hl.Sk a.N s.b l' w') (hL : Hl.Low l') : Qo base a { s with now := l' } w' := by
  have hM : Tq.Mov (fun k => k = a.N) w w' := mov_chg hC rfl
  refine ⟨h.lo, h.lN, h.lP, h.ap, cells_mov h.c hM h.ap.BN, hS, sk_mov h.old hM (fun e => h.ap.NP e.symm), hL, h.ol, h.top.mov hM (fun e => h.ap.NT e.symm) (fun g hg e => h.ap.vN (e ▸ hg)), h.win, h.glo, h.ghi⟩
theorem own_N {a : Ad} : a.own a.N := .inr (.inl rfl)
theorem own_B {a : Ad} : a.own a.B := .inl rfl
/-- Its gate is stored. -/
theorem Qo.setGate {base : Nat} {a : Ad} {s : St} {w : World} (h : Qo base a s w) (c : Bool) (l u : Int) (hl : 0 ≤ l ∧ l < 18446744073709551616) (hu : 0 ≤ u ∧ u < 18446744073709551616) :
    Qo base a { s with cl := c, lo := l, hi := u } (((w.setCell ⟨a.B, 1, none⟩ (.bool c)).setCell ⟨a.B, 2, none⟩ (.int .u64 l)).setCell ⟨a.B, 3, none⟩ (.int .u64 u)) := by
  have hM : Tq.Mov (fun k => k = a.B) w (((w.setCell ⟨a.B, 1, none⟩ (.bool c)).setCell ⟨a.B, 2, none⟩ (.int .u64 l)).setCell ⟨a.B, 3, none⟩ (.int .u64 u)) :=
    (((Tq.Mov.refl (fun k => k = a.B) w).set rfl 1 (.bool c)).set rfl 2 (.int .u64 l)).set rfl 3 (.int .u64 u)
  have hc := ((h.c.set 1 (.bool c) (by simp [cellsQ])).set 2 (.int .u64 l) (by simp [cellsQ])).set 3 (.int .u64 u) (by simp [cellsQ])
  refine ⟨h.lo, h.lN, h.lP, h.ap, ?_, sk_mov h.now hM (fun e => h.ap.BN e.symm), sk_mov h.old hM (fun e => h.ap.BP e.symm), h.nl, h.ol, h.top.mov hM (fun e => h.ap.BT e.symm) (fun g hg e => h.ap.vB (e ▸ hg)), h.win, hl, hu⟩
  simpa [cellsQ] using hc
theorem mov_gate (B : Nat) (w : World) (x y z : Value) : Tq.Mov (fun k => k = B) w (((w.setCell ⟨B, 1, none⟩ x).setCell ⟨B, 2, none⟩ y).setCell ⟨B, 3, none⟩ z) :=
  (((Tq.Mov.refl (fun k => k = B) w).set rfl 1 x).set rfl 2 y).set rfl 3 z
theorem mov_one {S : Nat → Prop} {k : Nat} {w w' : World} (h : Tq.Mov (fun j => j = k) w w') (hk : S k) : Tq.Mov S w w' := mov_weak h (fun _ _ e => e ▸ hk)
set_option maxRecDepth 100000 in
set_option maxHeartbeats 16000000 in
theorem admit_any {base : Nat} {a : Ad} {s : St} {w : World} (h : Qo base a s w) (hT : Hl.Tab w) (key metric : ByteArray) (hk : key.size ≤ maxLen) (hm : metric.size ≤ maxLen) (kn fu : Bool) :
    Calls Tryz.prog 26 #[.pointer (some ⟨a.B, 0, none⟩), .string key, .string metric, .bool kn, .bool fu] w fun e w' => e = .returned (.int .i64 (admitC s key metric kn fu)) ∧
      ∃ v', Qo base ⟨a.B, a.N, a.P, a.T, v'⟩ (admitS s key metric kn fu) w' ∧ Tq.Mov a.own w w' ∧ ∀ g, v'.ownBlock = some g → a.v.ownBlock = some g ∨ w.heap.size ≤ g := by
  unfold maxLen at hm
  rcases Nat.lt_or_ge 64 metric.size with h64 | h64
  · have h64' : (64 : Int) < (metric.size : Int) := by omega
    have H := Lib.hid h
    have h65 := Lib.hid h64
    clear h h64
    go_enter Tryz.func26, Tryz.ntmps26
    go_wp2
    go_ret
    refine ⟨?_, a.v, ?_, Tq.Mov.refl _ _, fun g hg => .inl hg⟩
    · unfold admitC
      rw [if_pos h65.out]
      rfl
    · unfold admitS
      rw [if_pos h65.out]
      exact H.out
  · have hm64 : ¬ (64 < metric.size) := by omega
    have hmi : ¬ ((64 : Int) < (metric.size : Int)) := by omega
    have eC : admitC s key metric kn fu = admC (addN s key).cl kn fu := by unfold admitC; rw [if_neg hm64]
    have eS : admitS s key metric kn fu = decS (addN s key) metric kn fu := by unfold admitS decS; rw [if_neg hm64]
    rw [eC, eS]
    have HM64 := Lib.hid h64
    have hsum := fun W => sum_any 0 0 key W hk
    rw [hash_eq] at hsum
    have hsu := hsum w.drew
    have k4 := h.c.cell 4 _ rfl
    have hl := h.c.lt
    have H := Lib.hid h
    have HT := Lib.hid hT
    clear h hT eC eS hm64 h64 hsum hk hm
    go_enter Tryz.func26, Tryz.ntmps26
    go_wp2_with fail
    go_region_with (first | (refine hsu.mono ?_; rintro e W1 ⟨rfl, hB1⟩; have hB1' := (Below.refl w.heap.size w).drew.trans hB1; have hq1 := H.out.below hB1'; have k4' := hq1.c.cell 4 _ rfl; have hl1 := hq1.c.lt) | (refine (Hl.add_any (hashN key) (hash_lt key) (HT.out.below hB1') hq1.now).mono ?_; rintro e W2 ⟨rfl, hC2, hS2⟩))
    all_goals
      have hM2 : Tq.Mov a.own w W2 := (Tq.Mov.ofB (S := a.own) hB1').trans (mov_chg (S := a.own) hC2 own_N) (fun _ _ h => h)
      have HQ2 := Lib.hid (hq1.stepN hC2 hS2 (hq1.nl.add _ _))
      have HM2 := Lib.hid hM2
      clear hsu k4 hl hB1 hB1' hq1 k4' hl1 hC2 hS2 hM2
      go_wp2_with fail
      have hma := many_any HQ2.out.drew
      have emany : many { s with now := Hl.addL s.b (hashN key) s.now } = Hl.estOf s.b (Hl.mergeL (Hl.addL s.b (hashN key) s.now) s.old) := rfl
      rw [emany] at hma
      obtain ⟨M, hMe⟩ : ∃ M, Hl.estOf s.b (Hl.mergeL (Hl.addL s.b (hashN key) s.now) s.old) = M := ⟨_, rfl⟩
      rw [hMe] at hma
      have hse := fun W => Ga.gsee s.cl s.lo s.hi (M : Int) W
      have HME := Lib.hid hMe
      have k1 : W2.cell? ⟨a.B, 1, none⟩ = some (.bool s.cl) := HQ2.out.c.cell 1 _ rfl
      have k2 : W2.cell? ⟨a.B, 2, none⟩ = some (.int .u64 s.lo) := HQ2.out.c.cell 2 _ rfl
      have k3 : W2.cell? ⟨a.B, 3, none⟩ = some (.int .u64 s.hi) := HQ2.out.c.cell 3 _ rfl
      have hl2 := HQ2.out.c.lt
      clear hMe emany
      generalize hcl : s.cl = cl at k1 hse
      generalize hlo : s.lo = lo at k2 hse
      generalize hhi : s.hi = hi at k3 hse
      have HCLO := Lib.hid (And.intro hcl (And.intro hlo hhi))
      clear hcl hlo hhi
      go_region_with (first | (refine hma.mono ?_; rintro e W3 ⟨rfl, hB3⟩; have h3 := HQ2.out.drew.below hB3; have y1 := (hB3.cell (p := ⟨a.B, 1, none⟩) hl2).trans k1; have y2 := (hB3.cell (p := ⟨a.B, 2, none⟩) hl2).trans k2; have y3 := (hB3.cell (p := ⟨a.B, 3, none⟩) hl2).trans k3; have hl3 := h3.c.lt) | (refine (hse _).mono ?_; rintro e W4 ⟨rfl, hB4⟩; have h4 := h3.below hB4; have x1 := (hB4.cell (p := ⟨a.B, 1, none⟩) hl3).trans y1; have x2 := (hB4.cell (p := ⟨a.B, 2, none⟩) hl3).trans y2; have x3 := (hB4.cell (p := ⟨a.B, 3, none⟩) hl3).trans y3; have f1 := h4.c.fro 1 _ rfl; have f2 := h4.c.fro 2 _ rfl; have f3 := h4.c.fro 3 _ rfl; have hl4 := h4.c.lt))
      all_goals
        have hQ5 : Qo base a (addN s key) (((W4.setCell ⟨a.B, 1, none⟩ (.bool (cl || decide (hi ≤ (M : Int))))).setCell ⟨a.B, 2, none⟩ (.int .u64 lo)).setCell ⟨a.B, 3, none⟩ (.int .u64 hi)) := by
          obtain ⟨e1, e2, e3⟩ := HCLO.out
          have e4 := HME.out
          subst e1 e2 e3 e4
          exact h4.setGate _ _ _ h4.glo h4.ghi
        have hM4 : Tq.Mov a.own W2 W4 := (mov_ofDrew (Tq.Mov.ofB (S := a.own) hB3)).trans (Tq.Mov.ofB (S := a.own) hB4) (fun _ _ h => h)
        have HM5 := Lib.hid ((HM2.out.trans hM4 (fun _ _ h => h)).trans (mov_one (S := a.own) (mov_gate a.B W4 (.bool (cl || decide (hi ≤ (M : Int)))) (.int .u64 lo) (.int .u64 hi)) own_B) (fun _ _ h => h))
        have hde := decide_any hQ5 metric HM64.out kn fu
        clear hQ5 hM4 h3 h4 x1 x2 x3 y1 y2 y3 f1 f2 f3 k1 k2 k3 hma hse hB3 hB4 hl2 hl3 hl4 HQ2 HCLO HME
        generalize ((W4.setCell ⟨a.B, 1, none⟩ (.bool (cl || decide (hi ≤ (M : Int))))).setCell ⟨a.B, 2, none⟩ (.int .u64 lo)).setCell ⟨a.B, 3, none⟩ (.int .u64 hi) = W5 at *
        obtain ⟨c1, hc1⟩ : ∃ c, (addN s key).cl = c := ⟨_, rfl⟩
        rw [hc1] at hde
        have HC1 := Lib.hid hc1
        clear hc1
        go_wp2_with fail
        refine hde.mono ?_
        rintro e W6 ⟨rfl, v', hQ, hM, hat⟩
        have HQ := Lib.hid hQ
        have HAT := Lib.hid hat
        have HM6 := Lib.hid (HM5.out.trans hM (fun _ _ h => h))
        have HSZ := Lib.hid HM5.out.size
        clear hQ hM hat hde HM5
        go_wp2
        go_ret
        refine ⟨by rw [HC1.out]; rfl, v', HQ.out, HM6.out, fun g hg => (HAT.out g hg).imp id (fun h => ?_)⟩
        have := HSZ.out
        omega
end Go.Proofs.YtcgkgdhbipbnfaaGreatDoor.Qu

