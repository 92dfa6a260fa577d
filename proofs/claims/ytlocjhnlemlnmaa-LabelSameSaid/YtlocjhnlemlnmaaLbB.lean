/- append of labels that lie somewhere; two rows merged. -/
import Derived.Test.YtlocjhnlemlnmaaLbA
import Derived.Laws.AppendOwnNone
namespace Go.Proofs.Ytlocjhnlemlnmaa.Lx
open Go Go.RowKit

theorem append_labs {B : Nat} {v : Value} {M a : List LabB} {w : World} (ty : TypeId) (hO : OwnL B v M w) (p : Option Addr) (c : Nat) (hp : p = none → c = 0) (ha : LbAt p a w) (hlen : M.length + a.length ≤ maxLab) (hB : B ≤ w.heap.size) :
    ∃ v' w', (Builtin.append_ #[23, 23] ty #[v, .slice p a.length c]).run Try.prog w = .ok v' w' ∧ GrewL B v (M ++ a) w v' w' := by
  unfold maxLab at hlen
  obtain ⟨i, hi, hz0, hz1, hz2⟩ := info_parts2 info_lab
  cases p with
  | none =>
    obtain rfl : c = 0 := hp rfl
    have h0 : a = [] := by
      cases a with
      | nil => rfl
      | cons x r => obtain ⟨C, off, h, _⟩ := ha 0 (by simp); cases h
    subst h0
    refine ⟨v, w, run_append_owned_none (P := Try.prog) (w := w) B 23 ty 47 i 2 Try.underlying23 hi v M.length (flatL M) hO, ?_⟩
    rw [List.append_nil]
    exact GrewL.refl hO
  | some ad =>
    obtain ⟨C, off, spot⟩ := ad
    have hsp : a = [] ∨ spot = none := by
      cases a with
      | nil => exact .inl rfl
      | cons x r => obtain ⟨C, off, h, _⟩ := ha 0 (by simp); simp only [Option.some.injEq, Addr.mk.injEq] at h; exact .inr h.2.2
    obtain ⟨v', w', h1, h2, h3, h4⟩ := run_append_at (P := Try.prog) w B 23 ty 47 i (.agg #[.string ⟨#[]⟩, .string ⟨#[]⟩]) 2 32 Try.underlying23 hi hz0 hz1 hz2 rfl (by decide) v M.length (flatL M) hO ⟨C, off, spot⟩ a.length c (flatL a) (flatL_len a) (by
      rcases hsp with rfl | rfl
      · intro j u hj; simp [flatL] at hj
      · exact ha.flat) (flatL_one _) (by unfold maxLen; omega) (by omega) hB
    exact ⟨v', w', h1, rowL_of rfl h2, Mov.grown h3, h4⟩

/-- A row with room behind it. -/
abbrev roomy (g n cap : Nat) : Value := .slice (some ⟨g, 0, none⟩) n cap
theorem append_stay {B g cap : Nat} {M a : List LabB} {w : World} (ty : TypeId) (hO : OwnL B (roomy g M.length cap) M w) (p : Option Addr) (c : Nat) (hp : p = none → c = 0) (ha : LbAt p a w) (hroom : M.length + a.length ≤ cap) (hlen : M.length + a.length ≤ maxLab) (hB : B ≤ w.heap.size) :
    ∃ w', (Builtin.append_ #[23, 23] ty #[roomy g M.length cap, .slice p a.length c]).run Try.prog w = .ok (roomy g (M.length + a.length) cap) w' ∧ OwnL B (roomy g (M.length + a.length) cap) (M ++ a) w' ∧ Mov (fun j => j = g) w w' := by
  obtain ⟨v', w', h1, h2, h3, _⟩ := append_labs ty hO p c hp ha hlen hB
  have hv : v' = roomy g (M.length + a.length) cap := by
    obtain ⟨i, hi, hz0, hz1, hz2⟩ := info_parts2 info_lab
    cases p with
    | none =>
      obtain rfl : c = 0 := hp rfl
      have h0 : a = [] := by
        cases a with
        | nil => rfl
        | cons x r => obtain ⟨C, off, h, _⟩ := ha 0 (by simp); cases h
      subst h0
      have := run_append_owned_none (P := Try.prog) (w := w) B 23 ty 47 i 2 Try.underlying23 hi (roomy g M.length cap) M.length (flatL M) hO
      rw [show ([] : List LabB).length = 0 from rfl] at h1
      rw [this] at h1
      simp only [Result.ok.injEq] at h1
      exact h1.1.symm
    | some ad =>
      obtain ⟨C, off, spot⟩ := ad
      have hsp : a = [] ∨ spot = none := by
        cases a with
        | nil => exact .inl rfl
        | cons x r => obtain ⟨C, off, h, _⟩ := ha 0 (by simp); simp only [Option.some.injEq, Addr.mk.injEq] at h; exact .inr h.2.2
      rcases hO.2 with ⟨hv, _⟩ | ⟨g', cap', cur, hv, _, hgg, hnc, hcm, hcs, _⟩
      · cases hv
      simp only [Value.slice.injEq, Option.some.injEq, Addr.mk.injEq, and_true, true_and] at hv
      obtain ⟨rfl, rfl⟩ := hv
      have hfit : M.length * i.size + (flatL a).length ≤ cur.size := by rw [flatL_len, hz1, hcs, ← Nat.add_mul]; exact Nat.mul_le_mul_right _ hroom
      have := run_append_room (P := Try.prog) w 23 ty 47 i Try.underlying23 hi g M.length cap cur hgg ⟨C, off, spot⟩ a.length c (flatL a) (by rw [hz1]; exact flatL_len a) (by
        rcases hsp with rfl | rfl
        · intro j u hj; simp [flatL] at hj
        · exact ha.flat) (flatL_one _) hroom hfit
      rw [h1] at this
      simp only [Result.ok.injEq] at this
      exact this.1
  subst hv
  exact ⟨w', h1, h2, ⟨h3.os, h3.tape, h3.output, h3.size, fun k hk hn => h3.block k hk (fun e => hn (by simpa [Value.ownBlock] using e.symm))⟩⟩
/-- append of one label where there is room, as one step of a region that draws. -/
theorem step_label_stay {ops : Array Oper} {o : Oper} {a : Act} {w : World} {K : Act → World → Prop} {Q : Exit → Act → World → Prop} {E : Prop} {B g cap : Nat} {M : List LabB}
    (hg : o.guard = none) (s x : Operand) (hop : o.op = Op.call { callee := Callee.builtin Builtin.append, args := #[s, x], argTypes := #[23, 23] }) (hs : a.eval s = roomy g M.length cap)
    (h : LabB) (b : Nat) (hx : a.eval x = .slice (some ⟨b, 0, none⟩) 1 1) (hnew : LbAt (some ⟨b, 0, none⟩) [h] w) (hO : OwnL B (roomy g M.length cap) M w) (hroom : M.length + 1 ≤ cap) (hlen : M.length + 1 ≤ maxLab) (hB : B ≤ w.heap.size)
    (hK : ∀ w', OwnL B (roomy g (M.length + 1) cap) (M ++ [h]) w' → Mov (fun j => j = g) w w' → K (a.put o.dst (roomy g (M.length + 1) cap)) w') :
    if Region.wanted o (yielded ops a.tmps) = true then Oper.wp Try.prog o a w K Q else E := by
  have hw : Region.wanted o (yielded ops a.tmps) = true := by simp [Region.wanted, hg]
  rw [if_pos hw]
  obtain ⟨w', hrun, h2, h3⟩ := append_stay o.type hO (some ⟨b, 0, none⟩) 1 (fun h => by cases h) hnew hroom hlen hB
  unfold Oper.wp execOp
  rw [show ([h] : List LabB).length = 1 from rfl] at hrun h2
  simp only [hop, resolve, invoke, builtin, Sem.run_bind, Sem.run_pure, Result.andThen_ok, List.map_toArray, List.map_cons, List.map_nil, hs, hx, hrun]
  exact hK w' h2 h3
theorem lb_new (x : LabB) (T : TypeId) (w : World) (h1 : x.1.length ≤ maxLen) (h2 : x.2.length ≤ maxLen) : LbAt (some ⟨w.heap.size, 0, none⟩) [x] (w.alloc (.cells #[.string (tx x.1), .string (tx x.2)] T)) := fun k hk => by
  obtain rfl : k = 0 := by simpa using hk
  exact ⟨w.heap.size, 0, rfl, by simp, by rw [World.cell?_alloc_new]; rfl, by rw [World.cell?_alloc_new]; rfl, h1, h2⟩

/-- What is told of two rows merged. -/
def MergeEnd (B g cap : Nat) (M : List LabB) (w : World) : Option (List LabB) → Ending → World → Prop
  | none, e, w' => e = .returned (.tuple #[.slice none 0 0, .bool false]) ∧ Mov (fun j => j = g) w w'
  | some s, e, w' => e = .returned (.tuple #[roomy g (M.length + s.length) cap, .bool true]) ∧ OwnL B (roomy g (M.length + s.length) cap) (M ++ s) w' ∧ Mov (fun j => j = g) w w'
/-- Not the row's own block. -/
def Off (p : Option Addr) (g : Nat) : Prop := ∀ C off, p = some ⟨C, off, none⟩ → ¬ C = g

theorem LbAt.cut {C off d : Nat} {r : List LabB} {w : World} (h : LbAt (some ⟨C, off + 2, none⟩) r w) (hd : r.length + 1 ≤ d) : LbAt (if d = 1 then some ⟨C, off, none⟩ else some ⟨C, off + 2, none⟩) r w := by
  split
  · obtain rfl : r = [] := List.eq_nil_of_length_eq_zero (by omega)
    exact LbAt.nil _ _
  · exact h
theorem Off.cut {C off d g : Nat} (h : Off (some ⟨C, off, none⟩) g) : Off (if d = 1 then some ⟨C, off, none⟩ else some ⟨C, off + 2, none⟩) g := fun C' off' e => by
  split at e
  · exact h C' off' e
  · simp only [Option.some.injEq, Addr.mk.injEq] at e
    exact h C' off (by rw [e.1])
theorem some_cut {C off d : Nat} (k : Nat) : (if d = 1 then some (⟨C, off, none⟩ : Addr) else some ⟨C, off + 2, none⟩) = none → k = 0 := fun h => by
  split at h <;> cases h

set_option maxRecDepth 100000 in
set_option maxHeartbeats 4000000 in
theorem merge_any (B g cap : Nat) (M : List LabB) (p q : Option Addr) (c d : Nat) (a b : List LabB) (hp : p = none → c = 0) (hq : q = none → d = 0) (hca : a.length ≤ c) (hdb : b.length ≤ d) (hlen : M.length + (a.length + b.length) ≤ maxLab) (hcap : M.length + (a.length + b.length) ≤ cap) (w : World) (hO : OwnL B (roomy g M.length cap) M w) (hB : B ≤ w.heap.size) (ha : LbAt p a w) (hb : LbAt q b w) (hpv : Off p g) (hqv : Off q g) :
    Calls Try.prog 29 #[roomy g M.length cap, .slice p a.length c, .slice q b.length d] w (MergeEnd B g cap M w (mergeL a b)) := by
  unfold maxLab at hlen
  obtain ⟨R, hR⟩ : ∃ R, mergeL a b = R := ⟨_, rfl⟩
  rw [hR]
  have HR : Hid (R.map (M ++ ·) = (mergeL a b).map (M ++ ·)) := Lib.hid (by rw [hR])
  have HG : Hid (OwnL B (roomy g M.length cap) M w ∧ Mov (fun j => j = g) w w) := Lib.hid ⟨hO, Mov.refl _ _⟩
  have HA := Lib.hid ha
  have HC := Lib.hid hb
  have HP := Lib.hid hpv
  have HQ := Lib.hid hqv
  have HBw := Lib.hid hB
  clear hR hO ha hb hpv hqv
  go_enter Try.func29, Try.ntmps29
  go_wp2
  go_loopg [0, 1, 2] (a.length + b.length) (fun gg s0 s1 s2 wx => ∃ (x y : List LabB) (p q : Option Addr) (c d : Nat) (A : List LabB), gg = x.length + y.length ∧ s0 = roomy g A.length cap ∧ s1 = .slice p x.length c ∧ s2 = .slice q y.length d ∧ (p = none → c = 0) ∧ (q = none → d = 0) ∧ x.length ≤ c ∧ y.length ≤ d ∧ A.length + (x.length + y.length) ≤ 4398046511104 ∧ A.length + (x.length + y.length) ≤ cap ∧ Hid (R.map (M ++ ·) = (mergeL x y).map (A ++ ·)) ∧ Hid (OwnL B (roomy g A.length cap) A wx ∧ Mov (fun j => j = g) w wx) ∧ Hid (LbAt p x w) ∧ Hid (LbAt q y w) ∧ Hid (Off p g) ∧ Hid (Off q g))
  case atStart => exact ⟨a, b, p, q, c, d, M, rfl, rfl, rfl, rfl, hp, hq, hca, hdb, hlen, hcap, HR, HG, HA, HC, HP, HQ⟩
  case round =>
    clear HR HG HA HC HP HQ hp hq hca hdb hlen hcap
    obtain ⟨x, y, p, q, c, d, A, rfl, rfl, rfl, rfl, hp, hq, hxc, hyd, hlen, hcap, HR, HG, HA, HC, HP, HQ⟩ := hrel
    by_cases hend : x = [] ∨ y = []
    · have hR : R.map (M ++ ·) = some (A ++ x ++ y) := by
        rw [HR.out]
        rcases hend with rfl | rfl
        · simp [mergeL]
        · rw [mergeL_nil_right]; simp
      obtain ⟨s, rfl, hs⟩ := Option.map_eq_some_iff.1 hR
      have hMx := HG.out.2
      have hBr : B ≤ wr.heap.size := Nat.le_trans HBw.out hMx.size
      obtain ⟨w1, hr1, hO1, hM1⟩ := append_stay 23 HG.out.1 p c hp (HA.out.mov hMx (fun C off h => HP.out C off h)) (by omega) (by show _ ≤ (4398046511104 : Nat); omega) hBr
      have hMa := hMx.trans hM1 (fun _ _ h => h)
      have hO1' : OwnL B (roomy g (A ++ x).length cap) (A ++ x) w1 := by rw [List.length_append]; exact hO1
      obtain ⟨w2, hr2, hO2, hM2⟩ := append_stay 23 hO1' q d hq (HC.out.mov hMa (fun C off h => HQ.out C off h)) (by rw [List.length_append]; omega) (by rw [List.length_append]; show _ ≤ (4398046511104 : Nat); omega) (Nat.le_trans HBw.out hMa.size)
      have hMb := hMa.trans hM2 (fun _ _ h => h)
      have hl : M.length + s.length = A.length + x.length + y.length := by
        have := congrArg List.length hs
        simp only [List.length_append] at this
        omega
      have HL := Lib.hid hl
      rw [← hs] at hO2
      rw [List.length_append] at hr2 hO2
      clear hl
      have HE := Lib.hid hO2
      have HF := Lib.hid hMb
      have hz : (0 < x.length) = False ∨ (0 < x.length) ∧ (0 < y.length) = False := by
        rcases hend with rfl | rfl
        · exact .inl (by simp)
        · cases x with
          | nil => exact .inl (by simp)
          | cons => exact .inr ⟨by simp, by simp⟩
      clear HR HG HA HC HP HQ hend hR hs hMx hM1 hO1 hO1' hM2 hO2 hMa hMb hp hq
      rcases hz with hz | ⟨hz, hz2⟩
      all_goals
        go_wp2_with (first | (at_builtin; refine Lib.wpList_append_run _ rfl _ _ _ _ rfl _ _ rfl rfl _ _ hr1 ?_) | (at_builtin; refine Lib.wpList_append_run _ rfl _ _ _ _ rfl _ _ rfl rfl _ _ hr2 ?_))
        go_ret2
        exact ⟨by rw [HL.out]; rfl, by rw [HL.out]; exact HE.out, HF.out⟩
    · simp only [not_or] at hend
      obtain ⟨x0, xr, rfl⟩ := List.exists_cons_of_ne_nil hend.1
      obtain ⟨y0, yr, rfl⟩ := List.exists_cons_of_ne_nil hend.2
      clear hend
      have hM := HG.out.2
      obtain ⟨C, off, rfl, hC, c0, c1, b0, b1, hx1⟩ := (HA.out.mov hM (fun C off h => HP.out C off h)).head
      obtain ⟨D, off2, rfl, hD, d0, d1, e0, e1, hy1⟩ := (HC.out.mov hM (fun C off h => HQ.out C off h)).head
      have q1 := Beh.cell hC c0
      have q2 := Beh.cell hD d0
      have hcmp := fun (p : Beh wr) => Try.strings_Compare (tx x0.1) (tx y0.1) p.u
      simp only [list_tx] at hcmp
      by_cases heq : x0.1 = y0.1
      · rw [heq, cmp_same] at hcmp
        rw [heq] at q1
        have hR : R = none := by
          have := HR.out
          rw [mergeL_cons, if_pos heq] at this
          simpa using this
        subst hR
        have HM := Lib.hid hM
        clear HR HG HA HC HP HQ hp hq hM heq b0 b1 e0 e1 hx1 hy1 c0 c1 d0 d1
        go_wp2
        refine wp_region_beh (by kernel_rfl) (by kernel_rfl) ?_
        iterate 8 (quiet_step (fail))
        iterate 2 (quiet_step (exact calls_same _ (hcmp _)))
        refine wpQuiet_nil ?_
        intro W hw'
        obtain ⟨pW, hw''⟩ := hw'
        have hBW := pW.h
        rw [← hw''] at hBW
        clear hw''
        clear hcmp q1 q2
        go_wp2
        go_ret2
        exact ⟨rfl, HM.out.trans (Mov.ofB hBW) (fun _ _ h => h)⟩
      · by_cases hlt : ltB y0.1 x0.1 = true
        · rw [cmp_gt hlt] at hcmp
          have HR2 : Hid (R.map (M ++ ·) = (mergeL yr (x0 :: xr)).map (A ++ [y0] ++ ·)) := Lib.hid (by
            have this := HR.out
            rw [mergeL_cons, if_neg heq, if_pos hlt] at this
            rw [this]
            cases mergeL yr (x0 :: xr) <;> simp)
          have HA2 : Hid (LbAt (some ⟨D, off2 + 2, none⟩) yr w) := Lib.hid (HC.out.drop 1)
          obtain ⟨P, hP, hPn, HA3, HP3⟩ : ∃ P, (if d = 1 then some (⟨D, off2, none⟩ : Addr) else some ⟨D, off2 + 2, none⟩) = P ∧ (P = none → d - 1 = 0) ∧ Hid (LbAt P yr w) ∧ Hid (Off P g) := ⟨_, rfl, some_cut _, Lib.hid (HA2.out.cut (by simpa using hyd)), Lib.hid (HQ.out.cut)⟩
          have hBr : B ≤ wr.heap.size := Nat.le_trans HBw.out hM.size
          have hne : (1 : Int) ≤ (yr.length : Int) + 1 := by omega
          simp only [List.length_cons] at hxc hyd hlen hcap
          clear HR heq hp hq hM hx1 hy1
          go_wp2
          refine wp_region_beh (by kernel_rfl) (by kernel_rfl) ?_
          iterate 8 (quiet_step (fail))
          iterate 2 (quiet_step (exact calls_same _ (hcmp _)))
          refine wpQuiet_nil ?_
          intro W hw'
          obtain ⟨pW, hw''⟩ := hw'
          have hBW := pW.h
          rw [← hw''] at hBW
          clear hw''
          have k0 : W.cell? ⟨D, off2, none⟩ = some (.string (tx y0.1)) := (hBW.cell (p := ⟨D, off2, none⟩) hD).trans d0
          have k1 : W.cell? ⟨D, off2 + 1, none⟩ = some (.string (tx y0.2)) := (hBW.cell (p := ⟨D, off2 + 1, none⟩) hD).trans d1
          have HG2 : Hid (OwnL B (roomy g A.length cap) A W ∧ Mov (fun j => j = g) w W) := Lib.hid ⟨HG.out.1.below hBW, HG.out.2.trans (Mov.ofB hBW) (fun _ _ h => h)⟩
          have HBW : Hid (B ≤ W.heap.size) := Lib.hid (Nat.le_trans hBr hBW.size)
          have hBs := HBW.out
          clear hcmp q1 q2 HG c0 c1 d0 d1 hC hD hBW hBr
          go_wp2
          go_region_law ((refine step_label_stay (M := A) rfl (.tmp 34) (.tmp 38) rfl (by simp [Act.eval]) y0 W.heap.size (by simp [Act.eval]) (lb_new y0 47 W e0 e1) (World.ownsRow.alloc HG2.out.1 _) (by omega) (by show _ ≤ (4398046511104 : Nat); omega) (by simp; omega) ?_); (intro w1' ho hg); have HN : Hid (OwnL B (roomy g (A ++ [y0]).length cap) (A ++ [y0]) w1' ∧ Mov (fun j => j = g) w w1') := Lib.hid ⟨by rw [List.length_append]; exact ho, HG2.out.2.trans (((Mov.refl _ W).alloc _).drew.trans hg (fun _ _ h => h)) (fun _ _ h => h)⟩; clear ho hg)
          all_goals
            go_wp2
            go_roundg (yr.length + (x0 :: xr).length)
            case measure => simp only [List.length_cons]; omega
            case rel =>
              exact ⟨yr, x0 :: xr, P, some ⟨C, off, none⟩, d - 1, c, A ++ [y0], rfl, by simp, rfl, rfl, hPn, (fun h => by cases h), by omega, by simp only [List.length_cons]; omega, by simp only [List.length_cons, List.length_append, List.length_nil]; omega, by simp only [List.length_cons, List.length_append, List.length_nil]; omega, HR2, HN, HA3, HA, HP3, HP⟩
        · have hlt : ltB x0.1 y0.1 = true := by
            by_cases g : ltB x0.1 y0.1 = true
            · exact g
            · exact absurd (ltB_tri (by simpa using g) (by simpa using hlt)) heq
          rw [cmp_lt hlt] at hcmp
          have HR2 : Hid (R.map (M ++ ·) = (mergeL xr (y0 :: yr)).map (A ++ [x0] ++ ·)) := Lib.hid (by
            have this := HR.out
            rw [mergeL_cons, if_neg heq, if_neg (by rw [ltB_asymm hlt]; decide)] at this
            rw [this]
            cases mergeL xr (y0 :: yr) <;> simp)
          have HA2 : Hid (LbAt (some ⟨C, off + 2, none⟩) xr w) := Lib.hid (HA.out.drop 1)
          obtain ⟨P, hP, hPn, HA3, HP3⟩ : ∃ P, (if c = 1 then some (⟨C, off, none⟩ : Addr) else some ⟨C, off + 2, none⟩) = P ∧ (P = none → c - 1 = 0) ∧ Hid (LbAt P xr w) ∧ Hid (Off P g) := ⟨_, rfl, some_cut _, Lib.hid (HA2.out.cut (by simpa using hxc)), Lib.hid (HP.out.cut)⟩
          have hBr : B ≤ wr.heap.size := Nat.le_trans HBw.out hM.size
          have hne : (1 : Int) ≤ (xr.length : Int) + 1 := by omega
          simp only [List.length_cons] at hxc hyd hlen hcap
          clear HR heq hp hq hM hx1 hy1
          go_wp2
          refine wp_region_beh (by kernel_rfl) (by kernel_rfl) ?_
          iterate 8 (quiet_step (fail))
          iterate 2 (quiet_step (exact calls_same _ (hcmp _)))
          refine wpQuiet_nil ?_
          intro W hw'
          obtain ⟨pW, hw''⟩ := hw'
          have hBW := pW.h
          rw [← hw''] at hBW
          clear hw''
          have k0 : W.cell? ⟨C, off, none⟩ = some (.string (tx x0.1)) := (hBW.cell (p := ⟨C, off, none⟩) hC).trans c0
          have k1 : W.cell? ⟨C, off + 1, none⟩ = some (.string (tx x0.2)) := (hBW.cell (p := ⟨C, off + 1, none⟩) hC).trans c1
          have HG2 : Hid (OwnL B (roomy g A.length cap) A W ∧ Mov (fun j => j = g) w W) := Lib.hid ⟨HG.out.1.below hBW, HG.out.2.trans (Mov.ofB hBW) (fun _ _ h => h)⟩
          have HBW : Hid (B ≤ W.heap.size) := Lib.hid (Nat.le_trans hBr hBW.size)
          have hBs := HBW.out
          clear hcmp q1 q2 HG c0 c1 d0 d1 hC hD hBW hBr
          go_wp2
          go_region_law ((refine step_label_stay (M := A) rfl (.tmp 34) (.tmp 38) rfl (by simp [Act.eval]) x0 W.heap.size (by simp [Act.eval]) (lb_new x0 47 W b0 b1) (World.ownsRow.alloc HG2.out.1 _) (by omega) (by show _ ≤ (4398046511104 : Nat); omega) (by simp; omega) ?_); (intro w1' ho hg); have HN : Hid (OwnL B (roomy g (A ++ [x0]).length cap) (A ++ [x0]) w1' ∧ Mov (fun j => j = g) w w1') := Lib.hid ⟨by rw [List.length_append]; exact ho, HG2.out.2.trans (((Mov.refl _ W).alloc _).drew.trans hg (fun _ _ h => h)) (fun _ _ h => h)⟩; clear ho hg)
          all_goals
            go_wp2
            go_roundg (xr.length + (y0 :: yr).length)
            case measure => simp only [List.length_cons]; omega
            case rel =>
              exact ⟨xr, y0 :: yr, P, some ⟨D, off2, none⟩, c - 1, d, A ++ [x0], rfl, by simp, rfl, rfl, hPn, (fun h => by cases h), by omega, by simp only [List.length_cons]; omega, by simp only [List.length_cons, List.length_append, List.length_nil]; omega, by simp only [List.length_cons, List.length_append, List.length_nil]; omega, HR2, HN, HA3, HC, HP3, HQ⟩
end Go.Proofs.Ytlocjhnlemlnmaa.Lx
