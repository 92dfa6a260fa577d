/- A policy is read off a text. -/
import Derived.Test.YtdhkonaebhpeeaaDoorPoM
namespace Go.Proofs.YtdhkonaebhpeeaaDoor.Po
open Go Go.RowKit

theorem OwnI.tr2 {S : Nat → Prop} {B : Nat} {v : Value} {t : List Int} {w : World} (h : OwnI B v t w) (hS : ∀ g, B ≤ g → g < w.heap.size → ¬ S g) (ht : ∀ x ∈ t, In64 x) : Tr S v t w := by
  rcases h.form with ⟨rfl, rfl⟩ | ⟨g, cap, rfl, h1, h2, h3, h4, h5⟩
  · exact Tr.nil _ _
  · exact ⟨_, cap, rfl, h3, h4, fun e => (by cases e), ht, fun k hk => ⟨g, 0, rfl, h2, hS g h1 h2, (by rw [Nat.zero_add]; exact h5 k hk)⟩⟩
/-- A policy stored where one lies. -/
theorem pol_put {N : Nat} {n0 n : List Int} {v0 v : Value} {W : World} (h : PolAt N n0 v0 W) (h0 : n0.length = 10) (hn : n.length = 10) : PolAt N n v (W.setCells N 0 (valsP n v).toList) := by
  have h1 := CellsAt.sets (valsP n v).toList 0 (valsP n0 v0).toList W (by simpa using h) (by simp [valsP_size, h0, hn])
  have e : (valsP n0 v0).toList.take 0 ++ (valsP n v).toList ++ (valsP n0 v0).toList.drop (0 + (valsP n v).toList.length) = (valsP n v).toList := by
    rw [List.drop_of_length_le (by simp [valsP_size, h0, hn])]
    simp
  rw [e] at h1
  simpa using h1
theorem run_store_cells {P : Program} {g : Nat} {ty : TypeId} {old new : Array Value} {w : World} (h : CellsAt g old w) (hi : (P.info? ty).map (·.size) = some new.size) (ho : old.size = new.size) (h1 : new.all (·.oneCell') = true) :
    (storeVar ty ⟨g, 0, none⟩ (.agg new)).run P w = .ok () (w.setCells g 0 new.toList) := by
  have hat : ∀ j, j < new.toList.length → old[0 + 0 + j]? = some (old.getD (0 + 0 + j) undef) := fun j hj => by
    rw [Array.getD_eq_getD_getElem?, Array.getElem?_eq_getElem (by simp at hj; omega)]
    rfl
  have hst := run_storeCells_cells (P := P) g 0 new.toList 0 w (fun j hj => Option.isSome_iff_exists.2 ⟨_, h.cell _ _ (hat j hj)⟩) (fun j hj => h.fro _ _ (hat j hj)) (fun v hv => (Array.all_eq_true_iff_forall_mem.1 h1) v (by simpa using hv))
  cases hq : P.info? ty with
  | none => simp [hq] at hi
  | some i =>
    have hs : new.size = i.size := by simp [hq] at hi; omega
    simp at hst
    simp [storeVar, sizeOf, typeInfo, hq, Value.cells, hs, hst]
theorem wpList_store_cells {P : Program} {ops : Array Oper} {rest : List Oper} {o : Oper} {a : Act} {w : World} {Q : Exit → Act → World → Prop} (hgd : o.guard = none) (ty : TypeId) (x y : Operand) (ho : o.op = .store ty x y)
    (g : Nat) (new old : Array Value) (hx : a.eval x = .pointer (some ⟨g, 0, none⟩)) (hy : a.eval y = .agg new) (hg : CellsAt g old w) (hi : (P.info? ty).map (·.size) = some new.size)
    (hold : old.size = new.size) (h1 : new.all (·.oneCell') = true)
    (h : wpList P ops Q rest (a.put o.dst undef) (w.setCells g 0 new.toList)) : wpList P ops Q (o :: rest) a w := by
  refine wpList_plain hgd fun K hK => ?_
  unfold Oper.wp execOp
  simp only [ho, hx, hy, Instr.storeAt, Instr.sureAddr, Sem.run_bind, Sem.run_pure, Result.andThen_ok, run_store_cells hg hi hold h1]
  exact hK _ _ h
theorem below_sets {B b : Nat} (hb : B ≤ b) : ∀ (vs : List Value) (o : Nat) (w0 w : World), Below B w0 w → Below B w0 (w.setCells b o vs)
  | [], _, _, _, h => h
  | v :: r, o, w0, _w, h => below_sets hb r (o + 1) w0 _ (h.setCell (p := ⟨b, o, none⟩) hb v)
theorem base_in : ∀ x ∈ baseZ.n, In64 x := by unfold baseZ In64; simp
theorem base_tin : ∀ x ∈ baseZ.t, In64 x := by unfold baseZ In64; simp
theorem set_in {n ns : List Int} {k : Nat} (h1 : ∀ x ∈ n, In64 x) (h2 : ∀ x ∈ ns, In64 x) : ∀ x ∈ setN n k ns, In64 x := fun x hx => by
  unfold setN at hx
  split at hx
  · exact h1 x hx
  · rcases List.mem_or_eq_of_mem_set hx with h | h
    · exact h1 x h
    · rw [h]
      cases ns with
      | nil => show In64 0; unfold In64; omega
      | cons y r => exact h2 y (by simp)
theorem wholes_in : ∀ {ws : List (List UInt8)} {ns : List Int}, wholesZ ws = some ns → ∀ x ∈ ns, In64 x
  | [], ns, h, x, hx => by cases h; simp at hx
  | y :: r, ns, h, x, hx => by
    unfold wholesZ at h
    split at h
    · obtain ⟨m, hm, rfl⟩ := Option.map_eq_some_iff.1 h
      rcases List.mem_cons.1 hx with rfl | hx
      · exact whole_in y
      · exact wholes_in hm x hx
    · cases h
theorem hit_in {w : List UInt8} {k : Nat} {ns : List Int} (h : hitN w k = some ns) : ∀ x ∈ ns, In64 x := by
  unfold hitN at h
  split at h
  · cases h
  · unfold readN at h
    split at h
    · cases h
    · rename_i hw
      split at h
      · cases h
        exact wholes_in hw
      · cases h
theorem words_in : ∀ (ws : List (List UInt8)) {n t : List Int} {u : List Nat} {x : List Int × List Int}, (∀ y ∈ n, In64 y) → wordsN n t u ws = some x → ∀ y ∈ x.1, In64 y
  | [], n, t, u, x, h, e => by cases e; exact h
  | w :: r, n, t, u, x, h, e => by
    unfold wordsN at e
    cases hf : findN w u with
    | none => rw [hf] at e; cases e
    | some y =>
      rw [hf] at e
      obtain ⟨y1, y2, y3⟩ := y
      exact words_in r (set_in h (hit_in (find_at hf).2.1)) e
theorem run_in {s : List UInt8} {x : List Int × List Int} (h : runN baseZ.n baseZ.t s = some x) : ∀ y ∈ x.1, In64 y := by
  unfold runN at h
  split at h
  · cases h; exact base_in
  · exact words_in _ base_in h
theorem run_all (s : List UInt8) : runN baseZ.n baseZ.t s = allN s := rfl
/-- What is told of a policy with an error. -/
def ReadV (x : List Int × List Int × Nat) (v : Value) : Value := .tuple #[.agg (valsP x.1 v), .int .i64 (x.2.2 : Int)]
set_option maxRecDepth 100000 in
set_option maxHeartbeats 16000000 in
theorem Read_any (s : List UInt8) (hl : s.length ≤ 1099511627776) (w : World) :
    Calls Tryd.prog 23 #[.string (tx s)] w fun e w' => ∃ v, e = .returned (ReadV (readZ s) v) ∧ Tr (fun j => j < w.heap.size) v (readZ s).2.1 w' ∧ Below w.heap.size w w' := by
  obtain ⟨N, hN⟩ : ∃ N, w.heap.size = N := ⟨_, rfl⟩
  have hB0 : Below N w (w.alloc (.cells #[.int .i64 0, .int .i64 0, .int .i64 0, .int .i64 0, .int .i64 0, .int .i64 0, .int .i64 0, .int .i64 0, .int .i64 0, .int .i64 0, .slice none 0 0] 24)) := (Below.refl N w).alloc (by omega) _
  have HZ0 : Hid (PolAt N zeroN (.slice none 0 0) (w.alloc (.cells #[.int .i64 0, .int .i64 0, .int .i64 0, .int .i64 0, .int .i64 0, .int .i64 0, .int .i64 0, .int .i64 0, .int .i64 0, .int .i64 0, .slice none 0 0] 24))) := Lib.hid (CellsAt.newAt #[.int .i64 0, .int .i64 0, .int .i64 0, .int .i64 0, .int .i64 0, .int .i64 0, .int .i64 0, .int .i64 0, .int .i64 0, .int .i64 0, .slice none 0 0] 24 w N hN.symm)
  have HB0 := Lib.hid hB0
  obtain ⟨R, hR⟩ : ∃ R, readZ s = R := ⟨_, rfl⟩
  have hR2 := readZ_all s
  rw [hR, ← run_all] at hR2
  have HR := Lib.hid hR2
  rw [hR]
  have hb := fun W => base_of W
  have hs1 : (w.alloc (.cells #[.int .i64 0, .int .i64 0, .int .i64 0, .int .i64 0, .int .i64 0, .int .i64 0, .int .i64 0, .int .i64 0, .int .i64 0, .int .i64 0, .slice none 0 0] 24)).heap.size = N + 1 := by simp [hN]
  clear hR hR2 hB0
  go_enter Tryd.func23, Tryd.ntmps23
  go_wp2_with fail
  refine (hb _).mono ?_
  rintro e w1 ⟨v, rfl, hO, hB1⟩
  rw [hs1] at hO hB1
  obtain ⟨P, hP⟩ : ∃ P, w1.heap.size = P := ⟨_, rfl⟩
  have hNP : N < P := by have := hB1.size; omega
  obtain ⟨p, c, hv⟩ := hO.len
  rw [show baseZ.t.length = 2 from rfl] at hv
  subst hv
  have hPA : PolAt P baseZ.n (.slice p 2 c) (w1.alloc (.cells #[.int .i64 64, .int .i64 32, .int .i64 64, .int .i64 8, .int .i64 6, .int .i64 2, .int .i64 2, .int .i64 60, .int .i64 30, .int .i64 5, .slice p 2 c] 24)) := CellsAt.newAt #[.int .i64 64, .int .i64 32, .int .i64 64, .int .i64 8, .int .i64 6, .int .i64 2, .int .i64 2, .int .i64 60, .int .i64 30, .int .i64 5, .slice p 2 c] 24 w1 P hP.symm
  have hBp : Below w1.heap.size w1 (w1.alloc (.cells #[.int .i64 64, .int .i64 32, .int .i64 64, .int .i64 8, .int .i64 6, .int .i64 2, .int .i64 2, .int .i64 60, .int .i64 30, .int .i64 5, .slice p 2 c] 24)) := (Below.refl _ _).alloc (Nat.le_refl _) _
  have hTA : Tr (fun j => j = P ∨ j ≤ N) (.slice p 2 c) baseZ.t (w1.alloc (.cells #[.int .i64 64, .int .i64 32, .int .i64 64, .int .i64 8, .int .i64 6, .int .i64 2, .int .i64 2, .int .i64 60, .int .i64 30, .int .i64 5, .slice p 2 c] 24)) := (hO.tr2 (fun g h1 h2 => by omega) base_tin).below hBp
  have HZ1 := Lib.hid ((CellsAt.belowAt HZ0.out hB1 (by omega)).belowAt (hBp.mono (by omega : N + 1 ≤ w1.heap.size)) (by omega))
  have HB1 := Lib.hid ((HB0.out.trans (hB1.mono (by omega))).trans (hBp.mono (by omega)))
  have hrd := read_any (fun j => j = P ∨ j ≤ N) P (.inl rfl) baseZ.n baseZ.t (.slice p 2 c) s hl _ rfl hPA hTA (fun j h => by simp [hP]; omega)
  rw [show valsP baseZ.n (.slice p 2 c) = #[.int .i64 64, .int .i64 32, .int .i64 64, .int .i64 8, .int .i64 6, .int .i64 2, .int .i64 2, .int .i64 60, .int .i64 30, .int .i64 5, .slice p 2 c] from rfl]
  clear hPA hTA hO hB1 hBp HZ0 HB0 hb hs1
  go_wp2_with fail
  refine hrd.mono ?_
  rintro e w3 hE
  unfold RunEnd at hE
  have HIN : Hid (∀ x, runN baseZ.n baseZ.t s = some x → ∀ y ∈ x.1, In64 y) := Lib.hid (fun x h => run_in h)
  cases hrn : runN baseZ.n baseZ.t s with
  | none =>
    rw [hrn] at hE
    obtain ⟨rfl, hM3⟩ := hE
    have hRv : R = (zeroN, [], 2) := by have := HR.out; rw [hrn] at this; exact this
    subst hRv
    have hZ3 := cells_mov HZ1.out hM3 (by omega)
    have HB3 := Lib.hid (HB1.out.trans (hM3.below (N := N) (fun k hk => by omega) (by simp [hP]; omega)))
    have HZ3 := Lib.hid hZ3
    clear hM3 hZ3 hrn HIN HR HZ1 HB1 hrd hP
    go_wp2_with (refine wpList_store_cells rfl _ _ _ rfl N (valsP zeroN (.slice none 0 0)) _ rfl rfl HZ3.out (by kernel_rfl) (by kernel_rfl) (by kernel_rfl) ?_)
    refine bodyPost_ret (result_cell2 rfl rfl (load_pol (pol_put (n := zeroN) (v := .slice none 0 0) HZ3.out rfl rfl) rfl)) rfl ?_
    exact ⟨_, rfl, Tr.nil _ _, hN ▸ below_sets (Nat.le_refl N) _ 0 w _ HB3.out⟩
  | some x =>
    rw [hrn] at hE
    obtain ⟨x1, x2⟩ := x
    obtain ⟨rfl, hM3, hx1, v', hv', ht'⟩ := hE
    have hin := HIN.out _ hrn
    simp only at hx1 hv' ht' hin
    have hRv : R = if rightN x1 x2 = true then (x1, x2, 0) else (zeroN, [], 1) := by
      have := HR.out
      rw [hrn] at this
      rw [this, right_same x1 x2 hx1]
    have HRV := Lib.hid hRv
    have hZ3 := cells_mov HZ1.out hM3 (by omega)
    have HB3 := Lib.hid (HB1.out.trans (hM3.below (N := N) (fun k hk => by omega) (by simp [hP]; omega)))
    have hrg := right_any (fun j => j = P ∨ j ≤ N) x1 x2 v' w3 hx1 hin ht'
    obtain ⟨q, d, rfl⟩ := ht'.len
    obtain ⟨b0, b1, b2, b3, b4, b5, b6, b7, b8, b9, hxe⟩ := ten_of hx1
    have hve : valsP x1 (.slice q x2.length d) = #[.int .i64 b0, .int .i64 b1, .int .i64 b2, .int .i64 b3, .int .i64 b4, .int .i64 b5, .int .i64 b6, .int .i64 b7, .int .i64 b8, .int .i64 b9, .slice q x2.length d] := by rw [hxe]; rfl
    have HVE := Lib.hid hve
    rw [hve] at hrg
    have hPc : CellsAt P #[.int .i64 b0, .int .i64 b1, .int .i64 b2, .int .i64 b3, .int .i64 b4, .int .i64 b5, .int .i64 b6, .int .i64 b7, .int .i64 b8, .int .i64 b9, .slice q x2.length d] w3 := by rw [← hve]; exact hv'
    have p0 := hPc.cell 0 _ rfl
    have p1 := hPc.cell 1 _ rfl
    have p2 := hPc.cell 2 _ rfl
    have p3 := hPc.cell 3 _ rfl
    have p4 := hPc.cell 4 _ rfl
    have p5 := hPc.cell 5 _ rfl
    have p6 := hPc.cell 6 _ rfl
    have p7 := hPc.cell 7 _ rfl
    have p8 := hPc.cell 8 _ rfl
    have p9 := hPc.cell 9 _ rfl
    have p10 := hPc.cell 10 _ rfl

    simp only [List.getElem_toArray, List.getElem_cons_zero, List.getElem_cons_succ] at p0 p1 p2 p3 p4 p5 p6 p7 p8 p9 p10
    have HPC := Lib.hid hPc
    have HZ3 := Lib.hid hZ3
    have HT3 := Lib.hid ht'
    have hPl := hPc.lt
    have HX1 := Lib.hid hx1
    clear hM3 hZ3 hrn HIN HR HZ1 HB1 hrd hP hRv hve hxe hv' ht' hPc hin hx1
    by_cases hrt : rightN x1 x2 = true
    · rw [hrt] at hrg
      have hRe : R = (x1, x2, 0) := by rw [HRV.out, if_pos hrt]
      subst hRe
      go_wp2_with fail
      refine hrg.mono ?_
      rintro e w4 ⟨rfl, hB4⟩
      have hZ4 := CellsAt.below HZ3.out hB4
      have hP4 := CellsAt.below HPC.out hB4
      have r0 := hP4.cell 0 _ rfl
      have r1 := hP4.cell 1 _ rfl
      have r2 := hP4.cell 2 _ rfl
      have r3 := hP4.cell 3 _ rfl
      have r4 := hP4.cell 4 _ rfl
      have r5 := hP4.cell 5 _ rfl
      have r6 := hP4.cell 6 _ rfl
      have r7 := hP4.cell 7 _ rfl
      have r8 := hP4.cell 8 _ rfl
      have r9 := hP4.cell 9 _ rfl
      have r10 := hP4.cell 10 _ rfl

      simp only [List.getElem_toArray, List.getElem_cons_zero, List.getElem_cons_succ] at r0 r1 r2 r3 r4 r5 r6 r7 r8 r9 r10
      have HB4 := Lib.hid (HB3.out.trans (hB4.mono (by omega)))
      have HT4 := Lib.hid (HT3.out.below hB4)
      have HZ4 := Lib.hid hZ4
      have hPl4 := hP4.lt
      clear hB4 hZ4 hP4 HB3 HT3 HZ3 HPC hrg hrt HRV
      go_wp2_with (refine wpList_store_cells rfl _ _ _ rfl N #[.int .i64 b0, .int .i64 b1, .int .i64 b2, .int .i64 b3, .int .i64 b4, .int .i64 b5, .int .i64 b6, .int .i64 b7, .int .i64 b8, .int .i64 b9, .slice q x2.length d] _ rfl rfl HZ4.out (show _ = some 11 by kernel_rfl) (show _ = 11 by kernel_rfl) (by simp [Value.oneCell']) ?_)
      refine bodyPost_ret (result_cell2 rfl rfl (by
        have := load_pol (pol_put (n := x1) (v := .slice q x2.length d) HZ4.out rfl HX1.out) HX1.out
        rw [HVE.out] at this
        exact this)) rfl ?_
      refine ⟨.slice q x2.length d, by unfold ReadV; rw [HVE.out]; rfl, ?_, hN ▸ below_sets (Nat.le_refl N) _ 0 w _ HB4.out⟩
      exact (HT4.out.mov (Mov.sets (S := fun j => j = N) rfl _ 0 _ (Mov.refl _ _)) (fun j h _ => .inr (Nat.le_of_eq h))).weak (fun j h _ => .inr (by omega))
    · have hrt2 : rightN x1 x2 = false := by simpa using hrt
      rw [hrt2] at hrg
      have hRe : R = (zeroN, [], 1) := by rw [HRV.out, if_neg hrt]
      subst hRe
      go_wp2_with fail
      refine hrg.mono ?_
      rintro e w4 ⟨rfl, hB4⟩
      have hZ4 := CellsAt.below HZ3.out hB4
      have HB4 := Lib.hid (HB3.out.trans (hB4.mono (by omega)))
      have HZ4 := Lib.hid hZ4
      clear hB4 hZ4 HB3 HT3 HZ3 HPC hrg hrt hrt2 HRV
      go_wp2_with (refine wpList_store_cells rfl _ _ _ rfl N (valsP zeroN (.slice none 0 0)) _ rfl rfl HZ4.out (by kernel_rfl) (by kernel_rfl) (by kernel_rfl) ?_)
      refine bodyPost_ret (result_cell2 rfl rfl (load_pol (pol_put (n := zeroN) (v := .slice none 0 0) HZ4.out rfl rfl) rfl)) rfl ?_
      exact ⟨_, rfl, Tr.nil _ _, hN ▸ below_sets (Nat.le_refl N) _ 0 w _ HB4.out⟩
end Go.Proofs.YtdhkonaebhpeeaaDoor.Po

