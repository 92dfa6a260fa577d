/- A part's numbers are read off a text. -/
import Derived.Test.YtdhkonaebhpeeaaDoorPoG
import Derived.Test.YtdhkonaebhpeeaaDoorPoQ
import Derived.Test.YtdhkonaebhpeeaaDoorPoWh
namespace Go.Proofs.YtdhkonaebhpeeaaDoor.Po
open Go Go.RowKit

theorem wpListIn_append_run {F : Fence} {n : Nat} {P : Program} (w : World) {ops : Array Oper} {rest : List Oper} {o : Oper} {a : Act} {Q : Exit → Act → World → Prop} (hgd : o.guard = none) (s x : Operand) (t tn : TypeId)
    (ho : o.op = .call { callee := .builtin .append, args := #[s, x], argTypes := #[t, tn] }) (vs vx : Value) (hs : a.eval s = vs) (hx : a.eval x = vx)
    (v' : Value) (w' : World) (hr : (Builtin.append_ #[t, tn] o.type #[vs, vx]).run P w = .ok v' w') (h : wpListIn F n P ops Q rest (a.put o.dst v') w') : wpListIn F n P ops Q (o :: rest) a w := by
  refine wpListIn_plain hgd fun K hK' => ?_
  unfold Oper.wpIn
  refine ⟨?_, ?_⟩
  · simp [Oper.about, ho, resolve, Target.leads, Sem.run_pure]
  · rw [Oper.semAt_plain F _ _ (by rw [ho]; intro c hc'; cases hc')]
    simp [execOp, ho, resolve, invoke, builtin, hs, hx, hr, Result.andThen]
    exact hK' _ _ h
theorem below_put {m : Nat} {W : World} {l : Nat} {o : Obj} (o' : Obj) (hl : m ≤ l) (h : W.heap[l]? = some o) : Below m W (W.putObj l o') :=
  (Below.refl m W).grown (grownBy_putObj' W l o') (by have := (Array.getElem?_eq_some_iff.1 h).1; omega) (fun k e => by cases e; omega)
theorem ownI_put {B : Nat} {v : Value} {l : List Int} {W : World} (h : OwnI B v l W) {k : Nat} (o : Obj) (hk : k < B) : OwnI B v l (W.putObj k o) :=
  World.ownsRow.kept h (grownBy_putObj' W k o) (by
    rcases h.2 with ⟨rfl, _⟩ | ⟨g, cap, cur, rfl, hb, _, _⟩
    · exact .inl rfl
    · refine .inr fun e => ?_
      have : g = k := by simpa [Value.ownBlock] using e
      omega)
theorem ownI_set {B : Nat} {v : Value} {l : List Int} {W : World} (h : OwnI B v l W) {k : Nat} (u : Value) (hk : k < B) : OwnI B v l (W.setCell ⟨k, 0, none⟩ u) :=
  World.ownsRow.kept h (grownBy_setCell' W k u) (by
    rcases h.2 with ⟨rfl, _⟩ | ⟨g, cap, cur, rfl, hb, _, _⟩
    · exact .inl rfl
    · refine .inr fun e => ?_
      have : g = k := by simpa [Value.ownBlock] using e
      omega)
/-- What is so while a part's numbers are read: M the part's box; the result's box, the numbers' box, the text's three, the rounds' block, the record behind it. -/
structure Num (M : Nat) (F6 : Array Value) (w : World) (rec : Obj) (r : Bool) (ns : List Int) (W : World) : Prop where
  fld : W.heap[M]? = some (.cells F6 70)
  res : Boxed W (M + 1) 4 (.bool r)
  own : ∃ v, Boxed W (M + 2) 22 v ∧ OwnI (M + 8) v ns W
  below : Below M w W
  size : M + 8 ≤ W.heap.size
  loop : W.heap[M + 7]? = some rec
  defs : W.heap[M + 6]? = some (.deferred (some []))
  fit : ∀ x ∈ ns, In64 x
section
variable {M : Nat} {F6 : Array Value} {w W W' : World} {rec rec' : Obj} {r : Bool} {ns : List Int}
theorem Num.set (h : Num M F6 w rec r ns W) (u : Value) : Num M F6 w rec r ns (W.setCell ⟨M + 3, 0, none⟩ u) := by
  obtain ⟨v, hv, ho⟩ := h.own
  exact ⟨(Below.heap_setCell _ _ _ _ (by simp)).trans h.fld, Boxed.past h.res _ _ (by simp), ⟨v, Boxed.past hv _ _ (by simp), ownI_set ho _ (by omega)⟩, h.below.setCell (p := ⟨M + 3, 0, none⟩) (by simp) _, by have := h.size; simpa using this,
    (Below.heap_setCell _ _ _ _ (by simp)).trans h.loop, (Below.heap_setCell _ _ _ _ (by simp)).trans h.defs, h.fit⟩
theorem Num.put (h : Num M F6 w rec r ns W) : Num M F6 w rec' r ns (W.putObj (M + 7) rec') := by
  obtain ⟨v, hv, ho⟩ := h.own
  exact ⟨(World.putObj_heap_other (by omega)).trans h.fld, Boxed.other h.res _ (by omega), ⟨v, Boxed.other hv _ (by omega), ownI_put ho _ (by omega)⟩, h.below.trans (below_put _ (by omega) h.loop), by simpa using h.size,
    World.putObj_heap_same (by have := h.size; omega), (World.putObj_heap_other (by omega)).trans h.defs, h.fit⟩
theorem Num.past (h : Num M F6 w rec r ns W) (hM : M ≤ W.heap.size) (hB : Below W.heap.size W W') : Num M F6 w rec r ns W' := by
  obtain ⟨v, hv, ho⟩ := h.own
  have hs := h.size
  exact ⟨(hB.block _ (by omega)).trans h.fld, (hB.block _ (by omega)).trans h.res, ⟨v, (hB.block _ (by omega)).trans hv, ho.below hB⟩, h.below.trans (hB.mono hM), Nat.le_trans hs hB.size,
    (hB.block _ (by omega)).trans h.loop, (hB.block _ (by omega)).trans h.defs, h.fit⟩
/-- A number more, appended and stored. -/
theorem Num.grown {X w1 : World} {x : Int} {v v' : Value} (h : Num M F6 w rec r ns X) (hx : In64 x) (hv : Boxed X (M + 2) 22 v) (ho : OwnI (M + 8) v ns X) (hg : GrewI (M + 8) v (ns ++ [x]) X v' w1) :
    Boxed w1 (M + 2) 22 v ∧ Num M F6 w rec r (ns ++ [x]) (w1.setCell ⟨M + 2, 0, none⟩ v') ∧ ∀ b q, Cap b (M + 3) q X → Cap b (M + 3) q (w1.setCell ⟨M + 2, 0, none⟩ v') := by
  have hne : ∀ k, k < M + 8 → ¬ v.ownBlock = some k := fun k hk e => by have := (ho.lt e).1; omega
  have hsz := h.size
  have old0 : ∀ k, k < M + 8 → w1.heap[k]? = X.heap[k]? := fun k hk => hg.2.1.block k (by omega) (hne k hk)
  have hv1 : Boxed w1 (M + 2) 22 v := (old0 _ (by omega)).trans hv
  have old : ∀ k, k < M + 8 → k ≠ M + 2 → (w1.setCell ⟨M + 2, 0, none⟩ v').heap[k]? = X.heap[k]? := fun k hk hkb => by
    rw [Below.heap_setCell _ _ _ _ hkb, old0 k hk]
  refine ⟨hv1, ⟨(old _ (by omega) (by omega)).trans h.fld, (old _ (by omega) (by omega)).trans h.res, ⟨v', hv1.set v', ownI_set hg.1 _ (by omega)⟩, ?_, ?_, (old _ (by omega) (by omega)).trans h.loop, (old _ (by omega) (by omega)).trans h.defs, ?_⟩,
    fun b q hC => ⟨(old _ (by omega) (by omega)).trans hC.s, (old _ (by omega) (by omega)).trans hC.sep, (old _ (by omega) (by omega)).trans hC.save⟩⟩
  · exact (h.below.trans (hg.low (N := M) (fun g e => by have := (ho.lt e).1; omega) (by omega))).setCell (p := ⟨M + 2, 0, none⟩) (by simp) _
  · have := hg.2.1.size
    simp
    omega
  · intro y hy
    rcases List.mem_append.1 hy with hy | hy
    · exact h.fit y hy
    · rw [List.mem_singleton.1 hy]; exact hx
end
theorem wholes_app {ws : List (List UInt8)} {ns : List Int} (h : wholesZ ws = some ns) (x : List UInt8) : wholesZ (ws ++ [x]) = if (wholeF x).2 = 0 then some (ns ++ [(wholeF x).1]) else none := by
  induction ws generalizing ns with
  | nil =>
    cases h
    simp [wholesZ]
  | cons y r ih =>
    rw [List.cons_append, wholesZ] at *
    split at h
    · rename_i hy
      obtain ⟨m, hm, rfl⟩ := Option.map_eq_some_iff.1 h
      rw [if_pos hy, ih hm]
      split <;> simp
    · cases h
theorem whole_in (l : List UInt8) : In64 (wholeF l).1 := by
  have z : In64 0 := by unfold In64; omega
  unfold wholeF
  split
  · exact z
  · split
    · unfold fitF
      split
      · rename_i h
        unfold most at h
        unfold sgn In64
        split at h
        · rw [if_pos (by assumption)]; omega
        · rw [if_neg (by assumption)]; omega
      · exact z
    · exact z
theorem load_bool {b : Nat} {r : Bool} {W : World} (h : W.cell? ⟨b, 0, none⟩ = some (.bool r)) : (loadVar 4 ⟨b, 0, none⟩).run Tryd.prog W = .ok (.bool r) W := by
  simp [loadVar, go_sem, h]
theorem mov_put {S : Nat → Prop} {a W : World} (h : Mov S a W) {k : Nat} (hk : S k) (o : Obj) : Mov S a (W.putObj k o) :=
  ⟨h.os, h.tape, h.output, by simpa using h.size, fun j hj hn => (World.putObj_heap_other (by rintro rfl; exact hn hk)).trans (h.block j hj hn)⟩
/-- What is so behind a part's numbers being read. -/
def ReadEnd (S : Nat → Prop) (P k : Nat) (n t : List Int) (_v : Value) (text : List UInt8) (w : World) (e : Ending) (w' : World) : Prop :=
  match readN k text with
  | none => e = .returned (.bool false) ∧ Below w.heap.size w w'
  | some ns => e = .returned (.bool true) ∧ Mov (fun j => j = P) w w' ∧ ∃ v', PolAt P (setN n k ns) v' w' ∧ Tr S v' (setT t k ns) w'
section
attribute [local go_sem] Oper.semAt_some
set_option maxRecDepth 100000 in
set_option maxHeartbeats 8000000 in
theorem fread_any (S : Nat → Prop) (P k : Nat) (hSP : S P) (hk : k < 11) (n t : List Int) (v : Value) (text : List UInt8) (hl : text.length ≤ 1099511627776) (w : World) (hn : n.length = 10) (hP : PolAt P n v w) (hT : Tr S v t w) (hSl : ∀ j, S j → j < w.heap.size) :
    Calls Tryd.prog 51 #[fieldV P k, .string (tx text)] w (ReadEnd S P k n t v text w) := by
  obtain ⟨M, hM⟩ : ∃ M, w.heap.size = M := ⟨_, rfl⟩
  have hPl : P < M := by rw [← hM]; exact hP.lt
  have HP := Lib.hid hP
  have HT := Lib.hid hT
  have HK := Lib.hid hk
  have HSP := Lib.hid hSP
  have HSL : Hid (∀ j, S j → j < M) := Lib.hid (fun j h => by rw [← hM]; exact hSl j h)
  have HNL := Lib.hid hn
  have hfv : fieldV P k = .agg #[.string (tx (tellN k)), .int .i64 (loN k), .int .i64 (hiN k), .pointer (cntP P k), .pointer (timP P k), .pointer (tieP P k)] := rfl
  have HFV := Lib.hid hfv
  rw [hfv]
  obtain ⟨F6, hF6⟩ : ∃ F6, #[Value.string (tx (tellN k)), .int .i64 (loN k), .int .i64 (hiN k), .pointer (cntP P k), .pointer (timP P k), .pointer (tieP P k)] = F6 := ⟨_, rfl⟩
  have HF6 := Lib.hid hF6
  generalize tx (tellN k) = TN at *
  generalize loN k = lo at *
  generalize hiN k = hi at *
  generalize cntP P k = q1 at *
  generalize timP P k = q2 at *
  generalize tieP P k = q3 at *
  clear hP hT hk hfv hF6 hSP hSl
  refine (callsIn_wide (n := 5)).1 ?_
  refine callsIn_of_wp_marks Tryd.func51 rfl trivial ?_ rfl
  simp only [Tryd.ntmps51, List.size_toArray, List.length_cons, List.length_nil, Nat.reduceAdd, Nat.reduceSub, Array.replicate_succ, Array.replicate_zero, List.push_toArray, List.append_toArray, List.nil_append, List.cons_append]
  gi_wp2
  refine ⟨trivial, (callsIn_wide.2 (seq_ok _ _ _)).mono ?_⟩
  rintro e w' ⟨rfl, rfl⟩
  gi_wp2
  refine range_ret (M + 6) (by simp; omega) rfl (enters_of Tryd.func64 (by kernel_rfl) rfl) fun fn rec W1 hrec hW1 => ?_
  have hG : Num M F6 w (rec .ready none) false [] W1 ∧ Cap 47 (M + 3) (tx text) W1 := by
    have d0 := World.alloc_heap_new w (.cells F6 70)
    have b1 := Boxed.new (w.alloc (.cells F6 70)) 4 (.bool false)
    have b2 := Boxed.new ((w.alloc (.cells F6 70)).alloc (.cells #[.bool false] 4)) 22 (.slice none 0 0)
    have b3 := Boxed.new (((w.alloc (.cells F6 70)).alloc (.cells #[.bool false] 4)).alloc (.cells #[.slice none 0 0] 22)) 9 (.string (tx text))
    have b4 := Boxed.new ((((w.alloc (.cells F6 70)).alloc (.cells #[.bool false] 4)).alloc (.cells #[.slice none 0 0] 22)).alloc (.cells #[.string (tx text)] 9)) 9 (.string ⟨#[47]⟩)
    have b5 := Boxed.new (((((w.alloc (.cells F6 70)).alloc (.cells #[.bool false] 4)).alloc (.cells #[.slice none 0 0] 22)).alloc (.cells #[.string (tx text)] 9)).alloc (.cells #[.string ⟨#[47]⟩] 9)) 3 (.int .i64 0)
    have d6 := World.alloc_heap_new ((((((w.alloc (.cells F6 70)).alloc (.cells #[.bool false] 4)).alloc (.cells #[.slice none 0 0] 22)).alloc (.cells #[.string (tx text)] 9)).alloc (.cells #[.string ⟨#[47]⟩] 9)).alloc (.cells #[.int .i64 0] 3)) (.deferred (some []))
    have d7 := World.alloc_heap_new (((((((w.alloc (.cells F6 70)).alloc (.cells #[.bool false] 4)).alloc (.cells #[.slice none 0 0] 22)).alloc (.cells #[.string (tx text)] 9)).alloc (.cells #[.string ⟨#[47]⟩] 9)).alloc (.cells #[.int .i64 0] 3)).alloc (.deferred (some []))) (rec .ready none)
    simp only [World.size_alloc, hM] at d0 b1 b2 b3 b4 b5 d6 d7
    rw [HF6.out] at hW1
    rw [← hW1]
    refine ⟨⟨?_, ((((((b1.alloc _).alloc _).alloc _).alloc _).alloc _).alloc _), ⟨_, (((((b2.alloc _).alloc _).alloc _).alloc _).alloc _), OwnI.nil _ _⟩, ?_, by simp [hM], d7, ?_, fun x hx => by simp at hx⟩, ⟨((((b3.alloc _).alloc _).alloc _).alloc _), (((b4.alloc _).alloc _).alloc _), ((b5.alloc _).alloc _)⟩⟩
    · exact (Below.heap_alloc _ _ _ (by simp; omega)).trans <| (Below.heap_alloc _ _ _ (by simp; omega)).trans <| (Below.heap_alloc _ _ _ (by simp; omega)).trans <| (Below.heap_alloc _ _ _ (by simp; omega)).trans <| (Below.heap_alloc _ _ _ (by simp; omega)).trans <| (Below.heap_alloc _ _ _ (by simp; omega)).trans <| (Below.heap_alloc _ _ _ (by simp; omega)).trans d0
    · exact ((((((((Below.refl _ w).alloc (by omega) _).alloc (by simp; omega) _).alloc (by simp; omega) _).alloc (by simp; omega) _).alloc (by simp; omega) _).alloc (by simp; omega) _).alloc (by simp; omega) _).alloc (by simp; omega) _
    · exact (Below.heap_alloc _ _ _ (by simp; omega)).trans d6
  have HG := Lib.hid hG
  clear hG hW1
  refine (split_in 47 3 (M + 6 + 1) (M + 3) (fun pre W => ∃ ns, wholesZ pre = some ns ∧ ns.length = pre.length ∧ Num M F6 w (rec .ready none) false ns W)
    (fun W => wholesZ (cutB 47 text) = none ∧ Boxed W (M + 1) 4 (.bool false) ∧ Below M w W ∧ M + 8 ≤ W.heap.size ∧ W.heap[M + 7]? = some (rec .done (some .ret)) ∧ W.heap[M + 6]? = some (.deferred (some []))) (tx text) (by rw [tx_len]; omega) ?set ?round W1 ⟨[], rfl, rfl, HG.out.1⟩ HG.out.2).mono ?done
  case set => exact fun pre W v ⟨ns, h1, h2, h3⟩ => ⟨ns, h1, h2, h3.set v⟩
  case done =>
    rintro e W' ⟨hv, ⟨ns, h1, h2, h3⟩ | ⟨h1, h2, h3, h4, h5, h6⟩⟩
    · refine ⟨hv, .inl ⟨h3.loop, ?_⟩⟩
      rw [list_tx] at h1
      have hWp := h3.put (rec' := rec .exhausted none)
      change Num M F6 w (rec .exhausted none) false ns (W'.putObj (M + 6 + 1) (rec .exhausted none)) at hWp
      generalize W'.putObj (M + 6 + 1) (rec .exhausted none) = Wp at *
      obtain ⟨u, hu, ho⟩ := hWp.own
      obtain ⟨pu, cu, rfl⟩ := ho.len
      have hBw := hWp.below
      have c0 : Wp.cell? ⟨M, 0, none⟩ = some (.string TN) := by simp [World.cell?, hWp.fld, ← HF6.out]
      have c1 : Wp.cell? ⟨M, 1, none⟩ = some (.int .i64 lo) := by simp [World.cell?, hWp.fld, ← HF6.out]
      have c2 : Wp.cell? ⟨M, 2, none⟩ = some (.int .i64 hi) := by simp [World.cell?, hWp.fld, ← HF6.out]
      have c3 : Wp.cell? ⟨M, 3, none⟩ = some (.pointer q1) := by simp [World.cell?, hWp.fld, ← HF6.out]
      have c4 : Wp.cell? ⟨M, 4, none⟩ = some (.pointer q2) := by simp [World.cell?, hWp.fld, ← HF6.out]
      have c5 : Wp.cell? ⟨M, 5, none⟩ = some (.pointer q3) := by simp [World.cell?, hWp.fld, ← HF6.out]
      have cu0 := hu.cell
      have hset := set_any (fun j => S j ∨ j = M + 1 ∨ j = M + 6) P k (.inl HSP.out) HK.out n t v (.slice pu ns.length cu) ns Wp HNL.out (HP.out.belowAt hBw hPl)
        ((HT.out.weak (S' := fun j => S j ∨ j = M + 1 ∨ j = M + 6) (fun j h hl => h.elim id (fun h => by omega))).mov (Mov.of hBw) (fun j h hl => by omega))
        (ho.tr (fun g hg h => h.elim (fun h => by have := HSL.out g h; omega) (fun h => by omega)) hWp.fit)
      rw [HFV.out] at hset
      have HRD : Hid (readN k text = if k = 10 ∨ ns.length = 1 then some ns else none) := Lib.hid (by unfold readN; rw [h1])
      have HWP := Lib.hid hWp
      have HBW := Lib.hid hBw
      clear h1 h2 h3 hWp hBw hu ho HG hrec
      gi_wp2
      refine ⟨trivial, (callsIn_wide.2 hset).mono ?_⟩
      rintro e w4 hE
      unfold SetEnd at hE
      by_cases hc : k = 10 ∨ ns.length = 1
      · rw [if_pos hc] at hE
        obtain ⟨rfl, hM4, v', hP4, hT4⟩ := hE
        have hs4 := HWP.out.size
        have r4 : w4.cell? ⟨M + 1, 0, none⟩ = some (.bool false) := (hM4.cell (by omega) (by omega)).trans HWP.out.res.cell
        have f4 : w4.frozen? ⟨M + 1, 0, none⟩ = false := (hM4.frozen (by omega) (by omega)).trans HWP.out.res.frozen
        have r5 : (w4.setCell ⟨M + 1, 0, none⟩ (.bool true)).cell? ⟨M + 1, 0, none⟩ = some (.bool true) := World.cell?_setCell_same _ _ _ r4
        have d4 : (w4.setCell ⟨M + 1, 0, none⟩ (.bool true)).heap[M + 6]? = some (.deferred (some [])) := (Below.heap_setCell _ _ _ _ (by simp)).trans ((hM4.block _ (by omega) (by omega)).trans HWP.out.defs)
        have hE1 : Mov (fun j => j = P) w (((w4.setCell ⟨M + 1, 0, none⟩ (.bool true)).putObj (M + 6) (.deferred none))) := by
          have m1 : Mov (fun j => j = P) w w4 := (Mov.ofB (S := fun j => j = P) (hM ▸ HBW.out)).trans hM4 (fun _ _ h => h)
          have m2 := m1.setNew (k := M + 1) (by omega) 0 (.bool true)
          exact ⟨m2.os, m2.tape, m2.output, by simpa using m2.size, fun j hj hn => (World.putObj_heap_other (by omega)).trans (m2.block j hj hn)⟩
        have hE0 : Mov (fun j => S j ∨ j = M + 1 ∨ j = M + 6) w4 (((w4.setCell ⟨M + 1, 0, none⟩ (.bool true)).putObj (M + 6) (.deferred none))) := mov_put ((Mov.refl _ _).set (.inr (.inl rfl)) _ _) (.inr (.inr rfl)) _
        have hE2 : PolAt P (setN n k ns) v' (((w4.setCell ⟨M + 1, 0, none⟩ (.bool true)).putObj (M + 6) (.deferred none))) := hP4.belowAt (B := M) (((Below.refl M w4).setCell (p := ⟨M + 1, 0, none⟩) (show M ≤ M + 1 by omega) _).trans (below_put _ (by omega) d4)) hPl
        have hE3 := (hT4.mov hE0 (fun j h _ => h)).weak (S' := S) (fun j h _ => .inl h)
        have r6 : (((w4.setCell ⟨M + 1, 0, none⟩ (.bool true)).putObj (M + 6) (.deferred none))).cell? ⟨M + 1, 0, none⟩ = some (.bool true) := (World.cell?_of_block (World.putObj_heap_other (show M + 1 ≠ M + 6 by omega))).trans r5
        have HEND : Hid (ReadEnd S P k n t v text w (.returned (.bool true)) (((w4.setCell ⟨M + 1, 0, none⟩ (.bool true)).putObj (M + 6) (.deferred none)))) := Lib.hid (by
          unfold ReadEnd
          rw [HRD.out, if_pos hc]
          exact ⟨rfl, hE1, v', hE2, hE3⟩)
        clear hE1 hE0 hE2 hE3 hT4 hP4 hM4 HWP HBW HRD hset c0 c1 c2 c3 c4 c5 cu0
        gi_wp2
        refine ⟨by simp, .inl ⟨_, _, rfl, run_takeDeferred d4, ?_⟩⟩
        exact ⟨_, result_cell rfl rfl (load_bool r6), HEND.out⟩
      · rw [if_neg hc] at hE
        obtain ⟨rfl, hB4⟩ := hE
        have hs4 := HWP.out.size
        have hsl : Wp.heap.size ≤ w4.heap.size := hB4.size
        have r4 : w4.cell? ⟨M + 1, 0, none⟩ = some (.bool false) := (hB4.cell (p := ⟨M + 1, 0, none⟩) (by simp; omega)).trans HWP.out.res.cell
        have f4 : w4.frozen? ⟨M + 1, 0, none⟩ = false := (hB4.frozen (p := ⟨M + 1, 0, none⟩) (by simp; omega)).trans HWP.out.res.frozen
        have r5 : (w4.setCell ⟨M + 1, 0, none⟩ (.bool false)).cell? ⟨M + 1, 0, none⟩ = some (.bool false) := World.cell?_setCell_same _ _ _ r4
        have d4 : (w4.setCell ⟨M + 1, 0, none⟩ (.bool false)).heap[M + 6]? = some (.deferred (some [])) := (Below.heap_setCell _ _ _ _ (by simp)).trans ((hB4.block _ (by omega)).trans HWP.out.defs)
        have hE1 : Below M w (((w4.setCell ⟨M + 1, 0, none⟩ (.bool false)).putObj (M + 6) (.deferred none))) := (((HBW.out.trans (hB4.mono (by omega))).setCell (p := ⟨M + 1, 0, none⟩) (show M ≤ M + 1 by omega) _)).trans (below_put _ (by omega) d4)
        have r6 : (((w4.setCell ⟨M + 1, 0, none⟩ (.bool false)).putObj (M + 6) (.deferred none))).cell? ⟨M + 1, 0, none⟩ = some (.bool false) := (World.cell?_of_block (World.putObj_heap_other (show M + 1 ≠ M + 6 by omega))).trans r5
        have HEND : Hid (ReadEnd S P k n t v text w (.returned (.bool false)) (((w4.setCell ⟨M + 1, 0, none⟩ (.bool false)).putObj (M + 6) (.deferred none)))) := Lib.hid (by
          unfold ReadEnd
          rw [HRD.out, if_neg hc, hM]
          exact ⟨rfl, hE1⟩)
        clear hE1 hB4 HWP HBW HRD hset c0 c1 c2 c3 c4 c5 cu0
        gi_wp2
        refine ⟨by simp, .inl ⟨_, _, rfl, run_takeDeferred d4, ?_⟩⟩
        exact ⟨_, result_cell rfl rfl (load_bool r6), HEND.out⟩
    · refine ⟨hv, .inr ⟨h5, ?_⟩⟩
      have k6 : (W'.putObj (M + 6 + 1) (rec .exhausted (some .ret))).heap[M + 6]? = some (.deferred (some [])) := (World.putObj_heap_other (by omega)).trans h6
      have kr : Boxed ((W'.putObj (M + 6 + 1) (rec .exhausted (some .ret))).putObj (M + 6) (.deferred none)) (M + 1) 4 (.bool false) := Boxed.other (Boxed.other h2 _ (by omega)) _ (by omega)
      have hE1 : Below M w ((W'.putObj (M + 6 + 1) (rec .exhausted (some .ret))).putObj (M + 6) (.deferred none)) := (h3.trans (below_put _ (by omega) h5)).trans (below_put _ (by omega) k6)
      simp only [Exit.inBlock, Exit.then, bodyPostM]
      refine ⟨by simp, .inl ⟨_, _, rfl, run_takeDeferred k6, ?_⟩⟩
      refine ⟨_, result_cell rfl rfl (load_bool kr.cell), ?_⟩
      unfold ReadEnd readN
      rw [h1, hM]
      exact ⟨rfl, hE1⟩
  case round =>
    intro pre x r rest W hcs hxl hJ hC
    obtain ⟨ns, hns, hnl, hG⟩ := hJ
    rw [list_tx] at hcs
    have hGX := hG.put (rec' := rec .busy none)
    have hCX := hC.other (rec .busy none) (l := M + 7) (by omega)
    refine round_ret (a₁ := { tmps := #[.agg #[.string TN, .int .i64 lo, .int .i64 hi, .pointer q1, .pointer q2, .pointer q3], .string (tx text), .pointer (some ⟨M, 0, none⟩), undef, .pointer (some ⟨M + 1, 0, none⟩), .pointer (some ⟨M + 1 + 1, 0, none⟩), .string x, undef, undef, .string (tx text), .func (.func 64) #[] #[.pointer (some ⟨M + 1 + 1 + 1 + 1, 0, none⟩), .pointer (some ⟨M + 1 + 1 + 1, 0, none⟩), .pointer (some ⟨M + 1 + 1 + 1 + 2, 0, none⟩)], .string x, undef, undef, undef, undef, undef, undef, undef, undef, undef, undef, undef, undef, undef, undef], defers := [] })
      (R := fun W' => (∃ ns, wholesZ (pre ++ [x.data.toList]) = some ns ∧ ns.length = (pre ++ [x.data.toList]).length ∧ Num M F6 w (rec .ready none) false ns W') ∧ Cap 47 (M + 3) r W')
      (Rx := fun W => wholesZ (cutB 47 text) = none ∧ Boxed W (M + 1) 4 (.bool false) ∧ Below M w W ∧ M + 8 ≤ W.heap.size ∧ W.heap[M + 7]? = some (rec .done (some .ret)) ∧ W.heap[M + 6]? = some (.deferred (some []))) hrec hG.loop rfl ?assign ?body
    case assign =>
      clear HG hrec hGX hCX hG hC
      intro K hK
      gi_wp2
      exact hK
    case body =>
      clear HG hrec hG hC
      change Num M F6 w (rec .busy none) false ns (W.putObj (M + 6 + 1) (rec .busy none)) at hGX
      change Cap 47 (M + 3) r (W.putObj (M + 6 + 1) (rec .busy none)) at hCX
      generalize W.putObj (M + 6 + 1) (rec .busy none) = X at *
      have hwh := whole_any x (by rw [tx_len] at hxl; unfold maxLen; omega) X
      have hMX : M ≤ X.heap.size := by have := hGX.size; omega
      by_cases he : (wholeF x.data.toList).2 = 0
      · have hwa := wholes_app hns x.data.toList
        rw [if_pos he] at hwa
        have hin := whole_in x.data.toList
        rw [he] at hwh
        have HWA := Lib.hid hwa
        generalize (wholeF x.data.toList).1 = z at *
        have HIN := Lib.hid hin
        have HGX := Lib.hid hGX
        have HCX := Lib.hid hCX
        have hsl : ns.length + 1 ≤ 17592186044416 := by
          have h1 := cut_len 47 text
          have h2 := congrArg List.length hcs
          rw [List.length_append, List.length_cons] at h2
          omega
        have HPL := Lib.hid hnl
        clear hwa hin hGX hCX hns he hcs hnl hxl
        gi_wp2
        refine ⟨trivial, (CallsIn.inRound _ (callsIn_wide.2 hwh)).mono ?_⟩
        rintro e X2 ⟨rfl, hB2⟩
        have hG2 := HGX.out.past hMX hB2
        have hC2 : Cap 47 (M + 3) r X2 := HCX.out.mov (Mov.ofB (S := fun _ => False) hB2) (fun _ _ _ h => h)
        obtain ⟨u, hu, ho⟩ := hG2.own
        obtain ⟨v', X3, hrun, hgr⟩ := append_I 22 ho z hsl (by have := hG2.size; omega)
        obtain ⟨g1, g2, g3⟩ := hG2.grown HIN.out hu ho hgr
        obtain ⟨pu, cu, rfl⟩ := ho.len
        obtain ⟨pv, cv, hpv⟩ := hgr.1.len
        rw [List.length_append, List.length_singleton] at hpv
        subst hpv
        have hcu := hu.cell
        have hcl := g1.cell
        have hfr := g1.frozen
        have HG3 := Lib.hid g2
        have HC3 := Lib.hid (g3 _ _ hC2)
        clear hG2 hC2 hu ho hgr g1 g2 g3 HGX HCX HIN hwh hB2 hMX hsl
        gi_wp2_with (gi_at_builtin; refine wpListIn_append_run _ rfl _ _ _ _ rfl _ _ rfl rfl _ _ hrun ?_)
        exact ⟨HG3.out.loop, ⟨ns ++ [z], HWA.out, by simp [HPL.out], HG3.out.put⟩, HC3.out.other _ (by omega)⟩
      · have hno : wholesZ (cutB 47 text) = none := wholes_mem (x := x.data.toList) (by rw [hcs]; simp) he
        have hnz : ((wholeF x.data.toList).2 != 0) = true := by simpa using he
        generalize (wholeF x.data.toList).2 = ec at *
        generalize (wholeF x.data.toList).1 = z at *
        have HGX := Lib.hid hGX
        have HNO := Lib.hid hno
        clear hGX hCX hns he hcs hnl hxl hno
        gi_wp2
        refine ⟨trivial, (CallsIn.inRound _ (callsIn_wide.2 hwh)).mono ?_⟩
        rintro e X2 ⟨rfl, hB2⟩
        have hG2 := HGX.out.past hMX hB2
        have hrc := hG2.res.cell
        have hrf := hG2.res.frozen
        have hsz := hG2.size
        have hb : Boxed (X2.setCell ⟨M + 1, 0, none⟩ (.bool false)) (M + 1) 4 (.bool false) := hG2.res.set _
        have hl7 : (X2.setCell ⟨M + 1, 0, none⟩ (.bool false)).heap[M + 6 + 1]? = some (rec .busy none) := (Below.heap_setCell _ _ _ _ (by simp)).trans hG2.loop
        have hd6 : (X2.setCell ⟨M + 1, 0, none⟩ (.bool false)).heap[M + 6]? = some (.deferred (some [])) := (Below.heap_setCell _ _ _ _ (by simp)).trans hG2.defs
        have hbl := hG2.below.setCell (p := ⟨M + 1, 0, none⟩) (show M ≤ M + 1 by omega) (.bool false)
        have hsz2 : M + 8 ≤ (X2.setCell ⟨M + 1, 0, none⟩ (.bool false)).heap.size := by simpa using hsz
        have HE1 := Lib.hid hb
        have HE2 := Lib.hid hl7
        have HE3 := Lib.hid hd6
        have HE4 := Lib.hid hbl
        have HE5 := Lib.hid hsz2
        clear hG2 HGX hwh hB2 hMX hb hl7 hd6 hbl hsz2
        gi_wp2
        exact ⟨HE2.out, HNO.out, Boxed.other HE1.out _ (by omega), HE4.out.trans (below_put _ (by omega) HE2.out), World.putObj_heap_same (by have := HE5.out; omega), (World.putObj_heap_other (by omega)).trans HE3.out⟩
end
end Go.Proofs.YtdhkonaebhpeeaaDoor.Po

