/- What PolicyBounds and PolicyTiers go by. -/
import Derived.Test.YtcgkgdhbipbnfaaGreatDoorPoWm
namespace Go.Proofs.YtcgkgdhbipbnfaaGreatDoor.Po
open Go Go.RowKit

theorem wpList_load_run {P : Program} {ops : Array Oper} {rest : List Oper} {o : Oper} {a : Act} {w : World} {Q : Exit → Act → World → Prop} (hgd : o.guard = none) (ty : TypeId) (x : Operand) (ho : o.op = .load ty x)
    (ad : Addr) (v : Value) (hx : a.eval x = .pointer (some ad)) (hr : (loadVar ty ad).run P w = .ok v w) (h : wpList P ops Q rest (a.put o.dst v) w) : wpList P ops Q (o :: rest) a w := by
  refine wpList_plain hgd fun K hK => ?_
  unfold Oper.wp execOp
  simp only [ho, hx, Instr.loadAt, Instr.sureAddr, Sem.run_bind, Sem.run_pure, Result.andThen_ok, hr]
  exact hK _ _ h
theorem base_lit (W : World) : Calls Tryz.prog 30 #[] W fun e w' => ∃ p c, e = .returned (.agg #[.int .i64 64, .int .i64 32, .int .i64 64, .int .i64 8, .int .i64 6, .int .i64 2, .int .i64 2, .int .i64 60, .int .i64 30, .int .i64 5, .slice p 2 c]) ∧ Tr (fun _ => False) (.slice p 2 c) [10, 60] w' ∧ Below W.heap.size W w' := by
  refine (base_of W).mono ?_
  rintro e w' ⟨v, rfl, hO, hB⟩
  have hT := hO.tr (S := fun _ => False) (fun _ _ h => h) (fun x hx => by simp [baseZ] at hx; rcases hx with rfl | rfl <;> (unfold In64; omega))
  obtain ⟨p, c, rfl⟩ := hT.len
  exact ⟨p, c, rfl, hT, hB⟩
/-- Several cells of a block stored, one behind the other. -/
theorem CellsAt.sets {b : Nat} : ∀ (news : List Value) (o : Nat) (X : List Value) (w : World), CellsAt b X.toArray w → o + news.length ≤ X.length → CellsAt b (X.take o ++ news ++ X.drop (o + news.length)).toArray (w.setCells b o news)
  | [], o, X, w, h, _ => by simpa [World.setCells] using h
  | v :: r, o, X, w, h, hl => by
    simp only [List.length_cons] at hl
    have h1 := h.set o v (by simp; omega)
    rw [List.setIfInBounds_toArray] at h1
    have h2 := CellsAt.sets r (o + 1) (X.set o v) _ h1 (by simp; omega)
    have e : (X.set o v).take (o + 1) ++ r ++ (X.set o v).drop (o + 1 + r.length) = X.take o ++ v :: r ++ X.drop (o + (v :: r).length) := by
      rw [List.drop_set_of_lt (by omega), List.set_eq_take_append_cons_drop, if_pos (by omega)]
      have : (X.take o ++ v :: X.drop (o + 1)).take (o + 1) = X.take o ++ [v] := by
        rw [List.take_append, List.length_take, Nat.min_eq_left (by omega), List.take_of_length_le (by simp; omega)]
        simp
      rw [this]
      simp only [List.length_cons, List.append_assoc, List.cons_append, List.nil_append]
      rw [show o + 1 + r.length = o + (r.length + 1) by omega]
    rw [e] at h2
    exact h2
theorem Mov.sets {S : Nat → Prop} {a : World} {b : Nat} (hb : S b) : ∀ (news : List Value) (o : Nat) (w : World), Mov S a w → Mov S a (w.setCells b o news)
  | [], _, _, h => h
  | v :: r, o, _w, h => Mov.sets hb r (o + 1) _ (h.set hb o v)
theorem pol_put {N : Nat} {n0 n : List Int} {v0 v : Value} {W : World} (h : PolAt N n0 v0 W) (h0 : n0.length = 10) (hn : n.length = 10) : PolAt N n v (W.setCells N 0 (valsP n v).toList) := by
  have h1 := CellsAt.sets (valsP n v).toList 0 (valsP n0 v0).toList W (by simpa using h) (by simp [valsP_size, h0, hn])
  have e : (valsP n0 v0).toList.take 0 ++ (valsP n v).toList ++ (valsP n0 v0).toList.drop (0 + (valsP n v).toList.length) = (valsP n v).toList := by
    rw [List.drop_of_length_le (by simp [valsP_size, h0, hn])]
    simp
  rw [e] at h1
  simpa using h1
theorem OwnI.tr2 {S : Nat → Prop} {B : Nat} {v : Value} {t : List Int} {w : World} (h : OwnI B v t w) (hS : ∀ g, B ≤ g → g < w.heap.size → ¬ S g) (ht : ∀ x ∈ t, In64 x) : Tr S v t w := by
  rcases h.form with ⟨rfl, rfl⟩ | ⟨g, cap, rfl, h1, h2, h3, h4, h5⟩
  · exact Tr.nil _ _
  · exact ⟨_, cap, rfl, h3, h4, fun e => (by cases e), ht, fun k hk => ⟨g, 0, rfl, h2, hS g h1 h2, (by rw [Nat.zero_add]; exact h5 k hk)⟩⟩
theorem run_store_cells {P : Program} {g : Nat} {ty : TypeId} {old new : Array Value} {w : World} (h : CellsAt g old w) (hi : (P.info? ty).map (·.size) = some new.size) (ho : old.size = new.size) (h1 : new.all (·.oneCell') = true) :
    (storeVar ty ⟨g, 0, none⟩ (.agg new)).run P w = .ok () (w.setCells g 0 new.toList) := by
  have hat : ∀ j, j < new.toList.length → old[0 + 0 + j]? = some (old.getD (0 + 0 + j) undef) := fun j hj => by
    rw [Array.getD_eq_getD_getElem?, Array.getElem?_eq_getElem (by simp at hj; omega)]
    rfl
  have hst := run_storeCells_cells (P := P) g 0 new.toList 0 w (fun j hj => Option.isSome_iff_exists.2 ⟨_, h.cell _ _ (hat j hj)⟩) (fun j hj => h.fro _ _ (hat j hj)) (fun v hv => (Array.all_eq_true_iff_forall_mem.1 h1) v (by simpa using hv))
  cases hq : P.info? ty with
  | none => simp [hq] at hi
  | some i =>
    have hs : new.size = i.size := by simp [hq] at hi; omega
    simp at hst
    simp [storeVar, sizeOf, typeInfo, hq, Value.cells, hs, hst]
theorem wpList_store_cells {P : Program} {ops : Array Oper} {rest : List Oper} {o : Oper} {a : Act} {w : World} {Q : Exit → Act → World → Prop} (hgd : o.guard = none) (ty : TypeId) (x y : Operand) (ho : o.op = .store ty x y)
    (g : Nat) (new old : Array Value) (hx : a.eval x = .pointer (some ⟨g, 0, none⟩)) (hy : a.eval y = .agg new) (hg : CellsAt g old w) (hi : (P.info? ty).map (·.size) = some new.size)
    (hold : old.size = new.size) (h1 : new.all (·.oneCell') = true)
    (h : wpList P ops Q rest (a.put o.dst undef) (w.setCells g 0 new.toList)) : wpList P ops Q (o :: rest) a w := by
  refine wpList_plain hgd fun K hK => ?_
  unfold Oper.wp execOp
  simp only [ho, hx, hy, Instr.storeAt, Instr.sureAddr, Sem.run_bind, Sem.run_pure, Result.andThen_ok, run_store_cells hg hi hold h1]
  exact hK _ _ h
theorem below_sets {B b : Nat} (hb : B ≤ b) : ∀ (vs : List Value) (o : Nat) (w0 w : World), Below B w0 w → Below B w0 (w.setCells b o vs)
  | [], _, _, _, h => h
  | v :: r, o, w0, _w, h => below_sets hb r (o + 1) w0 _ (h.setCell (p := ⟨b, o, none⟩) hb v)
theorem base_in : ∀ x ∈ baseZ.n, In64 x := by unfold baseZ In64; simp
theorem base_tin : ∀ x ∈ baseZ.t, In64 x := by unfold baseZ In64; simp
end Go.Proofs.YtcgkgdhbipbnfaaGreatDoor.Po

