/- copy of items of two cells each, into a row that is known whole; as a step of a list, and of a region that draws. -/
import Derived.Test.YtklklpccpbhfgaaHiTp
import Derived.Laws.CopyRow
import Derived.Laws.CopyOwn
import Derived.Deep.RegionLaw
namespace Go.Proofs.Ytklklpccpbhfgaa
open Go Go.RowKit
section
variable {P : Program}
theorem run_copy2 (w : World) (dT sT ty elem : TypeId) (g o dLen dCap : Nat) (a : Addr) (sLen sCap : Nat) (cur : Array Value) (t : TypeId) (cs : List Value)
    (hu : P.underlying dT = some (.slice elem)) (hs : (P.info? elem).map (·.size) = some 2)
    (hg : w.heap[g]? = some (.cells cur t (0, 0))) (hn : cs.length = Nat.min sLen dLen * 2)
    (hsrc : ∀ j v, cs[j]? = some v → w.cell? (a.add j) = some v) (hfit : o + cs.length ≤ cur.size) (h1 : ∀ v ∈ cs, v.oneCell' = true) :
    (Builtin.copy_ #[dT, sT] ty #[.slice (some ⟨g, o, none⟩) dLen dCap, .slice (some a) sLen sCap]).run P w =
      .ok (goInt (Nat.min sLen dLen)) (w.setRow g (cur.toList.take o ++ cs ++ cur.toList.drop (o + cs.length)).toArray) := by
  have hl := run_loadCells_list (P := P) w a cs hsrc
  have hst := run_storeCells_at P g o t cs 0 cur w hg (by simpa using hfit) h1
  cases hq : P.info? elem with
  | none => simp [hq] at hs
  | some i =>
    have hi : i.size = 2 := by simpa [hq] using hs
    simp [Builtin.copy_, run_underlying hu, Builtin.lenOf, Builtin.firstCells, sizeOf, typeInfo, hq, hi, ← hn, hl, hst]
/-- What a copy is where its run is known. -/
theorem wp_copyR (w : World) {o : Oper} {a : Act} {K : Act → World → Prop} {Q : Exit → Act → World → Prop} (d s : Operand) (t : TypeId)
    (ho : o.op = .call { callee := .builtin .copy, args := #[d, s], argTypes := #[t, t] }) (v u : Value) (hd : a.eval d = v) (hs : a.eval s = u) {v' : Value} {w' : World}
    (hr : (Builtin.copy_ #[t, t] o.type #[v, u]).run P w = .ok v' w') (h : K (a.put o.dst v') w') : o.wp P a w K Q := by
  unfold Oper.wp
  simp [execOp, ho, resolve, invoke, builtin, hd, hs, hr, Result.andThen]
  exact h
theorem wpList_copyR (w : World) {ops : Array Oper} {rest : List Oper} {o : Oper} {a : Act} {Q : Exit → Act → World → Prop} (hgd : o.guard = none) (d s : Operand) (t : TypeId)
    (ho : o.op = .call { callee := .builtin .copy, args := #[d, s], argTypes := #[t, t] }) (v u : Value) (hd : a.eval d = v) (hs : a.eval s = u) {v' : Value} {w' : World}
    (hr : (Builtin.copy_ #[t, t] o.type #[v, u]).run P w = .ok v' w') (h : wpList P ops Q rest (a.put o.dst v') w') : wpList P ops Q (o :: rest) a w :=
  wpList_plain hgd fun _ hK => wp_copyR w d s t ho v u hd hs hr (hK _ _ h)
theorem step_copyR {ops : Array Oper} {o : Oper} {a : Act} {w : World} {K : Act → World → Prop} {Q : Exit → Act → World → Prop} {E : Prop}
    (hg : o.guard = none) (d s : Operand) (t : TypeId) (ho : o.op = .call { callee := .builtin .copy, args := #[d, s], argTypes := #[t, t] })
    (v u : Value) (hd : a.eval d = v) (hs : a.eval s = u) {v' : Value} {w' : World} (hr : (Builtin.copy_ #[t, t] o.type #[v, u]).run P w = .ok v' w') (hK : K (a.put o.dst v') w') :
    if Region.wanted o (yielded ops a.tmps) = true then Oper.wp P o a w K Q else E := by
  have hw : Region.wanted o (yielded ops a.tmps) = true := by simp [Region.wanted, hg]
  rw [if_pos hw]
  exact wp_copyR w d s t ho v u hd hs hr hK
end
/-- A row with an item put in: the cells behind are moved on. -/
theorem shifted {F : List Value} {c : List Value} {n p m : Nat} {u : List Value} (hF : F.length = n * 2) (hp : p < n) (hc : c.take (n * 2) = F) (hm : (n + 1) * 2 ≤ c.length) (hu : u.length = 2) (hml : c.length = m) :
    let c1 := c.take ((p + 1) * 2) ++ F.drop (p * 2) ++ c.drop ((p + 1) * 2 + (F.drop (p * 2)).length)
    let c2 := c1.take (p * 2) ++ u ++ c1.drop (p * 2 + u.length)
    c1.length = m ∧ c2.length = m ∧ c2.take ((n + 1) * 2) = F.take (p * 2) ++ u ++ F.drop (p * 2) := by
  intro c1 c2
  have e1 : c1.length = m := by simp [c1, hF]; omega
  have e2 : c2.length = m := by simp [c2, e1, hu]; omega
  refine ⟨e1, e2, ?_⟩
  have hF1 : F.take (p * 2) = c.take (p * 2) := by rw [← hc, List.take_take, show min (p * 2) (n * 2) = p * 2 by omega]
  have t1 : c1.take (p * 2) = c.take (p * 2) := by
    simp only [c1, List.append_assoc]
    rw [List.take_append_of_le_length (by simp; omega), List.take_take, show min (p * 2) ((p + 1) * 2) = p * 2 by omega]
  have d1 : c1.drop (p * 2 + u.length) = F.drop (p * 2) ++ c.drop ((p + 1) * 2 + (F.drop (p * 2)).length) := by
    simp only [c1, List.append_assoc]
    rw [List.drop_left' (by simp [hu]; omega)]
  show (c1.take (p * 2) ++ u ++ c1.drop (p * 2 + u.length)).take ((n + 1) * 2) = _
  rw [t1, d1, hF1]
  rw [← List.append_assoc]
  rw [List.take_left' (by simp [hF, hu]; omega)]
/-- A new row with an item put in. -/
theorem laid {F Z : List Value} {n p : Nat} {u : List Value} (hF : F.length = n * 2) (hp : p < n) (hZ : (n + 1 - p) * 2 ≤ Z.length) (hu : u.length = 2) :
    let c := F.take (p * 2) ++ Z
    let c1 := c.take (p * 2) ++ u ++ c.drop (p * 2 + u.length)
    let c2 := c1.take ((p + 1) * 2) ++ F.drop (p * 2) ++ c1.drop ((p + 1) * 2 + (F.drop (p * 2)).length)
    c1.length = c.length ∧ c2.length = c.length ∧ c2.take ((n + 1) * 2) = F.take (p * 2) ++ u ++ F.drop (p * 2) := by
  intro c c1 c2
  have hcl : c.length = p * 2 + Z.length := by simp [c, hF]; omega
  have e1 : c1.length = c.length := by simp [c1, hu]; omega
  have e2 : c2.length = c.length := by simp [c2, e1, hF]; omega
  refine ⟨e1, e2, ?_⟩
  have t0 : c.take (p * 2) = F.take (p * 2) := by
    simp only [c]
    rw [List.take_left' (by simp [hF]; omega)]
  have t1 : c1.take ((p + 1) * 2) = F.take (p * 2) ++ u := by
    simp only [c1]
    rw [List.take_left' (by simp [hu]; omega), t0]
  show (c1.take ((p + 1) * 2) ++ F.drop (p * 2) ++ c1.drop ((p + 1) * 2 + (F.drop (p * 2)).length)).take ((n + 1) * 2) = _
  rw [t1]
  rw [List.take_left' (by simp [hF, hu]; omega)]
end Go.Proofs.Ytklklpccpbhfgaa
