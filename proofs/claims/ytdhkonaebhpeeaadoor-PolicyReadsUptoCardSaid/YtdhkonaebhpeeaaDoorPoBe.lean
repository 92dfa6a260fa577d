/- What PolicyBounds and PolicyTiers go by. -/
import Derived.Test.YtdhkonaebhpeeaaDoorPoEx
namespace Go.Proofs.YtdhkonaebhpeeaaDoor.Po
open Go Go.RowKit

theorem right_lit (n : List Int) (b : Bool) (hb : rightZ n [10, 60] = b) (hn : n.length = 10) (hin : ∀ x ∈ n, In64 x) (W : World) (p : Option Addr) (c : Nat) (h : Tr (fun _ => False) (.slice p 2 c) [10, 60] W) :
    Calls Tryd.prog 15 #[.agg (valsP n (.slice p 2 c))] W fun e w' => e = .returned (.bool b) ∧ Below W.heap.size W w' := by
  have := right_any _ n [10, 60] _ W hn hin h
  rwa [right_same n [10, 60] hn, hb] at this
theorem wpList_load_run {P : Program} {ops : Array Oper} {rest : List Oper} {o : Oper} {a : Act} {w : World} {Q : Exit → Act → World → Prop} (hgd : o.guard = none) (ty : TypeId) (x : Operand) (ho : o.op = .load ty x)
    (ad : Addr) (v : Value) (hx : a.eval x = .pointer (some ad)) (hr : (loadVar ty ad).run P w = .ok v w) (h : wpList P ops Q rest (a.put o.dst v) w) : wpList P ops Q (o :: rest) a w := by
  refine wpList_plain hgd fun K hK => ?_
  unfold Oper.wp execOp
  simp only [ho, hx, Instr.loadAt, Instr.sureAddr, Sem.run_bind, Sem.run_pure, Result.andThen_ok, hr]
  exact hK _ _ h
theorem base_lit (W : World) : Calls Tryd.prog 27 #[] W fun e w' => ∃ p c, e = .returned (.agg #[.int .i64 64, .int .i64 32, .int .i64 64, .int .i64 8, .int .i64 6, .int .i64 2, .int .i64 2, .int .i64 60, .int .i64 30, .int .i64 5, .slice p 2 c]) ∧ Tr (fun _ => False) (.slice p 2 c) [10, 60] w' ∧ Below W.heap.size W w' := by
  refine (base_of W).mono ?_
  rintro e w' ⟨v, rfl, hO, hB⟩
  have hT := hO.tr (S := fun _ => False) (fun _ _ h => h) (by decide)
  obtain ⟨p, c, rfl⟩ := hT.len
  exact ⟨p, c, rfl, hT, hB⟩
end Go.Proofs.YtdhkonaebhpeeaaDoor.Po

