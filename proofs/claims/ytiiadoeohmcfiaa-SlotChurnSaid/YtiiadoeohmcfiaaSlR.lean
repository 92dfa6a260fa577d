/- The place of an entry, as a region reckons it. -/
import Derived.Test.YtiiadoeohmcfiaaSlB
import Derived.Test.YtiiadoeohmcfiaaReg4
namespace Go.Proofs.Ytiiadoeohmcfiaa
open Go Go.RowKit
theorem at_entry (B q : Nat) (hq : q < 512) (w : World) : (Instr.indexAt 57 (.pointer (some ⟨B, 257, none⟩)) (.int .i64 (q : Int))).run Try.prog w = .ok (.pointer (some ⟨B, 257 + q * 2, none⟩)) w := by
  have i0 : (0 : Int) ≤ (q : Int) := by omega
  have i1 : (q : Int) < 512 := by omega
  go_simp
theorem exec_entry {B q : Nat} (hq : q < 512) {a : Act} {x i : Nat} {o : Oper} (ho : o.op = .indexAddr 57 (.tmp x) (.tmp i)) (h1 : a.tmps[x]? = some (.pointer (some ⟨B, 257, none⟩))) (h2 : a.tmps[i]? = some (.int .i64 (q : Int))) (w : World) :
    (execOp a.eval o).run Try.prog w = .ok (.value (.pointer (some ⟨B, 257 + q * 2, none⟩))) w := by
  unfold execOp
  rw [ho]
  have h3 := Reg.eval_tmp h1
  have h4 := Reg.eval_tmp h2
  have h5 := at_entry B q hq w
  simp only [h3, h4]
  go_simp
end Go.Proofs.Ytiiadoeohmcfiaa
