/- A region that draws its order, that reads old cells only, and whose callees make memory: walked once, in the text's order, at the class of all worlds in which nothing old has turned. -/
import Derived.Test.YtklklpccpbhfgaaHiRef
import Derived.BigQuiet
namespace Go.Proofs.Ytklklpccpbhfgaa
open Go Go.RowKit

/-- A world in which nothing has turned that lay there in w. -/
structure Beh (w : World) where
  u : World
  h : Below w.heap.size w u
instance (w : World) : Inhabited (Beh w) := ⟨⟨w, Below.refl _ _⟩⟩
theorem wp_region_beh {P : Program} {id : Nat} {Q : Exit → Act → World → Prop} {a : Act} {w : World} {l : List Oper} (hm : P.follows .mixedOrders = true) (hB : Region.lexB .any l.toArray = true)
    (h : wpQuiet P l.toArray (fun w' => ∃ p : Beh w, w' = p.u) (fun a' => ∀ w', (∃ p : Beh w, w' = p.u) → Q .normal a' w') l a) : (Code.region id l.toArray true).wp P Q a w :=
  wp_region_quiet (C := fun w' => ∃ p : Beh w, w' = p.u) hm hB ⟨⟨{ w with drawn := w.drawn + 1 }, ⟨rfl, rfl, rfl, Nat.le_refl _, fun _ _ => rfl⟩⟩, rfl⟩ (by simpa using h)
theorem calls_beh {P : Program} {f : FuncId} {args : Array Value} {w : World} {v : Value} (p : Beh w) (h : Calls P f args p.u fun e w' => e = .returned v ∧ Below p.u.heap.size p.u w') : Calls P f args p.u fun e w'' => e = .returned v ∧ ∃ q : Beh w, w'' = q.u :=
  h.mono fun _ w' ⟨he, hB⟩ => ⟨he, ⟨w', p.h.trans (hB.mono p.h.size)⟩, rfl⟩
theorem calls_beh_same {P : Program} {f : FuncId} {args : Array Value} {w : World} {v : Value} (p : Beh w) (h : Calls P f args p.u fun e w' => e = .returned v ∧ p.u = w') : Calls P f args p.u fun e w'' => e = .returned v ∧ ∃ q : Beh w, w'' = q.u :=
  h.mono fun _ _ ⟨he, hB⟩ => ⟨he, p, hB.symm⟩
theorem Beh.cell {w : World} {b i : Nat} {v : Value} (hb : b < w.heap.size) (h : w.cell? ⟨b, i, none⟩ = some v) (p : Beh w) : p.u.cell? ⟨b, i, none⟩ = some v := (p.h.cell (p := ⟨b, i, none⟩) hb).trans h
theorem tx_append (a b : List UInt8) : tx a ++ tx b = tx (a ++ b) := by
  apply ByteArray.ext
  simp [tx, ByteArray.data_append]
end Go.Proofs.Ytklklpccpbhfgaa
