/- CellFalse, walked. -/
import Derived.Test.YtmjipafhahggpaaDoorMCeE
import Derived.Test.YtmjipafhahggpaaDoorMCeFm
import Derived.Test.YtmjipafhahggpaaDoorMcO
import Derived.Test.YtmjipafhahggpaaDoorMReg3
namespace Go.Proofs.YtmjipafhahggpaaDoor.Ce
open Go Go.RowKit Hi

def In32 (x : Int) : Prop := -2147483648 ≤ x ∧ x ≤ 2147483647
theorem In32.big {x : Int} (h : In32 x) : In64 x := by unfold In32 at h; unfold In64; omega
/-- A slice of numbers of 32 bits. -/
def Ints32 (p : Option Addr) (xs : List Int) (w : World) : Prop :=
  ∀ k (h : k < xs.length), ∃ B off, p = some ⟨B, off, none⟩ ∧ B < w.heap.size ∧ w.cell? ⟨B, off + k, none⟩ = some (.int .i32 xs[k]) ∧ In32 xs[k]
theorem lowN_ge {xs : List Int} {a : Int} (h : ∀ x ∈ xs, In64 x) (h2 : ∀ x ∈ xs, a ≤ x) (hp : 0 < xs.length) : a ≤ lowN xs := h2 _ (lowN_mem h hp)
end Go.Proofs.YtmjipafhahggpaaDoor.Ce

