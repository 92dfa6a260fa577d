/- The listed variables: a world for the witness; how much a text that comes in holds. -/
import Derived.Test.YtekpjcdnmidgiaaDoorLxOpen
import Derived.Stop.LaidErr
import Derived.Lib.SmallJoins
import Derived.ChangeArms
import Derived.ChangeSlices
import Derived.ChangeSame
namespace Go.Proofs.YtekpjcdnmidgiaaDoor
open Go Go.RowKit

theorem text_small {H : Type} {P : Program} {ts : List TypeId} {ds : List (DataW H)} (h : (DataW.weightsEach P ts ds).all (· ≤ reachBytes) = true) (j : Nat) {t : TypeId} {s : ByteArray} (ht : ts[j]? = some t) (hd : ds[j]? = some (.lit (.string s.data.toList))) : s.size ≤ 140737488355328 := text_reach h j ht hd
theorem bulk_at {H : Type} : ∀ (l : List (DataW H)) (j : Nat) (d : DataW H), l[j]? = some d → Rows.uptoBulk d ≤ Rows.uptoBulkAll l
  | [], j, d, h => by simp at h
  | x :: r, 0, d, h => by
    obtain rfl : x = d := by simpa using h
    simp only [Rows.uptoBulkAll]
    omega
  | x :: r, j + 1, d, h => by
    have ih := bulk_at r j d (by simpa using h)
    simp only [Rows.uptoBulkAll]
    omega
theorem small_string {H : Type} {ds : List (DataW H)} (hk : Rows.uptoSmall H ds = true) (j : Nat) {s : ByteArray} (hd : ds[j]? = some (.lit (.string s.data.toList))) : s.size ≤ 1048576 := by
  have h1 : Rows.uptoBulkAll ds ≤ 1048576 := of_decide_eq_true hk
  have h2 := bulk_at ds j _ hd
  have h3 : Rows.uptoBulk (DataW.lit (H := H) (.string s.data.toList)) = s.data.toList.length + 1 := by simp [Rows.uptoBulk]
  rw [h3, size_list] at h2
  omega
/-- The cells of a table's datum: of numbers, or of structs of numbers. -/
def cellOne : DataW Unit → Value
  | .lit (.int k n) => Value.int k n
  | _ => undef
def cellsOne : DataW Unit → List Value
  | .agg l => l.map cellOne
  | d => [cellOne d]
def cellsOfData : DataW Unit → Array Value
  | .agg l => (l.flatMap cellsOne).toArray
  | _ => #[]
def laidOnto (h : Array Obj) (g : Nat) (d : DataW Unit) : Array Obj := h.modify g fun
  | .cells _ t frozen => .cells (cellsOfData d) t frozen
  | o => o
/-- A world for the witness: the settled one, each listed table holding what its initialiser lays. -/
noncomputable def laidWorld (os : Os) : World :=
  { World.holding Tryd.prog os ⟨#[], #[], []⟩ with heap := laidOnto (laidOnto (World.holding Tryd.prog os ⟨#[], #[], []⟩).heap 2 Rows.laid_unicode_utf8_acceptRanges) 1 Rows.laid_unicode_utf8_first }
end Go.Proofs.YtekpjcdnmidgiaaDoor
