/- The parts of a policy, listed. -/
import Derived.Test.YtdhkonaebhpeeaaDoorPoC
import Derived.BigRegion
namespace Go.Proofs.YtdhkonaebhpeeaaDoor.Po
open Go Go.RowKit

set_option maxRecDepth 100000 in
set_option maxHeartbeats 16000000 in
theorem fields_of (P : Nat) (w : World) : Calls Tryd.prog 29 #[.pointer (some ⟨P, 0, none⟩)] w fun e w' => e = .returned (.slice (some ⟨w.heap.size, 0, none⟩) 11 11) ∧ PartsAt w.heap.size P (List.range 11) w' ∧ Below w.heap.size w w' := by
  go_enter Tryd.func29, Tryd.ntmps29
  go_wp2
  go_region
  go_wp2
  go_ret
  refine ⟨rfl, ?_, ?_⟩
  · exact (CellsAt.new (flatP P (List.range 11)).toArray 70 w).drew
  · exact ((Below.refl _ _).alloc (Nat.le_refl _) _).drew

end Go.Proofs.YtdhkonaebhpeeaaDoor.Po

