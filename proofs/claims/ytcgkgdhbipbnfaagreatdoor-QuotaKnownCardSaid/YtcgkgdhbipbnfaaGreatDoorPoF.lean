/- The parts of a policy, listed. -/
import Derived.Test.YtcgkgdhbipbnfaaGreatDoorPoC
import Derived.BigRegion
namespace Go.Proofs.YtcgkgdhbipbnfaaGreatDoor.Po
open Go Go.RowKit

set_option maxRecDepth 100000 in
set_option maxHeartbeats 16000000 in
theorem fields_of (P : Nat) (w : World) : Calls Tryz.prog 68 #[.pointer (some ⟨P, 0, none⟩)] w fun e w' => e = .returned (.slice (some ⟨w.heap.size, 0, none⟩) 11 11) ∧ PartsAt w.heap.size P (List.range 11) w' ∧ Below w.heap.size w w' := by
  go_enter Tryz.func68, Tryz.ntmps68
  go_wp2
  go_region
  go_wp2
  go_ret
  refine ⟨rfl, ?_, ?_⟩
  · exact (CellsAt.new (flatP P (List.range 11)).toArray 130 w).drew
  · exact ((Below.refl _ _).alloc (Nat.le_refl _) _).drew

end Go.Proofs.YtcgkgdhbipbnfaaGreatDoor.Po

