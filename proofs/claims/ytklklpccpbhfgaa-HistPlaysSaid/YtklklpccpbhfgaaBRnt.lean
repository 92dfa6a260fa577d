/- The chapter's own Bounds: the first bucket. -/
import Derived.Test.YtklklpccpbhfgaaBRb
namespace Go.Proofs.Ytklklpccpbhfgaa
open Go Go.RowKit

set_option maxRecDepth 100000 in
set_option maxHeartbeats 4000000 in
theorem ref_bounds_first0 (w : World) :
    Calls Try.prog 45 #[.int .i64 0, .int .i64 (-64)] w fun e w' => e = .returned (.tuple #[.int .i64 (-9223372036854775808), .int .i64 (-9223372036854775808), .bool true]) ∧ Below w.heap.size w w' := by
  have hmo : ∀ (w : World), Calls Try.prog 60 #[.int .i64 0] w fun e w' => e = .returned (.int .i64 63) ∧ Below w.heap.size w w' := ref_most_any 0 (by decide)
  have hw : wrap64 (-wrap64 9223372036854775808) = -9223372036854775808 := by unfold wrap64; omega
  go_enter Try.func45, Try.ntmps45
  go_wp2_with fail
  refine (hmo _).mono ?_
  rintro e w1 ⟨rfl, hB1⟩
  go_wp2
  go_ret3
  exact ⟨congrArg (fun z => Ending.returned (.tuple #[.int .i64 z, .int .i64 z, .bool true])) hw, hB1⟩

set_option maxRecDepth 100000 in
set_option maxHeartbeats 4000000 in
theorem ref_bounds_first1 (w : World) :
    Calls Try.prog 45 #[.int .i64 1, .int .i64 (-126)] w fun e w' => e = .returned (.tuple #[.int .i64 (-9223372036854775808), .int .i64 (-9223372036854775808), .bool true]) ∧ Below w.heap.size w w' := by
  have hmo : ∀ (w : World), Calls Try.prog 60 #[.int .i64 1] w fun e w' => e = .returned (.int .i64 125) ∧ Below w.heap.size w w' := ref_most_any 1 (by decide)
  have hw : wrap64 (-wrap64 9223372036854775808) = -9223372036854775808 := by unfold wrap64; omega
  go_enter Try.func45, Try.ntmps45
  go_wp2_with fail
  refine (hmo _).mono ?_
  rintro e w1 ⟨rfl, hB1⟩
  go_wp2
  go_ret3
  exact ⟨congrArg (fun z => Ending.returned (.tuple #[.int .i64 z, .int .i64 z, .bool true])) hw, hB1⟩

set_option maxRecDepth 100000 in
set_option maxHeartbeats 4000000 in
theorem ref_bounds_first2 (w : World) :
    Calls Try.prog 45 #[.int .i64 2, .int .i64 (-248)] w fun e w' => e = .returned (.tuple #[.int .i64 (-9223372036854775808), .int .i64 (-9223372036854775808), .bool true]) ∧ Below w.heap.size w w' := by
  have hmo : ∀ (w : World), Calls Try.prog 60 #[.int .i64 2] w fun e w' => e = .returned (.int .i64 247) ∧ Below w.heap.size w w' := ref_most_any 2 (by decide)
  have hw : wrap64 (-wrap64 9223372036854775808) = -9223372036854775808 := by unfold wrap64; omega
  go_enter Try.func45, Try.ntmps45
  go_wp2_with fail
  refine (hmo _).mono ?_
  rintro e w1 ⟨rfl, hB1⟩
  go_wp2
  go_ret3
  exact ⟨congrArg (fun z => Ending.returned (.tuple #[.int .i64 z, .int .i64 z, .bool true])) hw, hB1⟩

set_option maxRecDepth 100000 in
set_option maxHeartbeats 4000000 in
theorem ref_bounds_first3 (w : World) :
    Calls Try.prog 45 #[.int .i64 3, .int .i64 (-488)] w fun e w' => e = .returned (.tuple #[.int .i64 (-9223372036854775808), .int .i64 (-9223372036854775808), .bool true]) ∧ Below w.heap.size w w' := by
  have hmo : ∀ (w : World), Calls Try.prog 60 #[.int .i64 3] w fun e w' => e = .returned (.int .i64 487) ∧ Below w.heap.size w w' := ref_most_any 3 (by decide)
  have hw : wrap64 (-wrap64 9223372036854775808) = -9223372036854775808 := by unfold wrap64; omega
  go_enter Try.func45, Try.ntmps45
  go_wp2_with fail
  refine (hmo _).mono ?_
  rintro e w1 ⟨rfl, hB1⟩
  go_wp2
  go_ret3
  exact ⟨congrArg (fun z => Ending.returned (.tuple #[.int .i64 z, .int .i64 z, .bool true])) hw, hB1⟩

set_option maxRecDepth 100000 in
set_option maxHeartbeats 4000000 in
theorem ref_bounds_first4 (w : World) :
    Calls Try.prog 45 #[.int .i64 4, .int .i64 (-960)] w fun e w' => e = .returned (.tuple #[.int .i64 (-9223372036854775808), .int .i64 (-9223372036854775808), .bool true]) ∧ Below w.heap.size w w' := by
  have hmo : ∀ (w : World), Calls Try.prog 60 #[.int .i64 4] w fun e w' => e = .returned (.int .i64 959) ∧ Below w.heap.size w w' := ref_most_any 4 (by decide)
  have hw : wrap64 (-wrap64 9223372036854775808) = -9223372036854775808 := by unfold wrap64; omega
  go_enter Try.func45, Try.ntmps45
  go_wp2_with fail
  refine (hmo _).mono ?_
  rintro e w1 ⟨rfl, hB1⟩
  go_wp2
  go_ret3
  exact ⟨congrArg (fun z => Ending.returned (.tuple #[.int .i64 z, .int .i64 z, .bool true])) hw, hB1⟩

end Go.Proofs.Ytklklpccpbhfgaa
