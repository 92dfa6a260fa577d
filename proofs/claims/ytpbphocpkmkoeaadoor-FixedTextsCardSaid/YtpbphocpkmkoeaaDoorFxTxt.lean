/- FixedTexts, walked. -/
import Derived.Test.YtpbphocpkmkoeaaDoorFxRt
import Derived.Test.YtpbphocpkmkoeaaDoorFxOrd
namespace Go.Proofs.YtpbphocpkmkoeaaDoor
open Go Go.RowKit

set_option maxHeartbeats 8000000 in
theorem FixedTexts_walk (n : Int) (hn : (Lit.int .i64 n).wf = true) (w : World) (hT : Tens w) :
    Calls Tryd.prog 4 #[.int .i64 n] w fun e w' => e = .returned (.bool true) ∧ Below w.heap.size w w' := by
  have HT := Lib.hid hT
  have hi := in_64 hn
  have h1 := fun w h => text_any n hi w h
  have h2 := fun w => ref_text n hi w
  generalize tx (textF n) = T at h1 h2
  have hq : (T.toList == T.toList) = true := by simp
  clear hT hn hi
  go_enter Tryd.func4, Tryd.ntmps4
  go_wp2_with fail
  refine (examples_any _ HT.out).mono ?_
  rintro e w1 ⟨rfl, hB1⟩
  go_wp2_with fail
  refine (h1 _ (HT.out.below hB1)).mono ?_
  rintro e w2 ⟨rfl, hB2⟩
  have hE2 := hB1.trans (hB2.mono hB1.size)
  go_wp2_with fail
  refine (h2 _).mono ?_
  rintro e w3 ⟨rfl, hB3⟩
  have hE3 := hE2.trans (hB3.mono hE2.size)
  clear h1 h2
  go_wp2
  try go_ret
  exact ⟨rfl, hE3⟩
end Go.Proofs.YtpbphocpkmkoeaaDoor
