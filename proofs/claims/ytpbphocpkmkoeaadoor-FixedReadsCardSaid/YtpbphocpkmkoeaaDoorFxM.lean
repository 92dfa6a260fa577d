/- The chapter's examples. -/
import Derived.Test.YtpbphocpkmkoeaaDoorFxL
namespace Go.Proofs.YtpbphocpkmkoeaaDoor
open Go Go.RowKit

theorem rd1 : readF [49, 46, 53, 101, 51] = (1500000000, 0) := by decide +kernel
theorem rd2 : readF [49, 46] = (0, 2) := by decide +kernel
theorem rd3 : readF [48, 46, 48, 48, 48, 48, 48, 48, 49] = (0, 7) := by decide +kernel
theorem wh1 : wholeF [45, 55] = (-7, 0) := by decide +kernel
theorem tx1 : textF (-1500000) = [45, 49, 46, 53] := by
  rw [text_body]
  unfold bodyF
  rw [show farF (-1500000) / 1000000 = 1 from by decide, show farF (-1500000) % 1000000 = 500000 from by decide, Lib.decDigits_one (by decide)]
  decide +kernel
theorem tx0 : textF 0 = [48] := by
  rw [text_body]
  unfold bodyF
  rw [show farF 0 / 1000000 = 0 from by decide, show farF 0 % 1000000 = 0 from by decide, Lib.decDigits_one (by decide)]
  decide +kernel

set_option maxHeartbeats 4000000 in
theorem examples_any (w : World) (hT : Tens w) :
    Calls Tryd.prog 11 #[] w fun e w' => e = .returned (.bool true) ∧ Below w.heap.size w w' := by
  have HT := Lib.hid hT
  clear hT
  have h1 := fun w => readL_any [49, 46, 53, 101, 51] (by unfold maxLen; decide) w
  have h2 := fun w => readL_any [49, 46] (by unfold maxLen; decide) w
  have h3 := fun w => readL_any [48, 46, 48, 48, 48, 48, 48, 48, 49] (by unfold maxLen; decide) w
  have h4 := fun w => wholeL_any [45, 55] (by unfold maxLen; decide) w
  have h5 := fun w h => text_any (-1500000) (by unfold In64; decide) w h
  have h6 := fun w h => text_any 0 (by unfold In64; decide) w h
  rw [rd1] at h1
  rw [rd2] at h2
  rw [rd3] at h3
  rw [wh1] at h4
  rw [tx1] at h5
  rw [tx0] at h6
  go_enter Tryd.func11, Tryd.ntmps11
  go_wp2_with fail
  refine (h1 _).mono ?_
  rintro e w1 ⟨rfl, hB1⟩
  go_wp2_with fail
  refine (h2 _).mono ?_
  rintro e w2 ⟨rfl, hB2⟩
  have hE2 := hB1.trans (hB2.mono hB1.size)
  go_wp2_with fail
  refine (h3 _).mono ?_
  rintro e w3 ⟨rfl, hB3⟩
  have hE3 := hE2.trans (hB3.mono hE2.size)
  go_wp2_with fail
  refine (h4 _).mono ?_
  rintro e w4 ⟨rfl, hB4⟩
  have hE4 := hE3.trans (hB4.mono hE3.size)
  clear h1 h2 h3 h4 hB1 hB2 hB3 hB4 hE2 hE3
  go_wp2_with fail
  refine (h5 _ (HT.out.below hE4)).mono ?_
  rintro e w5 ⟨rfl, hB5⟩
  have hE5 := hE4.trans (hB5.mono hE4.size)
  clear h5 hE4
  go_wp2_with fail
  refine (h6 _ (HT.out.below hE5)).mono ?_
  rintro e w6 ⟨rfl, hB6⟩
  have hE6 := hE5.trans (hB6.mono hE5.size)
  clear h6 hE5
  go_wp2
  try go_ret
  exact ⟨rfl, hE6⟩
end Go.Proofs.YtpbphocpkmkoeaaDoor
