/- The examples that each law asks first. -/
import Derived.Test.YtdmkiiggpelmaaaGreatDoorLnG
namespace Go.Proofs.YtdmkiiggpelmaaaGreatDoor.Lx
open Go Go.RowKit

theorem ex_a : parseP [109, 44, 97, 61, 98, 32, 118, 97, 108, 117, 101, 61, 49, 46, 53, 32, 53] = .ok ⟨[109], [([97], [98])], 1500000, 5⟩ := by kernel_rfl
theorem ex_b : parseP [109, 32, 118, 97, 108, 117, 101, 61, 49] = .error 2 := by kernel_rfl
theorem ex_c : parseP [109, 32, 118, 97, 108, 117, 101, 61, 49, 32, 45, 49] = .error 7 := by kernel_rfl
theorem tx_one : textF 1 = [48, 46, 48, 48, 48, 48, 48, 49] := by
  rw [text_body]
  unfold bodyF
  rw [show farF 1 / 1000000 = 0 from by decide, show farF 1 % 1000000 = 1 from by decide, Lib.decDigits_one (by decide)]
  decide +kernel
theorem ex_p : printF ⟨[109, 32, 120], [], 1, 2⟩ = [109, 92, 32, 120, 32, 118, 97, 108, 117, 101, 61, 48, 46, 48, 48, 48, 48, 48, 49, 32, 50] := by
  unfold printF
  rw [tx_one, show (2 : Int).toNat = 2 from rfl, Lib.decDigits_one (by decide)]
  decide +kernel
theorem ex_pb : printB ⟨[109, 32, 120], [], 1, 2⟩ = true := by
  unfold printB
  rw [ex_p]
  decide +kernel
theorem ex_r : rightF ⟨[], [], 0, 0⟩ = false := by kernel_rfl

set_option maxRecDepth 100000 in
set_option maxHeartbeats 8000000 in
theorem examples_ok (w : World) (hT : Tens w) :
    Calls Tryz.prog 4 #[] w fun e w' => e = .returned (.bool true) ∧ Below w.heap.size w w' := by
  have HT := Lib.hid hT
  have h1 := fun w => parse_any ⟨#[109, 44, 97, 61, 98, 32, 118, 97, 108, 117, 101, 61, 49, 46, 53, 32, 53]⟩ (by decide) w
  have h2 := fun w => parse_any ⟨#[109, 32, 118, 97, 108, 117, 101, 61, 49]⟩ (by decide) w
  have h3 := fun w => parse_any ⟨#[109, 32, 118, 97, 108, 117, 101, 61, 49, 32, 45, 49]⟩ (by decide) w
  rw [show (⟨#[109, 44, 97, 61, 98, 32, 118, 97, 108, 117, 101, 61, 49, 46, 53, 32, 53]⟩ : ByteArray).data.toList = [109, 44, 97, 61, 98, 32, 118, 97, 108, 117, 101, 61, 49, 46, 53, 32, 53] from rfl, ex_a] at h1
  rw [show (⟨#[109, 32, 118, 97, 108, 117, 101, 61, 49]⟩ : ByteArray).data.toList = [109, 32, 118, 97, 108, 117, 101, 61, 49] from rfl, ex_b] at h2
  rw [show (⟨#[109, 32, 118, 97, 108, 117, 101, 61, 49, 32, 45, 49]⟩ : ByteArray).data.toList = [109, 32, 118, 97, 108, 117, 101, 61, 49, 32, 45, 49] from rfl, ex_c] at h3
  have h4 : ∀ w, Tens w → Calls Tryz.prog 12 #[.agg #[.string ⟨#[109, 32, 120]⟩, .slice none 0 0, .int .i64 1, .int .i64 2]] w fun e w' => e = .returned (.tuple #[.string ⟨#[109, 92, 32, 120, 32, 118, 97, 108, 117, 101, 61, 48, 46, 48, 48, 48, 48, 48, 49, 32, 50]⟩, .bool true]) ∧ Below w.heap.size w w' := fun w h => by
    have := print_any [109, 32, 120] (by decide) none 0 [] 1 2 (by unfold In64; decide) (by decide) (by decide) w h (LbAt.nil _ _)
    rw [ex_pb] at this
    unfold printV at this
    simp only [ex_p] at this
    exact this
  have h5 : ∀ w, Calls Tryz.prog 13 #[.agg #[.string ⟨#[]⟩, .slice none 0 0, .int .i64 0, .int .i64 0]] w fun e w' => e = .returned (.bool false) ∧ Below w.heap.size w w' := fun w => by
    have := right_any [] (by decide) none 0 [] 0 0 (by decide) w (LbAt.nil _ _)
    rw [ex_r] at this
    exact this
  have H1 := Lib.hid h1
  have H2 := Lib.hid h2
  have H3 := Lib.hid h3
  have H4 := Lib.hid h4
  have H5 := Lib.hid h5
  clear h1 h2 h3 h4 h5 hT
  go_enter Tryz.func4, Tryz.ntmps4
  go_wp2_with fail
  refine (H1.out _).mono ?_
  rintro e w1 ⟨v, rfl, hO, hB1⟩
  rcases hO.form with ⟨_, h0⟩ | ⟨g, cap, rfl, hg, hgl, hcap, hc⟩
  · cases h0
  have HL1 : Hid (LbAt (some ⟨g, 0, none⟩) [([97], [98])] w1) := Lib.hid (hO.lies (n := 1) (cap := cap) (by decide))
  have HC1 : Hid (CellsAt w1.heap.size (lineC ⟨#[109]⟩ (.slice (some ⟨g, 0, none⟩) 1 cap) 1500000 5) (w1.alloc (.cells (lineC ⟨#[109]⟩ (.slice (some ⟨g, 0, none⟩) 1 cap) 1500000 5) 24))) := Lib.hid (CellsAt.new _ _ _)
  have HL2 := Lib.hid (HL1.out.below ((Below.refl _ _).alloc (Nat.le_refl _) (.cells (lineC ⟨#[109]⟩ (.slice (some ⟨g, 0, none⟩) 1 cap) 1500000 5) 24)))
  have HB2 := Lib.hid (hB1.alloc hB1.size (.cells (lineC ⟨#[109]⟩ (.slice (some ⟨g, 0, none⟩) 1 cap) 1500000 5) 24))
  have hgs := hgl
  clear hO hB1 hc HL1 H1
  simp only
  go_wp2_with fail
  refine (H2.out _).mono ?_
  rintro e w2 ⟨rfl, hB3⟩
  have HB3 := Lib.hid ((HB2.out.trans (hB3.mono HB2.out.size)).alloc (Nat.le_trans HB2.out.size hB3.size) (.cells (lineC ⟨#[]⟩ (.slice none 0 0) 0 0) 24))
  have hB3' := hB3.alloc hB3.size (.cells (lineC ⟨#[]⟩ (.slice none 0 0) 0 0) 24)
  have HL3 := Lib.hid (HL2.out.below hB3')
  have HC3 := Lib.hid (HC1.out.below hB3')
  clear hB3 hB3' HL2 HC1 HB2 H2
  go_wp2_with fail
  refine (H3.out _).mono ?_
  rintro e w3 ⟨rfl, hB4⟩
  have HB4 := Lib.hid ((HB3.out.trans (hB4.mono HB3.out.size)).alloc (Nat.le_trans HB3.out.size hB4.size) (.cells (lineC ⟨#[]⟩ (.slice none 0 0) 0 0) 24))
  have hB4' := hB4.alloc hB4.size (.cells (lineC ⟨#[]⟩ (.slice none 0 0) 0 0) 24)
  have HL4 := Lib.hid (HL3.out.below hB4')
  have HC4 := Lib.hid (HC3.out.below hB4')
  clear hB4 hB4' HL3 HC3 HB3 H3
  go_wp2_with fail
  refine (H4.out _ (Go.Proofs.YtdmkiiggpelmaaaGreatDoor.Tens.below HT.out HB4.out)).mono ?_
  rintro e w4 ⟨rfl, hB5⟩
  have HB5 := Lib.hid (HB4.out.trans (hB5.mono HB4.out.size))
  have HL5 := Lib.hid (HL4.out.below hB5)
  have HC5 := Lib.hid (HC4.out.below hB5)
  clear hB5 HL4 HC4 HB4 H4
  obtain ⟨C, off, hp, hCl, c0, c1, _, _⟩ := HL5.out 0 (by decide)
  simp only [Option.some.injEq, Addr.mk.injEq, and_true] at hp
  obtain ⟨rfl, rfl⟩ := hp
  have e0 : w4.cell? ⟨g, 0, none⟩ = some (.string ⟨#[97]⟩) := c0
  have e1 : w4.cell? ⟨g, 1, none⟩ = some (.string ⟨#[98]⟩) := c1
  have k0 : w4.cell? ⟨w1.heap.size, 0, none⟩ = some (.string ⟨#[109]⟩) := HC5.out.cell 0 _ rfl
  have k1 := HC5.out.cell 1 _ rfl
  have k2 := HC5.out.cell 2 _ rfl
  have k3 := HC5.out.cell 3 _ rfl
  clear c0 c1
  go_wp2_with fail
  refine (H5.out _).mono ?_
  rintro e w5 ⟨rfl, hB6⟩
  have HB6 := Lib.hid (HB5.out.trans (hB6.mono HB5.out.size))
  clear hB6 e0 e1 k0 k1 k2 k3 HL5 HC5 HB5
  go_wp2
  go_ret
  exact ⟨rfl, HB6.out⟩
end Go.Proofs.YtdmkiiggpelmaaaGreatDoor.Lx
