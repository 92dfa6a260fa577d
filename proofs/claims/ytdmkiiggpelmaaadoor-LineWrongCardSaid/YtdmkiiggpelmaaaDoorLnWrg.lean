/- LineWrong, walked. -/
import Derived.Test.YtdmkiiggpelmaaaDoorLnH
namespace Go.Proofs.YtdmkiiggpelmaaaDoor.Lx
open Go Go.RowKit

/-- The texts that are refused. -/
abbrev wrongs : Array Value := #[Value.string ⟨#[]⟩, Value.string ⟨#[109]⟩, Value.string ⟨#[109, 32]⟩, Value.string ⟨#[109, 32, 118, 97, 108, 117, 101, 61, 49]⟩, Value.string ⟨#[109, 32, 118, 97, 108, 117, 101, 61, 49, 32]⟩, Value.string ⟨#[109, 32, 111, 116, 104, 101, 114, 61, 49, 32, 53]⟩, Value.string ⟨#[109, 44, 32, 118, 97, 108, 117, 101, 61, 49, 32, 53]⟩, Value.string ⟨#[109, 44, 97, 32, 118, 97, 108, 117, 101, 61, 49, 32, 53]⟩, Value.string ⟨#[109, 44, 97, 61, 32, 118, 97, 108, 117, 101, 61, 49, 32, 53]⟩, Value.string ⟨#[109, 44, 61, 98, 32, 118, 97, 108, 117, 101, 61, 49, 32, 53]⟩, Value.string ⟨#[32, 118, 97, 108, 117, 101, 61, 49, 32, 53]⟩, Value.string ⟨#[109, 32, 118, 97, 108, 117, 101, 61, 120, 32, 53]⟩, Value.string ⟨#[109, 32, 118, 97, 108, 117, 101, 61, 49, 32, 53, 32, 54]⟩, Value.string ⟨#[109, 32, 32, 118, 97, 108, 117, 101, 61, 49, 32, 53]⟩, Value.string ⟨#[109, 32, 118, 97, 108, 117, 101, 61, 49, 32, 53, 46, 48]⟩, Value.string ⟨#[109, 32, 118, 97, 108, 117, 101, 61, 32, 53]⟩, Value.string ⟨#[109, 44, 97, 61, 98, 44, 118, 97, 108, 117, 101, 61, 49, 32, 53]⟩, Value.string ⟨#[109, 32, 118, 97, 108, 117, 101, 61, 49, 32, 32, 53]⟩]
theorem wrong_at (r : Nat) (h : r < 18) : ∃ s : ByteArray, wrongs[r]? = some (.string s) ∧ s.size ≤ maxLen ∧ parseP s.data.toList = .error 2 := by
  have : r = 0 ∨ r = 1 ∨ r = 2 ∨ r = 3 ∨ r = 4 ∨ r = 5 ∨ r = 6 ∨ r = 7 ∨ r = 8 ∨ r = 9 ∨ r = 10 ∨ r = 11 ∨ r = 12 ∨ r = 13 ∨ r = 14 ∨ r = 15 ∨ r = 16 ∨ r = 17 := by omega
  rcases this with rfl | rfl | rfl | rfl | rfl | rfl | rfl | rfl | rfl | rfl | rfl | rfl | rfl | rfl | rfl | rfl | rfl | rfl
  all_goals exact ⟨_, rfl, by decide, by kernel_rfl⟩
theorem wr_f : parseP [109, 32, 118, 97, 108, 117, 101, 61, 49, 32, 45, 53] = .error 7 := by kernel_rfl
theorem wr_g : parseP [109, 32, 118, 97, 108, 117, 101, 61, 49, 32, 57, 57, 57, 57, 57, 57, 57, 57, 57, 57, 57, 57, 57, 57, 57, 57, 57, 57, 57, 57] = .error 2 := by kernel_rfl
theorem wr_h : parseP [109, 32, 118, 97, 108, 117, 101, 61, 49, 101, 51, 48, 32, 53] = .error 7 := by kernel_rfl

set_option maxRecDepth 100000 in
set_option maxHeartbeats 8000000 in
theorem LineWrong_walk (y : Int) (hy : (Lit.int .u8 y).wf = true) (w : World) (hT : Tens w) :
    Calls Tryd.prog 6 #[.int .u8 y] w fun e w' => e = .returned (.bool true) ∧ Below w.heap.size w w' := by
  simp [Lit.wf, IntKind.min, IntKind.max, IntKind.signed, IntKind.bits] at hy
  obtain ⟨a, rfl⟩ : ∃ a : Nat, y = (a : Int) := ⟨y.toNat, by omega⟩
  have ha : a ≤ 255 := by omega
  clear hy
  have HT := Lib.hid hT
  obtain ⟨r, hr⟩ : ∃ r : Nat, a % 18 = r := ⟨_, rfl⟩
  have hq : (a : Int) % 18 = (r : Int) := by omega
  have hr18 : r < 18 := by omega
  obtain ⟨s, hs, hsz, hse⟩ := wrong_at r hr18
  have h0 := fun w => parse_any s hsz w
  have h1 := fun w => parse_any ⟨#[109, 32, 118, 97, 108, 117, 101, 61, 49, 32, 45, 53]⟩ (by decide) w
  have h2 := fun w => parse_any ⟨#[109, 32, 118, 97, 108, 117, 101, 61, 49, 32, 57, 57, 57, 57, 57, 57, 57, 57, 57, 57, 57, 57, 57, 57, 57, 57, 57, 57, 57, 57]⟩ (by decide) w
  have h3 := fun w => parse_any ⟨#[109, 32, 118, 97, 108, 117, 101, 61, 49, 101, 51, 48, 32, 53]⟩ (by decide) w
  rw [hse] at h0
  rw [show (⟨#[109, 32, 118, 97, 108, 117, 101, 61, 49, 32, 45, 53]⟩ : ByteArray).data.toList = [109, 32, 118, 97, 108, 117, 101, 61, 49, 32, 45, 53] from rfl, wr_f] at h1
  rw [show (⟨#[109, 32, 118, 97, 108, 117, 101, 61, 49, 32, 57, 57, 57, 57, 57, 57, 57, 57, 57, 57, 57, 57, 57, 57, 57, 57, 57, 57, 57, 57]⟩ : ByteArray).data.toList = [109, 32, 118, 97, 108, 117, 101, 61, 49, 32, 57, 57, 57, 57, 57, 57, 57, 57, 57, 57, 57, 57, 57, 57, 57, 57, 57, 57, 57, 57] from rfl, wr_g] at h2
  rw [show (⟨#[109, 32, 118, 97, 108, 117, 101, 61, 49, 101, 51, 48, 32, 53]⟩ : ByteArray).data.toList = [109, 32, 118, 97, 108, 117, 101, 61, 49, 101, 51, 48, 32, 53] from rfl, wr_h] at h3
  have HS := Lib.hid hs
  have H0 := Lib.hid h0
  have H1 := Lib.hid h1
  have H2 := Lib.hid h2
  have H3 := Lib.hid h3
  clear h0 h1 h2 h3 hs hse hT hr hsz
  go_enter Tryd.func6, Tryd.ntmps6
  go_wp2_with fail
  refine (examples_ok _ HT.out).mono ?_
  rintro e w1 ⟨rfl, hB1⟩
  have hC := CellsAt.new wrongs 9 w1
  have c0 := hC.cell r _ HS.out
  have HB1 := Lib.hid (hB1.alloc hB1.size (.cells wrongs 9))
  clear hC hB1
  go_wp2_with fail
  refine (H0.out _).mono ?_
  rintro e w2 ⟨rfl, hB2⟩
  have HB2 := Lib.hid ((HB1.out.trans (hB2.mono HB1.out.size)).alloc (Nat.le_trans HB1.out.size hB2.size) (.cells (lineC ⟨#[]⟩ (.slice none 0 0) 0 0) 24))
  clear hB2 HB1 c0 H0 hq
  go_wp2_with fail
  refine (H1.out _).mono ?_
  rintro e w3 ⟨rfl, hB3⟩
  have HB3 := Lib.hid ((HB2.out.trans (hB3.mono HB2.out.size)).alloc (Nat.le_trans HB2.out.size hB3.size) (.cells (lineC ⟨#[]⟩ (.slice none 0 0) 0 0) 24))
  clear hB3 HB2 H1
  go_wp2_with fail
  refine (H2.out _).mono ?_
  rintro e w4 ⟨rfl, hB4⟩
  have HB4 := Lib.hid ((HB3.out.trans (hB4.mono HB3.out.size)).alloc (Nat.le_trans HB3.out.size hB4.size) (.cells (lineC ⟨#[]⟩ (.slice none 0 0) 0 0) 24))
  clear hB4 HB3 H2
  go_wp2_with fail
  refine (H3.out _).mono ?_
  rintro e w5 ⟨rfl, hB5⟩
  have HB5 := Lib.hid ((HB4.out.trans (hB5.mono HB4.out.size)).alloc (Nat.le_trans HB4.out.size hB5.size) (.cells (lineC ⟨#[]⟩ (.slice none 0 0) 0 0) 24))
  clear hB5 HB4 H3
  go_wp2
  go_ret
  exact ⟨rfl, HB5.out⟩
end Go.Proofs.YtdmkiiggpelmaaaDoor.Lx
