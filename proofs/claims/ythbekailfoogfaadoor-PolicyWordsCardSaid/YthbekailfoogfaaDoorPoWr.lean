/- PolicyWrong walked. -/
import Derived.Test.YthbekailfoogfaaDoorPoEx
namespace Go.Proofs.YthbekailfoogfaaDoor.Po
open Go Go.RowKit

theorem row_at (l : List (List UInt8)) (k : Nat) (hk : k < l.length) : ((l.map fun x => Value.string (tx x)).toArray)[k]? = some (.string (tx (l.getD k []))) := by
  rw [List.getElem?_toArray, List.getElem?_map, List.getElem?_eq_getElem hk, List.getD_eq_getElem?_getD, List.getElem?_eq_getElem hk]
  rfl
set_option maxRecDepth 100000 in
set_option maxHeartbeats 16000000 in
theorem PolicyWrong_walk (a : Int) (ha : (Lit.int .u8 a).wf = true) (w : World) (hX : Tens w) :
    Calls Tryd.prog 9 #[.int .u8 a] w fun e w' => e = .returned (.bool true) ∧ Below w.heap.size w w' := by
  have ga : 0 ≤ a ∧ a ≤ 255 := by simpa [Lit.wf, IntKind.min, IntKind.max, IntKind.signed, IntKind.bits] using ha
  obtain ⟨x, rfl⟩ : ∃ x : Nat, a = x := ⟨a.toNat, by omega⟩
  obtain ⟨k, hk, hk14⟩ : ∃ k, x % 14 = k ∧ k < 14 := ⟨_, rfl, by omega⟩
  have hki : (x : Int) % 14 = (k : Int) := by omega
  have hex := examples_any w hX
  have hcell : ∀ W : World, (W.alloc (.cells #[.string ⟨#[120, 61, 49]⟩, .string ⟨#[115, 108, 111, 116, 115]⟩, .string ⟨#[115, 108, 111, 116, 115, 61]⟩, .string ⟨#[115, 108, 111, 116, 115, 61, 120]⟩, .string ⟨#[115, 108, 111, 116, 115, 61, 49, 46, 53]⟩, .string ⟨#[115, 108, 111, 116, 115, 61, 49, 32, 32, 108, 111, 119, 61, 48]⟩, .string ⟨#[32, 115, 108, 111, 116, 115, 61, 49]⟩, .string ⟨#[115, 108, 111, 116, 115, 61, 49, 32]⟩, .string ⟨#[116, 105, 101, 114, 115, 61]⟩, .string ⟨#[116, 105, 101, 114, 115, 61, 49, 47]⟩, .string ⟨#[116, 105, 101, 114, 115, 61, 49, 47, 47, 50]⟩, .string ⟨#[115, 108, 111, 116, 115, 61, 49, 61, 49]⟩, .string ⟨#[61, 49]⟩, .string ⟨#[115, 108, 111, 116, 115, 61, 57, 57, 57, 57, 57, 57, 57, 57, 57, 57, 57, 57, 57, 57, 57, 57, 57, 57, 57, 57]⟩] 9)).cell? ⟨W.heap.size, k, none⟩ = some (.string (tx (wrongAt k))) := fun W =>
    (CellsAt.new #[.string ⟨#[120, 61, 49]⟩, .string ⟨#[115, 108, 111, 116, 115]⟩, .string ⟨#[115, 108, 111, 116, 115, 61]⟩, .string ⟨#[115, 108, 111, 116, 115, 61, 120]⟩, .string ⟨#[115, 108, 111, 116, 115, 61, 49, 46, 53]⟩, .string ⟨#[115, 108, 111, 116, 115, 61, 49, 32, 32, 108, 111, 119, 61, 48]⟩, .string ⟨#[32, 115, 108, 111, 116, 115, 61, 49]⟩, .string ⟨#[115, 108, 111, 116, 115, 61, 49, 32]⟩, .string ⟨#[116, 105, 101, 114, 115, 61]⟩, .string ⟨#[116, 105, 101, 114, 115, 61, 49, 47]⟩, .string ⟨#[116, 105, 101, 114, 115, 61, 49, 47, 47, 50]⟩, .string ⟨#[115, 108, 111, 116, 115, 61, 49, 61, 49]⟩, .string ⟨#[61, 49]⟩, .string ⟨#[115, 108, 111, 116, 115, 61, 57, 57, 57, 57, 57, 57, 57, 57, 57, 57, 57, 57, 57, 57, 57, 57, 57, 57, 57, 57]⟩] 9 W).cell k _ (row_at wrongL k hk14)
  have hw0 := wrong_all ⟨k, hk14⟩
  have hwl : (wrongAt k).length ≤ 1099511627776 := by
    have : ∀ j : Fin 14, (wrongAt j).length ≤ 1099511627776 := by decide +kernel
    exact this ⟨k, hk14⟩
  obtain ⟨s, hs⟩ : ∃ s, wrongAt k = s := ⟨_, rfl⟩
  rw [hs] at hcell hw0 hwl
  have r2 : ∀ W : World, Calls Tryd.prog 23 #[.string (tx s)] W fun e w' => ∃ p c, e = .returned (.tuple #[.agg #[.int .i64 0, .int .i64 0, .int .i64 0, .int .i64 0, .int .i64 0, .int .i64 0, .int .i64 0, .int .i64 0, .int .i64 0, .int .i64 0, .slice p 0 c], .int .i64 2]) ∧ Tr (fun _ => False) (.slice p 0 c) [] w' ∧ Below W.heap.size W w' := fun W => read_at _ _ _ _ hw0 hwl W
  have r3 : ∀ W : World, Calls Tryd.prog 23 #[.string (tx [116, 105, 101, 114, 115, 61, 50, 47, 51])] W fun e w' => ∃ p c, e = .returned (.tuple #[.agg #[.int .i64 0, .int .i64 0, .int .i64 0, .int .i64 0, .int .i64 0, .int .i64 0, .int .i64 0, .int .i64 0, .int .i64 0, .int .i64 0, .slice p 0 c], .int .i64 1]) ∧ Tr (fun _ => False) (.slice p 0 c) [] w' ∧ Below W.heap.size W w' := fun W => read_at _ _ _ _ wrong_tiers (by decide) W
  have r4 : ∀ W : World, Calls Tryd.prog 23 #[.string (tx [108, 111, 119, 61, 54, 53])] W fun e w' => ∃ p c, e = .returned (.tuple #[.agg #[.int .i64 0, .int .i64 0, .int .i64 0, .int .i64 0, .int .i64 0, .int .i64 0, .int .i64 0, .int .i64 0, .int .i64 0, .int .i64 0, .slice p 0 c], .int .i64 1]) ∧ Tr (fun _ => False) (.slice p 0 c) [] w' ∧ Below W.heap.size W w' := fun W => read_at _ _ _ _ wrong_low (by decide) W
  have r5 : ∀ W : World, Calls Tryd.prog 23 #[.string (tx [115, 108, 111, 116, 115, 61, 48, 48, 55, 32, 108, 111, 119, 61, 45, 48])] W fun e w' => ∃ p c, e = .returned (.tuple #[.agg #[.int .i64 7, .int .i64 0, .int .i64 64, .int .i64 8, .int .i64 6, .int .i64 2, .int .i64 2, .int .i64 60, .int .i64 30, .int .i64 5, .slice p 2 c], .int .i64 0]) ∧ Tr (fun _ => False) (.slice p 2 c) [10, 60] w' ∧ Below W.heap.size W w' := fun W => read_at _ _ _ _ wrong_zeros (by decide) W
  obtain ⟨S, hS⟩ : ∃ S, tx s = S := ⟨_, rfl⟩
  rw [hS] at hcell r2
  clear ha hk hw0 hwl hs hS hX
  go_enter Tryd.func9, Tryd.ntmps9
  go_wp2_with fail
  refine hex.mono ?_
  rintro e w1 ⟨rfl, hB1⟩
  have hcell1 := hcell w1
  have HB1 : Hid (Below w.heap.size w (w1.alloc (.cells #[.string ⟨#[120, 61, 49]⟩, .string ⟨#[115, 108, 111, 116, 115]⟩, .string ⟨#[115, 108, 111, 116, 115, 61]⟩, .string ⟨#[115, 108, 111, 116, 115, 61, 120]⟩, .string ⟨#[115, 108, 111, 116, 115, 61, 49, 46, 53]⟩, .string ⟨#[115, 108, 111, 116, 115, 61, 49, 32, 32, 108, 111, 119, 61, 48]⟩, .string ⟨#[32, 115, 108, 111, 116, 115, 61, 49]⟩, .string ⟨#[115, 108, 111, 116, 115, 61, 49, 32]⟩, .string ⟨#[116, 105, 101, 114, 115, 61]⟩, .string ⟨#[116, 105, 101, 114, 115, 61, 49, 47]⟩, .string ⟨#[116, 105, 101, 114, 115, 61, 49, 47, 47, 50]⟩, .string ⟨#[115, 108, 111, 116, 115, 61, 49, 61, 49]⟩, .string ⟨#[61, 49]⟩, .string ⟨#[115, 108, 111, 116, 115, 61, 57, 57, 57, 57, 57, 57, 57, 57, 57, 57, 57, 57, 57, 57, 57, 57, 57, 57, 57, 57]⟩] 9))) := Lib.hid (hB1.alloc hB1.size _)
  clear hex hB1 hcell
  go_wp2_with fail
  refine (r2 _).mono ?_
  rintro e w2 ⟨p2, c2, rfl, _, hB2⟩
  have HB2 : Hid (Below w.heap.size w (w2.alloc (.cells #[.int .i64 0, .int .i64 0, .int .i64 0, .int .i64 0, .int .i64 0, .int .i64 0, .int .i64 0, .int .i64 0, .int .i64 0, .int .i64 0, .slice p2 0 c2] 24))) := Lib.hid ((HB1.out.trans (hB2.mono HB1.out.size)).alloc (Below.size (HB1.out.trans (hB2.mono HB1.out.size))) _)
  clear hB2 HB1 r2
  go_wp2_with fail
  refine (r3 _).mono ?_
  rintro e w3 ⟨p3, c3, rfl, _, hB3⟩
  have HB3 : Hid (Below w.heap.size w (w3.alloc (.cells #[.int .i64 0, .int .i64 0, .int .i64 0, .int .i64 0, .int .i64 0, .int .i64 0, .int .i64 0, .int .i64 0, .int .i64 0, .int .i64 0, .slice p3 0 c3] 24))) := Lib.hid ((HB2.out.trans (hB3.mono HB2.out.size)).alloc (Below.size (HB2.out.trans (hB3.mono HB2.out.size))) _)
  clear hB3 HB2 r3
  go_wp2_with fail
  refine (r4 _).mono ?_
  rintro e w4 ⟨p4, c4, rfl, _, hB4⟩
  have HB4 : Hid (Below w.heap.size w (w4.alloc (.cells #[.int .i64 0, .int .i64 0, .int .i64 0, .int .i64 0, .int .i64 0, .int .i64 0, .int .i64 0, .int .i64 0, .int .i64 0, .int .i64 0, .slice p4 0 c4] 24))) := Lib.hid ((HB3.out.trans (hB4.mono HB3.out.size)).alloc (Below.size (HB3.out.trans (hB4.mono HB3.out.size))) _)
  clear hB4 HB3 r4
  go_wp2_with fail
  refine (r5 _).mono ?_
  rintro e w5 ⟨p5, c5, rfl, _, hB5⟩
  have HB5 : Hid (Below w.heap.size w (w5.alloc (.cells #[.int .i64 7, .int .i64 0, .int .i64 64, .int .i64 8, .int .i64 6, .int .i64 2, .int .i64 2, .int .i64 60, .int .i64 30, .int .i64 5, .slice p5 2 c5] 24))) := Lib.hid ((HB4.out.trans (hB5.mono HB4.out.size)).alloc (Below.size (HB4.out.trans (hB5.mono HB4.out.size))) _)
  clear hB5 HB4 r5
  go_wp2
  go_ret
  exact ⟨rfl, HB5.out⟩
end Go.Proofs.YthbekailfoogfaaDoor.Po
