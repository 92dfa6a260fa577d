/- The examples that each law asks first. -/
import Derived.Test.YtekpjcdnmidgiaaDoorLxL
namespace Go.Proofs.YtekpjcdnmidgiaaDoor
open Go Go.RowKit

theorem ex_cut : cutV (cutL [61] [97, 92, 61, 98, 61, 99]) = .tuple #[.string ⟨#[97, 61, 98]⟩, .string ⟨#[99]⟩, .int .u8 61, .int .i64 0] := by rfl
theorem ex_cut2 : cutV (cutL [] [97, 92, 120]) = .tuple #[.string ⟨#[]⟩, .string ⟨#[]⟩, .int .u8 0, .int .i64 2] := by rfl
theorem ex_lines : linesL [35, 120, 10, 10, 97, 13, 10, 98] = [[97], [98]] := by
  rw [lines_some (a := [35, 120]) (r := [10, 97, 13, 10, 98]) rfl, lines_some (a := []) (r := [97, 13, 10, 98]) rfl, lines_some (a := [97, 13]) (r := [98]) rfl, lines_none (a := [98]) rfl]
  rfl
theorem strs_at {B : Nat} {v : Value} {l : List (List UInt8)} {w : World} (h : OwnS B v l w) (hl : 0 < l.length) : ∃ g cap, v = .slice (some ⟨g, 0, none⟩) l.length cap ∧ B ≤ g ∧ g < w.heap.size ∧ l.length ≤ cap ∧ ∀ k (hk : k < l.length), w.cell? ⟨g, k, none⟩ = some (.string (tx l[k])) := by
  rcases h.2 with ⟨_, h0⟩ | ⟨g, cap, cur, rfl, hb, hg, hn, _⟩
  · omega
  · refine ⟨g, cap, rfl, hb, (Array.getElem?_eq_some_iff.1 hg).1, hn, fun k hk => ?_⟩
    rw [World.ownsRow.cellAt h k (by omega)]
    unfold strs
    rw [List.getElem?_map, List.getElem?_eq_getElem hk]
    rfl

set_option maxRecDepth 100000 in
set_option maxHeartbeats 4000000 in
theorem ex_ok (w : World) : Calls Tryd.prog 9 #[] w fun e w' => e = .returned (.bool true) ∧ Below w.heap.size w w' := by
  have h1 := fun w => cut_ok ⟨#[97, 92, 61, 98, 61, 99]⟩ ⟨#[61]⟩ (by decide) (by decide) (by decide) w
  have h2 := fun w => cut_ok ⟨#[97, 92, 120]⟩ ⟨#[]⟩ (by decide) (by decide) (by decide) w
  have h3 := fun w => cut_arg ⟨#[]⟩ ⟨#[92]⟩ (by decide) w
  have h4 := fun w => lines_ok ⟨#[35, 120, 10, 10, 97, 13, 10, 98]⟩ (by decide) w
  have h5 := fun w => escape_ok ⟨#[97, 32, 98]⟩ (by decide) w
  have h6 := fun w => plains_ok ⟨#[97, 32, 98]⟩ (by decide) w
  have h7 := fun w => plains_ok ⟨#[127]⟩ (by decide) w
  rw [show (⟨#[97, 92, 61, 98, 61, 99]⟩ : ByteArray).data.toList = [97, 92, 61, 98, 61, 99] from rfl, show (⟨#[61]⟩ : ByteArray).data.toList = [61] from rfl, ex_cut] at h1
  rw [show (⟨#[97, 92, 120]⟩ : ByteArray).data.toList = [97, 92, 120] from rfl, show (⟨#[]⟩ : ByteArray).data.toList = [] from rfl, ex_cut2] at h2
  rw [show (⟨#[35, 120, 10, 10, 97, 13, 10, 98]⟩ : ByteArray).data.toList = [35, 120, 10, 10, 97, 13, 10, 98] from rfl, ex_lines] at h4
  rw [show tx (escL (⟨#[97, 32, 98]⟩ : ByteArray).data.toList) = ⟨#[97, 92, 32, 98]⟩ from rfl] at h5
  rw [show plainL (⟨#[97, 32, 98]⟩ : ByteArray).data.toList = true from rfl] at h6
  rw [show plainL (⟨#[127]⟩ : ByteArray).data.toList = false from rfl] at h7
  go_enter Tryd.func9, Tryd.ntmps9
  go_wp2_with fail
  refine (h1 _).mono ?_
  rintro e w1 ⟨rfl, hB1⟩
  go_wp2_with fail
  refine (h2 _).mono ?_
  rintro e w2 ⟨rfl, hB2⟩
  go_wp2_with fail
  refine (h3 _).mono ?_
  rintro e w3 ⟨rfl, rfl⟩
  go_wp2_with fail
  refine (h4 _).mono ?_
  rintro e w4 ⟨v, rfl, hO, hB4⟩
  obtain ⟨g, cap, rfl, hg, hgl, hcap, hc⟩ := strs_at hO (by decide)
  have c0 := hc 0 (by decide)
  have c1 := hc 1 (by decide)
  have hb1 := hB1.size
  have hb2 := hB2.size
  have hBw := (hB1.trans (hB2.mono hb1)).trans (hB4.mono (by omega))
  have hb4 := hBw.size
  clear h1 h2 h3 h4 hB1 hB2 hB4 hO hc
  go_wp2_with fail
  refine (h5 _).mono ?_
  rintro e w5 ⟨rfl, hB5⟩
  have d0 := (hB5.cell (p := ⟨g, 0, none⟩) hgl).trans c0
  have d1 := (hB5.cell (p := ⟨g, 1, none⟩) hgl).trans c1
  rw [show tx ([[97], [98]] : List (List UInt8))[0] = ⟨#[97]⟩ from rfl] at d0
  rw [show tx ([[97], [98]] : List (List UInt8))[1] = ⟨#[98]⟩ from rfl] at d1
  have hBx := hBw.trans (hB5.mono (by omega))
  clear c0 c1 hB5 hBw
  go_wp2_with fail
  refine (h6 _).mono ?_
  rintro e w6 ⟨rfl, rfl⟩
  go_wp2_with fail
  refine (h7 _).mono ?_
  rintro e w7 ⟨rfl, rfl⟩
  go_wp2
  go_ret
  exact ⟨rfl, hBx⟩
end Go.Proofs.YtekpjcdnmidgiaaDoor
