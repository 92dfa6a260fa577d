/- A histogram of numbers. -/
import Derived.Test.YtklklpccpbhfgaaHiEx
namespace Go.Proofs.Ytklklpccpbhfgaa
open Go Go.RowKit

/-- A slice of numbers of 64 bits. -/
def Ints (p : Option Addr) (xs : List Int) (w : World) : Prop :=
  ∀ k (h : k < xs.length), ∃ B off, p = some ⟨B, off, none⟩ ∧ B < w.heap.size ∧ w.cell? ⟨B, off + k, none⟩ = some (.int .i64 xs[k]) ∧ In64 xs[k]
theorem Ints.below {p : Option Addr} {xs : List Int} {w w' : World} (h : Ints p xs w) (hB : Below w.heap.size w w') : Ints p xs w' := fun k hk => by
  obtain ⟨B, off, h1, h2, h3, h4⟩ := h k hk
  exact ⟨B, off, h1, Nat.lt_of_lt_of_le h2 hB.size, (hB.cell (p := ⟨B, off + k, none⟩) h2).trans h3, h4⟩
theorem Ints.nil (p : Option Addr) (w : World) : Ints p [] w := fun _ h => absurd h (Nat.not_lt_zero _)
theorem Ints.take {p : Option Addr} {xs : List Int} {w : World} (h : Ints p xs w) (n : Nat) : Ints p (xs.take n) w := fun k hk => by
  rw [List.length_take] at hk
  obtain ⟨B, off, h1, h2, h3, h4⟩ := h k (by omega)
  exact ⟨B, off, h1, h2, by rw [h3, List.getElem_take], by rw [List.getElem_take]; exact h4⟩
theorem Ints.in64 {p : Option Addr} {xs : List Int} {w : World} (h : Ints p xs w) : ∀ x ∈ xs, In64 x := fun x hx => by
  obtain ⟨k, hk, rfl⟩ := List.mem_iff_getElem.1 hx
  obtain ⟨B, off, h1, h2, h3, h4⟩ := h k hk
  exact h4
/-- The items of numbers. -/
def itemsN (k : Nat) (xs : List Int) : List Hit := itemsOf (xs.map (ofI k))
theorem itemsN_snoc {k : Nat} {xs : List Int} {i : Nat} (h : i < xs.length) : itemsN k (xs.take (i + 1)) = more ⟨ofI k xs[i], 1⟩ (itemsN k (xs.take i)) := by
  unfold itemsN
  rw [List.take_add_one, List.getElem?_eq_getElem h, List.map_append]
  exact itemsOf_snoc _ _
theorem itemsN_count (k : Nat) (xs : List Int) : countH (itemsN k xs) = xs.length := by unfold itemsN; rw [itemsOf_count, List.length_map]
set_option maxRecDepth 100000 in
set_option maxHeartbeats 4000000 in
theorem of_items (k : Nat) (hk : k ≤ 4) (p : Option Addr) (xs : List Int) (cap : Nat) (hlen : xs.length ≤ 1000) (w : World) (hN : Ints p xs w) :
    Calls Try.prog 28 #[.int .i64 k, .slice p xs.length cap] w fun e w' => ∃ B v, e = .returned (.pointer (some ⟨B, 0, none⟩)) ∧ Hs w.heap.size 62 B k v (itemsN k xs) w' ∧ Below w.heap.size w w' := by
  have hn := new_any k hk w
  have HN := Lib.hid hN
  clear hN
  obtain ⟨n, hln⟩ : ∃ n, xs.length = n := ⟨_, rfl⟩
  have HLN := Lib.hid hln
  rw [hln] at hlen ⊢
  clear hln
  go_enter Try.func28, Try.ntmps28
  go_wp2_with fail
  refine hn.mono ?_
  rintro e W ⟨B, rfl, hB, hlo, hH⟩
  have HH : Hid (Hs w.heap.size 62 B k (.slice none 0 0) (itemsN k (xs.take 0)) W) := Lib.hid hH
  have HB := Lib.hid hB
  clear hn hlo hH hB
  go_wp2
  go_loopg [7] n (fun g s7 wx => ∃ (i : Nat) (v : Value), i + g = n ∧ s7 = .int .i64 i ∧ Hid (Hs w.heap.size 62 B k v (itemsN k (xs.take i)) wx) ∧ Hid (Below w.heap.size w wx))
  case atStart => exact ⟨0, _, by omega, rfl, HH, HB⟩
  case round =>
    clear HH HB
    obtain ⟨i, v, hig, rfl, HH, HB⟩ := hrel
    cases gk with
    | zero =>
      obtain rfl : i = n := by omega
      have HE : Hid (xs.take i = xs) := Lib.hid (List.take_of_length_le (by rw [HLN.out]; exact Nat.le_refl _))
      go_wp2
      go_ret
      exact ⟨B, v, rfl, by rw [← HE.out]; exact HH.out, HB.out⟩
    | succ g =>
      have hi : i < n := by omega
      have hix : i < xs.length := by rw [HLN.out]; exact hi
      obtain ⟨C, off, rfl, hC, hcell, hlt⟩ := HN.out i hix
      have hcx := (HB.out.cell (p := ⟨C, off + i, none⟩) hC).trans hcell
      have had := add_any HB.out.size HH.out xs[i] hlt (by rw [itemsN_count, List.length_take]; omega)
      rw [← itemsN_snoc hix] at had
      obtain ⟨x, hx⟩ : ∃ x, xs[i] = x := ⟨_, rfl⟩
      rw [hx] at hcx had
      clear hcell hlt hx
      go_wp2_with fail
      refine had.mono ?_
      intro e w2 hle
      obtain ⟨rfl, hB2, v2, hH2⟩ := hle.step HH.out HB.out (Nat.le_refl _)
      have HH2 := Lib.hid hH2
      have HB2 := Lib.hid hB2
      clear had hle hB2 hH2
      go_wp2
      go_roundg g
      case measure => omega
      case rel => exact ⟨i + 1, v2, by omega, by go_num, HH2, HB2⟩
end Go.Proofs.Ytklklpccpbhfgaa
