/- slices.Clone at the dump's items, off the library. -/
import Derived.Shelf.SlicesE.Clone
import Derived.Test.YtklklpccpbhfgaaProg
import Derived.Test.YtklklpccpbhfgaaHiTp
namespace Go.Proofs.Ytklklpccpbhfgaa
open Go Go.RowKit Go.Shelf
def cloneR : Go.Shelf.Ren := ⟨fun | 41 => 54 | n => n, fun | 22 => 59 | 23 => 62 | 4 => 4 | n => n, fun | n => n⟩
theorem cloneL : Go.Proofs.SlLaysE0.n41 Try.prog cloneR := {
  mixed := by kernel_rfl
  f41 := ⟨Try.f54.name, by decide, Try.func54.trans (congrArg some (by kernel_rfl))⟩
  t4 := Try.underlying4
  a4 := Try.isAgg4
  z4 := Try.sizeOf4
  v4 := Try.zeroValue4
  t22 := Try.underlying59
  a22 := Try.isAgg59
  z22 := Try.sizeOf59
  v22 := Try.zeroValue59 }
theorem info_item : (Try.prog.info? 62).map (fun i => (i.zero, i.size, i.bytes)) = some (some (.agg #[.int .i64 0, .int .u64 0]), 2, 16) := by
  kernel_rfl
theorem clone_any {base : Nat} {v : Value} {l : List Hit} {w : World} (h : Its base 62 v l w) (hl : l.length ≤ 2001) :
    Calls Try.prog 54 #[v] w fun e w' => ∃ v', e = .returned v' ∧ Its w.heap.size 62 v' l w' ∧ Below w.heap.size w w' := by
  rcases h.form with ⟨rfl, rfl⟩ | ⟨g, cap, rfl, hb, hg, h1, h2, hcell, hfro⟩
  · refine (AnyE.slices_Clone_nil cloneL 0 0 w).mono ?_
    rintro e w' ⟨rfl, rfl⟩
    exact ⟨_, rfl, Its.nil _ _ _, Below.refl _ _⟩
  · obtain ⟨i, hi, hz⟩ := Option.map_eq_some_iff.1 info_item
    simp only [Prod.mk.injEq] at hz
    obtain ⟨hz0, hz1, hz2⟩ := hz
    refine (AnyE.slices_Clone cloneL i _ 2 16 hi hz0 hz1 hz2 rfl (by decide) Try.sizeOf62 g 0 l.length cap (flat l) w (flatv_length l) (by unfold maxLen; omega) (by omega) ?_ (oneCells l)).mono ?_
    · intro j u hj
      have hlj : j < l.length * 2 := by rw [← flatv_length]; exact (List.getElem?_eq_some_iff.1 hj).1
      rw [Nat.zero_add, World.ownsRow.cellAt h j hlj]
      exact hj
    · rintro e w' ⟨v', rfl, hown, _, hB⟩
      exact ⟨v', rfl, hown, hB⟩
set_option maxHeartbeats 2000000 in
/-- Items(): they themselves, in a row of the call's own. -/
theorem items_any {base B k : Nat} {v : Value} {l : List Hit} {w : World} (h : Hs base 62 B k v l w) :
    Calls Try.prog 30 #[.pointer (some ⟨B, 0, none⟩)] w fun e w' => ∃ v', e = .returned v' ∧ Its w.heap.size 62 v' l w' ∧ Below w.heap.size w w' := by
  have c1 := h.c1
  have hcl := clone_any h.row h.inv.len
  clear h
  go_enter Try.func30, Try.ntmps30
  go_wp2_with fail
  refine hcl.mono ?_
  rintro e w1 ⟨v', rfl, hI, hB⟩
  clear hcl c1
  have HI := Lib.hid hI
  clear hI
  go_wp2
  go_ret
  exact ⟨v', rfl, HI.out, hB⟩
end Go.Proofs.Ytklklpccpbhfgaa
