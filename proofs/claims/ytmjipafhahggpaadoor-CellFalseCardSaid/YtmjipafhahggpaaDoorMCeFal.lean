/- CellFalse, walked. -/
import Derived.Test.YtmjipafhahggpaaDoorMCeF0
import Derived.Test.YtmjipafhahggpaaDoorMCeF1
import Derived.Test.YtmjipafhahggpaaDoorMCeF2
namespace Go.Proofs.YtmjipafhahggpaaDoor.Ce
open Go Go.RowKit Hi

theorem CellFalse_walk (a0 : Int) (h0 : (Lit.int .u8 a0).wf = true) (a1 : Int) (h1 : (Lit.int .i32 a1).wf = true) (p2 : Option Addr) (len2 cap2 : Nat) (zs2 : List Int) (hl2 : len2 ≤ maxLen) (a3 : Int) (h3 : (Lit.int .u8 a3).wf = true) (a4 : Int) (h4 : (Lit.int .u8 a4).wf = true) (W : World)
    (hc2 : ∀ k, k < len2 → ∃ b off, p2 = some ⟨b, off, none⟩ ∧ b < W.heap.size ∧ W.cell? ⟨b, off + k, none⟩ = some (.int .i32 (zs2.getD k 0)) ∧ (Lit.int .i32 (zs2.getD k 0)).wf = true) (hT : Wi.Tens W) :
    Calls Tryd.prog 5 #[.int .u8 a0, .int .i32 a1, .slice p2 len2 cap2, .int .u8 a3, .int .u8 a4] W fun e W' => e = .returned (.bool true) ∧ Below W.heap.size W W' := by
  obtain ⟨x, rfl, hx⟩ := wf_u8 h0
  obtain ⟨how, rfl, hhow⟩ := wf_u8 h3
  obtain ⟨b, rfl, hb⟩ := wf_u8 h4
  have w32 : ∀ {z : Int}, (Lit.int .i32 z).wf = true → In32 z := fun {z} h => by
    unfold In32
    simpa [Lit.wf, IntKind.min, IntKind.max, IntKind.signed, IntKind.bits] using h
  obtain ⟨xs, hxs⟩ : ∃ xs : List Int, xs = (List.range len2).map fun k => zs2.getD k 0 := ⟨_, rfl⟩
  have hlen : xs.length = len2 := by rw [hxs, List.length_map, List.length_range]
  have hN : Ints32 p2 xs W := fun k hk => by
    obtain ⟨B, off, e1, e2, e3, e4⟩ := hc2 k (by omega)
    have e5 : xs[k] = zs2.getD k 0 := by simp only [hxs, List.getElem_map, List.getElem_range]
    exact ⟨B, off, e1, e2, by rw [e5]; exact e3, by rw [e5]; exact w32 e4⟩
  clear hxs hc2
  subst hlen
  unfold maxLen at hl2
  have hj : how % 3 = 0 ∨ how % 3 = 1 ∨ how % 3 = 2 := by omega
  by_cases h19 : xs.length ≤ 19
  · rcases hj with hj | hj | hj
    · exact false_0a x hx a1 (w32 h1) p2 xs cap2 (by omega) h19 how hhow hj b hb W hT hN
    · exact false_1a x hx a1 (w32 h1) p2 xs cap2 (by omega) h19 how hhow hj b hb W hT hN
    · exact false_2a x hx a1 (w32 h1) p2 xs cap2 (by omega) h19 how hhow hj b hb W hT hN
  · rcases hj with hj | hj | hj
    · exact false_0b x hx a1 (w32 h1) p2 xs cap2 (by omega) (by omega) how hhow hj b hb W hT hN
    · exact false_1b x hx a1 (w32 h1) p2 xs cap2 (by omega) (by omega) how hhow hj b hb W hT hN
    · exact false_2b x hx a1 (w32 h1) p2 xs cap2 (by omega) (by omega) how hhow hj b hb W hT hN
end Go.Proofs.YtmjipafhahggpaaDoor.Ce

