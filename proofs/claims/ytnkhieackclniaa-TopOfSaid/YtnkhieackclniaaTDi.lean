/- Slices of items that come in, opened. -/
import Derived.Test.YtnkhieackclniaaTDd
namespace Go.Proofs.Ytnkhieackclniaa
open Go Go.RowKit

theorem items_of {H : Type} {enc : TypeId × Value → H} {W : World} {spare : Nat → Bool} {held : Bool} {v : Value} {d : DataW H} {ps : List MemPlace}
    (hv : ∃ p len cap, v = .slice p len cap) (h : DataW.Trod enc Try.prog W 0 spare held 43 v d ps) (hlt : ∀ x ∈ ps, x.block < W.heap.size) :
    ∃ (p : Option Addr) (l : List Itm) (cap : Nat), v = .slice p l.length cap ∧ l.length ≤ cap ∧ cap ≤ maxLen ∧ (p = none → cap = 0) ∧ Rd p l W ∧ Fit l := by
  obtain ⟨p, n, cap, rfl, h1, h2, h0, h3⟩ := rows_of Try.underlying43 Try.underlying51 (by kernel_rfl) rfl rfl rfl (t0 := 9) (t1 := 31) (t2 := 31) rfl rfl rfl (by kernel_rfl) (by kernel_rfl) (by kernel_rfl) hv h hlt
  have hall : ∀ i, ∃ x : Itm, i < n → (∃ C off, p = some ⟨C, off, none⟩ ∧ C < W.heap.size ∧ W.cell? ⟨C, off + i * 3, none⟩ = some (.string x.name) ∧ W.cell? ⟨C, off + i * 3 + 1, none⟩ = some (.int .u64 x.many) ∧ W.cell? ⟨C, off + i * 3 + 2, none⟩ = some (.int .u64 x.over)) ∧ x.name.size ≤ maxLen ∧ x.many < 18446744073709551616 ∧ x.over < 18446744073709551616 := by
    intro i
    by_cases hi : i < n
    · obtain ⟨D, off, v0, v1, v2, fuel, y0, y1, y2, rfl, hD, k0, k1, k2, ⟨_, _, g0⟩, ⟨_, _, g1⟩, ⟨_, _, g2⟩⟩ := h3 i hi
      obtain ⟨b0, e0, _, w0⟩ := DataW.trod_string Try.underlying9 g0
      obtain ⟨b1, e1, _, w1⟩ := DataW.trod_int Try.underlying31 g1
      obtain ⟨b2, e2, _, w2⟩ := DataW.trod_int Try.underlying31 g2
      simp only [List.cons.injEq, and_true] at e0 e1 e2
      subst e0 e1 e2
      obtain ⟨c1, rfl, hb1⟩ := wf_u64 w1
      obtain ⟨c2, rfl, hb2⟩ := wf_u64 w2
      exact ⟨⟨b0, c1, c2⟩, fun _ => ⟨⟨D, off, rfl, hD, k0, k1, k2⟩, w0, hb1, hb2⟩⟩
    · exact ⟨⟨⟨#[]⟩, 0, 0⟩, fun h => absurd h hi⟩
  obtain ⟨f, hf⟩ := Classical.axiomOfChoice hall
  have hl : ((List.range n).map f).length = n := by simp
  have hg : ∀ i, i < n → ((List.range n).map f)[i]! = f i := fun i hi => by
    rw [getE _ i (by rw [hl]; exact hi)]; simp
  refine ⟨p, (List.range n).map f, cap, by rw [hl], by rw [hl]; exact h1, h2, h0, fun i hi => ?_, fun x hx => ?_⟩
  · rw [hl] at hi
    rw [hg i hi]
    exact (hf i hi).1
  · obtain ⟨i, hi, rfl⟩ := List.mem_map.1 hx
    exact (hf i (List.mem_range.1 hi)).2
end Go.Proofs.Ytnkhieackclniaa
