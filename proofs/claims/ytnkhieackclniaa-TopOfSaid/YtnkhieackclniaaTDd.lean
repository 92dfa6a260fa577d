/- Slices of deeds, and of items, that come in, opened. -/
import Derived.Test.YtnkhieackclniaaTPl
import Derived.Test.YtnkhieackclniaaTOpen
namespace Go.Proofs.Ytnkhieackclniaa
open Go Go.RowKit

theorem three_of {α : Type} {l : List α} (h : l.length = 3) : ∃ a b c, l = [a, b, c] := by
  match l, h with
  | [a, b, c], _ => exact ⟨a, b, c, rfl⟩
/-- A slice of structs of three cells, opened. -/
theorem rows_of {H : Type} {enc : TypeId × Value → H} {W : World} {spare : Nat → Bool} {held : Bool} {v : Value} {d : DataW H} {ps : List MemPlace} {T E t0 t1 t2 : TypeId} {f0 f1 f2 : Field}
    (uT : Try.prog.underlying T = some (.slice E)) (hu : Try.prog.underlying E = some (.struct #[f0, f1, f2])) (c3 : Try.prog.cellsOf E = 3) (o0 : f0.offset = 0) (o1 : f1.offset = 1) (o2 : f2.offset = 2) (e0 : f0.type = t0) (e1 : f1.type = t1) (e2 : f2.type = t2)
    (n0 : Try.prog.cellsOf t0 = 1) (n1 : Try.prog.cellsOf t1 = 1) (n2 : Try.prog.cellsOf t2 = 1)
    (hv : ∃ p len cap, v = .slice p len cap) (h : DataW.Trod enc Try.prog W 0 spare held T v d ps) (hlt : ∀ x ∈ ps, x.block < W.heap.size) :
    ∃ (p : Option Addr) (n cap : Nat), v = .slice p n cap ∧ n ≤ cap ∧ cap ≤ maxLen ∧ (p = none → cap = 0) ∧
      ∀ i, i < n → ∃ (D off : Nat) (v0 v1 v2 : Value) (fuel : Nat) (y0 y1 y2 : DataW H × List MemPlace), p = some ⟨D, off, none⟩ ∧ D < W.heap.size ∧ W.cell? ⟨D, off + i * 3, none⟩ = some v0 ∧ W.cell? ⟨D, off + i * 3 + 1, none⟩ = some v1 ∧ W.cell? ⟨D, off + i * 3 + 2, none⟩ = some v2 ∧
        (∃ sp hd, DataW.trod enc Try.prog W 0 sp hd fuel t0 [v0] = some y0) ∧ (∃ sp hd, DataW.trod enc Try.prog W 0 sp hd fuel t1 [v1] = some y1) ∧ (∃ sp hd, DataW.trod enc Try.prog W 0 sp hd fuel t2 [v2] = some y2) := by
  obtain ⟨p, len, cap, rfl⟩ := hv
  obtain ⟨fuel, hf⟩ := h
  rcases Deep.open_slice uT hf with ⟨hcs, hx⟩ | ⟨a, len', cap', m, n, D, Pl, hcs, _, hl, hm, hmm, hx, hi⟩
  · simp [Value.cells] at hcs
    obtain ⟨rfl, rfl, rfl⟩ := hcs
    exact ⟨none, 0, 0, rfl, Nat.le_refl _, Nat.zero_le _, fun _ => rfl, fun k hk => by omega⟩
  · simp [Value.cells] at hcs
    obtain ⟨rfl, rfl, rfl⟩ := hcs
    simp only [Prod.mk.injEq] at hx
    obtain ⟨rfl, rfl⟩ := hx
    refine ⟨some a, len, cap, rfl, hl, hm, (fun h => by cases h), fun k hk => ?_⟩
    have hkm : k < m := by rw [hmm]; split <;> omega
    obtain ⟨cs', hc, hd⟩ := hi k hkm
    rw [c3] at hc
    obtain ⟨_, hlen, hcell⟩ := World.cells?_some hc
    obtain ⟨xs, n', _, hxx, _, hxl, hfl⟩ := DataW.trod_struct hu hd
    obtain ⟨v0, v1, v2, rfl⟩ := three_of hlen
    have g0 := hfl 0 f0 rfl
    have g1 := hfl 1 f1 rfl
    have g2 := hfl 2 f2 rfl
    rw [o0, e0, n0] at g0
    rw [o1, e1, n1] at g1
    rw [o2, e2, n2] at g2
    obtain ⟨x0, x1, x2, rfl⟩ := three_of (l := xs) hxl
    obtain ⟨b, off, spot⟩ := a
    obtain ⟨cs0, hcs0, _⟩ := hi 0 (by omega)
    rw [c3] at hcs0
    obtain ⟨_, hlen0, hcell0⟩ := World.cells?_some hcs0
    obtain ⟨y0, y1, y2, rfl⟩ := three_of hlen0
    have hspot : spot = none := by simpa [Addr.add] using World.cell?_spot (hcell0 0 (by omega))
    subst hspot
    have k0 := hcell 0 (by omega)
    have k1 := hcell 1 (by omega)
    have k2 := hcell 2 (by omega)
    rw [addr_add, addr_add] at k0 k1 k2
    exact ⟨b, off, v0, v1, v2, n', x0, x1, x2, rfl, hlt (.cell b off) (List.mem_append.2 (.inl (MemPlace.mem_row.2 ⟨0, by rw [c3]; omega, by simp⟩))), k0, k1, k2, ⟨_, _, g0⟩, ⟨_, _, g1⟩, ⟨_, _, g2⟩⟩
theorem deeds_of {H : Type} {enc : TypeId × Value → H} {W : World} {spare : Nat → Bool} {held : Bool} {v : Value} {d : DataW H} {ps : List MemPlace}
    (hv : ∃ p len cap, v = .slice p len cap) (h : DataW.Trod enc Try.prog W 0 spare held 22 v d ps) (hlt : ∀ x ∈ ps, x.block < W.heap.size) :
    ∃ (p : Option Addr) (n cap : Nat), v = .slice p n cap ∧ n ≤ 9223372036854775807 ∧ Deeds p n W := by
  obtain ⟨p, n, cap, rfl, h1, h2, _, h3⟩ := rows_of Try.underlying22 Try.underlying33 (by kernel_rfl) rfl rfl rfl (t0 := 5) (t1 := 9) (t2 := 31) rfl rfl rfl (by kernel_rfl) (by kernel_rfl) (by kernel_rfl) hv h hlt
  unfold maxLen at h2
  refine ⟨p, n, cap, rfl, by omega, fun i hi => ?_⟩
  obtain ⟨D, off, v0, v1, v2, fuel, y0, y1, y2, rfl, hD, k0, k1, k2, ⟨_, _, g0⟩, ⟨_, _, g1⟩, ⟨_, _, g2⟩⟩ := h3 i hi
  obtain ⟨b0, e0, _, w0⟩ := DataW.trod_int Try.underlying5 g0
  obtain ⟨b1, e1, _, w1⟩ := DataW.trod_string Try.underlying9 g1
  obtain ⟨b2, e2, _, w2⟩ := DataW.trod_int Try.underlying31 g2
  simp only [List.cons.injEq, and_true] at e0 e1 e2
  subst e0 e1 e2
  obtain ⟨c0, rfl, hb0⟩ := wf_u8 w0
  obtain ⟨c2, rfl, hb2⟩ := wf_u64 w2
  exact ⟨D, off, ⟨c0, b1, c2⟩, rfl, hD, k0, k1, k2, hb0, w1, hb2⟩
end Go.Proofs.Ytnkhieackclniaa
