/- Slices of numbers that come in, opened. -/
import Derived.Test.YtklklpccpbhfgaaHiOf
import Derived.Test.YtklklpccpbhfgaaLaw
import Derived.Lib.SmallJoins
import Derived.ChangeArms
import Derived.ChangeSlices
import Derived.ChangeSame
import Derived.SizedLaws
namespace Go.Proofs.Ytklklpccpbhfgaa
open Go Go.RowKit

theorem wf_i64 {n : Int} (h : (Lit.int .i64 n).wf = true) : -9223372036854775808 ≤ n ∧ n ≤ 9223372036854775807 := by
  simpa [Lit.wf, IntKind.min, IntKind.max, IntKind.signed, IntKind.bits] using h
theorem wf_u8 {a : Int} (h : (Lit.int .u8 a).wf = true) : ∃ n : Nat, a = n ∧ n < 256 := by
  have hx : 0 ≤ a ∧ a ≤ 255 := by simpa [Lit.wf, IntKind.min, IntKind.max, IntKind.signed, IntKind.bits] using h
  exact ⟨a.toNat, by omega, by omega⟩
theorem wf_u16 {a : Int} (h : (Lit.int .u16 a).wf = true) : ∃ n : Nat, a = n ∧ n < 65536 := by
  have hx : 0 ≤ a ∧ a ≤ 65535 := by simpa [Lit.wf, IntKind.min, IntKind.max, IntKind.signed, IntKind.bits] using h
  exact ⟨a.toNat, by omega, by omega⟩

/-- A slice of integers that comes in: what its cells hold. -/
theorem ints_of {H : Type} {enc : TypeId × Value → H} {P : Program} {W : World} {spare : Nat → Bool} {held : Bool} {t e : TypeId} {k : IntKind} {v : Value} {d : DataW H} {ps : List MemPlace} (ht : P.underlying t = some (.slice e)) (he : P.underlying e = some (.int k)) (hc : P.cellsOf e = 1)
    (hv : ∃ p len cap, v = .slice p len cap) (h : DataW.Trod enc P W 0 spare held t v d ps) (hlt : ∀ x ∈ ps, x.block < W.heap.size) :
    ∃ (p : Option Addr) (len cap : Nat) (zs : List Int), v = .slice p len cap ∧ len ≤ cap ∧ cap ≤ maxLen ∧ len ≤ zs.length ∧ (p = none → cap = 0) ∧
      ∀ j, j < len → ∃ b off, p = some ⟨b, off, none⟩ ∧ b < W.heap.size ∧ W.cell? ⟨b, off + j, none⟩ = some (.int k (zs.getD j 0)) ∧ (Lit.int k (zs.getD j 0)).wf = true := by
  obtain ⟨p, len, cap, rfl⟩ := hv
  obtain ⟨fuel, hf⟩ := h
  rcases ChangeShapes.open_ints ht he hc hf with ⟨hcs, hx⟩ | ⟨a, len', cap', zs, hcs, _, hl, hm, hz, hx, hcell, hwz⟩
  · simp [Value.cells] at hcs
    obtain ⟨rfl, rfl, rfl⟩ := hcs
    exact ⟨none, 0, 0, [], rfl, Nat.le_refl _, Nat.zero_le _, Nat.zero_le _, fun _ => rfl, fun j hj => by omega⟩
  · simp [Value.cells] at hcs
    obtain ⟨rfl, rfl, rfl⟩ := hcs
    simp only [Prod.mk.injEq] at hx
    obtain ⟨rfl, rfl⟩ := hx
    have hzl : len ≤ zs.length := by rw [hz]; split <;> omega
    refine ⟨some a, len, cap, zs, rfl, hl, hm, hzl, fun h => by (cases h), fun j hj => ?_⟩
    obtain ⟨b, off, spot⟩ := a
    have hspot : spot = none := by simpa [Addr.add] using World.cell?_spot (hcell 0 (by omega))
    subst hspot
    refine ⟨b, off, rfl, ?_, ?_, ?_⟩
    · exact hlt (.cell b off) (MemPlace.mem_row.2 ⟨0, by omega, by simp⟩)
    · have := hcell j (by omega); rwa [Addr.add_lit] at this
    · exact hwz _ (by rw [List.getD_eq_getElem?_getD, List.getElem?_eq_getElem (by omega)]; simp)
theorem longs_of {H : Type} {enc : TypeId × Value → H} {P : Program} {W : World} {spare : Nat → Bool} {held : Bool} {t e : TypeId} {v : Value} {d : DataW H} {ps : List MemPlace} (ht : P.underlying t = some (.slice e)) (he : P.underlying e = some (.int .i64)) (hc : P.cellsOf e = 1)
    (hv : ∃ p len cap, v = .slice p len cap) (h : DataW.Trod enc P W 0 spare held t v d ps) (hlt : ∀ x ∈ ps, x.block < W.heap.size) :
    ∃ (p : Option Addr) (xs : List Int) (cap : Nat), v = .slice p xs.length cap ∧ xs.length ≤ cap ∧ cap ≤ maxLen ∧ Ints p xs W ∧ (p = none → cap = 0) := by
  obtain ⟨p, len, cap, zs, rfl, h1, h2, h3, hz, h4⟩ := ints_of ht he hc hv h hlt
  have hl : (zs.take len).length = len := by rw [List.length_take]; omega
  refine ⟨p, zs.take len, cap, by rw [hl], by rw [hl]; exact h1, h2, fun k hk => ?_, hz⟩
  rw [hl] at hk
  obtain ⟨b, off, g1, g2, g3, g4⟩ := h4 k hk
  have e : (zs.take len)[k]'(by omega) = zs.getD k 0 := by
    rw [List.getElem_take, List.getD_eq_getElem?_getD, List.getElem?_eq_getElem (by omega)]; rfl
  exact ⟨b, off, g1, g2, by rw [g3, e], by rw [e]; exact wf_i64 g4⟩
theorem reach_small : reachBytes ≤ 140737488355328 := Nat.le_of_lt reachBytes_lt
theorem text_small {H : Type} {P : Program} {ts : List TypeId} {ds : List (DataW H)} (h : (DataW.weightsEach P ts ds).all (· ≤ reachBytes) = true) (j : Nat) {t : TypeId} {s : ByteArray} (ht : ts[j]? = some t) (hd : ds[j]? = some (.lit (.string s.data.toList))) : s.size ≤ 140737488355328 :=
  Nat.le_trans (show s.data.toList.length ≤ reachBytes from sized_string h ht hd) reach_small
/-- A slice of numbers of 8 bits. -/
def Tiny (p : Option Addr) (xs : List Int) (w : World) : Prop :=
  ∀ k (h : k < xs.length), ∃ B off, p = some ⟨B, off, none⟩ ∧ B < w.heap.size ∧ w.cell? ⟨B, off + k, none⟩ = some (.int .i8 xs[k]) ∧ -128 ≤ xs[k] ∧ xs[k] ≤ 127
theorem Tiny.below {p : Option Addr} {xs : List Int} {w w' : World} (h : Tiny p xs w) (hB : Below w.heap.size w w') : Tiny p xs w' := fun k hk => by
  obtain ⟨B, off, h1, h2, h3, h4⟩ := h k hk
  exact ⟨B, off, h1, Nat.lt_of_lt_of_le h2 hB.size, (hB.cell (p := ⟨B, off + k, none⟩) h2).trans h3, h4⟩
theorem tinies_of {H : Type} {enc : TypeId × Value → H} {P : Program} {W : World} {spare : Nat → Bool} {held : Bool} {t e : TypeId} {v : Value} {d : DataW H} {ps : List MemPlace} (ht : P.underlying t = some (.slice e)) (he : P.underlying e = some (.int .i8)) (hc : P.cellsOf e = 1)
    (hv : ∃ p len cap, v = .slice p len cap) (h : DataW.Trod enc P W 0 spare held t v d ps) (hlt : ∀ x ∈ ps, x.block < W.heap.size) :
    ∃ (p : Option Addr) (xs : List Int) (cap : Nat), v = .slice p xs.length cap ∧ xs.length ≤ cap ∧ cap ≤ maxLen ∧ Tiny p xs W ∧ (p = none → cap = 0) := by
  obtain ⟨p, len, cap, zs, rfl, h1, h2, h3, hz, h4⟩ := ints_of ht he hc hv h hlt
  have hl : (zs.take len).length = len := by rw [List.length_take]; omega
  refine ⟨p, zs.take len, cap, by rw [hl], by rw [hl]; exact h1, h2, fun k hk => ?_, hz⟩
  rw [hl] at hk
  obtain ⟨b, off, g1, g2, g3, g4⟩ := h4 k hk
  have e : (zs.take len)[k]'(by omega) = zs.getD k 0 := by
    rw [List.getElem_take, List.getD_eq_getElem?_getD, List.getElem?_eq_getElem (by omega)]; rfl
  have g5 : -128 ≤ zs.getD k 0 ∧ zs.getD k 0 ≤ 127 := by simpa [Lit.wf, IntKind.min, IntKind.max, IntKind.signed, IntKind.bits] using g4
  exact ⟨b, off, g1, g2, by rw [g3, e], by rw [e]; exact g5⟩
end Go.Proofs.Ytklklpccpbhfgaa
