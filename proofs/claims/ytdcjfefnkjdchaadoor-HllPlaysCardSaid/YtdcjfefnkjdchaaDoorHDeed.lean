/- A slice of deeds that comes in, opened. -/
import Derived.Test.YtdcjfefnkjdchaaDoorHOpen
import Derived.Deep.Slices
import Derived.Deep.Fields
namespace Go.Proofs.YtdcjfefnkjdchaaDoor
open Go Go.RowKit

/-- One deed, as its four cells hold it. -/
structure DeedV where
  kind : Nat
  h : Nat
  lp : Option Addr
  ls : List Nat
  lcap : Nat
  bt : Int
def DeedV.vals (d : DeedV) : List Value := [.int .u8 d.kind, .int .u64 d.h, .slice d.lp d.ls.length d.lcap, .int .i64 d.bt]
structure DeedV.fits (d : DeedV) (w : World) : Prop where
  hk : d.kind < 256
  hh : d.h < 18446744073709551616
  hl : d.ls.length ≤ 9223372036854775807
  hn : Nums d.lp d.ls w
  hb : -9223372036854775808 ≤ d.bt ∧ d.bt ≤ 9223372036854775807
/-- A slice of n deeds. -/
def Deeds (p : Option Addr) (n : Nat) (w : World) : Prop :=
  ∀ k, k < n → ∃ (B off : Nat) (d : DeedV), p = some ⟨B, off, none⟩ ∧ B < w.heap.size ∧ (∀ j v, d.vals[j]? = some v → w.cell? ⟨B, off + k * 4 + j, none⟩ = some v) ∧ d.fits w
theorem ints_core {H : Type} {enc : TypeId × Value → H} {P : Program} {W : World} {spare : Nat → Bool} {held : Bool} {t e : TypeId} {k : IntKind} {fuel : Nat} {cs : List Value} {x : DataW H × List MemPlace} (ht : P.underlying t = some (.slice e)) (he : P.underlying e = some (.int k)) (hc : P.cellsOf e = 1)
    (h : DataW.trod enc P W 0 spare held fuel t cs = some x) (hlt : ∀ y ∈ x.2, y.block < W.heap.size) :
    ∃ (p : Option Addr) (len cap : Nat) (zs : List Int), cs = [.slice p len cap] ∧ len ≤ cap ∧ cap ≤ maxLen ∧ len ≤ zs.length ∧
      ∀ j, j < len → ∃ b off, p = some ⟨b, off, none⟩ ∧ b < W.heap.size ∧ W.cell? ⟨b, off + j, none⟩ = some (.int k (zs.getD j 0)) ∧ (Lit.int k (zs.getD j 0)).wf = true := by
  rcases ChangeShapes.open_ints ht he hc h with ⟨rfl, rfl⟩ | ⟨a, len, cap, zs, rfl, _, hl, hm, hz, rfl, hcell, hwz⟩
  · exact ⟨none, 0, 0, [], rfl, Nat.le_refl _, Nat.zero_le _, Nat.zero_le _, fun j hj => by omega⟩
  · have hzl : len ≤ zs.length := by rw [hz]; split <;> omega
    refine ⟨some a, len, cap, zs, rfl, hl, hm, hzl, fun j hj => ?_⟩
    obtain ⟨b, off, spot⟩ := a
    have hspot : spot = none := by simpa [Addr.add] using World.cell?_spot (hcell 0 (by omega))
    subst hspot
    refine ⟨b, off, rfl, ?_, ?_, ?_⟩
    · exact hlt (.cell b off) (MemPlace.mem_row.2 ⟨0, by omega, by simp⟩)
    · rw [← addr_add]; exact hcell j (by omega)
    · exact hwz _ (by rw [List.getD_eq_getElem?_getD, List.getElem?_eq_getElem (by omega)]; simp)
theorem nums_core {H : Type} {enc : TypeId × Value → H} {P : Program} {W : World} {spare : Nat → Bool} {held : Bool} {t e : TypeId} {fuel : Nat} {cs : List Value} {x : DataW H × List MemPlace} (ht : P.underlying t = some (.slice e)) (he : P.underlying e = some (.int .u64)) (hc : P.cellsOf e = 1)
    (h : DataW.trod enc P W 0 spare held fuel t cs = some x) (hlt : ∀ y ∈ x.2, y.block < W.heap.size) :
    ∃ (p : Option Addr) (hs : List Nat) (cap : Nat), cs = [.slice p hs.length cap] ∧ hs.length ≤ 9223372036854775807 ∧ Nums p hs W := by
  obtain ⟨p, len, cap, zs, rfl, h1, h2, h3, h4⟩ := ints_core ht he hc h hlt
  have hl : ((zs.take len).map Int.toNat).length = len := by rw [List.length_map, List.length_take]; omega
  refine ⟨p, (zs.take len).map Int.toNat, cap, by rw [hl], by rw [hl]; unfold maxLen at h2; omega, fun k hk => ?_⟩
  rw [hl] at hk
  obtain ⟨b, off, g1, g2, g3, g4⟩ := h4 k hk
  have hx : 0 ≤ zs.getD k 0 ∧ zs.getD k 0 ≤ 18446744073709551615 := by simpa [Lit.wf, IntKind.min, IntKind.max, IntKind.signed, IntKind.bits] using g4
  have e : (((zs.take len).map Int.toNat)[k]'(by omega) : Nat) = (zs.getD k 0).toNat := by
    rw [List.getElem_map, List.getElem_take, List.getD_eq_getElem?_getD, List.getElem?_eq_getElem (by omega)]; rfl
  exact ⟨b, off, g1, g2, by rw [g3, e]; exact congrArg (fun n => some (Value.int .u64 n)) (by omega), by rw [e]; omega⟩
theorem four_of {α : Type} {l : List α} (h : l.length = 4) : ∃ a b c d, l = [a, b, c, d] := by
  match l, h with
  | [a, b, c, d], _ => exact ⟨a, b, c, d, rfl⟩
theorem hone_deed : ∃ f0 f1 f2 f3 : Field, Tryd.prog.underlying 34 = some (.struct #[f0, f1, f2, f3]) ∧ f0.offset = 0 ∧ f1.offset = 1 ∧ f2.offset = 2 ∧ f3.offset = 3 ∧ f0.type = 5 ∧ f1.type = 31 ∧ f2.type = 32 ∧ f3.type = 3 :=
  ⟨_, _, _, _, Tryd.underlying34, rfl, rfl, rfl, rfl, rfl, rfl, rfl, rfl⟩
theorem deeds_of {H : Type} {enc : TypeId × Value → H} {W : World} {spare : Nat → Bool} {held : Bool} {v : Value} {d : DataW H} {ps : List MemPlace}
    (hv : ∃ p len cap, v = .slice p len cap) (h : DataW.Trod enc Tryd.prog W 0 spare held 22 v d ps) (hlt : ∀ x ∈ ps, x.block < W.heap.size) :
    ∃ (p : Option Addr) (n cap : Nat), v = .slice p n cap ∧ n ≤ 9223372036854775807 ∧ Deeds p n W := by
  obtain ⟨p, len, cap, rfl⟩ := hv
  obtain ⟨fuel, hf⟩ := h
  have c4 : Tryd.prog.cellsOf 34 = 4 := by kernel_rfl
  rcases Deep.open_slice Tryd.underlying22 hf with ⟨hcs, hx⟩ | ⟨a, len', cap', m, n, D, Pl, hcs, _, hl, hm, hmm, hx, hi⟩
  · simp [Value.cells] at hcs
    obtain ⟨rfl, rfl, rfl⟩ := hcs
    exact ⟨none, 0, 0, rfl, Nat.zero_le _, fun k hk => by omega⟩
  · simp [Value.cells] at hcs
    obtain ⟨rfl, rfl, rfl⟩ := hcs
    simp only [Prod.mk.injEq] at hx
    obtain ⟨rfl, rfl⟩ := hx
    refine ⟨some a, len, cap, rfl, by unfold maxLen at hm; omega, fun k hk => ?_⟩
    have hkm : k < m := by rw [hmm]; split <;> omega
    obtain ⟨cs', hc, hd⟩ := hi k hkm
    rw [c4] at hc
    obtain ⟨_, hlen, hcell⟩ := World.cells?_some hc
    obtain ⟨f0, f1, f2, f3, hu, o0, o1, o2, o3, t0, t1, t2, t3⟩ := hone_deed
    obtain ⟨xs, n', _, hxx, _, hxl, hfl⟩ := DataW.trod_struct hu hd
    obtain ⟨v0, v1, v2, v3, rfl⟩ := four_of hlen
    have g0 := hfl 0 f0 rfl
    have g1 := hfl 1 f1 rfl
    have g2 := hfl 2 f2 rfl
    have g3 := hfl 3 f3 rfl
    rw [o0, t0, show Tryd.prog.cellsOf 5 = 1 by kernel_rfl] at g0
    rw [o1, t1, show Tryd.prog.cellsOf 31 = 1 by kernel_rfl] at g1
    rw [o2, t2, show Tryd.prog.cellsOf 32 = 1 by kernel_rfl] at g2
    rw [o3, t3, show Tryd.prog.cellsOf 3 = 1 by kernel_rfl] at g3
    obtain ⟨x0, x1, x2, x3, rfl⟩ := four_of (l := xs) hxl
    simp only [Prod.mk.injEq] at hxx
    obtain ⟨k0, e0, _, w0⟩ := DataW.trod_int Tryd.underlying5 g0
    obtain ⟨k1, e1, _, w1⟩ := DataW.trod_int Tryd.underlying31 g1
    obtain ⟨k3, e3, _, w3⟩ := DataW.trod_int Tryd.underlying3 g3
    obtain ⟨lp, ls, lcap, e2, hls, hN⟩ := nums_core Tryd.underlying32 Tryd.underlying31 (by kernel_rfl) g2 (fun y hy => hlt y (by
      refine List.mem_append.2 (.inr (List.mem_flatMap.2 ⟨k, List.mem_range.2 hkm, ?_⟩))
      rw [hxx.2]
      simp only [List.flatMap_cons, List.flatMap_nil, List.append_nil, List.mem_append]
      exact .inr (.inr (.inl hy))))
    simp only [List.drop_zero, List.drop_succ_cons, List.take_succ_cons, List.take_zero, List.cons.injEq, and_true] at e0 e1 e2 e3
    subst e0 e1 e2 e3
    obtain ⟨b0, rfl, hb0⟩ := wf_u8 w0
    obtain ⟨b1, rfl, hb1⟩ := u64_nat w1
    obtain ⟨b, off, spot⟩ := a
    obtain ⟨cs0, hcs0, _⟩ := hi 0 (by omega)
    rw [c4] at hcs0
    obtain ⟨_, hlen0, hcell0⟩ := World.cells?_some hcs0
    obtain ⟨y0, y1, y2, y3, rfl⟩ := four_of hlen0
    have hspot : spot = none := by simpa [Addr.add] using World.cell?_spot (hcell0 0 (by omega))
    subst hspot
    refine ⟨b, off, ⟨b0, b1, lp, ls, lcap, k3⟩, rfl, ?_, fun j u hj => ?_, ⟨hb0, hb1, hls, hN, wf_i64 w3⟩⟩
    · exact hlt (.cell b off) (List.mem_append.2 (.inl (MemPlace.mem_row.2 ⟨0, by rw [c4]; omega, by simp⟩)))
    · have hj4 : j < 4 := by
        have := (List.getElem?_eq_some_iff.1 hj).1
        simpa [DeedV.vals] using this
      have := hcell j hj4
      rw [addr_add, addr_add] at this
      rw [this]
      exact hj
end Go.Proofs.YtdcjfefnkjdchaaDoor
