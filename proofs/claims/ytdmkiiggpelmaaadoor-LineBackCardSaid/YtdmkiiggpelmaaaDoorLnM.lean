/- A line's parts that come in, opened. -/
import Derived.Test.YtdmkiiggpelmaaaDoorLnX
import Derived.Test.YtdmkiiggpelmaaaDoorFxP
import Derived.Deep.Slices
import Derived.Deep.SlicePairs
import Derived.Deep.Fields
import Derived.Lib.SmallJoins
import Derived.ChangeArms
import Derived.ChangeSlices
import Derived.ChangeSame
namespace Go.Proofs.YtdmkiiggpelmaaaDoor.Lx
open Go Go.RowKit Go.ChangeShapes Go.WideShapes Go.Deep

theorem in64_wf {n : Int} (h : (Lit.int .i64 n).wf = true) : In64 n := by
  have := h
  simp [Lit.wf, IntKind.min, IntKind.max, IntKind.signed, IntKind.bits] at this
  unfold In64
  omega
theorem octs_core {H : Type} {enc : TypeId × Value → H} {P : Program} {W : World} {spare : Nat → Bool} {held : Bool} {t e : TypeId} {fuel : Nat} {cs : List Value} {x : DataW H × List MemPlace} (ht : P.underlying t = some (.slice e)) (he : P.underlying e = some (.int .u8)) (hc : P.cellsOf e = 1)
    (h : DataW.trod enc P W 0 spare held fuel t cs = some x) (hlt : ∀ y ∈ x.2, y.block < W.heap.size) :
    ∃ (p : Option Addr) (hs : List Nat) (cap : Nat), cs = [.slice p hs.length cap] ∧ hs.length ≤ maxLen ∧ Octs p hs W := by
  rcases ChangeShapes.open_ints ht he hc h with ⟨rfl, rfl⟩ | ⟨a, len, cap, zs, rfl, _, hl, hm, hz, rfl, hcell, hwz⟩
  · exact ⟨none, [], 0, rfl, Nat.zero_le _, fun k hk => by simp at hk⟩
  · have hzl : len ≤ zs.length := by rw [hz]; split <;> omega
    have hlen : ((zs.take len).map Int.toNat).length = len := by rw [List.length_map, List.length_take]; omega
    refine ⟨some a, (zs.take len).map Int.toNat, cap, by rw [hlen], by rw [hlen]; omega, fun k hk => ?_⟩
    rw [hlen] at hk
    obtain ⟨b, off, spot⟩ := a
    have hspot : spot = none := by simpa [Addr.add] using World.cell?_spot (hcell 0 (by omega))
    subst hspot
    have e : (((zs.take len).map Int.toNat)[k]'(by omega) : Nat) = (zs.getD k 0).toNat := by
      rw [List.getElem_map, List.getElem_take, List.getD_eq_getElem?_getD, List.getElem?_eq_getElem (by omega)]; rfl
    have g4 := hwz (zs.getD k 0) (by rw [List.getD_eq_getElem?_getD, List.getElem?_eq_getElem (by omega)]; simp)
    have hx : 0 ≤ zs.getD k 0 ∧ zs.getD k 0 ≤ 255 := by simpa [Lit.wf, IntKind.min, IntKind.max, IntKind.signed, IntKind.bits] using g4
    refine ⟨b, off, rfl, hlt (.cell b off) (MemPlace.mem_row.2 ⟨0, by omega, by simp⟩), ?_, by rw [e]; omega⟩
    rw [← Addr.add_lit, hcell k (by omega), e]
    exact congrArg (fun n => some (Value.int .u8 n)) (by omega)
set_option maxRecDepth 100000 in
theorem hone_label : ∃ f0 f1 : Field, Tryd.prog.underlying 43 = some (.struct #[f0, f1]) ∧ f0.offset = 0 ∧ f1.offset = 1 ∧ f0.type = 9 ∧ f1.type = 9 :=
  ⟨_, _, Tryd.underlying43, rfl, rfl, rfl, rfl⟩
set_option maxRecDepth 100000 in
theorem labs_core {H : Type} {enc : TypeId × Value → H} {W : World} {spare : Nat → Bool} {held : Bool} {fuel : Nat} {cs : List Value} {x : DataW H × List MemPlace}
    (h : DataW.trod enc Tryd.prog W 0 spare held fuel 22 cs = some x) (hlt : ∀ y ∈ x.2, y.block < W.heap.size) :
    ∃ (p : Option Addr) (ls : List Lab) (cap : Nat), cs = [.slice p ls.length cap] ∧ ls.length ≤ maxLen ∧ LbAt p ls W := by
  obtain ⟨f0, f1, hu, o0, o1, t0, t1⟩ := hone_label
  have c1 : Tryd.prog.cellsOf 9 = 1 := by kernel_rfl
  rcases Deep.open_slice_pairs Tryd.underlying22 hu (by kernel_rfl) o0 o1 (by rw [t0]; exact c1) (by rw [t1]; exact c1) h with ⟨rfl, rfl⟩ | ⟨a, len, cap, m, n, V0, V1, D0, D1, P0, P1, rfl, _, hl, hm, hmm, rfl, hi⟩
  · exact ⟨none, [], 0, rfl, Nat.zero_le _, LbAt.nil _ _⟩
  · have hlm : len ≤ m := by rw [hmm]; split <;> omega
    have hall : ∀ k, ∃ y : Lab, k < len → (∃ C off, a = ⟨C, off, none⟩ ∧ C < W.heap.size ∧ W.cell? ⟨C, off + k * 2, none⟩ = some (.string (tx y.1)) ∧ W.cell? ⟨C, off + k * 2 + 1, none⟩ = some (.string (tx y.2))) ∧ y.1.length ≤ maxLen ∧ y.2.length ≤ maxLen := by
      intro k
      by_cases hk : k < len
      · obtain ⟨h0, h1, g0, g1⟩ := hi k (by omega)
        rw [t0] at g0
        rw [t1] at g1
        obtain ⟨s0, e0, _, w0⟩ := DataW.trod_string Tryd.underlying9 g0
        obtain ⟨s1, e1, _, w1⟩ := DataW.trod_string Tryd.underlying9 g1
        simp only [List.cons.injEq, and_true] at e0 e1
        obtain ⟨b, off, spot⟩ := a
        have hspot : spot = none := by simpa [Addr.add] using World.cell?_spot (hi 0 (by omega)).1
        subst hspot
        rw [Addr.add_lit, e0] at h0
        rw [Addr.add_lit, e1] at h1
        refine ⟨(s0.data.toList, s1.data.toList), fun _ => ⟨⟨b, off, rfl, hlt (.cell b off) (List.mem_append.2 (.inl (MemPlace.mem_row.2 ⟨0, by omega, by simp⟩))), ?_, ?_⟩, ?_, ?_⟩⟩
        · rw [tx_list]; exact h0
        · rw [tx_list]; exact h1
        · rw [size_list]; exact w0
        · rw [size_list]; exact w1
      · exact ⟨([], []), fun h => absurd h hk⟩
    obtain ⟨f, hf2⟩ := Classical.axiomOfChoice hall
    have hlr : ((List.range len).map f).length = len := by simp
    refine ⟨some a, (List.range len).map f, cap, by rw [hlr], by rw [hlr]; omega, fun k hk => ?_⟩
    rw [hlr] at hk
    obtain ⟨⟨C, off, e, hC, hc0, hc1⟩, hs0, hs1⟩ := hf2 k hk
    have hg : ((List.range len).map f)[k]'(by rw [hlr]; exact hk) = f k := by simp
    exact ⟨C, off, by rw [e], hC, by rw [hg]; exact hc0, by rw [hg]; exact hc1, by rw [hg]; exact hs0, by rw [hg]; exact hs1⟩
set_option maxRecDepth 100000 in
theorem items_core {H : Type} {enc : TypeId × Value → H} {W : World} {spare : Nat → Bool} {held : Bool} {fuel : Nat} {cs : List Value} {x : DataW H × List MemPlace}
    (h : DataW.trod enc Tryd.prog W 0 spare held fuel 26 cs = some x) (hlt : ∀ y ∈ x.2, y.block < W.heap.size) :
    ∃ (p : Option Addr) (l : List ItemV) (cap : Nat), cs = [.slice p l.length cap] ∧ l.length ≤ maxLen ∧ Rows9 p l W := by
  rcases Deep.open_slice1 Tryd.underlying26 (by kernel_rfl) h with ⟨rfl, rfl⟩ | ⟨a, len, cap, m, n, V, D, Pl, rfl, _, hl, hm, hmm, rfl, hi⟩
  · exact ⟨none, [], 0, rfl, Nat.zero_le _, fun k hk => by simp at hk⟩
  · have hlm : len ≤ m := by rw [hmm]; split <;> omega
    have hall : ∀ k, ∃ y : ItemV, k < len → (∃ C off, a = ⟨C, off, none⟩ ∧ C < W.heap.size ∧ W.cell? ⟨C, off + k, none⟩ = some y.val) ∧ Octs y.p y.xs W ∧ y.xs.length ≤ maxLen := by
      intro k
      by_cases hk : k < len
      · obtain ⟨h0, g0⟩ := hi k (by omega)
        obtain ⟨p, hs, c, e0, hn, hO⟩ := octs_core Tryd.underlying25 Tryd.underlying5 (by kernel_rfl) g0 (fun y hy => hlt y (List.mem_append.2 (.inr (List.mem_flatMap.2 ⟨k, List.mem_range.2 (by omega), hy⟩))))
        simp only [List.cons.injEq, and_true] at e0
        obtain ⟨b, off, spot⟩ := a
        have hspot : spot = none := by simpa [Addr.add] using World.cell?_spot (hi 0 (by omega)).1
        subst hspot
        rw [Addr.add_lit, e0] at h0
        exact ⟨⟨p, hs, c⟩, fun _ => ⟨⟨b, off, rfl, hlt (.cell b off) (List.mem_append.2 (.inl (MemPlace.mem_row.2 ⟨0, by omega, by simp⟩))), h0⟩, hO, hn⟩⟩
      · exact ⟨⟨none, [], 0⟩, fun h => absurd h hk⟩
    obtain ⟨f, hf2⟩ := Classical.axiomOfChoice hall
    have hlr : ((List.range len).map f).length = len := by simp
    refine ⟨some a, (List.range len).map f, cap, by rw [hlr], by rw [hlr]; omega, fun k hk => ?_⟩
    rw [hlr] at hk
    obtain ⟨⟨C, off, e, hC, hc0⟩, hO, hs0⟩ := hf2 k hk
    have hg : ((List.range len).map f)[k]'(by rw [hlr]; exact hk) = f k := by simp
    exact ⟨C, off, by rw [e], hC, by rw [hg]; exact hc0, by rw [hg]; exact hO, by rw [hg]; exact hs0⟩
theorem four_of {α : Type} {l : List α} (h : l.length = 4) : ∃ a b c d, l = [a, b, c, d] := by
  match l, h with
  | [a, b, c, d], _ => exact ⟨a, b, c, d, rfl⟩
theorem seven_of {α : Type} {l : List α} (h : l.length = 7) : ∃ a b c d e f g, l = [a, b, c, d, e, f, g] := by
  match l, h with
  | [a, b, c, d, e, f, g], _ => exact ⟨a, b, c, d, e, f, g, rfl⟩
set_option maxRecDepth 100000 in
theorem hone_line : ∃ f0 f1 f2 f3 : Field, Tryd.prog.underlying 24 = some (.struct #[f0, f1, f2, f3]) ∧ f0.offset = 0 ∧ f1.offset = 1 ∧ f2.offset = 2 ∧ f3.offset = 3 ∧ f0.type = 9 ∧ f1.type = 22 ∧ f2.type = 2 ∧ f3.type = 2 :=
  ⟨_, _, _, _, Tryd.underlying24, rfl, rfl, rfl, rfl, rfl, rfl, rfl, rfl⟩
set_option maxRecDepth 100000 in
theorem hone_made : ∃ f0 f1 f2 f3 : Field, Tryd.prog.underlying 28 = some (.struct #[f0, f1, f2, f3]) ∧ f0.offset = 0 ∧ f1.offset = 4 ∧ f2.offset = 5 ∧ f3.offset = 6 ∧ f0.type = 24 ∧ f1.type = 4 ∧ f2.type = 25 ∧ f3.type = 26 :=
  ⟨_, _, _, _, Tryd.underlying28, rfl, rfl, rfl, rfl, rfl, rfl, rfl, rfl⟩
set_option maxRecDepth 100000 in
theorem made_of {H : Type} {enc : TypeId × Value → H} {W : World} {spare : Nat → Bool} {held : Bool} {r : Reach} {b0 : Nat} {v : Value} {d : DataW H} {ps : List MemPlace}
    (hv : Value.okWide Tryd.prog W r b0 28 v) (h : DataW.Trod enc Tryd.prog W 0 spare held 28 v d ps) (hlt : ∀ x ∈ ps, x.block < W.heap.size) :
    ∃ x : MadeV, v = .agg x.vals ∧ x.fits W := by
  obtain ⟨f0, f1, f2, f3, hu, o0, o1, o2, o3, t0, t1, t2, t3⟩ := hone_made
  obtain ⟨e0, e1, e2, e3, hv2, p0, p1, p2, p3, y0, y1, y2, y3⟩ := hone_line
  have c7 : Tryd.prog.cellsOf 28 = 7 := by kernel_rfl
  have c4 : Tryd.prog.cellsOf 24 = 4 := by kernel_rfl
  have cs1 : Tryd.prog.cellsOf 9 = 1 := by kernel_rfl
  have cl1 : Tryd.prog.cellsOf 22 = 1 := by kernel_rfl
  have ci1 : Tryd.prog.cellsOf 2 = 1 := by kernel_rfl
  obtain ⟨cs, rfl, hsz⟩ := okWide_struct hu hv
  rw [c7] at hsz
  obtain ⟨v0, v1, v2, v3, v4, v5, v6, hl⟩ := seven_of (l := cs.toList) (by simpa using hsz)
  obtain ⟨fuel, hf⟩ := h
  obtain ⟨xs, n', _, hxx, _, hxl, hfl⟩ := DataW.trod_struct hu hf
  obtain ⟨x0, x1, x2, x3, rfl⟩ := four_of (l := xs) hxl
  have g0 := hfl 0 f0 rfl
  have g1 := hfl 1 f1 rfl
  have g2 := hfl 2 f2 rfl
  have g3 := hfl 3 f3 rfl
  rw [o0, t0, c4] at g0
  rw [o1, t1, show Tryd.prog.cellsOf 4 = 1 by kernel_rfl] at g1
  rw [o2, t2, show Tryd.prog.cellsOf 25 = 1 by kernel_rfl] at g2
  rw [o3, t3, show Tryd.prog.cellsOf 26 = 1 by kernel_rfl] at g3
  have hcl : (Value.cells (.agg cs)).toList = [v0, v1, v2, v3, v4, v5, v6] := by simpa [Value.cells] using hl
  rw [hcl] at g0 g1 g2 g3
  simp only [Prod.mk.injEq] at hxx
  have hin : ∀ (z : DataW H × List MemPlace), z ∈ [x0, x1, x2, x3] → ∀ y ∈ z.2, y.block < W.heap.size := fun z hz y hy => hlt y (by
    rw [hxx.2]
    exact List.mem_flatMap.2 ⟨z, hz, hy⟩)
  obtain ⟨xt, n2, _, hxy, _, hxm, hfm⟩ := DataW.trod_struct hv2 g0
  obtain ⟨z0, z1, z2, z3, rfl⟩ := four_of (l := xt) hxm
  have q0 := hfm 0 e0 rfl
  have q1 := hfm 1 e1 rfl
  have q2 := hfm 2 e2 rfl
  have q3 := hfm 3 e3 rfl
  rw [p0, y0, cs1] at q0
  rw [p1, y1, cl1] at q1
  rw [p2, y2, ci1] at q2
  rw [p3, y3, ci1] at q3
  obtain ⟨s, k0, _, w0⟩ := DataW.trod_string Tryd.underlying9 q0
  obtain ⟨lp, ls, lcap, k1, hls, hLb⟩ := labs_core q1 (fun y hy => hin x0 (by simp) y (by
    rw [hxy]
    exact List.mem_flatMap.2 ⟨z1, by simp, hy⟩))
  obtain ⟨b2, k2, _, w2⟩ := DataW.trod_int Tryd.underlying2 q2
  obtain ⟨b3, k3, _, w3⟩ := DataW.trod_int Tryd.underlying2 q3
  obtain ⟨b4, k4, _⟩ := DataW.trod_bool Tryd.underlying4 g1
  obtain ⟨np, nm, ncap, k5, hnm, hO⟩ := octs_core Tryd.underlying25 Tryd.underlying5 (by kernel_rfl) g2 (hin x2 (by simp))
  obtain ⟨ip, it, icap, k6, hit, hR⟩ := items_core g3 (hin x3 (by simp))
  simp only [List.drop_zero, List.drop_succ_cons, List.take_succ_cons, List.take_zero, List.cons.injEq, and_true] at k0 k1 k2 k3 k4 k5 k6
  subst k0 k1 k2 k3 k4 k5 k6
  refine ⟨⟨s.data.toList, lp, ls, lcap, b2, b3, b4, np, nm, ncap, ip, it, icap⟩, ?_, ⟨by rw [size_list]; exact w0, hls, hLb, in64_wf w2, in64_wf w3, hnm, hO, hit, hR⟩⟩
  have hc : cs = #[.string s, .slice lp ls.length lcap, .int .i64 b2, .int .i64 b3, .bool b4, .slice np nm.length ncap, .slice ip it.length icap] := by
    rw [← Array.toList_inj, hl]
  rw [hc]
  simp only [MadeV.vals, tx_list]
end Go.Proofs.YtdmkiiggpelmaaaDoor.Lx
