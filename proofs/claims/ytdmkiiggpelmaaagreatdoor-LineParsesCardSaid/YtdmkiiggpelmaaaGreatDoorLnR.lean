/- A line's parts that come in, opened. A line that is made, printed and parsed. -/
import Derived.Test.YtdmkiiggpelmaaaGreatDoorLnX
import Derived.Test.YtdmkiiggpelmaaaGreatDoorFxP
import Derived.Deep.Slices
import Derived.Deep.SlicePairs
import Derived.Deep.Fields
import Derived.Lib.SmallJoins
import Derived.ChangeArms
import Derived.ChangeSlices
import Derived.ChangeSame
namespace Go.Proofs.YtdmkiiggpelmaaaGreatDoor.Lx
open Go Go.RowKit Go.ChangeShapes Go.WideShapes Go.Deep

theorem in64_wf {n : Int} (h : (Lit.int .i64 n).wf = true) : In64 n := by
  have := h
  simp [Lit.wf, IntKind.min, IntKind.max, IntKind.signed, IntKind.bits] at this
  unfold In64
  omega
theorem octs_core {H : Type} {enc : TypeId × Value → H} {P : Program} {W : World} {spare : Nat → Bool} {held : Bool} {t e : TypeId} {fuel : Nat} {cs : List Value} {x : DataW H × List MemPlace} (ht : P.underlying t = some (.slice e)) (he : P.underlying e = some (.int .u8)) (hc : P.cellsOf e = 1)
    (h : DataW.trod enc P W 0 spare held fuel t cs = some x) (hlt : ∀ y ∈ x.2, y.block < W.heap.size) :
    ∃ (p : Option Addr) (hs : List Nat) (cap : Nat), cs = [.slice p hs.length cap] ∧ hs.length ≤ maxLen ∧ Octs p hs W := by
  rcases ChangeShapes.open_ints ht he hc h with ⟨rfl, rfl⟩ | ⟨a, len, cap, zs, rfl, _, hl, hm, hz, rfl, hcell, hwz⟩
  · exact ⟨none, [], 0, rfl, Nat.zero_le _, fun k hk => by simp at hk⟩
  · have hzl : len ≤ zs.length := by rw [hz]; split <;> omega
    have hlen : ((zs.take len).map Int.toNat).length = len := by rw [List.length_map, List.length_take]; omega
    refine ⟨some a, (zs.take len).map Int.toNat, cap, by rw [hlen], by rw [hlen]; omega, fun k hk => ?_⟩
    rw [hlen] at hk
    obtain ⟨b, off, spot⟩ := a
    have hspot : spot = none := by simpa [Addr.add] using World.cell?_spot (hcell 0 (by omega))
    subst hspot
    have e : (((zs.take len).map Int.toNat)[k]'(by omega) : Nat) = (zs.getD k 0).toNat := by
      rw [List.getElem_map, List.getElem_take, List.getD_eq_getElem?_getD, List.getElem?_eq_getElem (by omega)]; rfl
    have g4 := hwz (zs.getD k 0) (by rw [List.getD_eq_getElem?_getD, List.getElem?_eq_getElem (by omega)]; simp)
    have hx : 0 ≤ zs.getD k 0 ∧ zs.getD k 0 ≤ 255 := by simpa [Lit.wf, IntKind.min, IntKind.max, IntKind.signed, IntKind.bits] using g4
    refine ⟨b, off, rfl, hlt (.cell b off) (MemPlace.mem_row.2 ⟨0, by omega, by simp⟩), ?_, by rw [e]; omega⟩
    rw [← Addr.add_lit, hcell k (by omega), e]
    exact congrArg (fun n => some (Value.int .u8 n)) (by omega)
set_option maxRecDepth 100000 in
theorem hone_label : ∃ f0 f1 : Field, Tryz.prog.underlying 46 = some (.struct #[f0, f1]) ∧ f0.offset = 0 ∧ f1.offset = 1 ∧ f0.type = 9 ∧ f1.type = 9 :=
  ⟨_, _, Tryz.underlying46, rfl, rfl, rfl, rfl⟩
set_option maxRecDepth 100000 in
theorem labs_core {H : Type} {enc : TypeId × Value → H} {W : World} {spare : Nat → Bool} {held : Bool} {fuel : Nat} {cs : List Value} {x : DataW H × List MemPlace}
    (h : DataW.trod enc Tryz.prog W 0 spare held fuel 22 cs = some x) (hlt : ∀ y ∈ x.2, y.block < W.heap.size) :
    ∃ (p : Option Addr) (ls : List Lab) (cap : Nat), cs = [.slice p ls.length cap] ∧ ls.length ≤ maxLen ∧ LbAt p ls W := by
  obtain ⟨f0, f1, hu, o0, o1, t0, t1⟩ := hone_label
  have c1 : Tryz.prog.cellsOf 9 = 1 := by kernel_rfl
  rcases Deep.open_slice_pairs Tryz.underlying22 hu (by kernel_rfl) o0 o1 (by rw [t0]; exact c1) (by rw [t1]; exact c1) h with ⟨rfl, rfl⟩ | ⟨a, len, cap, m, n, V0, V1, D0, D1, P0, P1, rfl, _, hl, hm, hmm, rfl, hi⟩
  · exact ⟨none, [], 0, rfl, Nat.zero_le _, LbAt.nil _ _⟩
  · have hlm : len ≤ m := by rw [hmm]; split <;> omega
    have hall : ∀ k, ∃ y : Lab, k < len → (∃ C off, a = ⟨C, off, none⟩ ∧ C < W.heap.size ∧ W.cell? ⟨C, off + k * 2, none⟩ = some (.string (tx y.1)) ∧ W.cell? ⟨C, off + k * 2 + 1, none⟩ = some (.string (tx y.2))) ∧ y.1.length ≤ maxLen ∧ y.2.length ≤ maxLen := by
      intro k
      by_cases hk : k < len
      · obtain ⟨h0, h1, g0, g1⟩ := hi k (by omega)
        rw [t0] at g0
        rw [t1] at g1
        obtain ⟨s0, e0, _, w0⟩ := DataW.trod_string Tryz.underlying9 g0
        obtain ⟨s1, e1, _, w1⟩ := DataW.trod_string Tryz.underlying9 g1
        simp only [List.cons.injEq, and_true] at e0 e1
        obtain ⟨b, off, spot⟩ := a
        have hspot : spot = none := by simpa [Addr.add] using World.cell?_spot (hi 0 (by omega)).1
        subst hspot
        rw [Addr.add_lit, e0] at h0
        rw [Addr.add_lit, e1] at h1
        refine ⟨(s0.data.toList, s1.data.toList), fun _ => ⟨⟨b, off, rfl, hlt (.cell b off) (List.mem_append.2 (.inl (MemPlace.mem_row.2 ⟨0, by omega, by simp⟩))), ?_, ?_⟩, ?_, ?_⟩⟩
        · rw [tx_list]; exact h0
        · rw [tx_list]; exact h1
        · rw [size_list]; exact w0
        · rw [size_list]; exact w1
      · exact ⟨([], []), fun h => absurd h hk⟩
    obtain ⟨f, hf2⟩ := Classical.axiomOfChoice hall
    have hlr : ((List.range len).map f).length = len := by simp
    refine ⟨some a, (List.range len).map f, cap, by rw [hlr], by rw [hlr]; omega, fun k hk => ?_⟩
    rw [hlr] at hk
    obtain ⟨⟨C, off, e, hC, hc0, hc1⟩, hs0, hs1⟩ := hf2 k hk
    have hg : ((List.range len).map f)[k]'(by rw [hlr]; exact hk) = f k := by simp
    exact ⟨C, off, by rw [e], hC, by rw [hg]; exact hc0, by rw [hg]; exact hc1, by rw [hg]; exact hs0, by rw [hg]; exact hs1⟩
set_option maxRecDepth 100000 in
theorem items_core {H : Type} {enc : TypeId × Value → H} {W : World} {spare : Nat → Bool} {held : Bool} {fuel : Nat} {cs : List Value} {x : DataW H × List MemPlace}
    (h : DataW.trod enc Tryz.prog W 0 spare held fuel 26 cs = some x) (hlt : ∀ y ∈ x.2, y.block < W.heap.size) :
    ∃ (p : Option Addr) (l : List ItemV) (cap : Nat), cs = [.slice p l.length cap] ∧ l.length ≤ maxLen ∧ Rows9 p l W := by
  rcases Deep.open_slice1 Tryz.underlying26 (by kernel_rfl) h with ⟨rfl, rfl⟩ | ⟨a, len, cap, m, n, V, D, Pl, rfl, _, hl, hm, hmm, rfl, hi⟩
  · exact ⟨none, [], 0, rfl, Nat.zero_le _, fun k hk => by simp at hk⟩
  · have hlm : len ≤ m := by rw [hmm]; split <;> omega
    have hall : ∀ k, ∃ y : ItemV, k < len → (∃ C off, a = ⟨C, off, none⟩ ∧ C < W.heap.size ∧ W.cell? ⟨C, off + k, none⟩ = some y.val) ∧ Octs y.p y.xs W ∧ y.xs.length ≤ maxLen := by
      intro k
      by_cases hk : k < len
      · obtain ⟨h0, g0⟩ := hi k (by omega)
        obtain ⟨p, hs, c, e0, hn, hO⟩ := octs_core Tryz.underlying25 Tryz.underlying5 (by kernel_rfl) g0 (fun y hy => hlt y (List.mem_append.2 (.inr (List.mem_flatMap.2 ⟨k, List.mem_range.2 (by omega), hy⟩))))
        simp only [List.cons.injEq, and_true] at e0
        obtain ⟨b, off, spot⟩ := a
        have hspot : spot = none := by simpa [Addr.add] using World.cell?_spot (hi 0 (by omega)).1
        subst hspot
        rw [Addr.add_lit, e0] at h0
        exact ⟨⟨p, hs, c⟩, fun _ => ⟨⟨b, off, rfl, hlt (.cell b off) (List.mem_append.2 (.inl (MemPlace.mem_row.2 ⟨0, by omega, by simp⟩))), h0⟩, hO, hn⟩⟩
      · exact ⟨⟨none, [], 0⟩, fun h => absurd h hk⟩
    obtain ⟨f, hf2⟩ := Classical.axiomOfChoice hall
    have hlr : ((List.range len).map f).length = len := by simp
    refine ⟨some a, (List.range len).map f, cap, by rw [hlr], by rw [hlr]; omega, fun k hk => ?_⟩
    rw [hlr] at hk
    obtain ⟨⟨C, off, e, hC, hc0⟩, hO, hs0⟩ := hf2 k hk
    have hg : ((List.range len).map f)[k]'(by rw [hlr]; exact hk) = f k := by simp
    exact ⟨C, off, by rw [e], hC, by rw [hg]; exact hc0, by rw [hg]; exact hO, by rw [hg]; exact hs0⟩
theorem four_of {α : Type} {l : List α} (h : l.length = 4) : ∃ a b c d, l = [a, b, c, d] := by
  match l, h with
  | [a, b, c, d], _ => exact ⟨a, b, c, d, rfl⟩
theorem seven_of {α : Type} {l : List α} (h : l.length = 7) : ∃ a b c d e f g, l = [a, b, c, d, e, f, g] := by
  match l, h with
  | [a, b, c, d, e, f, g], _ => exact ⟨a, b, c, d, e, f, g, rfl⟩
set_option maxRecDepth 100000 in
theorem hone_line : ∃ f0 f1 f2 f3 : Field, Tryz.prog.underlying 24 = some (.struct #[f0, f1, f2, f3]) ∧ f0.offset = 0 ∧ f1.offset = 1 ∧ f2.offset = 2 ∧ f3.offset = 3 ∧ f0.type = 9 ∧ f1.type = 22 ∧ f2.type = 2 ∧ f3.type = 2 :=
  ⟨_, _, _, _, Tryz.underlying24, rfl, rfl, rfl, rfl, rfl, rfl, rfl, rfl⟩
set_option maxRecDepth 100000 in
theorem hone_made : ∃ f0 f1 f2 f3 : Field, Tryz.prog.underlying 28 = some (.struct #[f0, f1, f2, f3]) ∧ f0.offset = 0 ∧ f1.offset = 4 ∧ f2.offset = 5 ∧ f3.offset = 6 ∧ f0.type = 24 ∧ f1.type = 4 ∧ f2.type = 25 ∧ f3.type = 26 :=
  ⟨_, _, _, _, Tryz.underlying28, rfl, rfl, rfl, rfl, rfl, rfl, rfl, rfl⟩
set_option maxRecDepth 100000 in
theorem made_of {H : Type} {enc : TypeId × Value → H} {W : World} {spare : Nat → Bool} {held : Bool} {r : Reach} {b0 : Nat} {v : Value} {d : DataW H} {ps : List MemPlace}
    (hv : Value.okWide Tryz.prog W r b0 28 v) (h : DataW.Trod enc Tryz.prog W 0 spare held 28 v d ps) (hlt : ∀ x ∈ ps, x.block < W.heap.size) :
    ∃ x : MadeV, v = .agg x.vals ∧ x.fits W := by
  obtain ⟨f0, f1, f2, f3, hu, o0, o1, o2, o3, t0, t1, t2, t3⟩ := hone_made
  obtain ⟨e0, e1, e2, e3, hv2, p0, p1, p2, p3, y0, y1, y2, y3⟩ := hone_line
  have c7 : Tryz.prog.cellsOf 28 = 7 := by kernel_rfl
  have c4 : Tryz.prog.cellsOf 24 = 4 := by kernel_rfl
  have cs1 : Tryz.prog.cellsOf 9 = 1 := by kernel_rfl
  have cl1 : Tryz.prog.cellsOf 22 = 1 := by kernel_rfl
  have ci1 : Tryz.prog.cellsOf 2 = 1 := by kernel_rfl
  obtain ⟨cs, rfl, hsz⟩ := okWide_struct hu hv
  rw [c7] at hsz
  obtain ⟨v0, v1, v2, v3, v4, v5, v6, hl⟩ := seven_of (l := cs.toList) (by simpa using hsz)
  obtain ⟨fuel, hf⟩ := h
  obtain ⟨xs, n', _, hxx, _, hxl, hfl⟩ := DataW.trod_struct hu hf
  obtain ⟨x0, x1, x2, x3, rfl⟩ := four_of (l := xs) hxl
  have g0 := hfl 0 f0 rfl
  have g1 := hfl 1 f1 rfl
  have g2 := hfl 2 f2 rfl
  have g3 := hfl 3 f3 rfl
  rw [o0, t0, c4] at g0
  rw [o1, t1, show Tryz.prog.cellsOf 4 = 1 by kernel_rfl] at g1
  rw [o2, t2, show Tryz.prog.cellsOf 25 = 1 by kernel_rfl] at g2
  rw [o3, t3, show Tryz.prog.cellsOf 26 = 1 by kernel_rfl] at g3
  have hcl : (Value.cells (.agg cs)).toList = [v0, v1, v2, v3, v4, v5, v6] := by simpa [Value.cells] using hl
  rw [hcl] at g0 g1 g2 g3
  simp only [Prod.mk.injEq] at hxx
  have hin : ∀ (z : DataW H × List MemPlace), z ∈ [x0, x1, x2, x3] → ∀ y ∈ z.2, y.block < W.heap.size := fun z hz y hy => hlt y (by
    rw [hxx.2]
    exact List.mem_flatMap.2 ⟨z, hz, hy⟩)
  obtain ⟨xt, n2, _, hxy, _, hxm, hfm⟩ := DataW.trod_struct hv2 g0
  obtain ⟨z0, z1, z2, z3, rfl⟩ := four_of (l := xt) hxm
  have q0 := hfm 0 e0 rfl
  have q1 := hfm 1 e1 rfl
  have q2 := hfm 2 e2 rfl
  have q3 := hfm 3 e3 rfl
  rw [p0, y0, cs1] at q0
  rw [p1, y1, cl1] at q1
  rw [p2, y2, ci1] at q2
  rw [p3, y3, ci1] at q3
  obtain ⟨s, k0, _, w0⟩ := DataW.trod_string Tryz.underlying9 q0
  obtain ⟨lp, ls, lcap, k1, hls, hLb⟩ := labs_core q1 (fun y hy => hin x0 (by simp) y (by
    rw [hxy]
    exact List.mem_flatMap.2 ⟨z1, by simp, hy⟩))
  obtain ⟨b2, k2, _, w2⟩ := DataW.trod_int Tryz.underlying2 q2
  obtain ⟨b3, k3, _, w3⟩ := DataW.trod_int Tryz.underlying2 q3
  obtain ⟨b4, k4, _⟩ := DataW.trod_bool Tryz.underlying4 g1
  obtain ⟨np, nm, ncap, k5, hnm, hO⟩ := octs_core Tryz.underlying25 Tryz.underlying5 (by kernel_rfl) g2 (hin x2 (by simp))
  obtain ⟨ip, it, icap, k6, hit, hR⟩ := items_core g3 (hin x3 (by simp))
  simp only [List.drop_zero, List.drop_succ_cons, List.take_succ_cons, List.take_zero, List.cons.injEq, and_true] at k0 k1 k2 k3 k4 k5 k6
  subst k0 k1 k2 k3 k4 k5 k6
  refine ⟨⟨s.data.toList, lp, ls, lcap, b2, b3, b4, np, nm, ncap, ip, it, icap⟩, ?_, ⟨by rw [size_list]; exact w0, hls, hLb, in64_wf w2, in64_wf w3, hnm, hO, hit, hR⟩⟩
  have hc : cs = #[.string s, .slice lp ls.length lcap, .int .i64 b2, .int .i64 b3, .bool b4, .slice np nm.length ncap, .slice ip it.length icap] := by
    rw [← Array.toList_inj, hl]
  rw [hc]
  simp only [MadeV.vals, tx_list]
end Go.Proofs.YtdmkiiggpelmaaaGreatDoor.Lx

namespace Go.Proofs.YtdmkiiggpelmaaaGreatDoor.Lx
open Go Go.RowKit

/-- A name and labels that are short, and right. -/
structure Fine (n : List UInt8) (ls : List Lab) : Prop where
  hn : namedL n = true
  n13 : n.length ≤ 13
  l5 : ls.length ≤ 5
  la : ∀ x ∈ ls, namedL x.1 = true ∧ namedL x.2 = true ∧ x.1.length ≤ 13 ∧ x.2.length ≤ 13
theorem pairsM_fine : ∀ (k : Nat) (l : List (List Nat)), (pairsM k l).length ≤ k ∧ ∀ x ∈ pairsM k l, namedL x.1 = true ∧ namedL x.2 = true ∧ x.1.length ≤ 13 ∧ x.2.length ≤ 13
  | k + 1, a :: b :: r => by
    obtain ⟨h1, h2⟩ := pairsM_fine k r
    simp only [pairsM, List.length_cons, List.mem_cons]
    refine ⟨by omega, fun x hx => ?_⟩
    rcases hx with rfl | hx
    · exact ⟨wordS_named a, wordS_named b, wordS_len a, wordS_len b⟩
    · exact h2 x hx
  | 0, l => by cases l <;> simp [pairsM]
  | k + 1, [] => by simp [pairsM]
  | k + 1, [_] => by simp [pairsM]
theorem labs13 : ∀ (ls : List Lab), (∀ x ∈ ls, x.1.length ≤ 13 ∧ x.2.length ≤ 13) → (ls.flatMap labelP).length ≤ 54 * ls.length
  | [], _ => by simp
  | x :: r, h => by
    have ih := labs13 r fun y hy => h y (by simp [hy])
    obtain ⟨h1, h2⟩ := h x (by simp)
    have e1 := escL_le x.1
    have e2 := escL_le x.2
    simp only [List.flatMap_cons, List.length_append, labelP, List.length_cons]
    omega
section
variable {n : List UInt8} {ls : List Lab} {a b : Int}
theorem Fine.right (h : Fine n ls) (hb : 0 ≤ b) : rightF ⟨n, ls, a, b⟩ = true := by
  rw [rightF_eq]
  simp only [Bool.and_eq_true, decide_eq_true_eq, List.all_eq_true]
  have := h.l5
  exact ⟨hb, by omega, h.hn, fun x hx => by obtain ⟨h1, h2, _⟩ := h.la x hx; unfold okL; rw [h1, h2]; rfl⟩
theorem Fine.short (h : Fine n ls) (ha : In64 a) (hb : b ≤ 9223372036854775807) : (printF ⟨n, ls, a, b⟩).length ≤ 1024 := by
  have h1 := escL_le n
  have h2 := labs13 ls fun x hx => (h.la x hx).2.2
  have h3 := (text_len ha).1
  have h4 := dec_19 (m := b.toNat) (by omega)
  have h5 := h.n13
  have h6 := h.l5
  simp only [printF, List.length_append, List.length_cons, valueL, List.length_nil]
  omega
theorem Fine.told (h : Fine n ls) (ha : In64 a) (hb0 : 0 ≤ b) (hb : b ≤ 9223372036854775807) : parseP (printF ⟨n, ls, a, b⟩) = .ok ⟨n, ls, a, b⟩ :=
  parse_print _ (h.right hb0) ha hb (h.short ha hb)
theorem Fine.nmax (h : Fine n ls) : n.length ≤ maxLen := by have := h.n13; unfold maxLen; omega
theorem Fine.lmax (h : Fine n ls) : ls.length ≤ maxLen := by have := h.l5; unfold maxLen; omega
theorem Fine.lbl (h : Fine n ls) : ∀ x ∈ ls, x.1.length ≤ maxLen ∧ x.2.length ≤ maxLen := fun x hx => by
  obtain ⟨_, _, h1, h2⟩ := h.la x hx
  unfold maxLen
  omega
theorem Fine.prints (h : Fine n ls) (ha : In64 a) (hb0 : 0 ≤ b) (hb : b ≤ 9223372036854775807) (p : Option Addr) (cap : Nat) (w : World) (hT : Tens w) (hL : LbAt p ls w) :
    Calls Tryz.prog 12 #[.agg (lineC (tx n) (.slice p ls.length cap) a b)] w fun e w' => e = .returned (.tuple #[.string (tx (printF ⟨n, ls, a, b⟩)), .bool true]) ∧ Below w.heap.size w w' := by
  have := print_any n h.nmax p cap ls a b ha hb h.lmax w hT hL
  rwa [show printB ⟨n, ls, a, b⟩ = true by unfold printB; rw [h.right hb0, decide_eq_true (h.short ha hb)]; rfl] at this
theorem Fine.parses (h : Fine n ls) (ha : In64 a) (hb0 : 0 ≤ b) (hb : b ≤ 9223372036854775807) (w : World) :
    Calls Tryz.prog 9 #[.string (tx (printF ⟨n, ls, a, b⟩))] w fun e w' => ∃ p cap, e = .returned (.tuple #[.agg (lineC (tx n) (.slice p ls.length cap) a b), .int .i64 0]) ∧ OwnL w.heap.size (.slice p ls.length cap) ls w' ∧ Below w.heap.size w w' := by
  have := parse_any (tx (printF ⟨n, ls, a, b⟩)) (by rw [tx_len]; have := h.short ha hb; unfold maxLen; omega) w
  rw [list_tx, h.told ha hb0 hb] at this
  refine this.mono ?_
  rintro e w' ⟨v, rfl, hO, hB⟩
  obtain ⟨p, cap, rfl⟩ := hO.len
  exact ⟨p, cap, rfl, hO, hB⟩
theorem Fine.inj (h : Fine n ls) {a' b' : Int} (ha : In64 a) (hb0 : 0 ≤ b) (hb : b ≤ 9223372036854775807) (ha' : In64 a') (hb0' : 0 ≤ b') (hb' : b' ≤ 9223372036854775807) (he : printF ⟨n, ls, a, b⟩ = printF ⟨n, ls, a', b'⟩) : a = a' ∧ b = b' := by
  have h1 := h.told ha hb0 hb
  rw [he, h.told ha' hb0' hb'] at h1
  simp only [Except.ok.injEq, LineV.mk.injEq, true_and] at h1
  exact ⟨h1.1.symm, h1.2.symm⟩
theorem Fine.rights (h : Fine n ls) (hb0 : 0 ≤ b) (p : Option Addr) (cap : Nat) (w : World) (hL : LbAt p ls w) :
    Calls Tryz.prog 13 #[.agg (lineC (tx n) (.slice p ls.length cap) a b)] w fun e w' => e = .returned (.bool true) ∧ Below w.heap.size w w' := by
  have := right_any n h.nmax p cap ls a b h.lmax w hL
  rwa [h.right hb0] at this
end
/-- What is made of parts that are the line's own. -/
theorem made_some (x : MadeV) (ho : x.own = true) (_hv : In64 x.value) (ht : In64 x.time) : ∃ (n : List UInt8) (ls : List Lab) (t : Int), Fine n ls ∧ 0 ≤ t ∧ t ≤ 9223372036854775807 ∧
    ∀ w, x.fits w → Calls Tryz.prog 7 #[.agg x.vals] w fun e w' => ∃ p cap, e = .returned (.agg (lineC (tx n) (.slice p ls.length cap) x.value t)) ∧ OwnL w.heap.size (.slice p ls.length cap) ls w' ∧ Below w.heap.size w w' := by
  obtain ⟨h1, h2⟩ := pairsM_fine 5 (x.it.map (·.xs))
  unfold In64 at ht
  refine ⟨wordS x.nm, pairsM 5 (x.it.map (·.xs)), timeM x.time, ⟨wordS_named _, wordS_len _, h1, h2⟩, ?_, ?_, fun w hx => ?_⟩
  · unfold timeM; split <;> omega
  · unfold timeM; split <;> omega
  · refine (made_any x ho w hx).mono ?_
    rintro e w' ⟨v, rfl, hO, hB⟩
    obtain ⟨p, cap, rfl⟩ := hO.len
    exact ⟨p, cap, rfl, hO, hB⟩
theorem MadeV.fits.own {x : MadeV} {w : World} (h : x.fits w) (b : Bool) : MadeV.fits { x with own := b } w := ⟨h.hn, h.hl, h.lb, h.hv, h.ht, h.hm, h.oc, h.hi, h.rw⟩
theorem LbAt.drew {p : Option Addr} {ls : List Lab} {w : World} (h : LbAt p ls w) : LbAt p ls w.drew := h.below (belowD (Below.refl _ _))
end Go.Proofs.YtdmkiiggpelmaaaGreatDoor.Lx

