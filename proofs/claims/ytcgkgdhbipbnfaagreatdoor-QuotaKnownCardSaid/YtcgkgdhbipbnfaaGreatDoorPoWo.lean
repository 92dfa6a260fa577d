/- A wish that comes in, opened. -/
import Derived.Test.YtcgkgdhbipbnfaaGreatDoorPoWi
import Derived.Test.YtcgkgdhbipbnfaaGreatDoorLaw
import Derived.Deep.Fields
import Derived.Lib.SmallJoins
import Derived.ChangeArms
import Derived.ChangeSlices
import Derived.ChangeSame
namespace Go.Proofs.YtcgkgdhbipbnfaaGreatDoor.Po
open Go Go.RowKit Go.ChangeShapes Go.WideShapes Go.Deep

theorem in64_wf {n : Int} (h : (Lit.int .i64 n).wf = true) : In64 n := by
  have := h
  simp [Lit.wf, IntKind.min, IntKind.max, IntKind.signed, IntKind.bits] at this
  unfold In64
  omega
theorem addr_add (b o i : Nat) : (⟨b, o, none⟩ : Addr).add i = ⟨b, o + i, none⟩ := by unfold Addr.add; split <;> simp_all
/-- A wish: the policy's numbers, its tiers, whether it is made, of what. -/
structure WishV where
  n : List Int
  q : Option Addr
  t : List Int
  d : Nat
  own : Bool
  p : Option Addr
  hs : List Nat
  c : Nat
def WishV.vals (x : WishV) : Array Value := ((x.n.map fun y => Value.int .i64 y) ++ [Value.slice x.q x.t.length x.d, Value.bool x.own, Value.slice x.p x.hs.length x.c]).toArray
structure WishV.fits (x : WishV) (w : World) : Prop where
  len : x.n.length = 10
  nin : ∀ y ∈ x.n, In64 y
  tiers : Tr (fun _ => False) (.slice x.q x.t.length x.d) x.t w
  hl : x.hs.length ≤ 9223372036854775807
  nums : Shorts x.p x.hs w
theorem shorts_core {H : Type} {enc : TypeId × Value → H} {P : Program} {W : World} {spare : Nat → Bool} {held : Bool} {t e : TypeId} {fuel : Nat} {cs : List Value} {x : DataW H × List MemPlace} (ht : P.underlying t = some (.slice e)) (he : P.underlying e = some (.int .u16)) (hc : P.cellsOf e = 1)
    (h : DataW.trod enc P W 0 spare held fuel t cs = some x) (hlt : ∀ y ∈ x.2, y.block < W.heap.size) :
    ∃ (p : Option Addr) (hs : List Nat) (cap : Nat), cs = [.slice p hs.length cap] ∧ hs.length ≤ 9223372036854775807 ∧ Shorts p hs W := by
  rcases ChangeShapes.open_ints ht he hc h with ⟨rfl, rfl⟩ | ⟨a, len, cap, zs, rfl, _, hl, hm, hz, rfl, hcell, hwz⟩
  · exact ⟨none, [], 0, rfl, Nat.zero_le _, fun k hk => by simp at hk⟩
  · have hzl : len ≤ zs.length := by rw [hz]; split <;> omega
    have hlen : ((zs.take len).map Int.toNat).length = len := by rw [List.length_map, List.length_take]; omega
    unfold maxLen at hm
    refine ⟨some a, (zs.take len).map Int.toNat, cap, by rw [hlen], by rw [hlen]; omega, fun k hk => ?_⟩
    rw [hlen] at hk
    obtain ⟨b, off, spot⟩ := a
    have hspot : spot = none := by simpa [Addr.add] using World.cell?_spot (hcell 0 (by omega))
    subst hspot
    have e : (((zs.take len).map Int.toNat)[k]'(by omega) : Nat) = (zs.getD k 0).toNat := by
      rw [List.getElem_map, List.getElem_take, List.getD_eq_getElem?_getD, List.getElem?_eq_getElem (by omega)]; rfl
    have g4 := hwz (zs.getD k 0) (by rw [List.getD_eq_getElem?_getD, List.getElem?_eq_getElem (by omega)]; simp)
    have hx : 0 ≤ zs.getD k 0 ∧ zs.getD k 0 ≤ 65535 := by simpa [Lit.wf, IntKind.min, IntKind.max, IntKind.signed, IntKind.bits] using g4
    refine ⟨b, off, rfl, hlt (.cell b off) (MemPlace.mem_row.2 ⟨0, by omega, by simp⟩), ?_, by rw [e]; omega⟩
    rw [← addr_add, hcell k (by omega), e]
    exact congrArg (fun n => some (Value.int .u16 n)) (by omega)
theorem longs_core {H : Type} {enc : TypeId × Value → H} {P : Program} {W : World} {spare : Nat → Bool} {held : Bool} {t e : TypeId} {fuel : Nat} {cs : List Value} {x : DataW H × List MemPlace} (ht : P.underlying t = some (.slice e)) (he : P.underlying e = some (.int .i64)) (hc : P.cellsOf e = 1)
    (h : DataW.trod enc P W 0 spare held fuel t cs = some x) (hlt : ∀ y ∈ x.2, y.block < W.heap.size) :
    ∃ (p : Option Addr) (zs : List Int) (cap : Nat), cs = [.slice p zs.length cap] ∧ Tr (fun _ => False) (.slice p zs.length cap) zs W := by
  rcases ChangeShapes.open_ints ht he hc h with ⟨rfl, rfl⟩ | ⟨a, len, cap, zs, rfl, _, hl, hm, hz, rfl, hcell, hwz⟩
  · exact ⟨none, [], 0, rfl, Tr.nil _ _⟩
  · have hzl : len ≤ zs.length := by rw [hz]; split <;> omega
    have hlen : (zs.take len).length = len := by rw [List.length_take]; omega
    refine ⟨some a, zs.take len, cap, by rw [hlen], some a, cap, rfl, by rw [hlen]; exact hl, hm, fun e => (by cases e), fun y hy => in64_wf (hwz y (List.mem_of_mem_take hy)), fun k hk => ?_⟩
    rw [hlen] at hk
    obtain ⟨b, off, spot⟩ := a
    have hspot : spot = none := by simpa [Addr.add] using World.cell?_spot (hcell 0 (by omega))
    subst hspot
    have e : (zs.take len)[k]'(by omega) = zs.getD k 0 := by
      rw [List.getElem_take, List.getD_eq_getElem?_getD, List.getElem?_eq_getElem (by omega)]; rfl
    refine ⟨b, off, rfl, hlt (.cell b off) (MemPlace.mem_row.2 ⟨0, by omega, by simp⟩), fun h => h, ?_⟩
    rw [← addr_add, hcell k (by omega), e]
set_option maxRecDepth 100000 in
theorem hone_pol : ∃ f0 f1 f2 f3 f4 f5 f6 f7 f8 f9 f10 : Field, Tryz.prog.underlying 24 = some (.struct #[f0, f1, f2, f3, f4, f5, f6, f7, f8, f9, f10]) ∧ f0.offset = 0 ∧ f1.offset = 1 ∧ f2.offset = 2 ∧ f3.offset = 3 ∧ f4.offset = 4 ∧ f5.offset = 5 ∧ f6.offset = 6 ∧ f7.offset = 7 ∧ f8.offset = 8 ∧ f9.offset = 9 ∧ f10.offset = 10 ∧ f0.type = 3 ∧ f1.type = 3 ∧ f2.type = 3 ∧ f3.type = 3 ∧ f4.type = 3 ∧ f5.type = 3 ∧ f6.type = 3 ∧ f7.type = 2 ∧ f8.type = 2 ∧ f9.type = 2 ∧ f10.type = 22 :=
  ⟨_, _, _, _, _, _, _, _, _, _, _, Tryz.underlying24, rfl, rfl, rfl, rfl, rfl, rfl, rfl, rfl, rfl, rfl, rfl, rfl, rfl, rfl, rfl, rfl, rfl, rfl, rfl, rfl, rfl, rfl⟩
set_option maxRecDepth 100000 in
theorem hone_wish : ∃ f0 f1 f2 : Field, Tryz.prog.underlying 27 = some (.struct #[f0, f1, f2]) ∧ f0.offset = 0 ∧ f1.offset = 11 ∧ f2.offset = 12 ∧ f0.type = 24 ∧ f1.type = 4 ∧ f2.type = 25 :=
  ⟨_, _, _, Tryz.underlying27, rfl, rfl, rfl, rfl, rfl, rfl⟩
theorem three_of {α : Type} {l : List α} (h : l.length = 3) : ∃ a b c, l = [a, b, c] := by
  match l, h with
  | [a, b, c], _ => exact ⟨a, b, c, rfl⟩
theorem eleven_of {α : Type} {l : List α} (h : l.length = 11) : ∃ c0 c1 c2 c3 c4 c5 c6 c7 c8 c9 c10, l = [c0, c1, c2, c3, c4, c5, c6, c7, c8, c9, c10] := by
  match l, h with
  | [c0, c1, c2, c3, c4, c5, c6, c7, c8, c9, c10], _ => exact ⟨c0, c1, c2, c3, c4, c5, c6, c7, c8, c9, c10, rfl⟩
theorem thirteen_of {α : Type} {l : List α} (h : l.length = 13) : ∃ c0 c1 c2 c3 c4 c5 c6 c7 c8 c9 c10 c11 c12, l = [c0, c1, c2, c3, c4, c5, c6, c7, c8, c9, c10, c11, c12] := by
  match l, h with
  | [c0, c1, c2, c3, c4, c5, c6, c7, c8, c9, c10, c11, c12], _ => exact ⟨c0, c1, c2, c3, c4, c5, c6, c7, c8, c9, c10, c11, c12, rfl⟩
set_option maxRecDepth 100000 in
set_option maxHeartbeats 4000000 in
theorem wish_of {H : Type} {enc : TypeId × Value → H} {W : World} {spare : Nat → Bool} {held : Bool} {r : Reach} {b0 : Nat} {v : Value} {d : DataW H} {ps : List MemPlace}
    (hv : Value.okWide Tryz.prog W r b0 27 v) (h : DataW.Trod enc Tryz.prog W 0 spare held 27 v d ps) (hlt : ∀ x ∈ ps, x.block < W.heap.size) :
    ∃ x : WishV, v = .agg x.vals ∧ x.fits W := by
  obtain ⟨f0, f1, f2, hu, o0, o1, o2, t0, t1, t2⟩ := hone_wish
  obtain ⟨e0, e1, e2, e3, e4, e5, e6, e7, e8, e9, e10, hv2, p0, p1, p2, p3, p4, p5, p6, p7, p8, p9, p10, y0, y1, y2, y3, y4, y5, y6, y7, y8, y9, y10⟩ := hone_pol
  have c13 : Tryz.prog.cellsOf 27 = 13 := by kernel_rfl
  have c11 : Tryz.prog.cellsOf 24 = 11 := by kernel_rfl
  have ci1 : Tryz.prog.cellsOf 2 = 1 := by kernel_rfl
  have cj1 : Tryz.prog.cellsOf 3 = 1 := by kernel_rfl
  have ck1 : Tryz.prog.cellsOf 22 = 1 := by kernel_rfl
  obtain ⟨cs, rfl, hsz⟩ := okWide_struct hu hv
  rw [c13] at hsz
  obtain ⟨v0, v1, v2, v3, v4, v5, v6, v7, v8, v9, v10, v11, v12, hl⟩ := thirteen_of (l := cs.toList) (by simpa using hsz)
  obtain ⟨fuel, hf⟩ := h
  obtain ⟨xs, n', _, hxx, _, hxl, hfl⟩ := DataW.trod_struct hu hf
  obtain ⟨x0, x1, x2, rfl⟩ := three_of (l := xs) hxl
  have g0 := hfl 0 f0 rfl
  have g1 := hfl 1 f1 rfl
  have g2 := hfl 2 f2 rfl
  rw [o0, t0, c11] at g0
  rw [o1, t1, show Tryz.prog.cellsOf 4 = 1 by kernel_rfl] at g1
  rw [o2, t2, show Tryz.prog.cellsOf 25 = 1 by kernel_rfl] at g2
  have hcl : (Value.cells (.agg cs)).toList = [v0, v1, v2, v3, v4, v5, v6, v7, v8, v9, v10, v11, v12] := by simpa [Value.cells] using hl
  rw [hcl] at g0 g1 g2
  simp only [Prod.mk.injEq] at hxx
  have hin : ∀ (z : DataW H × List MemPlace), z ∈ [x0, x1, x2] → ∀ y ∈ z.2, y.block < W.heap.size := fun z hz y hy => hlt y (by
    rw [hxx.2]
    exact List.mem_flatMap.2 ⟨z, hz, hy⟩)
  obtain ⟨xt, n2, _, hxy, _, hxm, hfm⟩ := DataW.trod_struct hv2 g0
  obtain ⟨z0, z1, z2, z3, z4, z5, z6, z7, z8, z9, z10, rfl⟩ := eleven_of (l := xt) hxm
  have q0 := hfm 0 e0 rfl
  rw [p0, y0, cj1] at q0
  have q1 := hfm 1 e1 rfl
  rw [p1, y1, cj1] at q1
  have q2 := hfm 2 e2 rfl
  rw [p2, y2, cj1] at q2
  have q3 := hfm 3 e3 rfl
  rw [p3, y3, cj1] at q3
  have q4 := hfm 4 e4 rfl
  rw [p4, y4, cj1] at q4
  have q5 := hfm 5 e5 rfl
  rw [p5, y5, cj1] at q5
  have q6 := hfm 6 e6 rfl
  rw [p6, y6, cj1] at q6
  have q7 := hfm 7 e7 rfl
  rw [p7, y7, ci1] at q7
  have q8 := hfm 8 e8 rfl
  rw [p8, y8, ci1] at q8
  have q9 := hfm 9 e9 rfl
  rw [p9, y9, ci1] at q9
  have q10 := hfm 10 e10 rfl
  rw [p10, y10, ck1] at q10
  obtain ⟨b0, k0, _, w0⟩ := DataW.trod_int Tryz.underlying3 q0
  obtain ⟨b1, k1, _, w1⟩ := DataW.trod_int Tryz.underlying3 q1
  obtain ⟨b2, k2, _, w2⟩ := DataW.trod_int Tryz.underlying3 q2
  obtain ⟨b3, k3, _, w3⟩ := DataW.trod_int Tryz.underlying3 q3
  obtain ⟨b4, k4, _, w4⟩ := DataW.trod_int Tryz.underlying3 q4
  obtain ⟨b5, k5, _, w5⟩ := DataW.trod_int Tryz.underlying3 q5
  obtain ⟨b6, k6, _, w6⟩ := DataW.trod_int Tryz.underlying3 q6
  obtain ⟨b7, k7, _, w7⟩ := DataW.trod_int Tryz.underlying2 q7
  obtain ⟨b8, k8, _, w8⟩ := DataW.trod_int Tryz.underlying2 q8
  obtain ⟨b9, k9, _, w9⟩ := DataW.trod_int Tryz.underlying2 q9
  obtain ⟨qp, ts, td, k10, hTr⟩ := longs_core Tryz.underlying22 Tryz.underlying2 (by kernel_rfl) q10 (fun y hy => hin x0 (by simp) y (by
    rw [hxy]
    exact List.mem_flatMap.2 ⟨z10, by simp, hy⟩))
  obtain ⟨bo, k11, _⟩ := DataW.trod_bool Tryz.underlying4 g1
  obtain ⟨np, hs, nc, k12, hhl, hSh⟩ := shorts_core Tryz.underlying25 Tryz.underlying82 (by kernel_rfl) g2 (hin x2 (by simp))
  simp only [List.drop_zero, List.drop_succ_cons, List.take_succ_cons, List.take_zero, List.cons.injEq, and_true] at k0 k1 k2 k3 k4 k5 k6 k7 k8 k9 k10 k11 k12
  subst k0 k1 k2 k3 k4 k5 k6 k7 k8 k9 k10 k11 k12
  refine ⟨⟨[b0, b1, b2, b3, b4, b5, b6, b7, b8, b9], qp, ts, td, bo, np, hs, nc⟩, ?_, ⟨rfl, ?_, hTr, hhl, hSh⟩⟩
  · have hc : cs = #[.int .i64 b0, .int .i64 b1, .int .i64 b2, .int .i64 b3, .int .i64 b4, .int .i64 b5, .int .i64 b6, .int .i64 b7, .int .i64 b8, .int .i64 b9, .slice qp ts.length td, .bool bo, .slice np hs.length nc] := by
      rw [← Array.toList_inj, hl]
    rw [hc]
    rfl
  · intro y hy
    simp only [List.mem_cons, List.not_mem_nil, or_false] at hy
    rcases hy with rfl | rfl | rfl | rfl | rfl | rfl | rfl | rfl | rfl | rfl
    · exact in64_wf w0
    · exact in64_wf w1
    · exact in64_wf w2
    · exact in64_wf w3
    · exact in64_wf w4
    · exact in64_wf w5
    · exact in64_wf w6
    · exact in64_wf w7
    · exact in64_wf w8
    · exact in64_wf w9
theorem text_small {H : Type} {P : Program} {ts : List TypeId} {ds : List (DataW H)} (h : (DataW.weightsEach P ts ds).all (· ≤ reachBytes) = true) (j : Nat) {t : TypeId} {s : ByteArray} (ht : ts[j]? = some t) (hd : ds[j]? = some (.lit (.string s.data.toList))) : s.size ≤ 140737488355328 :=
  Nat.le_trans (show s.data.toList.length ≤ reachBytes from sized_string h ht hd) (Nat.le_of_lt reachBytes_lt)
end Go.Proofs.YtcgkgdhbipbnfaaGreatDoor.Po

