/- A slice of deeds that comes in, opened. Two histograms that share no block: the program's and the document's, side by side. A histogram and the chapter's own: they are the same. The chapter's quantiles. The chapter's own: a histogram as bytes. HistPlays: one step of both, told in one way; a block beside them; what a region that writes once or twice has done. HistPlays: what follows the deeds. -/
import Derived.Test.YtklklpccpbhfgaaHiOpen
import Derived.Deep.Slices
import Derived.Deep.Fields
import Derived.Test.YtklklpccpbhfgaaHiRa
import Derived.Test.YtklklpccpbhfgaaHiBeh
import Derived.Test.YtklklpccpbhfgaaHiCntW
import Derived.Test.YtklklpccpbhfgaaHiRef
import Derived.Test.YtklklpccpbhfgaaReg2
namespace Go.Proofs.Ytklklpccpbhfgaa
open Go Go.RowKit

/-- One deed, as its four cells hold it. -/
structure DeedV where
  kind : Nat
  n : Int
  lp : Option Addr
  ls : List Int
  lcap : Nat
  bt : Int
def DeedV.vals (d : DeedV) : List Value := [.int .u8 d.kind, .int .i64 d.n, .slice d.lp d.ls.length d.lcap, .int .i64 d.bt]
structure DeedV.fits (d : DeedV) (w : World) : Prop where
  hk : d.kind < 256
  hh : -9223372036854775808 ≤ d.n ∧ d.n ≤ 9223372036854775807
  hl : d.ls.length ≤ 9223372036854775807
  hn : Ints d.lp d.ls w
  hb : -9223372036854775808 ≤ d.bt ∧ d.bt ≤ 9223372036854775807
theorem DeedV.fits.below {d : DeedV} {w w' : World} (h : d.fits w) (hB : Below w.heap.size w w') : d.fits w' := ⟨h.hk, h.hh, h.hl, h.hn.below hB, h.hb⟩
/-- A slice of n deeds. -/
def Deeds (p : Option Addr) (n : Nat) (w : World) : Prop :=
  ∀ k, k < n → ∃ (B off : Nat) (d : DeedV), p = some ⟨B, off, none⟩ ∧ B < w.heap.size ∧ (∀ j v, d.vals[j]? = some v → w.cell? ⟨B, off + k * 4 + j, none⟩ = some v) ∧ d.fits w
theorem ints_core {H : Type} {enc : TypeId × Value → H} {P : Program} {W : World} {spare : Nat → Bool} {held : Bool} {t e : TypeId} {k : IntKind} {fuel : Nat} {cs : List Value} {x : DataW H × List MemPlace} (ht : P.underlying t = some (.slice e)) (he : P.underlying e = some (.int k)) (hc : P.cellsOf e = 1)
    (h : DataW.trod enc P W 0 spare held fuel t cs = some x) (hlt : ∀ y ∈ x.2, y.block < W.heap.size) :
    ∃ (p : Option Addr) (len cap : Nat) (zs : List Int), cs = [.slice p len cap] ∧ len ≤ cap ∧ cap ≤ maxLen ∧ len ≤ zs.length ∧
      ∀ j, j < len → ∃ b off, p = some ⟨b, off, none⟩ ∧ b < W.heap.size ∧ W.cell? ⟨b, off + j, none⟩ = some (.int k (zs.getD j 0)) ∧ (Lit.int k (zs.getD j 0)).wf = true := by
  rcases ChangeShapes.open_ints ht he hc h with ⟨rfl, rfl⟩ | ⟨a, len, cap, zs, rfl, _, hl, hm, hz, rfl, hcell, hwz⟩
  · exact ⟨none, 0, 0, [], rfl, Nat.le_refl _, Nat.zero_le _, Nat.zero_le _, fun j hj => by omega⟩
  · have hzl : len ≤ zs.length := by rw [hz]; split <;> omega
    refine ⟨some a, len, cap, zs, rfl, hl, hm, hzl, fun j hj => ?_⟩
    obtain ⟨b, off, spot⟩ := a
    have hspot : spot = none := by simpa [Addr.add] using World.cell?_spot (hcell 0 (by omega))
    subst hspot
    refine ⟨b, off, rfl, ?_, ?_, ?_⟩
    · exact hlt (.cell b off) (MemPlace.mem_row.2 ⟨0, by omega, by simp⟩)
    · rw [← Addr.add_lit]; exact hcell j (by omega)
    · exact hwz _ (by rw [List.getD_eq_getElem?_getD, List.getElem?_eq_getElem (by omega)]; simp)
theorem longs_core {H : Type} {enc : TypeId × Value → H} {P : Program} {W : World} {spare : Nat → Bool} {held : Bool} {t e : TypeId} {fuel : Nat} {cs : List Value} {x : DataW H × List MemPlace} (ht : P.underlying t = some (.slice e)) (he : P.underlying e = some (.int .i64)) (hc : P.cellsOf e = 1)
    (h : DataW.trod enc P W 0 spare held fuel t cs = some x) (hlt : ∀ y ∈ x.2, y.block < W.heap.size) :
    ∃ (p : Option Addr) (hs : List Int) (cap : Nat), cs = [.slice p hs.length cap] ∧ hs.length ≤ 9223372036854775807 ∧ Ints p hs W := by
  obtain ⟨p, len, cap, zs, rfl, h1, h2, h3, h4⟩ := ints_core ht he hc h hlt
  have hl : (zs.take len).length = len := by rw [List.length_take]; omega
  refine ⟨p, zs.take len, cap, by rw [hl], by rw [hl]; unfold maxLen at h2; omega, fun k hk => ?_⟩
  rw [hl] at hk
  obtain ⟨b, off, g1, g2, g3, g4⟩ := h4 k hk
  have e : (zs.take len)[k]'(by omega) = zs.getD k 0 := by
    rw [List.getElem_take, List.getD_eq_getElem?_getD, List.getElem?_eq_getElem (by omega)]; rfl
  exact ⟨b, off, g1, g2, by rw [g3, e], by rw [e]; exact wf_i64 g4⟩
theorem four_of {α : Type} {l : List α} (h : l.length = 4) : ∃ a b c d, l = [a, b, c, d] := by
  match l, h with
  | [a, b, c, d], _ => exact ⟨a, b, c, d, rfl⟩
set_option maxRecDepth 100000 in
theorem hone_deed : ∃ f0 f1 f2 f3 : Field, Try.prog.underlying 34 = some (.struct #[f0, f1, f2, f3]) ∧ f0.offset = 0 ∧ f1.offset = 1 ∧ f2.offset = 2 ∧ f3.offset = 3 ∧ f0.type = 5 ∧ f1.type = 2 ∧ f2.type = 32 ∧ f3.type = 3 :=
  ⟨_, _, _, _, Try.underlying34, rfl, rfl, rfl, rfl, rfl, rfl, rfl, rfl⟩
set_option maxRecDepth 100000 in
theorem deeds_of {H : Type} {enc : TypeId × Value → H} {W : World} {spare : Nat → Bool} {held : Bool} {v : Value} {d : DataW H} {ps : List MemPlace}
    (hv : ∃ p len cap, v = .slice p len cap) (h : DataW.Trod enc Try.prog W 0 spare held 22 v d ps) (hlt : ∀ x ∈ ps, x.block < W.heap.size) :
    ∃ (p : Option Addr) (n cap : Nat), v = .slice p n cap ∧ n ≤ 9223372036854775807 ∧ Deeds p n W := by
  obtain ⟨p, len, cap, rfl⟩ := hv
  obtain ⟨fuel, hf⟩ := h
  have c4 : Try.prog.cellsOf 34 = 4 := by kernel_rfl
  rcases Deep.open_slice Try.underlying22 hf with ⟨hcs, hx⟩ | ⟨a, len', cap', m, n, D, Pl, hcs, _, hl, hm, hmm, hx, hi⟩
  · simp [Value.cells] at hcs
    obtain ⟨rfl, rfl, rfl⟩ := hcs
    exact ⟨none, 0, 0, rfl, Nat.zero_le _, fun k hk => by omega⟩
  · simp [Value.cells] at hcs
    obtain ⟨rfl, rfl, rfl⟩ := hcs
    simp only [Prod.mk.injEq] at hx
    obtain ⟨rfl, rfl⟩ := hx
    refine ⟨some a, len, cap, rfl, by unfold maxLen at hm; omega, fun k hk => ?_⟩
    have hkm : k < m := by rw [hmm]; split <;> omega
    obtain ⟨cs', hc, hd⟩ := hi k hkm
    rw [c4] at hc
    obtain ⟨_, hlen, hcell⟩ := World.cells?_some hc
    obtain ⟨f0, f1, f2, f3, hu, o0, o1, o2, o3, t0, t1, t2, t3⟩ := hone_deed
    obtain ⟨xs, n', _, hxx, _, hxl, hfl⟩ := DataW.trod_struct hu hd
    obtain ⟨v0, v1, v2, v3, rfl⟩ := four_of hlen
    have g0 := hfl 0 f0 rfl
    have g1 := hfl 1 f1 rfl
    have g2 := hfl 2 f2 rfl
    have g3 := hfl 3 f3 rfl
    rw [o0, t0, show Try.prog.cellsOf 5 = 1 by kernel_rfl] at g0
    rw [o1, t1, show Try.prog.cellsOf 2 = 1 by kernel_rfl] at g1
    rw [o2, t2, show Try.prog.cellsOf 32 = 1 by kernel_rfl] at g2
    rw [o3, t3, show Try.prog.cellsOf 3 = 1 by kernel_rfl] at g3
    obtain ⟨x0, x1, x2, x3, rfl⟩ := four_of (l := xs) hxl
    simp only [Prod.mk.injEq] at hxx
    obtain ⟨k0, e0, _, w0⟩ := DataW.trod_int Try.underlying5 g0
    obtain ⟨k1, e1, _, w1⟩ := DataW.trod_int Try.underlying2 g1
    obtain ⟨k3, e3, _, w3⟩ := DataW.trod_int Try.underlying3 g3
    obtain ⟨lp, ls, lcap, e2, hls, hN⟩ := longs_core Try.underlying32 Try.underlying2 (by kernel_rfl) g2 (fun y hy => hlt y (by
      refine List.mem_append.2 (.inr (List.mem_flatMap.2 ⟨k, List.mem_range.2 hkm, ?_⟩))
      rw [hxx.2]
      simp only [List.flatMap_cons, List.flatMap_nil, List.append_nil, List.mem_append]
      exact .inr (.inr (.inl hy))))
    simp only [List.drop_zero, List.drop_succ_cons, List.take_succ_cons, List.take_zero, List.cons.injEq, and_true] at e0 e1 e2 e3
    subst e0 e1 e2 e3
    obtain ⟨b0, rfl, hb0⟩ := wf_u8 w0
    have hb1 := wf_i64 w1
    obtain ⟨b, off, spot⟩ := a
    obtain ⟨cs0, hcs0, _⟩ := hi 0 (by omega)
    rw [c4] at hcs0
    obtain ⟨_, hlen0, hcell0⟩ := World.cells?_some hcs0
    obtain ⟨y0, y1, y2, y3, rfl⟩ := four_of hlen0
    have hspot : spot = none := by simpa [Addr.add] using World.cell?_spot (hcell0 0 (by omega))
    subst hspot
    refine ⟨b, off, ⟨b0, k1, lp, ls, lcap, k3⟩, rfl, ?_, fun j u hj => ?_, ⟨hb0, hb1, hls, hN, wf_i64 w3⟩⟩
    · exact hlt (.cell b off) (List.mem_append.2 (.inl (MemPlace.mem_row.2 ⟨0, by rw [c4]; omega, by simp⟩)))
    · have hj4 : j < 4 := by
        have := (List.getElem?_eq_some_iff.1 hj).1
        simpa [DeedV.vals] using this
      have := hcell j hj4
      rw [Addr.add_lit, Addr.add_lit] at this
      rw [this]
      exact hj
theorem Deeds.below {p : Option Addr} {n : Nat} {w w' : World} (h : Deeds p n w) (hB : Below w.heap.size w w') : Deeds p n w' := fun k hk => by
  obtain ⟨B, off, d, h1, h2, h3, h4⟩ := h k hk
  exact ⟨B, off, d, h1, Nat.lt_of_lt_of_le h2 hB.size, fun j v hj => (hB.cell (p := ⟨B, off + k * 4 + j, none⟩) h2).trans (h3 j v hj), h4.below hB⟩
/-- The number that a deed means. -/
def deedN (k : Nat) (n : Int) : Int := if k % 16 < 12 then n.tmod 40 else n
theorem deedN_fits {k : Nat} {n : Int} (h : -9223372036854775808 ≤ n ∧ n ≤ 9223372036854775807) : -9223372036854775808 ≤ deedN k n ∧ deedN k n ≤ 9223372036854775807 := by
  unfold deedN
  split
  · rcases Int.le_total 0 n with h0 | h0
    · rw [Int.tmod_eq_emod_of_nonneg h0]; omega
    · have h1 := Int.neg_tmod (-n) 40
      rw [Int.neg_neg] at h1
      rw [h1, Int.tmod_eq_emod_of_nonneg (by omega : (0 : Int) ≤ -n)]; omega
  · exact h
set_option maxHeartbeats 4000000 in
set_option maxRecDepth 100000 in
theorem deed_number (k : Nat) (hk : k < 256) (a b c : Value) (n : Int) (hn : -9223372036854775808 ≤ n ∧ n ≤ 9223372036854775807) (w : World) :
    Calls Try.prog 14 #[.agg #[.int .u8 k, a, b, c], .int .i64 n] w fun e w' => e = .returned (.int .i64 (deedN k n)) ∧ Below w.heap.size w w' := by
  by_cases h : k % 16 < 12
  · rw [show deedN k n = n.tmod 40 from if_pos h]
    have ht : (decide (((k : Int) % 16) < 12)) = true := decide_eq_true (by omega)
    have hw := deedN_fits (k := k) hn
    rw [show deedN k n = n.tmod 40 from if_pos h] at hw
    have hw2 : wrap64 (n.tmod 40) = n.tmod 40 := by unfold wrap64; omega
    go_enter Try.func14, Try.ntmps14
    go_wp2
    go_ret
    exact ⟨rfl, (Below.refl _ _).alloc (Nat.le_refl _) _⟩
  · rw [show deedN k n = n from if_neg h]
    have ht : (decide (((k : Int) % 16) < 12)) = false := decide_eq_false (by omega)
    go_enter Try.func14, Try.ntmps14
    go_wp2
    go_ret
    exact ⟨rfl, (Below.refl _ _).alloc (Nat.le_refl _) _⟩
end Go.Proofs.Ytklklpccpbhfgaa

namespace Go.Proofs.Ytklklpccpbhfgaa
open Go Go.RowKit

/-- They share no block. -/
structure Ap (B : Nat) (v : Value) (P : Nat) (u : Value) : Prop where
  b : B ≠ P
  c : v.ownBlock ≠ some P
  d : u.ownBlock ≠ some B
  e : ∀ g, v.ownBlock = some g → u.ownBlock ≠ some g
theorem Ap.symm {B P : Nat} {v u : Value} (h : Ap B v P u) : Ap P u B v := ⟨fun e => h.b e.symm, h.d, h.c, fun g e1 e2 => h.e g e2 e1⟩
theorem Ap.not {B P : Nat} {v u : Value} (h : Ap B v P u) : ¬ OwnT B v P ∧ ∀ g, u.ownBlock = some g → ¬ OwnT B v g :=
  ⟨fun e => e.elim (fun h1 => h.b h1.symm) h.c, fun g hg e => e.elim (fun h1 => h.d (h1 ▸ hg)) (fun h1 => h.e g h1 hg)⟩
section
variable {T U base B P k j : Nat} {v u v' u' : Value} {l m l' m' : List Hit} {w w' : World} {code : Value} {e : Ending}
/-- Another histogram stays where this one is changed, and shares no block with it still. -/
theorem Hs.aside {base' : Nat} (h : Hs base T B k v l w) (g : Hs base' U P j u m w) (ha : Ap B v P u) (hv : Hs base T B k v' l' w') (hM : Mov (OwnT B v) w w') (hat : ∀ g, v'.ownBlock = some g → v.ownBlock = some g ∨ w.heap.size ≤ g) : Hs base' U P j u m w' ∧ Ap B v' P u := by
  have h1 := g.lt
  refine ⟨g.mov hM ha.not.1 ha.not.2, ⟨ha.b, fun e => (hat P e).elim ha.c (fun h1 => by omega), ha.d, fun x e hx => (hat x e).elim (fun h1 => ha.e x h1 hx) (fun h1 => by have := (g.row.lt hx).2; omega)⟩⟩
/-- A histogram that lies above all that there was shares no block with what was there. -/
theorem Hs.apart {N : Nat} (h : Hs base T B k v l w) (g : Hs N U P j u m w') (hN : w.heap.size ≤ N) : Ap B v P u := by
  have h1 := h.lt
  have h2 := g.lo
  refine ⟨by omega, fun e => ?_, fun e => ?_, fun x e1 e2 => ?_⟩
  · have := (h.row.lt e).2; omega
  · have := (g.row.lt e).1; omega
  · have := (h.row.lt e1).2; have := (g.row.lt e2).1; omega
end
/-- Both, with the same items. -/
structure Two (B P k : Nat) (v u : Value) (l m : List Hit) (base : Nat) (w0 w : World) : Prop where
  t : Hs base 62 B k v l w
  x : Hs base 83 P k u m w
  a : Ap B v P u
  b : Below base w0 w
  h : base = w0.heap.size
section
variable {B P k base : Nat} {v u v' u' : Value} {l m l' m' : List Hit} {w0 w w' : World} {code : Value} {e : Ending}
theorem Two.size (h : Two B P k v u l m base w0 w) : base ≤ w.heap.size := h.h ▸ h.b.size
theorem Two.below (h : Two B P k v u l m base w0 w) (hB : Below w.heap.size w w') : Two B P k v u l m base w0 w' := ⟨h.t.below hB, h.x.below hB, h.a, h.b.trans (hB.mono h.size), h.h⟩
theorem Two.drewN (h : Two B P k v u l m base w0 w) (n : Nat) : Two B P k v u l m base w0 (w.drewN n) := h.below (below_drewN' (Below.refl _ _) n)
theorem Two.stepT (h : Two B P k v u l m base w0 w) (hL : Left base 62 B k v l' code w e w') : e = .returned code ∧ ∃ v', Two B P k v' u l' m base w0 w' := by
  obtain ⟨rfl, v', hH, hM, hat⟩ := hL
  obtain ⟨hX, hA⟩ := h.t.aside h.x h.a hH hM hat
  refine ⟨rfl, v', hH, hX, hA, h.b.trans (hM.below ?_ h.size), h.h⟩
  rintro i (rfl | hi)
  · exact h.t.lo
  · exact (h.t.row.lt hi).1
theorem Two.stepX (h : Two B P k v u l m base w0 w) (hL : Left base 83 P k u m' code w e w') : e = .returned code ∧ ∃ u', Two B P k v u' l m' base w0 w' := by
  obtain ⟨rfl, u', hH, hM, hat⟩ := hL
  obtain ⟨hX, hA⟩ := h.x.aside h.t h.a.symm hH hM hat
  refine ⟨rfl, u', hX, hH, hA.symm, h.b.trans (hM.below ?_ h.size), h.h⟩
  rintro i (rfl | hi)
  · exact h.x.lo
  · exact (h.x.row.lt hi).1
/-- Both begin. -/
theorem Two.start {w1 w2 : World} (hb : Below w0.heap.size w0 w1) (hT : Hs w1.heap.size 62 B k v l w2) (hB1 : Below w1.heap.size w1 w2) (hX : Hs w2.heap.size 83 P k u m w') (hB2 : Below w2.heap.size w2 w') : Two B P k v u l m w0.heap.size w0 w' :=
  ⟨(hT.below hB2).mono hb.size, hX.mono (Nat.le_trans hb.size hB1.size), hT.apart hX (Nat.le_refl _), (hb.trans (hB1.mono hb.size)).trans (hB2.mono (Nat.le_trans hb.size hB1.size)), rfl⟩
/-- An inner pair, made behind the outer one, leaves it as it was, and shares no block with it. -/
theorem Two.over {B' P' k' : Nat} {x y : Value} {l' m' : List Hit} {w1 : World} (h : Two B P k v u l m base w0 w1) (g : Two B' P' k' x y l' m' w1.heap.size w1 w) : Two B P k v u l m base w0 w ∧ Ap B v B' x ∧ Ap P u P' y ∧ Ap B v P' y ∧ Ap P u B' x :=
  ⟨h.below g.b, h.t.apart g.t (Nat.le_refl _), h.x.apart g.x (Nat.le_refl _), h.t.apart g.x (Nat.le_refl _), h.x.apart g.t (Nat.le_refl _)⟩
/-- The program's outer one is changed: the document's inner one stays. -/
theorem Two.stepI {P' k' base' : Nat} {y : Value} {m' : List Hit} (h : Two B P k v u l m base w0 w) (g : Hs base' 83 P' k' y m' w) (ha : Ap B v P' y) (hL : Left base 62 B k v l' code w e w') : e = .returned code ∧ ∃ v', Two B P k v' u l' m base w0 w' ∧ Hs base' 83 P' k' y m' w' := by
  obtain ⟨rfl, v', hH, hM, hat⟩ := hL
  obtain ⟨hY, _⟩ := h.t.aside g ha hH hM hat
  obtain ⟨_, v2, h2⟩ := h.stepT (code := code) (e := .returned code) ⟨rfl, v', hH, hM, hat⟩
  exact ⟨rfl, v2, h2, hY⟩
end
end Go.Proofs.Ytklklpccpbhfgaa

namespace Go.Proofs.Ytklklpccpbhfgaa
open Go Go.RowKit

set_option maxRecDepth 100000 in
set_option maxHeartbeats 2000000 in
theorem same_any {N N' B B' k : Nat} {v v' : Value} {l : List Hit} {w : World} (h : Hs N 62 B k v l w) (x : Hs N' 83 B' k v' l w) :
    Calls Try.prog 18 #[.pointer (some ⟨B, 0, none⟩), .pointer (some ⟨B', 0, none⟩)] w fun e w' => e = .returned (.bool true) ∧ Below w.heap.size w w' := by
  have hit := items_any h
  have HH := Lib.hid h
  have HX := Lib.hid x
  have hlen := h.inv.len
  obtain ⟨px, capx, rfl, _, _⟩ := x.row.cap
  obtain ⟨n, hn⟩ : ∃ n, l.length = n := ⟨_, rfl⟩
  have HN := Lib.hid hn
  rw [hn] at hlen
  clear h x hn
  go_enter Try.func18, Try.ntmps18
  go_wp2_with fail
  refine hit.mono ?_
  rintro e w1 ⟨vi, rfl, hI, hB⟩
  have HB := Lib.hid hB
  have HH1 := Lib.hid (HH.out.below hB)
  have HX1 := Lib.hid (HX.out.below hB)
  obtain ⟨pi, capi, rfl, hci, hmi, hcell⟩ := its_cells hI
  have HC := Lib.hid hcell
  have hc1 := fun (p : Beh w1) => count_any (HH1.out.below p.h)
  have hc2 := fun (p : Beh w1) => ref_count_any (HX1.out.below p.h)
  have hbt := fun (p : Beh w1) => bits_any (HH1.out.below p.h)
  have k1 := HX1.out.c1
  have k0 := HX1.out.c0
  rw [HN.out] at k1 hci ⊢
  have q1 := Beh.cell HX1.out.lt k1
  have q0 := Beh.cell HX1.out.lt k0
  have hXl := HX1.out.lt
  have HL := Lib.hid HX1.out.row.form
  clear hit hI hB hcell hmi
  generalize countH l = c at *
  have tn : (((n : Int)) != ((n : Int))) = false := by simp
  go_wp2
  refine wp_region_beh (by kernel_rfl) (by kernel_rfl) ?_
  iterate 11 (quiet_step (exact calls_beh _ (hc1 _)))
  iterate 2 (quiet_step (exact calls_beh_same _ (hc2 _)))
  repeat (quiet_step (exact calls_beh_same _ (hbt _)))
  refine wpQuiet_nil ?_
  intro _ hw'
  obtain ⟨⟨W, hBW⟩, hw''⟩ := hw'
  subst hw''
  have HB2 := Lib.hid (below_on HB.out hBW (Nat.le_refl _))
  have HBW := Lib.hid hBW
  clear hc1 hc2 hbt q0 q1 k0 tn hBW
  go_wp2
  go_loopg [6] n (fun g s6 wx => ∃ j : Nat, j + g = n ∧ s6 = .int .i64 j ∧ Hid (Below w1.heap.size w1 wx))
  case atStart => exact ⟨0, by omega, rfl, HBW⟩
  case round =>
    obtain ⟨j, hjn, rfl, HBx⟩ := hrel
    cases gk with
    | zero =>
      obtain rfl : j = n := by omega
      have HB9 := Lib.hid (below_on HB.out HBx.out (Nat.le_refl _))
      go_wp2
      go_ret
      exact ⟨rfl, HB9.out⟩
    | succ g =>
      have hj : j < n := by omega
      have hjl : j < l.length := by rw [HN.out]; exact hj
      obtain ⟨gi, rfl, hgi, c0, c1⟩ := HC.out j hjl
      rcases HL.out with ⟨_, h0⟩ | ⟨gx, cx, hv, _, hgx, _, _, hcx, _⟩
      · rw [h0] at hjl; cases hjl
      · simp only [Value.slice.injEq] at hv
        obtain ⟨rfl, _, rfl⟩ := hv
        obtain ⟨b0, b1⟩ := hcx j hjl
        have e0 := (HBx.out.cell (p := ⟨gi, j * 2, none⟩) hgi).trans c0
        have e1 := (HBx.out.cell (p := ⟨gi, j * 2 + 1, none⟩) hgi).trans c1
        have f0 := (HBx.out.cell (p := ⟨gx, j * 2, none⟩) hgx).trans b0
        have f1 := (HBx.out.cell (p := ⟨gx, j * 2 + 1, none⟩) hgx).trans b1
        have kx := (HBx.out.cell (p := ⟨B', 1, none⟩) hXl).trans k1
        have hjI : (j : Int) < (n : Int) := by omega
        clear c0 c1 b0 b1 hcx
        generalize l[j]!.at_ = a at *
        generalize l[j]!.many = m at *
        go_wp2
        go_quiet (fail)
        have HBz := Lib.hid (below_drewN' HBx.out nq)
        clear e0 e1 f0 f1 kx
        go_wp2
        go_roundg g
        case measure => omega
        case rel => exact ⟨j + 1, by omega, by go_num, HBz⟩
end Go.Proofs.Ytklklpccpbhfgaa

namespace Go.Proofs.Ytklklpccpbhfgaa
open Go Go.RowKit

set_option maxRecDepth 100000 in
set_option maxHeartbeats 2000000 in
theorem ref_quant_bad (B : Nat) (num den : Nat) (h : den < 1 ∨ 1000000 < den ∨ den < num) (w : World) :
    Calls Try.prog 22 #[.pointer (some ⟨B, 0, none⟩), .int .u64 num, .int .u64 den] w fun e w' => e = .returned (.tuple #[.int .i64 0, .int .i64 0, .int .i64 1]) ∧ w = w' := by
  by_cases h1 : den < 1
  · obtain rfl : den = 0 := by omega
    clear h h1
    go_enter Try.func22, Try.ntmps22
    go_wp2
    go_ret3
    exact ⟨rfl, rfl⟩
  · have t1 : decide ((den : Int) < 1) = false := decide_eq_false (by omega)
    by_cases h2 : 1000000 < den
    · have t2 : decide ((1000000 : Int) < (den : Int)) = true := decide_eq_true (by omega)
      clear h h1 h2
      go_enter Try.func22, Try.ntmps22
      go_wp2
      go_ret3
      exact ⟨rfl, rfl⟩
    · have t2 : decide ((1000000 : Int) < (den : Int)) = false := decide_eq_false (by omega)
      have t3 : decide (den < num) = true := decide_eq_true (by omega)
      clear h h1 h2
      go_enter Try.func22, Try.ntmps22
      go_wp2
      go_ret3
      exact ⟨rfl, rfl⟩
set_option maxRecDepth 100000 in
set_option maxHeartbeats 2000000 in
theorem ref_quant_none {base B k : Nat} {v : Value} {l : List Hit} {w : World} (h : Hs base 83 B k v l w) (num den : Nat) (hd1 : 1 ≤ den) (hd2 : den ≤ 1000000) (hn : num ≤ den) (hc : countH l = 0) :
    Calls Try.prog 22 #[.pointer (some ⟨B, 0, none⟩), .int .u64 num, .int .u64 den] w fun e w' => e = .returned (.tuple #[.int .i64 0, .int .i64 0, .int .i64 5]) ∧ w = w' := by
  have hcn := ref_count_any h
  rw [hc] at hcn
  have t1 : decide ((den : Int) < 1) = false := decide_eq_false (by omega)
  have t2 : decide ((1000000 : Int) < (den : Int)) = false := decide_eq_false (by omega)
  have t3 : decide (den < num) = false := decide_eq_false (by omega)
  clear h hc
  go_enter Try.func22, Try.ntmps22
  go_wp2_with fail
  refine hcn.mono ?_
  rintro e w1 ⟨rfl, rfl⟩
  clear hcn
  go_wp2
  go_ret3
  exact ⟨rfl, rfl⟩
set_option maxRecDepth 100000 in
set_option maxHeartbeats 4000000 in
theorem ref_quant_any {base B k : Nat} {v : Value} {l : List Hit} {w : World} (h : Hs base 83 B k v l w) (num den : Nat) (hd1 : 1 ≤ den) (hd2 : den ≤ 1000000) (hn : num ≤ den) (hc : 1 ≤ countH l) (a : Int) (ha : rankH l (rkN (countH l) num den) = some a) :
    Calls Try.prog 22 #[.pointer (some ⟨B, 0, none⟩), .int .u64 num, .int .u64 den] w fun e w' => e = .returned (.tuple #[.int .i64 (lowI k a), .int .i64 (highI k a), .int .i64 0]) ∧ Below w.heap.size w w' := by
  have hcn := ref_count_any h
  have hsum := h.inv.sum
  have hrl := rkN_le hd1 hn hc
  obtain ⟨a', ha', x, hx, hxa⟩ := rank_some (l := l) (r := rkN (countH l) num den) (Nat.le_max_left _ _) hrl
  rw [ha] at ha'
  obtain rfl : a = a' := Option.some.inj ha'
  have hbd := fun w => ref_bounds_any k h.inv.hk a (hxa ▸ h.inv.fit x hx) w
  have hrk := fun (W : World) (hW : Hs base 83 B k v l W) => ref_rank_any hW (rkN (countH l) num den) (Nat.le_max_left _ _) (by omega)
  rw [ha] at hrk
  have hrd : rkN (countH l) num den = max 1 ((countH l * num + den - 1) / den) := rfl
  generalize rkN (countH l) num den = R at *
  have hP : countH l * num ≤ 1099511627776 * 1000000 := Nat.mul_le_mul hsum (by omega)
  obtain ⟨P, hPe⟩ : ∃ P, countH l * num = P := ⟨_, rfl⟩
  have hw : IntKind.u64.wrap ((countH l : Int) * (num : Int)) = (P : Int) := by
    rw [← Int.natCast_mul, hPe, IntKind.wrap_u64]; omega
  rw [hPe] at hrd hP
  obtain ⟨Q, hQ⟩ : ∃ Q, (P + den - 1) / den = Q := ⟨_, rfl⟩
  rw [hQ] at hrd
  have e0 : ((P : Int) + den - 1) = ((P + den - 1 : Nat) : Int) := by omega
  have e1 : ((P : Int) + den - 1) / (den : Int) = (Q : Int) := by rw [e0, ← hQ]; rfl
  have e2 : ((P : Int) + den - 1).tdiv (den : Int) = (Q : Int) := by rw [e0, ← hQ]; rfl
  have hmx : max (Q : Int) 1 = (R : Int) := by rw [hrd]; omega
  have hmx2 : (if Q < 1 then (1 : Int) else (Q : Int)) = (R : Int) := by rw [hrd]; split <;> omega
  have hQle : Q ≤ R := by rw [hrd]; exact Nat.le_max_right _ _
  have HR := Lib.hid hrk
  have H := Lib.hid h
  have HBD := Lib.hid hbd
  have t1 : decide ((den : Int) < 1) = false := decide_eq_false (by omega)
  have t2 : decide ((1000000 : Int) < (den : Int)) = false := decide_eq_false (by omega)
  have t3 : decide (den < num) = false := decide_eq_false (by omega)
  have hd0 : ¬ ((den : Int) = 0) := by omega
  have hc0 : ¬ ((countH l : Int) = 0) := by omega
  clear h hrk hbd ha ha' hxa hx hPe hQ hrd e0
  generalize countH l = c at *
  go_enter Try.func22, Try.ntmps22
  go_wp2_with fail
  refine hcn.mono ?_
  rintro e w1 ⟨rfl, rfl⟩
  have hr := HR.out _ H.out
  have c0 := H.out.c0
  clear hcn
  go_wp2_with fail
  refine hr.mono ?_
  rintro e w2 ⟨rfl, rfl⟩
  have hbd := HBD.out
  clear hr
  simp only [rkV]
  go_wp2_with fail
  refine (hbd _).mono ?_
  rintro e w3 ⟨rfl, hB3⟩
  clear hbd
  go_wp2
  go_ret3
  exact ⟨rfl, hB3⟩
end Go.Proofs.Ytklklpccpbhfgaa

namespace Go.Proofs.Ytklklpccpbhfgaa
open Go Go.RowKit

set_option maxRecDepth 100000 in
set_option maxHeartbeats 4000000 in
theorem ref_put_any {base B k : Nat} {v : Value} {l : List Hit} {w : World} (h : Hs base 83 B k v l w) :
    Calls Try.prog 24 #[.pointer (some ⟨B, 0, none⟩)] w fun e w' => e = .returned (.string (tx (putH k l))) ∧ Below w.heap.size w w' := by
  have hlen := h.inv.len
  have hk := h.inv.hk
  have HI := Lib.hid h.inv
  obtain ⟨p, cap, rfl, hcap, hmax⟩ := h.row.cap
  have c0 := h.c0
  have c1 := h.c1
  have hBl := h.lt
  have HL := Lib.hid h.row.form
  obtain ⟨n, hn⟩ : ∃ n, l.length = n := ⟨_, rfl⟩
  have HN := Lib.hid hn
  rw [hn] at c1 hlen
  have hb1 : ∀ W, Calls Try.prog 47 #[.int .u64 (k : Int), .int .i64 1] W fun e w' => e = .returned (.string (tx (be 1 k))) ∧ Below W.heap.size W w' := fun W => ref_bytes_any (c := 1) (n := k) (by omega) (by omega) (by omega) W
  have hb2 : ∀ W, Calls Try.prog 47 #[.int .u64 (n : Int), .int .i64 2] W fun e w' => e = .returned (.string (tx (be 2 n))) ∧ Below W.heap.size W w' := fun W => ref_bytes_any (c := 2) (n := n) (by omega) (by omega) (by omega) W
  have q0 := Beh.cell hBl c0
  have q1 := Beh.cell hBl c1
  have hn0 : (n : Int) ≤ 2001 := by omega
  have hk0 : (k : Int) ≤ 4 := by omega
  have hwk : IntKind.u64.wrap (k : Int) = (k : Int) := by rw [IntKind.wrap_u64]; omega
  have hwn : IntKind.u64.wrap (n : Int) = (n : Int) := by rw [IntKind.wrap_u64]; omega
  have hsz : (9223372036854775807 < (tx (be 1 k)).size + (tx (be 2 n)).size) = False := by rw [tx_size, tx_size, be_length, be_length]; exact eq_false (by omega)
  clear h hn hcap hmax
  go_enter Try.func24, Try.ntmps24
  go_wp2
  refine wp_region_beh (by kernel_rfl) (by kernel_rfl) ?_
  iterate 6 (quiet_step (exact calls_beh _ (hb1 _)))
  repeat (quiet_step (exact calls_beh _ (hb2 _)))
  refine wpQuiet_nil ?_
  intro _ hw'
  obtain ⟨⟨W, hBW⟩, hw''⟩ := hw'
  subst hw''
  have HB := Lib.hid hBW
  have HS : Hid (tx (be 1 k) ++ tx (be 2 n) = tx (be 1 k ++ be 2 n ++ (l.take 0).flatMap putI)) := Lib.hid (by rw [tx_append]; simp)
  generalize hS0 : tx (be 1 k) ++ tx (be 2 n) = S0 at *
  clear hS0 hb1 hb2 q0 q1 hsz
  go_wp2
  go_loopg [3, 4] n (fun g s3 s4 wx => ∃ (j : Nat) (S : ByteArray), j + g = n ∧ s4 = .int .i64 j ∧ s3 = .string S ∧ Hid (S = tx (be 1 k ++ be 2 n ++ (l.take j).flatMap putI)) ∧ Hid (Below w.heap.size w wx))
  case atStart => exact ⟨0, S0, by omega, rfl, rfl, HS, HB⟩
  case round =>
    clear HS HB
    obtain ⟨j, S, hjn, rfl, rfl, HS, HB⟩ := hrel
    have k1 := (HB.out.cell (p := ⟨B, 1, none⟩) hBl).trans c1
    cases gk with
    | zero =>
      obtain rfl : j = n := by omega
      have HE : Hid (S = tx (putH k l)) := Lib.hid (by
        have e := HS.out
        rw [List.take_of_length_le (by rw [HN.out]; exact Nat.le_refl _)] at e
        rw [e]
        unfold putH
        rw [HN.out])
      go_wp2
      go_ret
      exact ⟨by rw [← HE.out]; rfl, HB.out⟩
    | succ g =>
      have hj : j < n := by omega
      have hjl : j < l.length := by rw [HN.out]; exact hj
      rcases HL.out with ⟨_, h0⟩ | ⟨gg, cap', e, _, hg, _, _, hc, _⟩
      · rw [h0] at hjl; cases hjl
      · simp only [Value.slice.injEq] at e
        obtain ⟨rfl, _, rfl⟩ := e
        obtain ⟨c10, c11⟩ := hc j hjl
        have d0 := (HB.out.cell (p := ⟨gg, j * 2, none⟩) hg).trans c10
        have d1 := (HB.out.cell (p := ⟨gg, j * 2 + 1, none⟩) hg).trans c11
        have hgr := Nat.lt_of_lt_of_le hg HB.out.size
        have hat := HI.out.at hjl
        have hmany := HI.out.many hjl
        have hpt := putI_take hjl
        obtain ⟨a, ha⟩ : ∃ a, l[j]!.at_ = a := ⟨_, rfl⟩
        obtain ⟨m, hm⟩ : ∃ m, l[j]!.many = m := ⟨_, rfl⟩
        rw [show putI l[j]! = be 4 (a + 2147483648).toNat ++ be 6 m by unfold putI; rw [ha, hm]] at hpt
        rw [ha] at d0 hat
        rw [hm] at d1 hmany
        obtain ⟨q, hq⟩ : ∃ q, (a + 2147483648).toNat = q := ⟨_, rfl⟩
        rw [hq] at hpt
        have hqI : (a + 2147483648 : Int) = (q : Int) := by omega
        have hqb : q < 4294967296 := by omega
        have hw1 : IntKind.i64.wrap (q : Int) = (q : Int) := by rw [IntKind.wrap_i64]; omega
        have hw2 : IntKind.u64.wrap (q : Int) = (q : Int) := by rw [IntKind.wrap_u64]; omega
        have HP : Hid (S ++ tx (be 4 q) ++ tx (be 6 m) = tx (be 1 k ++ be 2 n ++ (l.take (j + 1)).flatMap putI)) := Lib.hid (by
          rw [hpt, HS.out, tx_append, tx_append, List.append_assoc, List.append_assoc])
        have q1 := Beh.cell (Nat.lt_of_lt_of_le hBl HB.out.size) k1
        have q2 := Beh.cell hgr d0
        have q3 := Beh.cell hgr d1
        have hb4 : ∀ W, Calls Try.prog 47 #[.int .u64 (q : Int), .int .i64 4] W fun e w' => e = .returned (.string (tx (be 4 q))) ∧ Below W.heap.size W w' := fun W => ref_bytes_any (c := 4) (n := q) (by omega) (by omega) (by omega) W
        have hb6 : ∀ W, Calls Try.prog 47 #[.int .u64 (m : Int), .int .i64 6] W fun e w' => e = .returned (.string (tx (be 6 m))) ∧ Below W.heap.size W w' := fun W => ref_bytes_any (c := 6) (n := m) (by omega) (by omega) (by omega) W
        have hjnI : (j : Int) < (n : Int) := by omega
        have hSs : S.size ≤ 20013 := by
          rw [HS.out, tx_size, List.length_append, List.length_append, be_length, be_length, Go.Proofs.Ytklklpccpbhfgaa.flat_length, List.length_take]
          omega
        have hsz1 : (9223372036854775807 < S.size + (tx (be 4 q)).size) = False := by rw [tx_size, be_length]; exact eq_false (by omega)
        have hsz2 : (9223372036854775807 < (S ++ tx (be 4 q)).size + (tx (be 6 m)).size) = False := by rw [ByteArray.size_append, tx_size, tx_size, be_length, be_length]; exact eq_false (by omega)
        have hsz3 : (9223372036854775807 < S.size + (tx (be 4 q)).size + (tx (be 6 m)).size) = False := by rw [tx_size, tx_size, be_length, be_length]; exact eq_false (by omega)
        clear c10 c11 hc hpt hat hmany ha hm hq d0 d1
        go_wp2
        refine wp_region_beh (by kernel_rfl) (by kernel_rfl) ?_
        iterate 12 (quiet_step (exact calls_beh _ (hb4 _)))
        repeat (quiet_step (exact calls_beh _ (hb6 _)))
        refine wpQuiet_nil ?_
        intro _ hw'
        obtain ⟨⟨W, hBW⟩, hw''⟩ := hw'
        subst hw''
        have HB2 := Lib.hid (below_on HB.out hBW (Nat.le_refl _))
        clear hb4 hb6 q1 q2 q3 hBW hsz1 hsz2 hsz3
        generalize S ++ tx (be 4 q) ++ tx (be 6 m) = S2 at *
        go_wp2
        go_roundg g
        case measure => omega
        case rel => exact ⟨j + 1, S2, by omega, by go_num, rfl, HP, HB2⟩
end Go.Proofs.Ytklklpccpbhfgaa

namespace Go.Proofs.Ytklklpccpbhfgaa
open Go Go.RowKit

def addL (k : Nat) (n : Int) (l : List Hit) : List Hit := if countH l < 1099511627776 then more ⟨ofI k n, 1⟩ l else l
def addC (l : List Hit) : Int := if countH l < 1099511627776 then 0 else 7
def mrgL (k k' : Nat) (l m : List Hit) : List Hit := if k' = k then (if countH l + countH m ≤ 1099511627776 then mergeH l m else l) else l
def mrgC (k k' : Nat) (l m : List Hit) : Int := if k' = k then (if countH l + countH m ≤ 1099511627776 then 0 else 7) else 1
section
variable {base base' B B' k k' : Nat} {v v' : Value} {l m : List Hit} {w : World}
theorem add_step (hbase : base ≤ w.heap.size) (h : Hs base 62 B k v l w) (n : Int) (hn : In64 n) :
    Calls Try.prog 13 #[.pointer (some ⟨B, 0, none⟩), .int .i64 n] w (Left base 62 B k v (addL k n l) (.int .i64 (addC l)) w) := by
  unfold addL addC
  by_cases hc : countH l < 1099511627776
  · rw [if_pos hc, if_pos hc]; exact add_any hbase h n hn hc
  · rw [if_neg hc, if_neg hc]; exact add_full h n hc
theorem ref_add_step (hbase : base ≤ w.heap.size) (h : Hs base 83 B k v l w) (n : Int) (hn : In64 n) :
    Calls Try.prog 15 #[.pointer (some ⟨B, 0, none⟩), .int .i64 n] w (Left base 83 B k v (addL k n l) (.int .i64 (addC l)) w) := by
  unfold addL addC
  by_cases hc : countH l < 1099511627776
  · rw [if_pos hc, if_pos hc]; exact ref_add_any hbase h n hn hc
  · rw [if_neg hc, if_neg hc]; exact ref_add_full h n hc
theorem merge_step (hbase : base ≤ w.heap.size) (h : Hs base 62 B k v l w) (g : Hs base' 62 B' k' v' m w) :
    Calls Try.prog 16 #[.pointer (some ⟨B, 0, none⟩), .pointer (some ⟨B', 0, none⟩)] w (Left base 62 B k v (mrgL k k' l m) (.int .i64 (mrgC k k' l m)) w) := by
  unfold mrgL mrgC
  by_cases hk : k' = k
  · subst hk
    rw [if_pos rfl, if_pos rfl]
    by_cases hc : countH l + countH m ≤ 1099511627776
    · rw [if_pos hc, if_pos hc]; exact merge_any hbase h g hc
    · rw [if_neg hc, if_neg hc]
      exact (merge_over h g (by omega)).mono fun e w' ⟨h1, h2⟩ => by subst h1; exact Left.same h h2
  · rw [if_neg hk, if_neg hk]
    exact (merge_bits h g hk).mono fun e w' ⟨h1, h2⟩ => by subst h1; exact Left.same h h2
theorem ref_merge_step (hbase : base ≤ w.heap.size) (h : Hs base 83 B k v l w) (g : Hs base' 83 B' k' v' m w) :
    Calls Try.prog 17 #[.pointer (some ⟨B, 0, none⟩), .pointer (some ⟨B', 0, none⟩)] w (Left base 83 B k v (mrgL k k' l m) (.int .i64 (mrgC k k' l m)) w) := by
  unfold mrgL mrgC
  by_cases hk : k' = k
  · subst hk
    rw [if_pos rfl, if_pos rfl]
    by_cases hc : countH l + countH m ≤ 1099511627776
    · rw [if_pos hc, if_pos hc]; exact ref_merge_any hbase h g hc
    · rw [if_neg hc, if_neg hc]
      exact (ref_merge_over h g (by omega)).mono fun e w' ⟨h1, h2⟩ => by subst h1; exact Left.same h h2
  · rw [if_neg hk, if_neg hk]
    exact (ref_merge_bits h g hk).mono fun e w' ⟨h1, h2⟩ => by subst h1; exact Left.same h h2
/-- The bucket of a rank, as it is answered. -/
def rkR (l : List Hit) (r : Nat) : Int × Bool := if r = 0 then (0, false) else match rankH l r with
  | some a => (a, true)
  | none => (0, false)
theorem rkR_V {r : Nat} (h : r ≠ 0) : rkV (rankH l r) = .tuple #[.int .i64 (rkR l r).1, .bool (rkR l r).2] := by
  unfold rkR
  rw [if_neg h]
  cases rankH l r <;> rfl
theorem rank_step (h : Hs base 62 B k v l w) (r : Nat) (hr : r < 18446744073709551616) :
    Calls Try.prog 19 #[.pointer (some ⟨B, 0, none⟩), .int .u64 r] w fun e w' => e = .returned (.tuple #[.int .i64 (rkR l r).1, .bool (rkR l r).2]) ∧ Below w.heap.size w w' := by
  by_cases h0 : r = 0
  · subst h0
    exact (rank_zero h).mono fun e w' ⟨h1, h2⟩ => ⟨h1, h2 ▸ Below.refl _ _⟩
  · rw [← rkR_V h0]
    exact rank_any h r (by omega) hr
theorem ref_rank_step (h : Hs base 83 B k v l w) (r : Nat) (hr : r < 18446744073709551616) :
    Calls Try.prog 20 #[.pointer (some ⟨B, 0, none⟩), .int .u64 r] w fun e w' => e = .returned (.tuple #[.int .i64 (rkR l r).1, .bool (rkR l r).2]) ∧ Below w.heap.size w w' := by
  by_cases h0 : r = 0
  · subst h0
    exact (ref_rank_zero B w).mono fun e w' ⟨h1, h2⟩ => ⟨h1, h2 ▸ Below.refl _ _⟩
  · rw [← rkR_V h0]
    exact (ref_rank_any h r (by omega) hr).mono fun e w' ⟨h1, h2⟩ => ⟨h1, h2 ▸ Below.refl _ _⟩
/-- What a part is answered. -/
theorem quant_step (h : Hs base 62 B k v l w) (num den : Nat) : ∃ a b c : Int,
    (∀ base B v w, Hs base 62 B k v l w → Calls Try.prog 21 #[.pointer (some ⟨B, 0, none⟩), .int .u64 num, .int .u64 den] w fun e w' => e = .returned (.tuple #[.int .i64 a, .int .i64 b, .int .i64 c]) ∧ Below w.heap.size w w') ∧
    (∀ base B v w, Hs base 83 B k v l w → Calls Try.prog 22 #[.pointer (some ⟨B, 0, none⟩), .int .u64 num, .int .u64 den] w fun e w' => e = .returned (.tuple #[.int .i64 a, .int .i64 b, .int .i64 c]) ∧ Below w.heap.size w w') := by
  by_cases hbad : den < 1 ∨ 1000000 < den ∨ den < num
  · exact ⟨0, 0, 1, fun _ B _ w _ => (quant_bad B num den hbad w).mono fun e w' ⟨h1, h2⟩ => ⟨h1, h2 ▸ Below.refl _ _⟩, fun _ B _ w _ => (ref_quant_bad B num den hbad w).mono fun e w' ⟨h1, h2⟩ => ⟨h1, h2 ▸ Below.refl _ _⟩⟩
  · have hd1 : 1 ≤ den := by omega
    have hd2 : den ≤ 1000000 := by omega
    have hn : num ≤ den := by omega
    by_cases hc : countH l = 0
    · exact ⟨0, 0, 5, fun _ _ _ _ g => quant_none g num den hd1 hd2 hn hc, fun _ _ _ _ g => (ref_quant_none g num den hd1 hd2 hn hc).mono fun e w' ⟨h1, h2⟩ => ⟨h1, h2 ▸ Below.refl _ _⟩⟩
    · have hc1 : 1 ≤ countH l := by omega
      obtain ⟨a, ha, _⟩ := rank_some (l := l) (r := rkN (countH l) num den) (Nat.le_max_left _ _) (rkN_le hd1 hn hc1)
      exact ⟨lowI k a, highI k a, 0, fun _ _ _ _ g => quant_any g num den hd1 hd2 hn hc1 a ha, fun _ _ _ _ g => ref_quant_any g num den hd1 hd2 hn hc1 a ha⟩
end

/-- A block that is none of both. -/
structure Off (X : Nat) (B P : Nat) (v u : Value) : Prop where
  b : X ≠ B
  p : X ≠ P
  v : v.ownBlock ≠ some X
  u : u.ownBlock ≠ some X
/-- Both, and a block of known cells beside them. -/
structure Tri (X : Nat) (xs : Array Value) (B P k : Nat) (v u : Value) (l m : List Hit) (base : Nat) (w0 w : World) : Prop where
  two : Two B P k v u l m base w0 w
  c : CellsAt X xs w
  o : Off X B P v u
section
variable {X B P k base : Nat} {xs : Array Value} {v u : Value} {l m l' m' : List Hit} {w0 w w' : World} {code : Value} {e : Ending}
theorem Tri.below (h : Tri X xs B P k v u l m base w0 w) (hB : Below w.heap.size w w') : Tri X xs B P k v u l m base w0 w' := ⟨h.two.below hB, h.c.below hB, h.o⟩
theorem Tri.stepT (h : Tri X xs B P k v u l m base w0 w) (hL : Left base 62 B k v l' code w e w') : e = .returned code ∧ ∃ v', Tri X xs B P k v' u l' m base w0 w' := by
  obtain ⟨rfl, v', hH, hM, hat⟩ := hL
  obtain ⟨hX, hA⟩ := h.two.t.aside h.two.x h.two.a hH hM hat
  refine ⟨rfl, v', ⟨hH, hX, hA, h.two.b.trans (hM.below ?_ h.two.size), h.two.h⟩, h.c.mov hM (fun hx => hx.elim h.o.b h.o.v), h.o.b, h.o.p, fun hx => ?_, h.o.u⟩
  · rintro i (rfl | hi)
    · exact h.two.t.lo
    · exact (h.two.t.row.lt hi).1
  · rcases hat X hx with h1 | h1
    · exact h.o.v h1
    · have := h.c.lt; omega
theorem Tri.stepX (h : Tri X xs B P k v u l m base w0 w) (hL : Left base 83 P k u m' code w e w') : e = .returned code ∧ ∃ u', Tri X xs B P k v u' l m' base w0 w' := by
  obtain ⟨rfl, u', hH, hM, hat⟩ := hL
  obtain ⟨hX, hA⟩ := h.two.x.aside h.two.t h.two.a.symm hH hM hat
  refine ⟨rfl, u', ⟨hX, hH, hA.symm, h.two.b.trans (hM.below ?_ h.two.size), h.two.h⟩, h.c.mov hM (fun hx => hx.elim h.o.p h.o.u), h.o.b, h.o.p, h.o.v, fun hx => ?_⟩
  · rintro i (rfl | hi)
    · exact h.two.x.lo
    · exact (h.two.x.row.lt hi).1
  · rcases hat X hx with h1 | h1
    · exact h.o.u h1
    · have := h.c.lt; omega
theorem Tri.start (h : Two B P k v u l m base w0 w) (cs : Array Value) (T : TypeId) : Tri w.heap.size cs B P k v u l m base w0 (w.alloc (.cells cs T)) := by
  refine ⟨h.below ((Below.refl _ _).alloc (Nat.le_refl _) _), CellsAt.new cs T w, ?_, ?_, fun e => ?_, fun e => ?_⟩
  · have := h.t.lt; omega
  · have := h.x.lt; omega
  · have := (h.t.row.lt e).2; omega
  · have := (h.x.row.lt e).2; omega
end

/-- What the world is, by which of two operations are done. -/
def Ps (i j : Nat) (A B C : World → Prop) (ls : Array Bool) (w : World) : Prop :=
  if ls[i]? = some true then (if ls[j]? = some true then C w else B w) else A w
section
variable {i j : Nat} {A B C : World → Prop} {ls : Array Bool} {w w' : World}
theorem Ps.rd {R : World → Prop} (h : Ps i j A B C ls w) (hA : A w → R w) (hB : B w → R w) (hC : C w → R w) : R w := by
  unfold Ps at h
  split at h
  · split at h
    · exact hC h
    · exact hB h
  · exact hA h
theorem Ps.keep (h : Ps i j A B C ls w) (hA : A w → A w') (hB : B w → B w') (hC : C w → C w') (k : Nat) (hi : k ≠ i) (hj : k ≠ j) : Ps i j A B C (ls.setIfInBounds k true) w' := by
  unfold Ps at h ⊢
  rw [Array.getElem?_setIfInBounds_ne hi, Array.getElem?_setIfInBounds_ne hj]
  split
  · rename_i h1
    rw [if_pos h1] at h
    split
    · rename_i h2
      rw [if_pos h2] at h; exact hC h
    · rename_i h2
      rw [if_neg h2] at h; exact hB h
  · rename_i h1
    rw [if_neg h1] at h; exact hA h
theorem Ps.stay (h : Ps i j A B C ls w) (k : Nat) (hi : k ≠ i) (hj : k ≠ j) : Ps i j A B C (ls.setIfInBounds k true) w := h.keep id id id k hi hj
theorem Ps.at0 (h : Ps i j A B C ls w) (h0 : ls[i]? = some false) : A w := by unfold Ps at h; rwa [if_neg (by rw [h0]; simp)] at h
theorem Ps.at1 (h : Ps i j A B C ls w) (h1 : ls[i]? = some true) (h2 : ls[j]? = some false) : B w := by unfold Ps at h; rwa [if_pos h1, if_neg (by rw [h2]; simp)] at h
theorem Ps.at2 (h : Ps i j A B C ls w) (h1 : ls[i]? = some true) (h2 : ls[j]? = some true) : C w := by unfold Ps at h; rwa [if_pos h1, if_pos h2] at h
theorem Ps.zero (n : Nat) (h : A w) : Ps i j A B C (Array.replicate n false) w := by
  unfold Ps
  rw [if_neg (by rw [Array.getElem?_replicate]; split <;> simp)]
  exact h
theorem Ps.to1 (hls : i < ls.size) (hij : i ≠ j) (h2 : ls[j]? = some false) (h : B w) : Ps i j A B C (ls.setIfInBounds i true) w := by
  unfold Ps
  rw [if_pos (by simp [hls]), Array.getElem?_setIfInBounds_ne hij, if_neg (by rw [h2]; simp)]
  exact h
theorem Ps.to2 (hls : j < ls.size) (hij : i ≠ j) (h1 : ls[i]? = some true) (h : C w) : Ps i j A B C (ls.setIfInBounds j true) w := by
  unfold Ps
  rw [Array.getElem?_setIfInBounds_ne (Ne.symm hij), if_pos h1, if_pos (by simp [hls])]
  exact h
/-- One operation alone. -/
theorem Ps.only (hls : i < ls.size) (hj : ls.size ≤ j) (h : B w) : Ps i j A B B (ls.setIfInBounds i true) w := by
  unfold Ps
  rw [if_pos (by simp [hls])]
  split <;> exact h
theorem Ps.done (h : Ps i j A B B ls w) (h1 : ls[i]? = some true) : B w := by
  unfold Ps at h
  rw [if_pos h1] at h
  split at h <;> exact h
end
end Go.Proofs.Ytklklpccpbhfgaa

namespace Go.Proofs.Ytklklpccpbhfgaa
open Go Go.RowKit

/-- The first region of a piece of code. -/
def leftR : Code → Option Nat
  | .region i _ _ => some i
  | .seq a _ => leftR a
  | _ => none
/-- The outermost sequence that begins with region n. -/
def findR (n : Nat) : Code → Option Code
  | .seq a b => match leftR a == some n with
    | true => some (.seq a b)
    | false => match findR n a with
      | some c => some c
      | none => findR n b
  | .cond _ a b => match findR n a with
      | some c => some c
      | none => findR n b
  | .block _ a => findR n a
  | .loop a => findR n a
  | .scope a => findR n a
  | _ => none
def isT : Operand → Nat → Bool
  | .tmp d, t => d == t
  | _, _ => false
/-- The outermost test of slot t. -/
def findC (t : Nat) : Code → Option Code
  | .cond c a b => match isT c t with
    | true => some (.cond c a b)
    | false => match findC t a with
      | some c => some c
      | none => findC t b
  | .seq a b => match findC t a with
      | some c => some c
      | none => findC t b
  | .block _ a => findC t a
  | .loop a => findC t a
  | .scope a => findC t a
  | _ => none

set_option maxRecDepth 100000 in
set_option maxHeartbeats 16000000 in
theorem plays_tail (C : Code) (hC0 : Try.f3.body.bind (findR 36) = some C) (w wc : World) (B P k : Nat) (v u : Value) (l : List Hit) (r num den : Nat) (hr : r < 18446744073709551616) (hT : Two B P k v u l l w.heap.size w wc) (s0 s1 s2 s6 s7 s8 s9 s10 s11 s12 s15 s17 s18 s19 s20 s21 s22 s23 s24 s25 s26 s27 s28 s29 s30 s31 s32 s33 s34 s35 s36 s37 s38 s39 s40 s41 s42 s43 s44 s45 s46 s47 s48 s49 s50 s51 s52 s53 s54 s55 s56 s57 s58 s59 s60 s61 s62 s63 s64 s65 s66 s67 s68 s69 s70 s71 s72 s73 s74 s75 s76 s77 s78 s79 s80 s81 s82 s83 s84 s85 s86 s87 s88 s89 s90 s91 s92 s93 s94 s95 s96 s97 s98 s99 s100 s101 s102 s103 s104 s105 s106 s107 s108 s109 s110 s111 s112 s113 s114 s115 s116 s117 s118 s119 s120 s121 s122 s123 s124 s125 s126 s127 s128 s129 s130 s131 s132 s133 s134 s135 s136 s137 s138 s139 s140 s141 s142 s143 s144 s145 s146 s147 s148 s149 s150 s151 s152 s153 s154 s155 s156 s157 s158 s159 s160 s161 s162 s163 s164 s165 s166 s167 s168 s169 s170 s171 s172 s173 s174 s175 s176 s177 s178 s179 s180 s181 s182 s183 s184 s185 s186 s187 s188 s189 s190 s191 s192 s193 s194 s195 s196 s197 s198 s199 s200 s201 s202 s203 s204 s205 s206 s207 s208 s209 s210 s211 s212 s213 s214 s215 s216 s217 s218 s219 s220 s221 s222 s223 s224 s225 : Value) :
    Code.wp Try.prog C (bodyPost Try.prog Try.f3 fun e w' => e = .returned (.bool true) ∧ Below w.heap.size w w') { tmps := (s0 :: s1 :: s2 :: .int .u64 r :: .int .u64 num :: .int .u64 den :: s6 :: s7 :: s8 :: s9 :: s10 :: s11 :: s12 :: .bool true :: .pointer (some ⟨B, 0, none⟩) :: s15 :: .pointer (some ⟨P, 0, none⟩) :: s17 :: s18 :: s19 :: s20 :: s21 :: s22 :: s23 :: s24 :: s25 :: s26 :: s27 :: s28 :: s29 :: s30 :: s31 :: s32 :: s33 :: s34 :: s35 :: s36 :: s37 :: s38 :: s39 :: s40 :: s41 :: s42 :: s43 :: s44 :: s45 :: s46 :: s47 :: s48 :: s49 :: s50 :: s51 :: s52 :: s53 :: s54 :: s55 :: s56 :: s57 :: s58 :: s59 :: s60 :: s61 :: s62 :: s63 :: s64 :: s65 :: s66 :: s67 :: s68 :: s69 :: s70 :: s71 :: s72 :: s73 :: s74 :: s75 :: s76 :: s77 :: s78 :: s79 :: s80 :: s81 :: s82 :: s83 :: s84 :: s85 :: s86 :: s87 :: s88 :: s89 :: s90 :: s91 :: s92 :: s93 :: s94 :: s95 :: s96 :: s97 :: s98 :: s99 :: s100 :: s101 :: s102 :: s103 :: s104 :: s105 :: s106 :: s107 :: s108 :: s109 :: s110 :: s111 :: s112 :: s113 :: s114 :: s115 :: s116 :: s117 :: s118 :: s119 :: s120 :: s121 :: s122 :: s123 :: s124 :: s125 :: s126 :: s127 :: s128 :: s129 :: s130 :: s131 :: s132 :: s133 :: s134 :: s135 :: s136 :: s137 :: s138 :: s139 :: s140 :: s141 :: s142 :: s143 :: s144 :: s145 :: s146 :: s147 :: s148 :: s149 :: s150 :: s151 :: s152 :: s153 :: s154 :: s155 :: s156 :: s157 :: s158 :: s159 :: s160 :: s161 :: s162 :: s163 :: s164 :: s165 :: s166 :: s167 :: s168 :: s169 :: s170 :: s171 :: s172 :: s173 :: s174 :: s175 :: s176 :: s177 :: s178 :: s179 :: s180 :: s181 :: s182 :: s183 :: s184 :: s185 :: s186 :: s187 :: s188 :: s189 :: s190 :: s191 :: s192 :: s193 :: s194 :: s195 :: s196 :: s197 :: s198 :: s199 :: s200 :: s201 :: s202 :: s203 :: s204 :: s205 :: s206 :: s207 :: s208 :: s209 :: s210 :: s211 :: s212 :: s213 :: s214 :: s215 :: s216 :: s217 :: s218 :: s219 :: s220 :: s221 :: s222 :: s223 :: s224 :: s225 :: []).toArray, defers := [] } wc := by
  cases hC0
  have h1 := same_any hT.t hT.x
  have HT := Lib.hid hT
  obtain ⟨qa, qb, qc, hq1, hq2⟩ := quant_step hT.t num den
  have HR := Lib.hid hr
  have HQ1 := Lib.hid hq1
  have HQ2 := Lib.hid hq2
  clear hT hq1 hq2 hr
  go_wp2_with fail
  refine h1.mono ?_
  rintro e w1 ⟨rfl, hB1⟩
  have H1 := Lib.hid (HT.out.below hB1)
  have h2 := rank_step H1.out.t r HR.out
  have HR3 : Hid (∀ W, Two B P k v u l l w.heap.size w W → Calls Try.prog 20 #[.pointer (some ⟨P, 0, none⟩), .int .u64 r] W fun e w' => e = .returned (.tuple #[.int .i64 (rkR l r).1, .bool (rkR l r).2]) ∧ Below W.heap.size W w') := Lib.hid (fun W h => ref_rank_step h.x r HR.out)
  clear hB1 h1 HT
  generalize rkR l r = q at h2 HR3
  obtain ⟨q1, q2⟩ := q
  go_wp2_with fail
  refine h2.mono ?_
  rintro e w2 ⟨rfl, hB2⟩
  have H2 := Lib.hid (H1.out.below hB2)
  have h3 := HR3.out _ H2.out
  clear hB2 h2 H1 HR3
  go_wp2_with fail
  refine h3.mono ?_
  rintro e w3 ⟨rfl, hB3⟩
  have H3 := Lib.hid (H2.out.below hB3)
  have h4 := HQ1.out _ _ _ _ H3.out.t
  clear hB3 h3 H2 HQ1
  go_wp2_with fail
  refine h4.mono ?_
  rintro e w4 ⟨rfl, hB4⟩
  have H4 := Lib.hid (H3.out.below hB4)
  have h5 := HQ2.out _ _ _ _ H4.out.x
  clear hB4 h4 H3 HQ2
  go_wp2_with fail
  refine h5.mono ?_
  rintro e w5 ⟨rfl, hB5⟩
  have H5 := Lib.hid (H4.out.below hB5)
  have h6 := put_any H5.out.t
  have HP : Hid (∀ W, Two B P k v u l l w.heap.size w W → Calls Try.prog 24 #[.pointer (some ⟨P, 0, none⟩)] W fun e w' => e = .returned (.string (tx (putH k l))) ∧ Below W.heap.size W w') := Lib.hid (fun W h => ref_put_any h.x)
  clear hB5 h5 H4
  generalize tx (putH k l) = T at h6 HP
  have hq : (T.toList == T.toList) = true := by simp
  have hb : (q2 == q2) = true := by simp
  go_wp2_with fail
  refine h6.mono ?_
  rintro e w6 ⟨rfl, hB6⟩
  have H6 := Lib.hid (H5.out.below hB6)
  have h7 := HP.out _ H6.out
  clear hB6 h6 H5 HP
  go_wp2_with fail
  refine h7.mono ?_
  rintro e w7 ⟨rfl, hB7⟩
  have H7 := Lib.hid (H6.out.below hB7)
  clear hB7 h7 H6
  go_wp2
  try go_ret
  exact ⟨rfl, H7.out.b⟩
end Go.Proofs.Ytklklpccpbhfgaa

