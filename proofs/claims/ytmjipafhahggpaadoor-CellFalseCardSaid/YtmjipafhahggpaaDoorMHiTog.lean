/- Two rows of items taken together, and one histogram merged into another one. -/
import Derived.Test.YtmjipafhahggpaaDoorMcG
import Derived.Test.YtmjipafhahggpaaDoorMcI
import Derived.BigQuiet
import Derived.BigRegion
import Derived.RegionTactic
namespace Go.Proofs.YtmjipafhahggpaaDoor.Hi
open Go Go.RowKit

/-- Items that lie somewhere. -/
def Lies (v : Value) (l : List Hit) (w : World) : Prop := ∃ p cap, v = .slice p l.length cap ∧ (l = [] ∨ ∃ g, p = some ⟨g, 0, none⟩ ∧ g < w.heap.size ∧
  ∀ j, j < l.length → w.cell? ⟨g, j * 2, none⟩ = some (.int .i64 l[j]!.at_) ∧ w.cell? ⟨g, j * 2 + 1, none⟩ = some (.int .u64 l[j]!.many))
theorem Its.lies {base : Nat} {v : Value} {l : List Hit} {w : World} {T : Nat} (h : Its base T v l w) : Lies v l w := by
  rcases h.form with ⟨rfl, rfl⟩ | ⟨g, cap, rfl, _, hg, _, _, hc, _⟩
  · exact ⟨none, 0, rfl, .inl rfl⟩
  · exact ⟨_, cap, rfl, .inr ⟨g, rfl, hg, hc⟩⟩
theorem Lies.below {v : Value} {l : List Hit} {w w' : World} (h : Lies v l w) (hB : Below w.heap.size w w') : Lies v l w' := by
  obtain ⟨p, cap, rfl, h⟩ := h
  refine ⟨p, cap, rfl, h.imp id ?_⟩
  rintro ⟨g, rfl, hg, hc⟩
  exact ⟨g, rfl, Nat.lt_of_lt_of_le hg hB.size, fun j hj => ⟨(hB.cell (p := ⟨g, j * 2, none⟩) hg).trans (hc j hj).1, (hB.cell (p := ⟨g, j * 2 + 1, none⟩) hg).trans (hc j hj).2⟩⟩
/-- The i-th item's bucket, or nothing. -/
def atO (l : List Hit) (i : Nat) : Int := if i < l.length then l[i]!.at_ else 0
def manyO (l : List Hit) (i : Nat) : Nat := if i < l.length then l[i]!.many else 0
theorem nxt_any {C D i : Nat} {v : Value} {l : List Hit} {w0 w : World} (hL : Lies v l w0) (hB : Below w0.heap.size w0 w) (h : Nxt C D i v w) (hC : w0.heap.size ≤ C) (hi : i ≤ l.length) (hl : l.length ≤ 2001) :
    Calls Tryd.prog 80 #[.pointer (some ⟨C, 0, none⟩), .pointer (some ⟨D, 0, none⟩)] w fun e w' => e = .returned (.tuple #[.agg #[.int .i64 (atO l i), .int .u64 (manyO l i)], .bool (decide (i < l.length))]) ∧ Mov (fun j => j = C) w w' ∧ Nxt C D (min (i + 1) l.length) v w' := by
  obtain ⟨p, cap, rfl, hc⟩ := hL
  by_cases hlt : i < l.length
  · rcases hc with rfl | ⟨g, rfl, hg, hc⟩
    · simp at hlt
    · obtain ⟨d0, d1⟩ := hc i hlt
      refine (nxt_some h hlt hl (Nat.lt_of_lt_of_le hg hB.size) (by omega) ((hB.cell (p := ⟨g, i * 2, none⟩) hg).trans d0) ((hB.cell (p := ⟨g, i * 2 + 1, none⟩) hg).trans d1)).mono ?_
      rintro e w' ⟨rfl, hM, hN⟩
      unfold atO manyO
      rw [if_pos hlt, if_pos hlt, decide_eq_true hlt, Nat.min_eq_left (by omega)]
      exact ⟨rfl, hM, hN⟩
  · obtain rfl : i = l.length := by omega
    refine (nxt_none h hl).mono ?_
    rintro e w' ⟨rfl, hB'⟩
    unfold atO manyO
    rw [if_neg hlt, if_neg hlt, decide_eq_false hlt, Nat.min_eq_right (by omega)]
    exact ⟨rfl, Mov.ofB hB', h.below hB'⟩
/-- append of one item. -/
theorem append_hit {base : Nat} {v : Value} {l : List Hit} {w : World} (ty : TypeId) (hO : Its base 66 v l w) (x : Hit) (hlen : l.length + 1 ≤ 1000000) (hB : base ≤ w.heap.size) :
    ∃ v' w', (Builtin.append_ #[62, 62] ty #[v, .slice (some ⟨w.heap.size, 0, none⟩) 1 1]).run Tryd.prog (w.alloc (.cells #[.int .i64 x.at_, .int .u64 x.many] 66)) = .ok v' w' ∧
      Its base 66 v' (l ++ [x]) w' ∧ Mov (fun j => v.ownBlock = some j) w w' ∧ ∀ g, v'.ownBlock = some g → v.ownBlock = some g ∨ w.heap.size ≤ g := by
  obtain ⟨i, hi, hz⟩ := Option.map_eq_some_iff.1 info_item
  simp only [Prod.mk.injEq] at hz
  obtain ⟨hz0, hz1, hz2⟩ := hz
  obtain ⟨v', w', h1, h2, h3, h4⟩ := run_append_at (P := Tryd.prog) (w.alloc (.cells #[.int .i64 x.at_, .int .u64 x.many] 66)) base 62 ty 66 i _ 2 16 Tryd.underlying62 hi hz0 hz1 hz2 rfl (by decide) v l.length (flat l) (World.ownsRow.alloc hO _) ⟨w.heap.size, 0, none⟩ 1 1 [.int .i64 x.at_, .int .u64 x.many] rfl (new_row [.int .i64 x.at_, .int .u64 x.many] 66 w)
    (one_cells x) (by unfold maxLen; omega) (by omega) (by simp; omega)
  exact ⟨v', w', h1, its_append h2, ((Mov.refl _ _).alloc _).trans (Mov.grown h3) (fun _ _ h => h), fun g hg => (h4 g hg).imp id fun e => by simp at e; omega⟩
theorem make_hits (c : Nat) (hc : c ≤ 1000000) (w : World) : ∃ w', (Instr.makeSlice 62 (.int .i64 0) (.int .i64 (c : Int))).run Tryd.prog w = .ok (.slice (some ⟨w.heap.size, 0, none⟩) 0 c) w' ∧ Its w.heap.size 66 (.slice (some ⟨w.heap.size, 0, none⟩) 0 c) [] w' ∧ Below w.heap.size w w' := by
  obtain ⟨i, hi, hz⟩ := Option.map_eq_some_iff.1 info_item
  simp only [Prod.mk.injEq] at hz
  obtain ⟨hz0, hz1, hz2⟩ := hz
  obtain ⟨w', h1, h2, h3⟩ := run_make_own (P := Tryd.prog) w w.heap.size 62 66 i _ 2 Tryd.underlying62 hi hz0 hz1 .i64 .i64 c (by rw [hz2]; omega) (by unfold maxLen; omega) (Nat.le_refl _)
  exact ⟨w', h1, h2, ⟨h3.os, h3.tape, h3.output, h3.size, fun k hk => h3.block k hk (fun e => by cases e)⟩⟩
theorem join_A {l m : List Hit} {i j : Nat} (hi : i < l.length) (h : j < m.length → l[i]!.at_ < m[j]!.at_) : join (l.drop i) (m.drop j) = l[i]! :: join (l.drop (i + 1)) (m.drop j) := by
  rw [drop_at hi]
  by_cases hj : j < m.length
  · rw [drop_at hj, join_cons, if_pos (h hj)]
  · rw [List.drop_eq_nil_of_le (show m.length ≤ j by omega), join_nil_right, join_nil_right]
theorem join_B {l m : List Hit} {i j : Nat} (hj : j < m.length) (h : i < l.length → m[j]!.at_ < l[i]!.at_) : join (l.drop i) (m.drop j) = m[j]! :: join (l.drop i) (m.drop (j + 1)) := by
  rw [drop_at hj]
  by_cases hi : i < l.length
  · have := h hi
    rw [drop_at hi, join_cons, if_neg (by omega), if_pos this]
  · rw [List.drop_eq_nil_of_le (show l.length ≤ i by omega), join_nil_left, join_nil_left]
theorem join_AB {l m : List Hit} {i j : Nat} (hi : i < l.length) (hj : j < m.length) (h : l[i]!.at_ = m[j]!.at_) : join (l.drop i) (m.drop j) = ⟨l[i]!.at_, l[i]!.many + m[j]!.many⟩ :: join (l.drop (i + 1)) (m.drop (j + 1)) := by
  rw [drop_at hi, drop_at hj, join_cons, if_neg (by omega), if_neg (by omega)]
/-- Where two rows stand that are taken together. -/
structure Tog (w0 : World) (C1 D1 C2 D2 X Y : Nat) (va vb : Value) (l m : List Hit) (i j : Nat) (v : Value) (out : List Hit) (w : World) : Prop where
  s1 : Nxt C1 D1 (min (i + 1) l.length) va w
  s2 : Nxt C2 D2 (min (j + 1) m.length) vb w
  x : CellsAt X #[.int .i64 (atO l i), .int .u64 (manyO l i)] w
  y : CellsAt Y #[.int .i64 (atO m j), .int .u64 (manyO m j)] w
  o : Its w0.heap.size 66 v out w
  ne : ∀ g, v.ownBlock = some g → g ≠ C1 ∧ g ≠ D1 ∧ g ≠ C2 ∧ g ≠ D2 ∧ g ≠ X ∧ g ≠ Y
  b : Below w0.heap.size w0 w
  d : w0.heap.size ≤ D1 ∧ D1 < C1 ∧ C1 < D2 ∧ D2 < C2 ∧ C2 < X ∧ X < Y
theorem Tog.put {w0 : World} {C1 D1 C2 D2 X Y : Nat} {va vb : Value} {l m : List Hit} {i j : Nat} {v : Value} {out : List Hit} {w : World} (h : Tog w0 C1 D1 C2 D2 X Y va vb l m i j v out w) (ty : TypeId) (x : Hit) (hlen : out.length + 1 ≤ 1000000) :
    ∃ v' w', (Builtin.append_ #[62, 62] ty #[v, .slice (some ⟨w.heap.size, 0, none⟩) 1 1]).run Tryd.prog (w.alloc (.cells #[.int .i64 x.at_, .int .u64 x.many] 66)) = .ok v' w' ∧ Tog w0 C1 D1 C2 D2 X Y va vb l m i j v' (out ++ [x]) w' := by
  obtain ⟨v', w', h1, h2, h3, h4⟩ := append_hit ty h.o x hlen h.b.size
  have hn := h.ne
  refine ⟨v', w', h1, h.s1.mov h3 (fun e => (hn _ e).1 rfl) (fun e => (hn _ e).2.1 rfl), h.s2.mov h3 (fun e => (hn _ e).2.2.1 rfl) (fun e => (hn _ e).2.2.2.1 rfl), h.x.mov h3 (fun e => (hn _ e).2.2.2.2.1 rfl), h.y.mov h3 (fun e => (hn _ e).2.2.2.2.2 rfl), h2, fun g hg => ?_, below_mov h.b h3 (fun k hk => (h.o.lt hk).1) (Nat.le_refl _), h.d⟩
  rcases h4 g hg with e | e
  · exact hn g e
  · have q1 := h.s1.ltC; have q2 := h.s1.ltD; have q3 := h.s2.ltC; have q4 := h.s2.ltD; have q5 := h.x.lt; have q6 := h.y.lt
    omega
theorem Tog.next1 {w0 : World} {C1 D1 C2 D2 X Y : Nat} {va vb : Value} {l m : List Hit} {i j : Nat} {v : Value} {out : List Hit} {w : World} (h : Tog w0 C1 D1 C2 D2 X Y va vb l m i j v out w) (hL : Lies va l w0) (hl : l.length ≤ 2001) (hi : i < l.length) :
    Calls Tryd.prog 80 #[.pointer (some ⟨C1, 0, none⟩), .pointer (some ⟨D1, 0, none⟩)] w fun e w' => e = .returned (.tuple #[.agg #[.int .i64 (atO l (i + 1)), .int .u64 (manyO l (i + 1))], .bool (decide (i + 1 < l.length))]) ∧
      CellsAt X #[.int .i64 (atO l i), .int .u64 (manyO l i)] w' ∧
      Tog w0 C1 D1 C2 D2 X Y va vb l m (i + 1) j v out ((w'.setCell ⟨X, 0, none⟩ (.int .i64 (atO l (i + 1)))).setCell ⟨X, 1, none⟩ (.int .u64 (manyO l (i + 1)))) := by
  have hd := h.d
  have s1 := h.s1
  rw [Nat.min_eq_left (show i + 1 ≤ l.length by omega)] at s1
  refine (nxt_any hL h.b s1 (by omega) (by omega) hl).mono ?_
  rintro e w' ⟨rfl, hM, hN⟩
  have hx := h.x.mov hM (by omega)
  have hM2 : Mov (fun k => k = X) w' ((w'.setCell ⟨X, 0, none⟩ (.int .i64 (atO l (i + 1)))).setCell ⟨X, 1, none⟩ (.int .u64 (manyO l (i + 1)))) := ((Mov.refl (fun k => k = X) w').set rfl 0 _).set rfl 1 _
  have hn := h.ne
  refine ⟨rfl, hx, hN.mov hM2 (by omega) (by omega), (h.s2.mov hM (by omega) (by omega)).mov hM2 (by omega) (by omega), (hx.set 0 _ (by simp)).set 1 _ (by simp), (h.y.mov hM (by omega)).mov hM2 (by omega), (h.o.mov hM (fun g hg e => (hn g hg).1 e)).mov hM2 (fun g hg e => (hn g hg).2.2.2.2.1 e), hn, ?_, hd⟩
  exact below_mov (below_mov h.b hM (by intro k hk; omega) (Nat.le_refl _)) hM2 (by intro k hk; omega) (Nat.le_refl _)
theorem Tog.next2 {w0 : World} {C1 D1 C2 D2 X Y : Nat} {va vb : Value} {l m : List Hit} {i j : Nat} {v : Value} {out : List Hit} {w : World} (h : Tog w0 C1 D1 C2 D2 X Y va vb l m i j v out w) (hL : Lies vb m w0) (hl : m.length ≤ 2001) (hi : j < m.length) :
    Calls Tryd.prog 80 #[.pointer (some ⟨C2, 0, none⟩), .pointer (some ⟨D2, 0, none⟩)] w fun e w' => e = .returned (.tuple #[.agg #[.int .i64 (atO m (j + 1)), .int .u64 (manyO m (j + 1))], .bool (decide (j + 1 < m.length))]) ∧
      CellsAt Y #[.int .i64 (atO m j), .int .u64 (manyO m j)] w' ∧
      Tog w0 C1 D1 C2 D2 X Y va vb l m i (j + 1) v out ((w'.setCell ⟨Y, 0, none⟩ (.int .i64 (atO m (j + 1)))).setCell ⟨Y, 1, none⟩ (.int .u64 (manyO m (j + 1)))) := by
  have hd := h.d
  have s2 := h.s2
  rw [Nat.min_eq_left (show j + 1 ≤ m.length by omega)] at s2
  refine (nxt_any hL h.b s2 (by omega) (by omega) hl).mono ?_
  rintro e w' ⟨rfl, hM, hN⟩
  have hx := h.y.mov hM (by omega)
  have hM2 : Mov (fun k => k = Y) w' ((w'.setCell ⟨Y, 0, none⟩ (.int .i64 (atO m (j + 1)))).setCell ⟨Y, 1, none⟩ (.int .u64 (manyO m (j + 1)))) := ((Mov.refl (fun k => k = Y) w').set rfl 0 _).set rfl 1 _
  have hn := h.ne
  refine ⟨rfl, hx, (h.s1.mov hM (by omega) (by omega)).mov hM2 (by omega) (by omega), hN.mov hM2 (by omega) (by omega), (h.x.mov hM (by omega)).mov hM2 (by omega), (hx.set 0 _ (by simp)).set 1 _ (by simp), (h.o.mov hM (fun g hg e => (hn g hg).2.2.1 e)).mov hM2 (fun g hg e => (hn g hg).2.2.2.2.2 e), hn, ?_, hd⟩
  exact below_mov (below_mov h.b hM (by intro k hk; omega) (Nat.le_refl _)) hM2 (by intro k hk; omega) (Nat.le_refl _)
set_option maxRecDepth 100000 in
set_option maxHeartbeats 8000000 in
theorem together_any {va vb : Value} {l m : List Hit} {w : World} (ha : Lies va l w) (hb : Lies vb m w) (hl : l.length ≤ 2001) (hm : m.length ≤ 2001) (hlm : ∀ x ∈ l, x.many ≤ 1099511627776) (hmm : ∀ x ∈ m, x.many ≤ 1099511627776) :
    Calls Tryd.prog 45 #[va, vb] w fun e w' => ∃ v', e = .returned v' ∧ Its w.heap.size 66 v' (join l m) w' ∧ Below w.heap.size w w' := by
  have HA := Lib.hid ha
  have HB := Lib.hid hb
  obtain ⟨pa, capa, rfl, _⟩ := ha
  obtain ⟨pb, capb, rfl, _⟩ := hb
  obtain ⟨c, hc⟩ : ∃ c, max l.length m.length = c := ⟨_, rfl⟩
  have hcI : max (l.length : Int) (m.length : Int) = (c : Int) := by omega
  have hcI2 : (if l.length < m.length then (m.length : Int) else (l.length : Int)) = (c : Int) := by split <;> omega
  obtain ⟨w1, hmk, hO1, hB1⟩ := make_hits c (by omega) w
  have ho1 := one_any pa l.length capa w1
  have HM1 := Lib.hid hlm
  have HM2 := Lib.hid hmm
  have HO1 := Lib.hid hO1
  have HB1 := Lib.hid hB1
  clear hlm hmm hO1 hB1 hc
  go_enter Tryd.func45, Tryd.ntmps45
  go_wp2
  go_step3
  go_wp2_with fail
  refine ho1.mono ?_
  rintro e w2 ⟨rfl, hB2, hN1⟩
  have HN1 := Lib.hid hN1
  have HB2 := Lib.hid hB2
  have ho2 := one_any pb m.length capb w2
  clear ho1 hB2 hN1 hmk
  go_wp2_with fail
  refine ho2.mono ?_
  rintro e w3 ⟨rfl, hB3, hN2⟩
  have hb1 := HB1.out.size
  have hb2 := HB2.out.size
  have hb3 := hB3.size
  have hz1 := HN1.out.ltC
  have hz2 := hN2.ltC
  obtain ⟨D1, hD1⟩ : ∃ D1, w1.heap.size = D1 := ⟨_, rfl⟩
  obtain ⟨C1, hC1⟩ : ∃ C1, D1 + 1 = C1 := ⟨_, rfl⟩
  obtain ⟨D2, hD2⟩ : ∃ D2, w2.heap.size = D2 := ⟨_, rfl⟩
  obtain ⟨C2, hC2⟩ : ∃ C2, D2 + 1 = C2 := ⟨_, rfl⟩
  rw [hD1, hC1] at HN1
  rw [hD1, hC1]
  rw [hD2, hC2] at hN2
  rw [hD2, hC2]
  have hBw2 := HB1.out.trans (HB2.out.mono hb1)
  have hBw3 := hBw2.trans (hB3.mono (by omega))
  have hcl := nxt_any (i := 0) HA.out hBw3 (HN1.out.below hB3) (by omega) (Nat.zero_le _) hl
  have hN2' := hN2
  have HN2 := Lib.hid hN2
  have HB3 := Lib.hid hB3
  have HBW := Lib.hid hBw3
  have hd1 : w.heap.size ≤ D1 := by omega
  have hd2 : C1 < D2 := by omega
  have hd3 : C2 < w3.heap.size := by omega
  have HO3 := Lib.hid (HO1.out.below (HB2.out.trans (HB3.out.mono hb2)))
  have hog : w.heap.size < D1 := by rw [← hD1]; exact (HO1.out.lt (g := w.heap.size) rfl).2
  clear ho2 hB3 hN2 hN2' hBw2 hBw3 hz1 hz2 hb1 hb2 hb3 hD1 hD2 HB1 HO1
  go_wp2_with fail
  refine hcl.mono ?_
  rintro e w4 ⟨rfl, hM4, hN4⟩
  have hs4 := hM4.size
  have hB4 := below_mov HBW.out hM4 (by intro k hk; omega) (Nat.le_refl _)
  have hN24 := HN2.out.mov hM4 (by omega) (by omega)
  have hO4 := HO3.out.mov hM4 (fun g hg e => by have : w.heap.size = g := by simpa [Value.ownBlock] using hg
                                                omega)
  have hPX := (Below.refl w4.heap.size w4).alloc (Nat.le_refl _) (.cells #[.int .i64 (atO l 0), .int .u64 (manyO l 0)] 66)
  have hX := CellsAt.new #[.int .i64 (atO l 0), .int .u64 (manyO l 0)] 66 w4
  have hBX := hB4.trans (hPX.mono (by omega))
  have hcl2 := nxt_any (i := 0) HB.out hBX (hN24.below hPX) (by omega) (Nat.zero_le _) hm
  have HX := Lib.hid hX
  have HBX := Lib.hid hBX
  have HN1X := Lib.hid (hN4.below hPX)
  have HN2X := Lib.hid (hN24.below hPX)
  have HOX := Lib.hid (hO4.below hPX)
  have hszX : (w4.alloc (.cells #[.int .i64 (atO l 0), .int .u64 (manyO l 0)] 66)).heap.size = w4.heap.size + 1 := by simp
  clear hcl hM4 hB4 hN24 hO4 hPX hX hBX hN4
  go_wp2_with fail
  refine hcl2.mono ?_
  rintro e w6 ⟨rfl, hM6, hN6⟩
  have hs6 := hM6.size
  rw [hszX] at hs6
  have HT : Hid (Tog w C1 D1 C2 D2 w4.heap.size w6.heap.size (.slice pa l.length capa) (.slice pb m.length capb) l m 0 0 (.slice (some ⟨w.heap.size, 0, none⟩) 0 c) [] (w6.alloc (.cells #[.int .i64 (atO m 0), .int .u64 (manyO m 0)] 66))) := by
    have hPY := (Below.refl w6.heap.size w6).alloc (Nat.le_refl _) (.cells #[.int .i64 (atO m 0), .int .u64 (manyO m 0)] 66)
    refine Lib.hid ⟨(HN1X.out.mov hM6 (by omega) (by omega)).below hPY, hN6.below hPY, (HX.out.mov hM6 (by omega)).below hPY, CellsAt.new _ _ _, (HOX.out.mov hM6 (fun g hg e => by
      have : w.heap.size = g := by simpa [Value.ownBlock] using hg
      omega)).below hPY, fun g hg => ?_, (below_mov HBX.out hM6 (by intro k hk; omega) (Nat.le_refl _)).trans (hPY.mono (by omega)), by omega⟩
    have : w.heap.size = g := by simpa [Value.ownBlock] using hg
    omega
  clear hcl2 hM6 hN6 HX HBX HN1X HN2X HOX HN1 HN2 HBW HO3 HB2 HB3 hszX hs6 hs4
  obtain ⟨X, hX⟩ : ∃ X, w4.heap.size = X := ⟨_, rfl⟩
  obtain ⟨Y, hY⟩ : ∃ Y, w6.heap.size = Y := ⟨_, rfl⟩
  rw [hX, hY] at HT
  go_wp2
  clear hX hY
  generalize w6.alloc (.cells #[.int .i64 (atO m 0), .int .u64 (manyO m 0)] 66) = W at *
  generalize hs5 : Value.slice (some ⟨w.heap.size, 0, none⟩) 0 c = v0 at *
  have HJ : Hid (([] : List Hit) ++ join (l.drop 0) (m.drop 0) = join l m) := Lib.hid (by simp)
  clear hs5 hd1 hd2 hd3 hog
  go_step3
  go_wp2
  go_loopg [5, 9, 11] (l.length + m.length) (fun g s5 s9 s11 wx => ∃ (i j : Nat) (p q : Bool) (out : List Hit), i + j + g = l.length + m.length ∧ i ≤ l.length ∧ j ≤ m.length ∧ s9 = .bool p ∧ s11 = .bool q ∧ out.length ≤ i + j ∧ Hid (p = decide (i < l.length)) ∧ Hid (q = decide (j < m.length)) ∧
    Hid (Tog w C1 D1 C2 D2 X Y (.slice pa l.length capa) (.slice pb m.length capb) l m i j s5 out wx) ∧ Hid (out ++ join (l.drop i) (m.drop j) = join l m))
  case atStart => exact ⟨0, 0, _, _, [], by omega, by omega, by omega, rfl, rfl, by simp, Lib.hid rfl, Lib.hid rfl, HT, HJ⟩
  case round =>
    clear HT HJ
    obtain ⟨i, j, p, q, out, hg, hi, hj, rfl, rfl, hol, HP, HQ, HT, HJ⟩ := hrel
    by_cases hil : i < l.length
    · by_cases hjl : j < m.length
      · by_cases hlt : l[i]!.at_ < m[j]!.at_
        · skip
          obtain rfl : p = true := by rw [HP.out]; exact decide_eq_true hil
          obtain rfl : q = true := by rw [HQ.out]; exact decide_eq_true hjl
          have x0 := HT.out.x.cell 0 _ rfl
          have x1 := HT.out.x.cell 1 _ rfl
          have y0 := HT.out.y.cell 0 _ rfl
          have y1 := HT.out.y.cell 1 _ rfl
          have ha : atO l i = l[i]!.at_ := if_pos hil
          have hm' : manyO l i = l[i]!.many := if_pos hil
          have hb : atO m j = m[j]!.at_ := if_pos hjl
          have t1 : atO l i < atO m j := by rw [ha, hb]; exact hlt
          obtain ⟨v', w', hr, hT'⟩ := HT.out.put 62 ⟨atO l i, manyO l i⟩ (by omega)
          have hn := hT'.next1 HA.out hl hil
          have HJ' : Hid ((out ++ [⟨atO l i, manyO l i⟩]) ++ join (l.drop (i + 1)) (m.drop j) = join l m) := Lib.hid (by
            have e := HJ.out
            rw [join_A hil (fun _ => hlt)] at e
            rw [← e, ha, hm', List.append_assoc]
            rfl)
          clear HT hT' HP HJ ha hm' hb
          go_wp2_with (at_builtin; refine Lib.wpList_append_run _ rfl _ _ _ _ rfl _ _ rfl rfl _ _ hr ?_)
          refine hn.mono ?_
          rintro e w7 ⟨rfl, hX7, hT7⟩
          have z0 := hX7.cell 0 _ rfl
          have z1 := hX7.cell 1 _ rfl
          have f0 := hX7.fro 0 _ rfl
          have f1 := hX7.fro 1 _ rfl
          have HT7 := Lib.hid hT7
          clear hn hX7 hT7 hr x0 x1 y0 y1
          go_wp2
          go_roundg (l.length + m.length - ((i + 1) + j))
          case measure => omega
          case rel => exact ⟨(i + 1), j, _, _, _, by omega, by omega, by omega, rfl, rfl, by rw [List.length_append, List.length_singleton]; omega, Lib.hid rfl, HQ, HT7, HJ'⟩
        · by_cases hgt : m[j]!.at_ < l[i]!.at_
          · skip
            obtain rfl : p = true := by rw [HP.out]; exact decide_eq_true hil
            obtain rfl : q = true := by rw [HQ.out]; exact decide_eq_true hjl
            have x0 := HT.out.x.cell 0 _ rfl
            have x1 := HT.out.x.cell 1 _ rfl
            have y0 := HT.out.y.cell 0 _ rfl
            have y1 := HT.out.y.cell 1 _ rfl
            have ha : atO m j = m[j]!.at_ := if_pos hjl
            have hm' : manyO m j = m[j]!.many := if_pos hjl
            have hb : atO l i = l[i]!.at_ := if_pos hil
            have t1 : decide (atO l i < atO m j) = false := decide_eq_false (by rw [ha, hb]; omega)
            have t2 : atO m j < atO l i := by rw [ha, hb]; exact hgt
            obtain ⟨v', w', hr, hT'⟩ := HT.out.put 62 ⟨atO m j, manyO m j⟩ (by omega)
            have hn := hT'.next2 HB.out hm hjl
            have HJ' : Hid ((out ++ [⟨atO m j, manyO m j⟩]) ++ join (l.drop i) (m.drop (j + 1)) = join l m) := Lib.hid (by
              have e := HJ.out
              rw [join_B hjl (fun _ => hgt)] at e
              rw [← e, ha, hm', List.append_assoc]
              rfl)
            clear HT hT' HQ HJ ha hm' hb
            go_wp2_with (at_builtin; refine Lib.wpList_append_run _ rfl _ _ _ _ rfl _ _ rfl rfl _ _ hr ?_)
            refine hn.mono ?_
            rintro e w7 ⟨rfl, hX7, hT7⟩
            have z0 := hX7.cell 0 _ rfl
            have z1 := hX7.cell 1 _ rfl
            have f0 := hX7.fro 0 _ rfl
            have f1 := hX7.fro 1 _ rfl
            have HT7 := Lib.hid hT7
            clear hn hX7 hT7 hr x0 x1 y0 y1
            go_wp2
            go_roundg (l.length + m.length - (i + (j + 1)))
            case measure => omega
            case rel => exact ⟨i, (j + 1), _, _, _, by omega, by omega, by omega, rfl, rfl, by rw [List.length_append, List.length_singleton]; omega, HP, Lib.hid rfl, HT7, HJ'⟩
          · skip
            obtain rfl : p = true := by rw [HP.out]; exact decide_eq_true hil
            obtain rfl : q = true := by rw [HQ.out]; exact decide_eq_true hjl
            have x0 := HT.out.x.cell 0 _ rfl
            have x1 := HT.out.x.cell 1 _ rfl
            have y0 := HT.out.y.cell 0 _ rfl
            have y1 := HT.out.y.cell 1 _ rfl
            have ha : atO l i = l[i]!.at_ := if_pos hil
            have hma : manyO l i = l[i]!.many := if_pos hil
            have hb : atO m j = m[j]!.at_ := if_pos hjl
            have hmb : manyO m j = m[j]!.many := if_pos hjl
            have t1 : decide (atO l i < atO m j) = false := decide_eq_false (by rw [ha, hb]; exact hlt)
            have t2 : decide (atO m j < atO l i) = false := decide_eq_false (by rw [ha, hb]; exact hgt)
            have q1 : manyO l i ≤ 1099511627776 := by rw [hma]; exact HM1.out _ (at_mem hil)
            have q2 : manyO m j ≤ 1099511627776 := by rw [hmb]; exact HM2.out _ (at_mem hjl)
            obtain ⟨v', w', hr, hT'⟩ := HT.out.put 62 ⟨atO l i, manyO l i + manyO m j⟩ (by omega)
            simp only [Int.natCast_add] at hr
            have hn := hT'.next1 HA.out hl hil
            have HJ' : Hid ((out ++ [⟨atO l i, manyO l i + manyO m j⟩]) ++ join (l.drop (i + 1)) (m.drop (j + 1)) = join l m) := Lib.hid (by
              have e := HJ.out
              rw [join_AB hil hjl (by omega)] at e
              rw [← e, ha, hma, hmb, List.append_assoc]
              rfl)
            clear HT hT' HP HQ HJ ha hma hb hmb
            go_wp2_with (at_builtin; refine Lib.wpList_append_run _ rfl _ _ _ _ rfl _ _ rfl rfl _ _ hr ?_)
            refine hn.mono ?_
            rintro e w7 ⟨rfl, hX7, hT7⟩
            have z0 := hX7.cell 0 _ rfl
            have z1 := hX7.cell 1 _ rfl
            have f0 := hX7.fro 0 _ rfl
            have f1 := hX7.fro 1 _ rfl
            have hn2 := hT7.next2 HB.out hm hjl
            clear hn hX7 hT7 hr x0 x1 y0 y1
            go_wp2_with fail
            refine hn2.mono ?_
            rintro e w8 ⟨rfl, hX8, hT8⟩
            have k0 := hX8.cell 0 _ rfl
            have k1 := hX8.cell 1 _ rfl
            have kf0 := hX8.fro 0 _ rfl
            have kf1 := hX8.fro 1 _ rfl
            have HT8 := Lib.hid hT8
            clear hn2 hX8 hT8 z0 z1 f0 f1
            go_wp2
            go_roundg (l.length + m.length - (i + 1 + (j + 1)))
            case measure => omega
            case rel => exact ⟨i + 1, j + 1, _, _, _, by omega, by omega, by omega, rfl, rfl, by rw [List.length_append, List.length_singleton]; omega, Lib.hid rfl, Lib.hid rfl, HT8, HJ'⟩
      · skip
        obtain rfl : p = true := by rw [HP.out]; exact decide_eq_true hil
        obtain rfl : q = false := by rw [HQ.out]; exact decide_eq_false hjl
        have x0 := HT.out.x.cell 0 _ rfl
        have x1 := HT.out.x.cell 1 _ rfl
        have ha : atO l i = l[i]!.at_ := if_pos hil
        have hm' : manyO l i = l[i]!.many := if_pos hil
        obtain ⟨v', w', hr, hT'⟩ := HT.out.put 62 ⟨atO l i, manyO l i⟩ (by omega)
        have hn := hT'.next1 HA.out hl hil
        have HJ' : Hid ((out ++ [⟨atO l i, manyO l i⟩]) ++ join (l.drop (i + 1)) (m.drop j) = join l m) := Lib.hid (by
          have e := HJ.out
          rw [join_A hil (fun h => absurd h hjl)] at e
          rw [← e, ha, hm', List.append_assoc]
          rfl)
        clear HT hT' HP HJ ha hm'
        go_wp2_with (at_builtin; refine Lib.wpList_append_run _ rfl _ _ _ _ rfl _ _ rfl rfl _ _ hr ?_)
        refine hn.mono ?_
        rintro e w7 ⟨rfl, hX7, hT7⟩
        have z0 := hX7.cell 0 _ rfl
        have z1 := hX7.cell 1 _ rfl
        have f0 := hX7.fro 0 _ rfl
        have f1 := hX7.fro 1 _ rfl
        have HT7 := Lib.hid hT7
        clear hn hX7 hT7 hr x0 x1
        go_wp2
        go_roundg (l.length + m.length - ((i + 1) + j))
        case measure => omega
        case rel => exact ⟨(i + 1), j, _, _, _, by omega, by omega, by omega, rfl, rfl, by rw [List.length_append, List.length_singleton]; omega, Lib.hid rfl, HQ, HT7, HJ'⟩
    · by_cases hjl : j < m.length
      · skip
        obtain rfl : p = false := by rw [HP.out]; exact decide_eq_false hil
        obtain rfl : q = true := by rw [HQ.out]; exact decide_eq_true hjl
        have y0 := HT.out.y.cell 0 _ rfl
        have y1 := HT.out.y.cell 1 _ rfl
        have ha : atO m j = m[j]!.at_ := if_pos hjl
        have hm' : manyO m j = m[j]!.many := if_pos hjl
        obtain ⟨v', w', hr, hT'⟩ := HT.out.put 62 ⟨atO m j, manyO m j⟩ (by omega)
        have hn := hT'.next2 HB.out hm hjl
        have HJ' : Hid ((out ++ [⟨atO m j, manyO m j⟩]) ++ join (l.drop i) (m.drop (j + 1)) = join l m) := Lib.hid (by
          have e := HJ.out
          rw [join_B hjl (fun h => absurd h hil)] at e
          rw [← e, ha, hm', List.append_assoc]
          rfl)
        clear HT hT' HQ HJ ha hm'
        go_wp2_with (at_builtin; refine Lib.wpList_append_run _ rfl _ _ _ _ rfl _ _ rfl rfl _ _ hr ?_)
        refine hn.mono ?_
        rintro e w7 ⟨rfl, hX7, hT7⟩
        have z0 := hX7.cell 0 _ rfl
        have z1 := hX7.cell 1 _ rfl
        have f0 := hX7.fro 0 _ rfl
        have f1 := hX7.fro 1 _ rfl
        have HT7 := Lib.hid hT7
        clear hn hX7 hT7 hr y0 y1
        go_wp2
        go_roundg (l.length + m.length - (i + (j + 1)))
        case measure => omega
        case rel => exact ⟨i, (j + 1), _, _, _, by omega, by omega, by omega, rfl, rfl, by rw [List.length_append, List.length_singleton]; omega, HP, Lib.hid rfl, HT7, HJ'⟩
      · skip
        obtain rfl : p = false := by rw [HP.out]; exact decide_eq_false hil
        obtain rfl : q = false := by rw [HQ.out]; exact decide_eq_false hjl
        have HE : Hid (out = join l m) := Lib.hid (by
          have e := HJ.out
          rw [List.drop_eq_nil_of_le (show l.length ≤ i by omega), join_nil_left, List.drop_eq_nil_of_le (show m.length ≤ j by omega), List.append_nil] at e
          exact e)
        clear HP HQ HJ
        go_wp2
        try rw [Exit.noGoto_ret]
        go_ret
        exact ⟨_, rfl, by rw [← HE.out]; exact HT.out.o, HT.out.b⟩
end Go.Proofs.YtmjipafhahggpaaDoor.Hi

