/- slices.Insert of one item into a histogram's items: the library's own text, walked. -/
import Derived.Test.YtklklpccpbhfgaaHiCpy
import Derived.Test.YtklklpccpbhfgaaHiApp
import Derived.Test.YtklklpccpbhfgaaHiClo
import Derived.Lib.Overlaps
import Derived.Lib.AppendZerosOnto
import Derived.Laws.Externs
import Derived.Laws.NewBlocks
import Derived.IntWalk
namespace Go.Proofs.Ytklklpccpbhfgaa
open Go Go.RowKit

/-- What an insertion leaves. -/
def Put1 (base T : Nat) (v : Value) (l' : List Hit) (w : World) (e : Ending) (w' : World) : Prop :=
  ∃ v', e = .returned v' ∧ Its base T v' l' w' ∧ Mov (fun j => v.ownBlock = some j) w w' ∧ ∀ g, v'.ownBlock = some g → v.ownBlock = some g ∨ w.heap.size ≤ g
theorem at_row {X : Nat} {cs : Array Value} {T : TypeId} {w : World} (hX : w.heap[X]? = some (.cells cs T (0, 0))) : ∀ j u, cs.toList[j]? = some u → w.cell? ((⟨X, 0, none⟩ : Addr).add j) = some u := by
  intro j u hj
  rw [Addr.add_lit, Nat.zero_add]
  simp only [World.cell?, hX]
  simpa using hj
set_option maxRecDepth 100000 in
set_option maxHeartbeats 4000000 in
theorem insert_nil {base X : Nat} {a : Int} {m : Nat} {w : World} (hbase : base ≤ w.heap.size) (hX : w.heap[X]? = some (.cells #[.int .i64 a, .int .u64 m] 62 (0, 0))) :
    Calls Try.prog 38 #[.slice none 0 0, .int .i64 (0 : Nat), .slice (some ⟨X, 0, none⟩) 1 1] w (Put1 base 62 (.slice none 0 0) [⟨a, m⟩] w) := by
  obtain ⟨i0, hi0, hz⟩ := Option.map_eq_some_iff.1 info_item
  simp only [Prod.mk.injEq] at hz
  obtain ⟨hz0, hz1, hz2⟩ := hz
  have HX := Lib.hid hX
  clear hX
  go_enter Try.func38, Try.ntmps38
  go_wp2_with (at_builtin; refine wpList_append_at _ rfl _ _ 59 rfl base 62 i0 _ 2 16 Try.underlying59 hi0 hz0 hz1 hz2 rfl (by decide) (.slice none 0 0) 0 [] rfl (World.ownsRow_nil _ _ _ _) ⟨X, 0, none⟩ 1 1 [.int .i64 a, .int .u64 m] rfl rfl (at_row HX.out) (one_cells ⟨a, m⟩) (by unfold maxLen; omega) (by omega) hbase ?_; intro v' w' ho hg hat; have HO := Lib.hid ho; have HG := Lib.hid hg; have HA := Lib.hid hat; clear ho hg hat)
  go_ret
  exact ⟨v', rfl, its_append (l := []) (x := ⟨a, m⟩) HO.out, Mov.grown HG.out, HA.out⟩
set_option maxRecDepth 100000 in
set_option maxHeartbeats 4000000 in
theorem insert_end {base g cap X : Nat} {l : List Hit} {a : Int} {m : Nat} {w : World} (hbase : base ≤ w.heap.size) (h : Its base 62 (.slice (some ⟨g, 0, none⟩) l.length cap) l w) (hl : l.length ≤ 2001) (hX : w.heap[X]? = some (.cells #[.int .i64 a, .int .u64 m] 62 (0, 0))) :
    Calls Try.prog 38 #[.slice (some ⟨g, 0, none⟩) l.length cap, .int .i64 l.length, .slice (some ⟨X, 0, none⟩) 1 1] w (Put1 base 62 (.slice (some ⟨g, 0, none⟩) l.length cap) (l ++ [⟨a, m⟩]) w) := by
  obtain ⟨i0, hi0, hz⟩ := Option.map_eq_some_iff.1 info_item
  simp only [Prod.mk.injEq] at hz
  obtain ⟨hz0, hz1, hz2⟩ := hz
  have HX := Lib.hid hX
  have H := Lib.hid h
  obtain ⟨_, cap', hv, h1, h2⟩ := h.cap
  simp only [Value.slice.injEq, true_and] at hv
  obtain ⟨rfl, rfl⟩ := hv
  unfold maxLen at h2
  clear hX h
  go_enter Try.func38, Try.ntmps38
  go_wp2_with (at_builtin; refine wpList_append_at _ rfl _ _ 59 rfl base 62 i0 _ 2 16 Try.underlying59 hi0 hz0 hz1 hz2 rfl (by decide) (.slice (some ⟨g, 0, none⟩) l.length cap) l.length (flat l) rfl H.out ⟨X, 0, none⟩ 1 1 [.int .i64 a, .int .u64 m] rfl rfl (at_row HX.out) (one_cells ⟨a, m⟩) (by unfold maxLen; omega) (by omega) hbase ?_; intro v' w' ho hg hat; have HO := Lib.hid ho; have HG := Lib.hid hg; have HA := Lib.hid hat; clear ho hg hat)
  all_goals
    go_ret
    exact ⟨v', rfl, its_append (l := l) (x := ⟨a, m⟩) HO.out, Mov.grown HG.out, HA.out⟩
theorem shape_row {X : Nat} {cs : Array Value} {T : TypeId} {w : World} (hX : w.heap[X]? = some (.cells cs T (0, 0))) : w.shape? X = some (T, cs.size) := by unfold World.shape?; rw [hX]
theorem frozen_row {X : Nat} {cs : Array Value} {T : TypeId} {w : World} (hX : w.heap[X]? = some (.cells cs T (0, 0))) (j : Nat) : w.frozen? ⟨X, j, none⟩ = false := by unfold World.frozen?; rw [hX]; rfl
theorem size_item : (Try.prog.info? 62).map (·.size) = some 2 := by kernel_rfl
set_option maxRecDepth 100000 in
set_option maxHeartbeats 4000000 in
theorem insert_shift {base g cap X p : Nat} {l : List Hit} {a : Int} {m : Nat} {w : World} (h : Its base 62 (.slice (some ⟨g, 0, none⟩) l.length cap) l w) (hl : l.length ≤ 2001) (hX : w.heap[X]? = some (.cells #[.int .i64 a, .int .u64 m] 62 (0, 0))) (hgX : X ≠ g) (hp : p < l.length) (hroom : l.length < cap) :
    Calls Try.prog 38 #[.slice (some ⟨g, 0, none⟩) l.length cap, .int .i64 p, .slice (some ⟨X, 0, none⟩) 1 1] w (Put1 base 62 (.slice (some ⟨g, 0, none⟩) l.length cap) (l.take p ++ ⟨a, m⟩ :: l.drop p) w) := by
  rcases h.2 with ⟨h0, _⟩ | ⟨g', cap', cur, hv, hb, hg, h1, h2, h3, h4⟩
  · cases h0
  simp only [Value.slice.injEq, Option.some.injEq, Addr.mk.injEq, and_true, true_and] at hv
  obtain ⟨rfl, rfl⟩ := hv
  unfold maxLen at h2
  have hF := flatv_length l
  have hfl : (flat (l.take p ++ ⟨a, m⟩ :: l.drop p)) = (flat l).take (p * 2) ++ [.int .i64 a, .int .u64 m] ++ (flat l).drop (p * 2) := by
    rw [flat_append, flat_cons, ← flat_take, ← flat_drop]
    simp [encI]
  obtain ⟨e1, e2, e3⟩ := shifted (F := flat l) (c := cur.toList) (n := l.length) (p := p) (m := cap * 2) (u := [.int .i64 a, .int .u64 m]) hF hp h4 (by rw [show cur.toList.length = cur.size from Array.length_toList, h3]; omega) rfl (by rw [show cur.toList.length = cur.size from Array.length_toList, h3])
  have hsrc := World.ownsRow.cellAt h
  have hone := oneCells l
  have HL := Lib.hid hfl
  have hln : (l.take p ++ (⟨a, m⟩ : Hit) :: l.drop p).length = l.length + 1 := by simp; omega
  have HLN := Lib.hid hln
  clear hfl hln h4
  have hov : ∀ lb cb, (callFunc 56 #[.slice (some ⟨X, 0, none⟩) 1 1, .slice (some ⟨g, (p + 1) * 2, none⟩) lb cb]).run Try.prog w = .ok (.value (.bool false)) w := fun lb cb => by
    rw [run_callFunc_extern Try.func56 (by kernel_rfl) (by kernel_rfl) (by kernel_rfl) (e := Extern.SlicesOverlaps.overlaps #[59, 59] #[4]) (by kernel_rfl),
      Lib.run_overlaps_apart w 59 4 62 Try.underlying59 2 Try.sizeOf62 ⟨X, 0, none⟩ ⟨g, (p + 1) * 2, none⟩ 1 1 lb cb hgX _ _ _ _ (shape_row hX) (shape_row hg) (by rw [h3]; omega) (frozen_row hX 0) (frozen_row hX _)]
    rfl
  generalize hn : l.length = n at *
  have HN := Lib.hid hn
  clear hn
  have hcp1 : ∀ ty dc sc, (Builtin.copy_ #[59, 59] ty #[.slice (some ⟨g, (p + 1) * 2, none⟩) (n + 1 - (p + 1)) dc, .slice (some ⟨g, p * 2, none⟩) (n + 1 - p) sc]).run Try.prog w.drew = .ok (goInt (n - p : Nat)) (w.drew.setRow g (cur.toList.take ((p + 1) * 2) ++ (flat l).drop (p * 2) ++ cur.toList.drop ((p + 1) * 2 + ((flat l).drop (p * 2)).length)).toArray) := fun ty dc sc => by
    have hh := run_copy2 (P := Try.prog) w.drew 59 59 ty 62 g ((p + 1) * 2) (n + 1 - (p + 1)) dc ⟨g, p * 2, none⟩ (n + 1 - p) sc cur 62 ((flat l).drop (p * 2)) Try.underlying59 size_item hg
      (by rw [List.length_drop, hF]; simp only [Nat.min_def]; split <;> omega)
      (fun j v hj => by
        rw [List.getElem?_drop] at hj
        have hlj : p * 2 + j < n * 2 := by rw [← hF]; exact (List.getElem?_eq_some_iff.1 hj).1
        rw [Addr.add_lit]
        show w.cell? _ = _
        rw [hsrc (p * 2 + j) hlj]
        exact hj)
      (by rw [List.length_drop, hF, h3]; omega) (fun v hv => hone v (List.mem_of_mem_drop hv))
    rw [show (n + 1 - p).min (n + 1 - (p + 1)) = n - p by simp only [Nat.min_def]; split <;> omega] at hh
    exact hh
  obtain ⟨C1, hC1⟩ : ∃ C1 : List Value, C1 = cur.toList.take ((p + 1) * 2) ++ (flat l).drop (p * 2) ++ cur.toList.drop ((p + 1) * 2 + ((flat l).drop (p * 2)).length) := ⟨_, rfl⟩
  rw [← hC1] at hcp1 e1 e2 e3
  have hg1 : (w.drew.setRow g C1.toArray).heap[g]? = some (.cells C1.toArray 62 (0, 0)) := setRow_heap w.drew g cur _ _ _ hg
  have hX1 : (w.drew.setRow g C1.toArray).heap[X]? = some (.cells #[.int .i64 a, .int .u64 m] 62 (0, 0)) := (setRow_other w.drew g X _ hgX).trans hX
  have hcp2 : ∀ ty dc, (Builtin.copy_ #[59, 59] ty #[.slice (some ⟨g, p * 2, none⟩) (n + 1 - p) dc, .slice (some ⟨X, 0, none⟩) 1 1]).run Try.prog (w.drew.setRow g C1.toArray) = .ok (goInt (1 : Nat)) (w.drew.setRow g (C1.take (p * 2) ++ [Value.int .i64 a, .int .u64 m] ++ C1.drop (p * 2 + 2)).toArray) := fun ty dc => by
    have hh := run_copy2 (P := Try.prog) (w.drew.setRow g C1.toArray) 59 59 ty 62 g (p * 2) (n + 1 - p) dc ⟨X, 0, none⟩ 1 1 C1.toArray 62 [.int .i64 a, .int .u64 m] Try.underlying59 size_item hg1
      (by simp only [Nat.min_def]; split <;> simp <;> omega) (at_row hX1) (by rw [List.size_toArray, e1]; simp; omega) (one_cells ⟨a, m⟩)
    rw [show Nat.min 1 (n + 1 - p) = 1 by simp only [Nat.min_def]; split <;> omega, setRow_setRow] at hh
    exact hh
  obtain ⟨C2, hC2⟩ : ∃ C2 : List Value, C2 = C1.take (p * 2) ++ [Value.int .i64 a, .int .u64 m] ++ C1.drop (p * 2 + 2) := ⟨_, rfl⟩
  rw [← hC2] at hcp2
  have e2' : C2.length = cap * 2 := by rw [hC2]; exact e2
  have e3' : C2.take ((n + 1) * 2) = (flat l).take (p * 2) ++ [.int .i64 a, .int .u64 m] ++ (flat l).drop (p * 2) := by rw [hC2]; exact e3
  have hg2 := setRow_heap w.drew g cur C2.toArray _ _ hg
  have HG2 := Lib.hid hg2
  have HB := Lib.hid hb
  have HE2 := Lib.hid e2'
  have HE3 := Lib.hid e3'
  clear hC1 hC2 e1 e2 e3 e2' e3' hg1 hX1 hg2 hsrc hone h hb hF h3 hX hg hgX
  have hw1 : IntKind.i64.wrap ((p : Int) + 1) = (p : Int) + 1 := by rw [IntKind.wrap_i64]; omega
  have hb0 : (0 : Int) ≤ (p : Int) + 1 := by omega
  have htn : ((p : Int) + 1).toNat = p + 1 := by omega
  have hb1 : (p : Int) ≤ (n : Int) := by omega
  have hb6 : (p : Int) ≤ (n : Int) + 1 := by omega
  have hz2 : ¬ ((p : Int) = (n : Int)) := by omega
  have hb2 : ¬ (cap = p + 1) := by omega
  have hb4 : ¬ (cap = p) := by omega
  have hb3 : (p : Int) + 1 ≤ (n : Int) + 1 := by omega
  have hb5 : (n : Int) + 1 ≤ (cap : Int) := by omega
  go_enter Try.func38, Try.ntmps38
  go_wp2_with (simp only [hov])
  go_region_law (refine step_copyR rfl (.tmp 73) (.tmp 76) 59 rfl (.slice (some ⟨g, (p + 1) * 2, none⟩) (n + 1 - (p + 1)) (cap - (p + 1))) (.slice (some ⟨g, p * 2, none⟩) (n + 1 - p) (cap - p)) (by simp [Act.eval, Act.put]) (by simp [Act.eval, Act.put]) (hcp1 _ _ _) ?_)
  all_goals
    go_wp2_with (at_builtin; refine wpList_copyR _ rfl _ _ 59 rfl _ _ rfl rfl (hcp2 _ _) ?_)
    go_ret
    refine ⟨_, rfl, ?_, ⟨rfl, rfl, rfl, by simp, fun k hk hn => setRow_other w.drew g k _ (fun e => hn (by rw [e]; rfl))⟩, fun j hj => .inl hj⟩
    unfold Its
    rw [HLN.out, HL.out]
    exact ⟨by have := HE3.out; rw [← this]; simp [HE2.out]; omega, .inr ⟨g, cap, C2.toArray, rfl, HB.out, HG2.out, by omega, by unfold maxLen; omega, by simp [HE2.out], HE3.out⟩⟩
set_option maxRecDepth 100000 in
set_option maxHeartbeats 4000000 in
theorem insert_grow {base g cap X p : Nat} {l : List Hit} {a : Int} {m : Nat} {w : World} (hbase : base ≤ w.heap.size) (h : Its base 62 (.slice (some ⟨g, 0, none⟩) l.length cap) l w) (hl : l.length ≤ 2001) (hX : w.heap[X]? = some (.cells #[.int .i64 a, .int .u64 m] 62 (0, 0))) (hp : p < l.length) (hroom : ¬ l.length < cap) :
    Calls Try.prog 38 #[.slice (some ⟨g, 0, none⟩) l.length cap, .int .i64 p, .slice (some ⟨X, 0, none⟩) 1 1] w (Put1 base 62 (.slice (some ⟨g, 0, none⟩) l.length cap) (l.take p ++ ⟨a, m⟩ :: l.drop p) w) := by
  rcases h.2 with ⟨h0, _⟩ | ⟨g', cap', cur, hv, hb, hg, h1, h2, h3, h4⟩
  · cases h0
  simp only [Value.slice.injEq, Option.some.injEq, Addr.mk.injEq, and_true, true_and] at hv
  obtain ⟨rfl, rfl⟩ := hv
  obtain ⟨i0, hi0, hz⟩ := Option.map_eq_some_iff.1 info_item
  simp only [Prod.mk.injEq] at hz
  obtain ⟨hz0, hz1, hz2⟩ := hz
  have hF := flatv_length l
  have hfl : (flat (l.take p ++ ⟨a, m⟩ :: l.drop p)) = (flat l).take (p * 2) ++ [.int .i64 a, .int .u64 m] ++ (flat l).drop (p * 2) := by
    rw [flat_append, flat_cons, ← flat_take, ← flat_drop]
    simp [encI]
  have hsrc := World.ownsRow.cellAt h
  have hone := oneCells l
  have hln : (l.take p ++ (⟨a, m⟩ : Hit) :: l.drop p).length = l.length + 1 := by simp; omega
  generalize hn : l.length = n at *
  obtain rfl : cap = n := by omega
  have hgw : g < w.heap.size := (Array.getElem?_eq_some_iff.1 hg).1
  have hXw : X < w.heap.size := (Array.getElem?_eq_some_iff.1 hX).1
  have hold : (Builtin.firstCells i0.size p (.slice (some ⟨g, 0, none⟩) p cap)).run Try.prog w.drew = .ok ((flat l).take (p * 2)).toArray w.drew := by
    rw [hz1]
    exact run_firstCells_some w.drew 2 p ⟨g, 0, none⟩ p cap ((flat l).take (p * 2)) (by rw [List.length_take, hF]; omega) (fun j v hj => by
      rw [List.getElem?_take] at hj
      split at hj
      · rename_i hjp
        rw [Addr.add_lit, Nat.zero_add]
        show w.cell? _ = _
        rw [hsrc j (by omega)]
        exact hj
      · cases hj)
  have hik : p + (cap + 1 - p) = cap + 1 := by omega
  have hkk : (cap : Int) + 1 - (p : Int) = ((cap + 1 - p : Nat) : Int) := by omega
  obtain ⟨G, hG⟩ : ∃ G, G = grownCap w (cap + 1) cap 62 := ⟨_, rfl⟩
  have hGn : cap + 1 ≤ G := by rw [hG]; exact grownCap_ge w _ _ _
  have hGm : G ≤ maxLen := by rw [hG]; exact grownCap_le_maxLen w _ _ _ (by unfold maxLen; omega)
  obtain ⟨Z, hZ⟩ : ∃ Z : Array Value, Z = Builtin.zeroCells (Value.agg #[.int .i64 0, .int .u64 0]).cells (cap + 1 - p) ++ Builtin.zeroCells (Value.agg #[.int .i64 0, .int .u64 0]).cells (G - (cap + 1)) := ⟨_, rfl⟩
  have hZs : Z.toList.length = (cap + 1 - p) * 2 + (G - (cap + 1)) * 2 := by
    rw [hZ]
    simp [size_zeroCells, Value.cells]
  have hrz : ∀ ty, (Builtin.append_ #[59, 3] ty #[.slice (some ⟨g, 0, none⟩) p cap, .int .i64 ((cap : Int) + 1 - (p : Int))]).run Try.prog w =
      .ok (.slice (some ⟨w.heap.size, 0, none⟩) (cap + 1) G) (w.drew.alloc (.cells ((flat l).take (p * 2) ++ Z.toList).toArray 62)) := fun ty => by
    have hh := Lib.run_append_grow_zeros w 59 3 ty 62 i0 _ .i64 .i64 Try.underlying59 Try.underlying3 hi0 hz0 (some ⟨g, 0, none⟩) p cap ((flat l).take (p * 2)) hold (cap + 1 - p) (by omega) (by omega) (by omega) (by omega) (by rw [hz2]; omega) (by rw [hz2, hik]; exact growslice_fits (by omega) (by omega))
    rw [hik, ← hG] at hh
    rw [hkk, hh]
    congr 3
    rw [hZ]
    simp
  obtain ⟨e1, e2, e3⟩ := laid (F := flat l) (Z := Z.toList) (n := cap) (p := p) (u := [Value.int .i64 a, .int .u64 m]) hF hp (by omega) rfl
  obtain ⟨R0, hR0⟩ : ∃ R0 : List Value, R0 = (flat l).take (p * 2) ++ Z.toList := ⟨_, rfl⟩
  have hR0l : R0.length = G * 2 := by rw [hR0, List.length_append, hZs, List.length_take, hF]; omega
  rw [← hR0] at hrz e1 e2 e3
  obtain ⟨R1, hR1⟩ : ∃ R1 : List Value, R1 = R0.take (p * 2) ++ [Value.int .i64 a, .int .u64 m] ++ R0.drop (p * 2 + 2) := ⟨_, rfl⟩
  have e1' : R1.length = G * 2 := by rw [hR1, ← hR0l]; exact e1
  obtain ⟨R2, hR2⟩ : ∃ R2 : List Value, R2 = R1.take ((p + 1) * 2) ++ (flat l).drop (p * 2) ++ R1.drop ((p + 1) * 2 + ((flat l).drop (p * 2)).length) := ⟨_, rfl⟩
  have e2' : R2.length = G * 2 := by rw [hR2, hR1, ← hR0l]; exact e2
  have e3' : R2.take ((cap + 1) * 2) = (flat l).take (p * 2) ++ [Value.int .i64 a, .int .u64 m] ++ (flat l).drop (p * 2) := by rw [hR2, hR1]; exact e3
  have hcpA : ∀ (W : World), W.heap[w.heap.size]? = some (.cells R0.toArray 62 (0, 0)) → W.heap[X]? = some (.cells #[.int .i64 a, .int .u64 m] 62 (0, 0)) → ∀ ty dc, (Builtin.copy_ #[59, 59] ty #[.slice (some ⟨w.heap.size, p * 2, none⟩) (cap + 1 - p) dc, .slice (some ⟨X, 0, none⟩) 1 1]).run Try.prog W = .ok (goInt (1 : Nat)) (W.setRow w.heap.size R1.toArray) := fun W hN hXW ty dc => by
    have hh := run_copy2 (P := Try.prog) W 59 59 ty 62 w.heap.size (p * 2) (cap + 1 - p) dc ⟨X, 0, none⟩ 1 1 R0.toArray 62 [.int .i64 a, .int .u64 m] Try.underlying59 size_item hN
      (by simp only [Nat.min_def]; split <;> simp <;> omega) (at_row hXW) (by rw [List.size_toArray, hR0l]; simp; omega) (one_cells ⟨a, m⟩)
    rw [show Nat.min 1 (cap + 1 - p) = 1 by simp only [Nat.min_def]; split <;> omega] at hh
    rw [hR1]
    exact hh
  have hcpB : ∀ (W : World), W.heap[w.heap.size]? = some (.cells R1.toArray 62 (0, 0)) → W.heap[g]? = some (.cells cur 62 (0, 0)) → ∀ ty dc sc, (Builtin.copy_ #[59, 59] ty #[.slice (some ⟨w.heap.size, (p + 1) * 2, none⟩) (cap + 1 - (p + 1)) dc, .slice (some ⟨g, p * 2, none⟩) (cap - p) sc]).run Try.prog W = .ok (goInt (cap - p : Nat)) (W.setRow w.heap.size R2.toArray) := fun W hN hgW ty dc sc => by
    have hh := run_copy2 (P := Try.prog) W 59 59 ty 62 w.heap.size ((p + 1) * 2) (cap + 1 - (p + 1)) dc ⟨g, p * 2, none⟩ (cap - p) sc R1.toArray 62 ((flat l).drop (p * 2)) Try.underlying59 size_item hN
      (by rw [List.length_drop, hF]; simp only [Nat.min_def]; split <;> omega)
      (fun j v hj => by
        rw [List.getElem?_drop] at hj
        have hlj : p * 2 + j < cap * 2 := by rw [← hF]; exact (List.getElem?_eq_some_iff.1 hj).1
        rw [Addr.add_lit]
        have hc := hsrc (p * 2 + j) hlj
        rw [World.cell?_of_block (w := w) (show W.heap[(⟨g, p * 2 + j, none⟩ : Addr).block]? = w.heap[(⟨g, p * 2 + j, none⟩ : Addr).block]? from hgW.trans hg.symm), hc]
        exact hj)
      (by rw [List.length_drop, hF, List.size_toArray, e1']; omega) (fun v hv => hone v (List.mem_of_mem_drop hv))
    rw [show Nat.min (cap - p) (cap + 1 - (p + 1)) = cap - p by simp only [Nat.min_def]; split <;> omega] at hh
    rw [hR2]
    exact hh
  have hN0 : (w.alloc (.cells R0.toArray 62)).heap[w.heap.size]? = some (.cells R0.toArray 62 (0, 0)) := heap_alloc_new w _
  have hX0 : (w.alloc (.cells R0.toArray 62)).heap[X]? = some (.cells #[.int .i64 a, .int .u64 m] 62 (0, 0)) := (heap_alloc_old w _ hXw).trans hX
  have hg0 : (w.alloc (.cells R0.toArray 62)).heap[g]? = some (.cells cur 62 (0, 0)) := (heap_alloc_old w _ hgw).trans hg
  have hN1 := setRow_heap _ w.heap.size _ R1.toArray _ _ hN0
  have hg1 := (setRow_other (w.alloc (.cells R0.toArray 62)) w.heap.size g R1.toArray (by omega)).trans hg0
  have hN2 := setRow_heap _ w.heap.size _ R2.toArray _ _ hN1
  have HL := Lib.hid hfl
  have HLN := Lib.hid hln
  have HN0 := Lib.hid hN0
  have HX0 := Lib.hid hX0
  have HN1 := Lib.hid hN1
  have hcA := hcpA (w.alloc (.cells R0.toArray 62)).drew hN0 hX0
  clear hcpA
  have HG1 := Lib.hid hg1
  have HN2 := Lib.hid hN2
  have HBS := Lib.hid hbase
  have HE2 := Lib.hid e2'
  have HE3 := Lib.hid e3'
  have HGM := Lib.hid hGm
  have hG63 : G ≤ 9223372036854775807 := by unfold maxLen at hGm; omega
  have hGi : ¬ (G = p) := by omega
  have hGim : ¬ (G = p + 1) := by omega
  have hci : ¬ (cap = p) := by omega
  have hz2' : ¬ ((p : Int) = (cap : Int)) := by omega
  have hw1 : IntKind.i64.wrap ((p : Int) + 1) = (p : Int) + 1 := by rw [IntKind.wrap_i64]; omega
  have hb0 : (0 : Int) ≤ (p : Int) + 1 := by omega
  have htn : ((p : Int) + 1).toNat = p + 1 := by omega
  have hb1 : (p : Int) ≤ (cap : Int) := by omega
  have hb6 : (p : Int) ≤ (cap : Int) + 1 := by omega
  clear hfl hln hN0 hX0 hN1 hg1 hN2 hbase e2' e3' hGm e1 e2 e3 e1' hR0 hR0l hR1 hR2 hZ hZs hold hik hkk hsrc hone hF h3 h4 h hg hX hg0 hn hz0 hz1 hz2 hi0 hgw hXw hG hb
  go_enter Try.func38, Try.ntmps38
  go_wp2_with (at_builtin; refine Lib.wpList_append_run _ rfl _ _ _ _ rfl _ _ rfl rfl _ _ (hrz _) ?_)
  go_region_law (refine step_copyR rfl (.tmp 50) (.tmp 53) 59 rfl (.slice (some ⟨w.heap.size, (p + 1) * 2, none⟩) (cap + 1 - (p + 1)) (G - (p + 1))) (.slice (some ⟨g, p * 2, none⟩) (cap - p) (cap - p)) (by simp [Act.eval, Act.put]) (by simp [Act.eval, Act.put]) (hcpB ((w.alloc (.cells R0.toArray 62)).drew.setRow w.heap.size R1.toArray).drew HN1.out HG1.out _ _ _) ?_)
  all_goals
    go_wp2
    go_ret
    refine ⟨_, rfl, ?_, ?_, fun j hj => .inr (by simp [Value.ownBlock] at hj; omega)⟩
    · unfold Its
      rw [HLN.out, HL.out]
      exact ⟨by have := HE3.out; rw [← this]; simp [HE2.out]; omega, .inr ⟨w.heap.size, G, R2.toArray, rfl, HBS.out, HN2.out, by omega, HGM.out, by simp [HE2.out], HE3.out⟩⟩
    · refine ⟨rfl, rfl, rfl, by simp, fun k hk hn => ?_⟩
      have e1 := setRow_other ((w.alloc (.cells R0.toArray 62)).drew.setRow w.heap.size R1.toArray).drew w.heap.size k R2.toArray (by omega)
      have e2 := setRow_other (w.alloc (.cells R0.toArray 62)).drew w.heap.size k R1.toArray (by omega)
      exact e1.trans (e2.trans (heap_alloc_old w _ hk))
/-- An item put in at its place. -/
theorem insert_any {base X p : Nat} {v : Value} {l : List Hit} {a : Int} {m : Nat} {w : World} (hbase : base ≤ w.heap.size) (h : Its base 62 v l w) (hl : l.length ≤ 2001) (hX : w.heap[X]? = some (.cells #[.int .i64 a, .int .u64 m] 62 (0, 0))) (hne : v.ownBlock ≠ some X) (hp : p ≤ l.length) :
    Calls Try.prog 38 #[v, .int .i64 p, .slice (some ⟨X, 0, none⟩) 1 1] w (Put1 base 62 v (l.take p ++ ⟨a, m⟩ :: l.drop p) w) := by
  rcases h.form with ⟨rfl, rfl⟩ | ⟨g, cap, rfl, hb, hg, h1, h2, hcell, hfro⟩
  · obtain rfl : p = 0 := by simpa using hp
    exact insert_nil hbase hX
  · by_cases he : p = l.length
    · subst he
      rw [List.take_length, List.drop_length]
      exact insert_end hbase h hl hX
    · by_cases hr : l.length < cap
      · exact insert_shift h hl hX (fun e => hne (by rw [e]; rfl)) (by omega) hr
      · exact insert_grow hbase h hl hX (by omega) hr
end Go.Proofs.Ytklklpccpbhfgaa
