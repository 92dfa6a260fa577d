/- A histogram's small calls: a new one, its bits, how many there are, what tells its items one by one, ranks. Where a bucket stands among a histogram's items: the library's binary search, with the closure that compares. copy of items of two cells each, into a row that is known whole; as a step of a list, and of a region that draws. slices.Insert of one item into a histogram's items: the library's own text, walked. A number comes to a histogram. -/
import Derived.Test.YtmjipafhahggpaaDoorMcT
import Derived.Test.YtmjipafhahggpaaDoorMcB
import Derived.Deep.LoopGhost
import Derived.Deep.QuietTactic
import Derived.BigQuiet
import Derived.IntWalk
import Derived.Laws.CopyRow
import Derived.Laws.CopyOwn
import Derived.Deep.RegionLaw
import Derived.Lib.Overlaps
import Derived.Lib.AppendZerosOnto
import Derived.Laws.Externs
import Derived.Laws.NewBlocks
namespace Go.Proofs.YtmjipafhahggpaaDoor.Hi
open Go Go.RowKit

set_option maxHeartbeats 1000000 in
theorem new_out (x : Int) (h : x < 0 ∨ 4 < x) (w : World) :
    Calls Tryd.prog 34 #[.int .i64 x] w fun e w' => e = .returned (.tuple #[.pointer none, .int .i64 1]) ∧ Below w.heap.size w w' := by
  have hm := most_out x h w
  clear h
  go_enter Tryd.func34, Tryd.ntmps34
  go_wp2_with fail
  refine hm.mono ?_
  rintro e w1 ⟨rfl, hB⟩
  go_wp2
  go_ret2
  exact ⟨rfl, hB⟩
set_option maxHeartbeats 1000000 in
theorem new_any (k : Nat) (hk : k ≤ 4) (w : World) :
    Calls Tryd.prog 34 #[.int .i64 k] w fun e w' => ∃ B, e = .returned (.tuple #[.pointer (some ⟨B, 0, none⟩), .int .i64 0]) ∧ Below w.heap.size w w' ∧ w.heap.size ≤ B ∧ Hs w.heap.size 66 B k (.slice none 0 0) [] w' := by
  have hm := most_any k hk w
  have HK := Lib.hid hk
  go_enter Tryd.func34, Tryd.ntmps34
  go_wp2_with fail
  refine hm.mono ?_
  rintro e w1 ⟨rfl, hB⟩
  have hM0 : ¬ ((mst k : Int) < 0) := by omega
  clear hm
  generalize mst k = M at *
  go_wp2
  go_ret2
  have hC := CellsAt.new #[.int .i64 k, .slice none 0 0] 64 w1
  exact ⟨w1.heap.size, rfl, hB.alloc hB.size _, hB.size, hC.lt, hB.size, Inv.nil HK.out, hC.cell 0 _ rfl, hC.cell 1 _ rfl, hC.fro 1 _ rfl, Its.nil _ _ _, by simp [Value.ownBlock]⟩
theorem bits_any {base B k : Nat} {v : Value} {l : List Hit} {w : World} (h : Hs base 66 B k v l w) :
    Calls Tryd.prog 35 #[.pointer (some ⟨B, 0, none⟩)] w fun e w' => e = .returned (.int .i64 k) ∧ w = w' := by
  have c0 := h.c0
  clear h
  go_enter Tryd.func35, Tryd.ntmps35
  go_wp2
  go_ret
  exact ⟨rfl, rfl⟩
set_option maxHeartbeats 2000000 in
/-- How many there are. -/
theorem count_row {B cap : Nat} {p : Option Addr} {l : List Hit} {w : World} {base : Nat} (c1 : w.cell? ⟨B, 1, none⟩ = some (.slice p l.length cap)) (hr : Its base 66 (.slice p l.length cap) l w) (hl : l.length ≤ 65535) (hm : ∀ x ∈ l, x.many < 281474976710656) :
    Calls Tryd.prog 15 #[.pointer (some ⟨B, 0, none⟩)] w fun e w' => e = .returned (.int .u64 (countH l)) ∧ Below w.heap.size w w' := by
  have HL := Lib.hid hr.form
  have hsum : ∀ k, k ≤ l.length → countH (l.take k) ≤ k * 281474976710655 := by
    intro k
    induction k with
    | zero => intro _; simp [countH]
    | succ k ih =>
      intro hk
      have h1 := countH_take_succ l k (by omega)
      have h2 := hm _ (at_mem (show k < l.length by omega))
      have h3 := ih (by omega)
      omega
  have HM := Lib.hid hm
  clear hr hm
  obtain ⟨n, hn⟩ : ∃ n, l.length = n := ⟨_, rfl⟩
  have HN := Lib.hid hn
  rw [hn] at hl c1 hsum
  have HS0 := Lib.hid hsum
  clear hn hsum
  go_enter Tryd.func15, Tryd.ntmps15
  go_wp2
  go_loopg [3, 11] (n) (fun g s i wx => ∃ k : Nat, k + g = n ∧ i = .int .i64 k ∧ s = .int .u64 (countH (l.take k)) ∧ Below w.heap.size w wx)
  case atStart => exact ⟨0, by omega, rfl, rfl, Below.refl _ _⟩
  case round =>
    obtain ⟨k, hkg, rfl, rfl, hB⟩ := hrel
    cases gk with
    | zero =>
      obtain rfl : k = n := by omega
      have HE : Hid (countH (l.take k) = countH l) := Lib.hid (by rw [List.take_of_length_le (by rw [HN.out]; exact Nat.le_refl _)])
      go_wp2
      go_ret
      exact ⟨by rw [HE.out]; rfl, hB⟩
    | succ g =>
      have hk : k < n := by omega
      rcases HL.out with ⟨_, h0⟩ | ⟨gg, cap', e, _, hg, _, _, hc, _⟩
      · rw [← HN.out, h0] at hk; cases hk
      · simp only [Value.slice.injEq] at e
        obtain ⟨rfl, _, rfl⟩ := e
        obtain ⟨c10, c11⟩ := hc k (by rw [HN.out]; exact hk)
        have d0 := (hB.cell (p := ⟨gg, k * 2, none⟩) hg).trans c10
        have d1 := (hB.cell (p := ⟨gg, k * 2 + 1, none⟩) hg).trans c11
        have hs := countH_take_succ l k (by rw [HN.out]; exact hk)
        have hle := HS0.out k (by omega)
        have hmm := HM.out _ (at_mem (show k < l.length by rw [HN.out]; exact hk))
        have HS := Lib.hid hs
        generalize l[k]!.at_ = nm at *
        generalize l[k]!.many = m at *
        have hsm : countH (l.take k) + m < 18446744073709551616 := by omega
        clear c10 c11 hc hs hle hmm
        generalize countH (l.take k) = q at *
        go_wp2
        go_roundg g
        case measure => omega
        case rel => exact ⟨k + 1, by omega, by go_num, by rw [HS.out]; go_num, hB.trans ((Below.refl _ _).alloc hB.size _)⟩
theorem count_any {base B k : Nat} {v : Value} {l : List Hit} {w : World} (h : Hs base 66 B k v l w) :
    Calls Tryd.prog 15 #[.pointer (some ⟨B, 0, none⟩)] w fun e w' => e = .returned (.int .u64 (countH l)) ∧ Below w.heap.size w w' := by
  obtain ⟨p, cap, rfl, hcap, hmax⟩ := h.row.cap
  have h1 := h.inv.len
  have h2 := h.inv.sum
  exact count_row h.c1 h.row (by omega) (fun x hx => by have := many_le_count hx; omega)

/-- What tells items one by one, at the i-th: two cells of its own. -/
structure Nxt (C D i : Nat) (v : Value) (w : World) : Prop where
  c : w.cell? ⟨C, 0, none⟩ = some (.int .i64 i)
  f : w.frozen? ⟨C, 0, none⟩ = false
  d : w.cell? ⟨D, 0, none⟩ = some v
  ltC : C < w.heap.size
  ltD : D < w.heap.size
  ne : C ≠ D
theorem Nxt.mov {C D i : Nat} {v : Value} {w w' : World} {S : Nat → Prop} (h : Nxt C D i v w) (hM : Mov S w w') (hC : ¬ S C) (hD : ¬ S D) : Nxt C D i v w' :=
  ⟨(hM.cell h.ltC hC).trans h.c, (hM.frozen h.ltC hC).trans h.f, (hM.cell h.ltD hD).trans h.d, Nat.lt_of_lt_of_le h.ltC hM.size, Nat.lt_of_lt_of_le h.ltD hM.size, h.ne⟩
theorem Nxt.below {C D i : Nat} {v : Value} {w w' : World} (h : Nxt C D i v w) (hB : Below w.heap.size w w') : Nxt C D i v w' :=
  h.mov (Mov.of hB) (by have := h.ltC; omega) (by have := h.ltD; omega)
theorem one_any (p : Option Addr) (n cap : Nat) (w : World) :
    Calls Tryd.prog 61 #[.slice p n cap] w fun e w' => e = .returned (.func (.func 80) #[] #[.pointer (some ⟨w.heap.size + 1, 0, none⟩), .pointer (some ⟨w.heap.size, 0, none⟩)]) ∧ Below w.heap.size w w' ∧ Nxt (w.heap.size + 1) w.heap.size 0 (.slice p n cap) w' := by
  go_enter Tryd.func61, Tryd.ntmps61
  go_wp2
  go_ret
  have h1 := CellsAt.new #[.slice p n cap] 62 w
  have h2 := CellsAt.new #[.int .i64 0] 3 (w.alloc (.cells #[.slice p n cap] 62))
  have h3 := h1.past (.cells #[.int .i64 0] 3)
  have e1 : (w.alloc (.cells #[.slice p n cap] 62)).heap.size = w.heap.size + 1 := by simp
  rw [e1] at h2
  refine ⟨?_, ?_, ?_⟩
  · rfl
  · first
      | exact ((Below.refl _ _).alloc (Nat.le_refl _) _).alloc (by simp) _
      | exact (((Below.refl _ _).alloc (Nat.le_refl _) _).alloc (by simp) _).setCell (by simp) _
  · exact ⟨h2.cell 0 _ rfl, h2.fro 0 _ rfl, h3.cell 0 _ rfl, h2.lt, h3.lt, by omega⟩
/-- There is one more. -/
theorem nxt_some {C D i : Nat} {g n cap many : Nat} {a : Int} {w : World} (h : Nxt C D i (.slice (some ⟨g, 0, none⟩) n cap) w) (hi : i < n) (hn : n ≤ 2001) (hg : g < w.heap.size) (hgc : g ≠ C)
    (d0 : w.cell? ⟨g, i * 2, none⟩ = some (.int .i64 a)) (d1 : w.cell? ⟨g, i * 2 + 1, none⟩ = some (.int .u64 many)) :
    Calls Tryd.prog 80 #[.pointer (some ⟨C, 0, none⟩), .pointer (some ⟨D, 0, none⟩)] w fun e w' => e = .returned (.tuple #[.agg #[.int .i64 a, .int .u64 many], .bool true]) ∧ Mov (fun j => j = C) w w' ∧ Nxt C D (i + 1) (.slice (some ⟨g, 0, none⟩) n cap) w' := by
  obtain ⟨c, f, d, l1, l2, ne⟩ := h
  have hne : ¬ (i = n) := by omega
  go_enter Tryd.func80, Tryd.ntmps80
  go_wp2
  refine bodyPost_ret (v := .tuple #[.agg #[.int .i64 a, .int .u64 many], .bool true]) ?_ rfl ⟨rfl, ?_, ?_⟩
  · simp [results, Tryd.results80, go_sem]
  · exact ((Mov.refl (fun j => j = C) w).set rfl _ _).alloc _
  · refine ⟨?_, ?_, ?_, ?_, ?_, ne⟩
    · rw [World.cell?_alloc_past _ _ _ (by simpa using l1)]
      rw [World.cell?_setCell_same w ⟨C, 0, none⟩ _ c]
      simp
    · rw [World.frozen?_alloc_past _ _ _ (by simpa using l1), World.frozen?_setCell]
      exact f
    · rw [World.cell?_alloc_past _ _ _ (by simpa using l2), World.cell?_setCell_other (h := by simp)]
      exact d
    · simp; omega
    · simp; omega
/-- There is none. -/
theorem nxt_none {C D : Nat} {p : Option Addr} {n cap : Nat} {w : World} (h : Nxt C D n (.slice p n cap) w) (_ : n ≤ 2001) :
    Calls Tryd.prog 80 #[.pointer (some ⟨C, 0, none⟩), .pointer (some ⟨D, 0, none⟩)] w fun e w' => e = .returned (.tuple #[.agg #[.int .i64 0, .int .u64 0], .bool false]) ∧ Below w.heap.size w w' := by
  obtain ⟨c, f, d, l1, l2, ne⟩ := h
  go_enter Tryd.func80, Tryd.ntmps80
  go_wp2
  refine bodyPost_ret (v := .tuple #[.agg #[.int .i64 0, .int .u64 0], .bool false]) (by simp [results, Tryd.results80, go_sem]) rfl ?_
  exact ⟨rfl, by first | exact (Below.refl _ _).alloc (Nat.le_refl _) _ | exact ((Below.refl _ _).alloc (Nat.le_refl _) _).setCell (by simp) _⟩
/-- What a rank answers. -/
def rkV : Option Int → Value
  | some a => .tuple #[.int .i64 a, .bool true]
  | none => .tuple #[.int .i64 0, .bool false]
theorem rankH_cons {l : List Hit} {k r : Nat} (hk : k < l.length) : rankH (l.drop k) r = if r ≤ l[k]!.many then some l[k]!.at_ else rankH (l.drop (k + 1)) (r - l[k]!.many) := by
  rw [drop_at hk, rankH]
set_option maxRecDepth 100000 in
set_option maxHeartbeats 4000000 in
theorem rank_zero {base B k : Nat} {v : Value} {l : List Hit} {w : World} (_ : Hs base 66 B k v l w) :
    Calls Tryd.prog 82 #[.pointer (some ⟨B, 0, none⟩), .int .u64 0] w fun e w' => e = .returned (.tuple #[.int .i64 0, .bool false]) ∧ w = w' := by
  go_enter Tryd.func82, Tryd.ntmps82
  go_wp2
  go_ret2
  exact ⟨rfl, rfl⟩
set_option maxRecDepth 100000 in
set_option maxHeartbeats 4000000 in
theorem rank_any {base B k : Nat} {v : Value} {l : List Hit} {w : World} (h : Hs base 66 B k v l w) (r : Nat) (hr1 : 1 ≤ r) (hr : r < 18446744073709551616) :
    Calls Tryd.prog 82 #[.pointer (some ⟨B, 0, none⟩), .int .u64 r] w fun e w' => e = .returned (rkV (rankH l r)) ∧ Below w.heap.size w w' := by
  have c1 := h.c1
  have hlen := h.inv.len
  have hz : ¬ ((r : Int) = 0) := by omega
  by_cases h0 : l = []
  · subst h0
    obtain ⟨p, cap, rfl, hcap, hmax⟩ := h.row.cap
    clear h
    rw [show rkV (rankH [] r) = .tuple #[.int .i64 0, .bool false] from rfl]
    have ho := one_any p 0 cap w
    simp only [List.length_nil] at c1
    go_enter Tryd.func82, Tryd.ntmps82
    go_wp2_with fail
    refine ho.mono ?_
    rintro e w1 ⟨rfl, hB, hN⟩
    have hn := nxt_none hN (by omega)
    clear ho c1 hN
    go_wp2_with fail
    refine hn.mono ?_
    rintro e w2 ⟨rfl, hB2⟩
    have hB3 := hB.trans (hB2.mono hB.size)
    clear hn hB hB2
    go_wp2
    go_loopg [8] 0 (fun g s8 wx => s8 = .bool false ∧ Below w.heap.size w wx)
    case atStart => exact ⟨rfl, hB3.alloc hB3.size _⟩
    case round =>
      clear hB3
      obtain ⟨rfl, hB⟩ := hrel
      go_wp2
      go_ret2
      exact ⟨rfl, hB⟩
  · have hpos : 0 < l.length := by
      cases l with
      | nil => exact absurd rfl h0
      | cons _ _ => simp
    obtain ⟨g, cap, rfl, hb, hg, hcap, hmax, hcell, hfro⟩ := h.row.form_pos hpos
    obtain ⟨d0, d1⟩ := hcell 0 hpos
    have ho := one_any (some ⟨g, 0, none⟩) l.length cap w
    have HC := Lib.hid hcell
    have HV := Lib.hid h.inv
    have HL := Lib.hid hlen
    clear h hcell hfro h0
    have hr0 : rankH (l.drop 0) r = rankH l r := by simp
    generalize hR : rankH l r = R at *
    clear hR
    have H0 := Lib.hid hr0
    clear hr0
    go_enter Tryd.func82, Tryd.ntmps82
    go_wp2_with fail
    refine ho.mono ?_
    rintro e w1 ⟨rfl, hB, hN⟩
    have hs := hB.size
    have H00 := Lib.hid (rfl : l[0]! = l[0]!)
    obtain ⟨a0, ha0⟩ : ∃ a0, l[0]!.at_ = a0 := ⟨_, rfl⟩
    obtain ⟨m0, hm0⟩ : ∃ m0, l[0]!.many = m0 := ⟨_, rfl⟩
    rw [ha0] at d0
    rw [hm0] at d1
    have HA0 := Lib.hid ha0
    have HM0 := Lib.hid hm0
    clear ha0 hm0 H00
    have hn := nxt_some hN hpos HL.out (Nat.lt_of_lt_of_le hg hB.size) (by omega) ((hB.cell (p := ⟨g, 0 * 2, none⟩) hg).trans d0) ((hB.cell (p := ⟨g, 0 * 2 + 1, none⟩) hg).trans d1)
    clear ho c1 hN d0 d1
    go_wp2_with fail
    refine hn.mono ?_
    rintro e w2 ⟨rfl, hM, hN2⟩
    have hB2 := hB.trans (hM.below (N := w.heap.size) (by intro k hk; omega) hs)
    clear hn hB hM
    have HN := Lib.hid hN2
    clear hN2
    go_wp2
    go_loopg [1, 7, 8] l.length (fun gg s1 s7 s8 wx => ∃ (k X : Nat), k + gg = l.length ∧ s7 = .pointer (some ⟨X, 0, none⟩) ∧ w.heap.size + 2 ≤ X ∧ Below w.heap.size w wx ∧
      ((k < l.length ∧ s8 = .bool true ∧ Hid (Nxt (w.heap.size + 1) w.heap.size (k + 1) (.slice (some ⟨g, 0, none⟩) l.length cap) wx) ∧ Hid (CellsAt X #[.int .i64 l[k]!.at_, .int .u64 l[k]!.many] wx) ∧ ∃ q : Nat, s1 = .int .u64 q ∧ 1 ≤ q ∧ q < 18446744073709551616 ∧ rankH (l.drop k) q = R) ∨
        (k = l.length ∧ s8 = .bool false ∧ R = none)))
    case atStart =>
      refine ⟨0, w2.heap.size, by omega, rfl, ?_, hB2.alloc hB2.size _, .inl ⟨hpos, rfl, Lib.hid (HN.out.below ((Below.refl _ _).alloc (Nat.le_refl _) _)), Lib.hid (by rw [HA0.out, HM0.out]; exact CellsAt.new _ _ _), r, rfl, hr1, hr, H0.out⟩⟩
      have := HN.out.ltC
      omega
    case round =>
      clear hB2 HN H0 hz HA0 HM0
      obtain ⟨k, X, hkg, rfl, hX, hB, hcase⟩ := hrel
      rcases hcase with ⟨hk, rfl, HN, HX, q, rfl, q1, q2, hq⟩ | ⟨rfl, rfl, rfl⟩
      · have x0 := HX.out.cell 0 _ rfl
        have x1 := HX.out.cell 1 _ rfl
        have hXl := HX.out.lt
        have xf0 := HX.out.fro 0 _ rfl
        have xf1 := HX.out.fro 1 _ rfl
        have hrk := rankH_cons (r := q) hk
        obtain ⟨m1, m2⟩ := HV.out.many hk
        by_cases hle : q ≤ l[k]!.many
        · rw [if_pos hle] at hrk
          rw [hrk] at hq
          have HQ := Lib.hid hq
          clear hrk hq
          obtain ⟨a, ha⟩ : ∃ a, l[k]!.at_ = a := ⟨_, rfl⟩
          obtain ⟨m, hm⟩ : ∃ m, l[k]!.many = m := ⟨_, rfl⟩
          rw [ha] at x0
          rw [hm] at x1 hle
          have HA := Lib.hid ha
          clear ha hm m1 m2
          go_wp2
          go_ret2
          exact ⟨by rw [← HQ.out, HA.out]; rfl, hB⟩
        · rw [if_neg hle] at hrk
          rw [hrk] at hq
          have HQ := Lib.hid hq
          clear hrk hq
          have hgw := Nat.lt_of_lt_of_le hg hB.size
          have hBs := hB.size
          by_cases hk1 : k + 1 < l.length
          · obtain ⟨d0, d1⟩ := HC.out (k + 1) hk1
            have e0 := (hB.cell (p := ⟨g, (k + 1) * 2, none⟩) hg).trans d0
            have e1 := (hB.cell (p := ⟨g, (k + 1) * 2 + 1, none⟩) hg).trans d1
            have hn := fun (W : World) (hW : Nxt (w.heap.size + 1) w.heap.size (k + 1) (.slice (some ⟨g, 0, none⟩) l.length cap) W) (hWg : g < W.heap.size) (f0 : W.cell? ⟨g, (k + 1) * 2, none⟩ = some (.int .i64 l[k + 1]!.at_)) (f1 : W.cell? ⟨g, (k + 1) * 2 + 1, none⟩ = some (.int .u64 l[k + 1]!.many)) => nxt_some hW hk1 HL.out hWg (by omega) f0 f1
            have hP := (Below.refl wr.heap.size wr).alloc (Nat.le_refl _) (.cells #[.int .i64 l[k]!.at_, .int .u64 l[k]!.many] 66)
            have hcall := hn _ (HN.out.below hP) (by simp; omega) ((hP.cell (p := ⟨g, (k + 1) * 2, none⟩) hgw).trans e0) ((hP.cell (p := ⟨g, (k + 1) * 2 + 1, none⟩) hgw).trans e1)
            have hX' := CellsAt.new #[.int .i64 l[k]!.at_, .int .u64 l[k]!.many] 66 wr
            have hBP := hB.trans (hP.mono hBs)
            have HX' := Lib.hid hX'
            have HBP := Lib.hid hBP
            have hC := HN.out.ltC
            clear d0 d1 e0 e1 hn hP hX' hBP
            obtain ⟨a', ha'⟩ : ∃ a', l[k + 1]!.at_ = a' := ⟨_, rfl⟩
            obtain ⟨m', hm'⟩ : ∃ m', l[k + 1]!.many = m' := ⟨_, rfl⟩
            rw [ha', hm'] at hcall
            have HA' := Lib.hid ha'
            have HM' := Lib.hid hm'
            clear ha' hm'
            generalize l[k]!.at_ = a at *
            generalize l[k]!.many = m at *
            have hle' : ¬ (q : Int) ≤ (m : Int) := by omega
            obtain ⟨Y, hY⟩ : ∃ Y, wr.heap.size = Y := ⟨_, rfl⟩
            have hYX : w.heap.size + 2 ≤ Y := by omega
            have hw1 : (q : Int) - m = ((q - m : Nat) : Int) := by omega
            go_wp2_with fail
            refine hcall.mono ?_
            rintro e W2 ⟨rfl, hM, hN3⟩
            have hX2 := HX'.out.mov hM (by omega)
            have hB2 := HBP.out.trans (hM.below (N := w.heap.size) (by intro k hk; omega) (by simp; omega))
            have y0 := hX2.cell 0 _ rfl
            have y1 := hX2.cell 1 _ rfl
            have z0 := hX2.fro 0 _ rfl
            have z1 := hX2.fro 1 _ rfl
            have hX3 := Lib.hid ((hX2.set 0 (.int .i64 a') (by simp)).set 1 (.int .u64 m') (by simp))
            have hN4 := Lib.hid (hN3.mov (((Mov.refl (fun j => j = wr.heap.size) W2).set rfl 0 (.int .i64 a')).set rfl 1 (.int .u64 m')) (by omega) (by omega))
            clear hcall hM hN3 hX2 hw1
            rw [hY] at *
            go_wp2
            go_roundg (l.length - (k + 1))
            case measure => omega
            case rel =>
              refine ⟨k + 1, Y, by omega, rfl, hYX, ?_, .inl ⟨hk1, rfl, hN4, by rw [HA'.out, HM'.out]; exact hX3, q - m, by go_num, by omega, by omega, HQ.out⟩⟩
              exact (hB2.setCell (p := ⟨Y, 0, none⟩) (by show w.heap.size ≤ Y; omega) _).setCell (p := ⟨Y, 1, none⟩) (by show w.heap.size ≤ Y; omega) _
          · have hkl : k + 1 = l.length := by omega
            rw [hkl, List.drop_length] at HQ
            have hR : R = none := by rw [← HQ.out]; rfl
            have HR := Lib.hid hR
            clear hR
            have hP := (Below.refl wr.heap.size wr).alloc (Nat.le_refl _) (.cells #[.int .i64 l[k]!.at_, .int .u64 l[k]!.many] 66)
            have hN3 := HN.out.below hP
            rw [hkl] at hN3
            have hcall := nxt_none hN3 HL.out
            have hX' := CellsAt.new #[.int .i64 l[k]!.at_, .int .u64 l[k]!.many] 66 wr
            have hBP := hB.trans (hP.mono hBs)
            have HX' := Lib.hid hX'
            have HBP := Lib.hid hBP
            clear hP hX' hBP hN3
            generalize l[k]!.at_ = a at *
            generalize l[k]!.many = m at *
            have hle' : ¬ (q : Int) ≤ (m : Int) := by omega
            obtain ⟨Y, hY⟩ : ∃ Y, wr.heap.size = Y := ⟨_, rfl⟩
            have hYX : w.heap.size + 2 ≤ Y := by omega
            go_wp2_with fail
            refine hcall.mono ?_
            rintro e W2 ⟨rfl, hB3⟩
            have hX2 := HX'.out.below hB3
            have hB2 := HBP.out.trans (hB3.mono (by simp; omega))
            have y0 := hX2.cell 0 _ rfl
            have y1 := hX2.cell 1 _ rfl
            have z0 := hX2.fro 0 _ rfl
            have z1 := hX2.fro 1 _ rfl
            clear hcall hB3 hX2
            rw [hY] at *
            go_wp2
            go_roundg 0
            case measure => omega
            case rel =>
              refine ⟨l.length, Y, by omega, rfl, hYX, ?_, .inr ⟨rfl, rfl, HR.out⟩⟩
              exact (hB2.setCell (p := ⟨Y, 0, none⟩) (by show w.heap.size ≤ Y; omega) _).setCell (p := ⟨Y, 1, none⟩) (by show w.heap.size ≤ Y; omega) _
      · go_wp2
        go_ret2
        exact ⟨rfl, hB⟩
end Go.Proofs.YtmjipafhahggpaaDoor.Hi

namespace Go.Proofs.YtmjipafhahggpaaDoor.Hi
open Go Go.RowKit

def cmpI (a b : Int) : Int := if a < b then -1 else if b < a then 1 else 0
set_option maxHeartbeats 1000000 in
theorem compare_any (a b : Int) (w : World) :
    Calls Tryd.prog 38 #[.int .i64 a, .int .i64 b] w fun e w' => e = .returned (.int .i64 (cmpI a b)) ∧ w = w' := by
  by_cases h1 : a < b
  · rw [show cmpI a b = -1 by unfold cmpI; rw [if_pos h1]]
    go_enter Tryd.func38, Tryd.ntmps38
    go_wp2_with go_in
    go_ret
    exact ⟨rfl, rfl⟩
  · by_cases h2 : b < a
    · rw [show cmpI a b = 1 by unfold cmpI; rw [if_neg h1, if_pos h2]]
      go_enter Tryd.func38, Tryd.ntmps38
      go_wp2_with go_in
      go_ret
      exact ⟨rfl, rfl⟩
    · rw [show cmpI a b = 0 by unfold cmpI; rw [if_neg h1, if_neg h2]]
      go_enter Tryd.func38, Tryd.ntmps38
      go_wp2_with go_in
      go_ret
      exact ⟨rfl, rfl⟩
theorem against_any (a b : Int) (m : Nat) (w : World) :
    Calls Tryd.prog 37 #[.agg #[.int .i64 a, .int .u64 m], .int .i64 b] w fun e w' => e = .returned (.int .i64 (cmpI a b)) ∧ Below w.heap.size w w' := by
  have hc := fun w => compare_any a b w
  go_enter Tryd.func37, Tryd.ntmps37
  go_wp2_with fail
  refine (hc _).mono ?_
  rintro e w1 ⟨rfl, rfl⟩
  go_wp2
  go_ret
  exact ⟨rfl, (Below.refl _ _).alloc (Nat.le_refl _) _⟩
theorem cmpI_lt {a b : Int} : cmpI a b < 0 ↔ a < b := by unfold cmpI; split <;> (try split) <;> omega
theorem cmpI_eq {a b : Int} : cmpI a b = 0 ↔ a = b := by unfold cmpI; split <;> (try split) <;> omega

set_option maxRecDepth 100000 in
set_option maxHeartbeats 4000000 in
/-- At no items. -/
theorem find_nil (p : Option Addr) (cap : Nat) (a : Int) (w : World) :
    Calls Tryd.prog 39 #[.slice p 0 cap, .int .i64 a, .func (.func 37) #[] #[]] w fun e w' => e = .returned (.tuple #[.int .i64 (0 : Nat), .bool false]) ∧ Below w.heap.size w w' := by
  go_enter Tryd.func39, Tryd.ntmps39
  go_wp2
  go_loopg [9, 10] 0 (fun g s9 s10 wx => s9 = .int .i64 0 ∧ s10 = .int .i64 0 ∧ Below w.heap.size w wx)
  case atStart => exact ⟨rfl, rfl, Below.refl _ _⟩
  case round =>
    obtain ⟨rfl, rfl, hB⟩ := hrel
    go_wp2
    go_ret2
    exact ⟨rfl, hB⟩
set_option maxRecDepth 100000 in
set_option maxHeartbeats 4000000 in
theorem find_row {base T g cap : Nat} {l : List Hit} {w : World} (h : Its base T (.slice (some ⟨g, 0, none⟩) l.length cap) l w) (hr : Rising l) (hlen : l.length ≤ 2001) (a : Int) :
    Calls Tryd.prog 39 #[.slice (some ⟨g, 0, none⟩) l.length cap, .int .i64 a, .func (.func 37) #[] #[]] w fun e w' => e = .returned (.tuple #[.int .i64 (cutH a l : Nat), .bool (decide (cutH a l < l.length) && decide (l[cutH a l]!.at_ = a))]) ∧ Below w.heap.size w w' := by
  rcases h.form with ⟨h0, _⟩ | ⟨g', cap', hv, hb, hg, h1, h2, hcell, hfro⟩
  · cases h0
  simp only [Value.slice.injEq, Option.some.injEq, Addr.mk.injEq, and_true, true_and] at hv
  obtain ⟨rfl, rfl⟩ := hv
  have hiff := fun (i : Nat) (hi : i < l.length) => cut_iff hr a hi
  have hcl := cutH_le a l
  have HC := Lib.hid hcell
  have HI := Lib.hid hiff
  clear h hr hcell hfro hiff h1 h2
  obtain ⟨fin, hfin⟩ : ∃ fin, (decide (cutH a l < l.length) && decide (l[cutH a l]!.at_ = a)) = fin := ⟨_, rfl⟩
  rw [hfin]
  have HF := Lib.hid hfin
  clear hfin
  obtain ⟨c, hc⟩ : ∃ c, cutH a l = c := ⟨_, rfl⟩
  rw [hc] at HI HF hcl ⊢
  clear hc
  obtain ⟨n, hn⟩ : ∃ n, l.length = n := ⟨_, rfl⟩
  rw [hn] at HC HI HF hcl hlen ⊢
  clear hn
  have hag := fun (x : Int) (m : Nat) (W : World) => against_any x a m W
  go_enter Tryd.func39, Tryd.ntmps39
  go_wp2
  go_loopg [9, 10] n (fun gk s9 s10 wx => ∃ lo hi : Nat, s9 = .int .i64 lo ∧ s10 = .int .i64 hi ∧ lo ≤ c ∧ c ≤ hi ∧ hi ≤ n ∧ hi - lo ≤ gk ∧ Below w.heap.size w wx)
  case atStart => exact ⟨0, n, rfl, rfl, by omega, hcl, by omega, by omega, Below.refl _ _⟩
  case round =>
    obtain ⟨lo, hi, rfl, rfl, hlo, hhi, hin, hgk, hB⟩ := hrel
    by_cases hlt : lo < hi
    · have hh : (lo + hi) / 2 < n := by omega
      obtain ⟨d0, d1⟩ := HC.out ((lo + hi) / 2) hh
      have e0 := (hB.cell (p := ⟨g, (lo + hi) / 2 * 2, none⟩) hg).trans d0
      have e1 := (hB.cell (p := ⟨g, (lo + hi) / 2 * 2 + 1, none⟩) hg).trans d1
      have hi2 := HI.out ((lo + hi) / 2) hh
      clear d0 d1
      generalize l[(lo + hi) / 2]!.at_ = x at *
      generalize l[(lo + hi) / 2]!.many = m at *
      have hs := hB.size
      by_cases hx : x < a
      · have hx' := cmpI_lt.2 hx
        have hnew := hi2.1 hx
        clear hi2
        go_wp2_with fail
        refine (hag x m _).mono ?_
        rintro e w2 ⟨rfl, hB2⟩
        have hB3 := hB.trans (hB2.mono hs)
        clear hB hB2 e0 e1
        go_wp2
        go_roundg (hi - ((lo + hi) / 2 + 1))
        case measure => omega
        case rel => exact ⟨(lo + hi) / 2 + 1, hi, by go_num, rfl, by omega, hhi, hin, Nat.le_refl _, hB3⟩
      · have hx' : ¬ cmpI x a < 0 := fun h => hx (cmpI_lt.1 h)
        have hnew : ¬ (lo + hi) / 2 < c := fun h => hx (hi2.2 h)
        clear hi2
        go_wp2_with fail
        refine (hag x m _).mono ?_
        rintro e w2 ⟨rfl, hB2⟩
        have hB3 := hB.trans (hB2.mono hs)
        clear hB hB2 e0 e1
        go_wp2
        go_roundg ((lo + hi) / 2 - lo)
        case measure => omega
        case rel => exact ⟨lo, (lo + hi) / 2, rfl, by go_num, hlo, by omega, by omega, Nat.le_refl _, hB3⟩
    · obtain rfl : lo = c := by omega
      obtain rfl : hi = lo := by omega
      by_cases hn : hi < n
      · obtain ⟨d0, d1⟩ := HC.out hi hn
        have e0 := (hB.cell (p := ⟨g, hi * 2, none⟩) hg).trans d0
        have e1 := (hB.cell (p := ⟨g, hi * 2 + 1, none⟩) hg).trans d1
        obtain ⟨x, hx⟩ : ∃ x, l[hi]!.at_ = x := ⟨_, rfl⟩
        obtain ⟨m, hm⟩ : ∃ m, l[hi]!.many = m := ⟨_, rfl⟩
        rw [hx] at e0 HF
        rw [hm] at e1
        clear d0 d1 hx hm
        have hs := hB.size
        have hfe : (decide (hi < n) && decide (x = a)) = decide (cmpI x a = 0) := by
          rw [decide_eq_true hn, Bool.true_and]
          exact decide_eq_decide.2 cmpI_eq.symm
        rw [hfe] at HF
        clear hfe
        go_wp2_with fail
        refine (hag x m _).mono ?_
        rintro e w2 ⟨rfl, hB2⟩
        have hB3 := hB.trans (hB2.mono hs)
        clear hB hB2 e0 e1
        go_wp2
        go_ret2
        refine ⟨by rw [← HF.out]; first | rfl | simp, hB3⟩
      · have hfe : (decide (hi < n) && decide (l[hi]!.at_ = a)) = false := by rw [decide_eq_false hn, Bool.false_and]
        rw [hfe] at HF
        clear hfe
        go_wp2
        go_ret2
        exact ⟨by rw [← HF.out]; rfl, hB⟩
end Go.Proofs.YtmjipafhahggpaaDoor.Hi

namespace Go.Proofs.YtmjipafhahggpaaDoor.Hi
open Go Go.RowKit
section
variable {P : Program}
theorem run_copy2 (w : World) (dT sT ty elem : TypeId) (g o dLen dCap : Nat) (a : Addr) (sLen sCap : Nat) (cur : Array Value) (t : TypeId) (cs : List Value)
    (hu : P.underlying dT = some (.slice elem)) (hs : (P.info? elem).map (·.size) = some 2)
    (hg : w.heap[g]? = some (.cells cur t (0, 0))) (hn : cs.length = Nat.min sLen dLen * 2)
    (hsrc : ∀ j v, cs[j]? = some v → w.cell? (a.add j) = some v) (hfit : o + cs.length ≤ cur.size) (h1 : ∀ v ∈ cs, v.oneCell' = true) :
    (Builtin.copy_ #[dT, sT] ty #[.slice (some ⟨g, o, none⟩) dLen dCap, .slice (some a) sLen sCap]).run P w =
      .ok (goInt (Nat.min sLen dLen)) (w.setRow g (cur.toList.take o ++ cs ++ cur.toList.drop (o + cs.length)).toArray) := by
  have hl := run_loadCells_list (P := P) w a cs hsrc
  have hst := run_storeCells_at P g o t cs 0 cur w hg (by simpa using hfit) h1
  cases hq : P.info? elem with
  | none => simp [hq] at hs
  | some i =>
    have hi : i.size = 2 := by simpa [hq] using hs
    simp [Builtin.copy_, run_underlying hu, Builtin.lenOf, Builtin.firstCells, sizeOf, typeInfo, hq, hi, ← hn, hl, hst]
/-- What a copy is where its run is known. -/
theorem wp_copyR (w : World) {o : Oper} {a : Act} {K : Act → World → Prop} {Q : Exit → Act → World → Prop} (d s : Operand) (t : TypeId)
    (ho : o.op = .call { callee := .builtin .copy, args := #[d, s], argTypes := #[t, t] }) (v u : Value) (hd : a.eval d = v) (hs : a.eval s = u) {v' : Value} {w' : World}
    (hr : (Builtin.copy_ #[t, t] o.type #[v, u]).run P w = .ok v' w') (h : K (a.put o.dst v') w') : o.wp P a w K Q := by
  unfold Oper.wp
  simp [execOp, ho, resolve, invoke, builtin, hd, hs, hr, Result.andThen]
  exact h
theorem wpList_copyR (w : World) {ops : Array Oper} {rest : List Oper} {o : Oper} {a : Act} {Q : Exit → Act → World → Prop} (hgd : o.guard = none) (d s : Operand) (t : TypeId)
    (ho : o.op = .call { callee := .builtin .copy, args := #[d, s], argTypes := #[t, t] }) (v u : Value) (hd : a.eval d = v) (hs : a.eval s = u) {v' : Value} {w' : World}
    (hr : (Builtin.copy_ #[t, t] o.type #[v, u]).run P w = .ok v' w') (h : wpList P ops Q rest (a.put o.dst v') w') : wpList P ops Q (o :: rest) a w :=
  wpList_plain hgd fun _ hK => wp_copyR w d s t ho v u hd hs hr (hK _ _ h)
theorem step_copyR {ops : Array Oper} {o : Oper} {a : Act} {w : World} {K : Act → World → Prop} {Q : Exit → Act → World → Prop} {E : Prop}
    (hg : o.guard = none) (d s : Operand) (t : TypeId) (ho : o.op = .call { callee := .builtin .copy, args := #[d, s], argTypes := #[t, t] })
    (v u : Value) (hd : a.eval d = v) (hs : a.eval s = u) {v' : Value} {w' : World} (hr : (Builtin.copy_ #[t, t] o.type #[v, u]).run P w = .ok v' w') (hK : K (a.put o.dst v') w') :
    if Region.wanted o (yielded ops a.tmps) = true then Oper.wp P o a w K Q else E := by
  have hw : Region.wanted o (yielded ops a.tmps) = true := by simp [Region.wanted, hg]
  rw [if_pos hw]
  exact wp_copyR w d s t ho v u hd hs hr hK
end
/-- A row with an item put in: the cells behind are moved on. -/
theorem shifted {F : List Value} {c : List Value} {n p m : Nat} {u : List Value} (hF : F.length = n * 2) (hp : p < n) (hc : c.take (n * 2) = F) (hm : (n + 1) * 2 ≤ c.length) (hu : u.length = 2) (hml : c.length = m) :
    let c1 := c.take ((p + 1) * 2) ++ F.drop (p * 2) ++ c.drop ((p + 1) * 2 + (F.drop (p * 2)).length)
    let c2 := c1.take (p * 2) ++ u ++ c1.drop (p * 2 + u.length)
    c1.length = m ∧ c2.length = m ∧ c2.take ((n + 1) * 2) = F.take (p * 2) ++ u ++ F.drop (p * 2) := by
  intro c1 c2
  have e1 : c1.length = m := by simp [c1, hF]; omega
  have e2 : c2.length = m := by simp [c2, e1, hu]; omega
  refine ⟨e1, e2, ?_⟩
  have hF1 : F.take (p * 2) = c.take (p * 2) := by rw [← hc, List.take_take, show min (p * 2) (n * 2) = p * 2 by omega]
  have t1 : c1.take (p * 2) = c.take (p * 2) := by
    simp only [c1, List.append_assoc]
    rw [List.take_append_of_le_length (by simp; omega), List.take_take, show min (p * 2) ((p + 1) * 2) = p * 2 by omega]
  have d1 : c1.drop (p * 2 + u.length) = F.drop (p * 2) ++ c.drop ((p + 1) * 2 + (F.drop (p * 2)).length) := by
    simp only [c1, List.append_assoc]
    rw [List.drop_left' (by simp [hu]; omega)]
  show (c1.take (p * 2) ++ u ++ c1.drop (p * 2 + u.length)).take ((n + 1) * 2) = _
  rw [t1, d1, hF1]
  rw [← List.append_assoc]
  rw [List.take_left' (by simp [hF, hu]; omega)]
/-- A new row with an item put in. -/
theorem laid {F Z : List Value} {n p : Nat} {u : List Value} (hF : F.length = n * 2) (hp : p < n) (hZ : (n + 1 - p) * 2 ≤ Z.length) (hu : u.length = 2) :
    let c := F.take (p * 2) ++ Z
    let c1 := c.take (p * 2) ++ u ++ c.drop (p * 2 + u.length)
    let c2 := c1.take ((p + 1) * 2) ++ F.drop (p * 2) ++ c1.drop ((p + 1) * 2 + (F.drop (p * 2)).length)
    c1.length = c.length ∧ c2.length = c.length ∧ c2.take ((n + 1) * 2) = F.take (p * 2) ++ u ++ F.drop (p * 2) := by
  intro c c1 c2
  have hcl : c.length = p * 2 + Z.length := by simp [c, hF]; omega
  have e1 : c1.length = c.length := by simp [c1, hu]; omega
  have e2 : c2.length = c.length := by simp [c2, e1, hF]; omega
  refine ⟨e1, e2, ?_⟩
  have t0 : c.take (p * 2) = F.take (p * 2) := by
    simp only [c]
    rw [List.take_left' (by simp [hF]; omega)]
  have t1 : c1.take ((p + 1) * 2) = F.take (p * 2) ++ u := by
    simp only [c1]
    rw [List.take_left' (by simp [hu]; omega), t0]
  show (c1.take ((p + 1) * 2) ++ F.drop (p * 2) ++ c1.drop ((p + 1) * 2 + (F.drop (p * 2)).length)).take ((n + 1) * 2) = _
  rw [t1]
  rw [List.take_left' (by simp [hF, hu]; omega)]
end Go.Proofs.YtmjipafhahggpaaDoor.Hi

namespace Go.Proofs.YtmjipafhahggpaaDoor.Hi
open Go Go.RowKit

/-- What an insertion leaves. -/
def Put1 (base T : Nat) (v : Value) (l' : List Hit) (w : World) (e : Ending) (w' : World) : Prop :=
  ∃ v', e = .returned v' ∧ Its base T v' l' w' ∧ Mov (fun j => v.ownBlock = some j) w w' ∧ ∀ g, v'.ownBlock = some g → v.ownBlock = some g ∨ w.heap.size ≤ g
theorem at_row {X : Nat} {cs : Array Value} {T : TypeId} {w : World} (hX : w.heap[X]? = some (.cells cs T (0, 0))) : ∀ j u, cs.toList[j]? = some u → w.cell? ((⟨X, 0, none⟩ : Addr).add j) = some u := by
  intro j u hj
  rw [Addr.add_lit, Nat.zero_add]
  simp only [World.cell?, hX]
  simpa using hj
set_option maxRecDepth 100000 in
set_option maxHeartbeats 4000000 in
theorem insert_nil {base X : Nat} {a : Int} {m : Nat} {w : World} (hbase : base ≤ w.heap.size) (hX : w.heap[X]? = some (.cells #[.int .i64 a, .int .u64 m] 66 (0, 0))) :
    Calls Tryd.prog 40 #[.slice none 0 0, .int .i64 (0 : Nat), .slice (some ⟨X, 0, none⟩) 1 1] w (Put1 base 66 (.slice none 0 0) [⟨a, m⟩] w) := by
  obtain ⟨i0, hi0, hz⟩ := Option.map_eq_some_iff.1 info_item
  simp only [Prod.mk.injEq] at hz
  obtain ⟨hz0, hz1, hz2⟩ := hz
  have HX := Lib.hid hX
  clear hX
  go_enter Tryd.func40, Tryd.ntmps40
  go_wp2_with (at_builtin; refine wpList_append_at _ rfl _ _ 62 rfl base 66 i0 _ 2 16 Tryd.underlying62 hi0 hz0 hz1 hz2 rfl (by decide) (.slice none 0 0) 0 [] rfl (World.ownsRow_nil _ _ _ _) ⟨X, 0, none⟩ 1 1 [.int .i64 a, .int .u64 m] rfl rfl (at_row HX.out) (one_cells ⟨a, m⟩) (by unfold maxLen; omega) (by omega) hbase ?_; intro v' w' ho hg hat; have HO := Lib.hid ho; have HG := Lib.hid hg; have HA := Lib.hid hat; clear ho hg hat)
  go_ret
  exact ⟨v', rfl, its_append (l := []) (x := ⟨a, m⟩) HO.out, Mov.grown HG.out, HA.out⟩
set_option maxRecDepth 100000 in
set_option maxHeartbeats 4000000 in
theorem insert_end {base g cap X : Nat} {l : List Hit} {a : Int} {m : Nat} {w : World} (hbase : base ≤ w.heap.size) (h : Its base 66 (.slice (some ⟨g, 0, none⟩) l.length cap) l w) (hl : l.length ≤ 2001) (hX : w.heap[X]? = some (.cells #[.int .i64 a, .int .u64 m] 66 (0, 0))) :
    Calls Tryd.prog 40 #[.slice (some ⟨g, 0, none⟩) l.length cap, .int .i64 l.length, .slice (some ⟨X, 0, none⟩) 1 1] w (Put1 base 66 (.slice (some ⟨g, 0, none⟩) l.length cap) (l ++ [⟨a, m⟩]) w) := by
  obtain ⟨i0, hi0, hz⟩ := Option.map_eq_some_iff.1 info_item
  simp only [Prod.mk.injEq] at hz
  obtain ⟨hz0, hz1, hz2⟩ := hz
  have HX := Lib.hid hX
  have H := Lib.hid h
  obtain ⟨_, cap', hv, h1, h2⟩ := h.cap
  simp only [Value.slice.injEq, true_and] at hv
  obtain ⟨rfl, rfl⟩ := hv
  unfold maxLen at h2
  clear hX h
  go_enter Tryd.func40, Tryd.ntmps40
  go_wp2_with (at_builtin; refine wpList_append_at _ rfl _ _ 62 rfl base 66 i0 _ 2 16 Tryd.underlying62 hi0 hz0 hz1 hz2 rfl (by decide) (.slice (some ⟨g, 0, none⟩) l.length cap) l.length (flat l) rfl H.out ⟨X, 0, none⟩ 1 1 [.int .i64 a, .int .u64 m] rfl rfl (at_row HX.out) (one_cells ⟨a, m⟩) (by unfold maxLen; omega) (by omega) hbase ?_; intro v' w' ho hg hat; have HO := Lib.hid ho; have HG := Lib.hid hg; have HA := Lib.hid hat; clear ho hg hat)
  all_goals
    go_ret
    exact ⟨v', rfl, its_append (l := l) (x := ⟨a, m⟩) HO.out, Mov.grown HG.out, HA.out⟩
theorem shape_row {X : Nat} {cs : Array Value} {T : TypeId} {w : World} (hX : w.heap[X]? = some (.cells cs T (0, 0))) : w.shape? X = some (T, cs.size) := by unfold World.shape?; rw [hX]
theorem frozen_row {X : Nat} {cs : Array Value} {T : TypeId} {w : World} (hX : w.heap[X]? = some (.cells cs T (0, 0))) (j : Nat) : w.frozen? ⟨X, j, none⟩ = false := by unfold World.frozen?; rw [hX]; rfl
theorem size_item : (Tryd.prog.info? 66).map (·.size) = some 2 := by kernel_rfl
set_option maxRecDepth 100000 in
set_option maxHeartbeats 4000000 in
theorem insert_shift {base g cap X p : Nat} {l : List Hit} {a : Int} {m : Nat} {w : World} (h : Its base 66 (.slice (some ⟨g, 0, none⟩) l.length cap) l w) (hl : l.length ≤ 2001) (hX : w.heap[X]? = some (.cells #[.int .i64 a, .int .u64 m] 66 (0, 0))) (hgX : X ≠ g) (hp : p < l.length) (hroom : l.length < cap) :
    Calls Tryd.prog 40 #[.slice (some ⟨g, 0, none⟩) l.length cap, .int .i64 p, .slice (some ⟨X, 0, none⟩) 1 1] w (Put1 base 66 (.slice (some ⟨g, 0, none⟩) l.length cap) (l.take p ++ ⟨a, m⟩ :: l.drop p) w) := by
  rcases h.2 with ⟨h0, _⟩ | ⟨g', cap', cur, hv, hb, hg, h1, h2, h3, h4⟩
  · cases h0
  simp only [Value.slice.injEq, Option.some.injEq, Addr.mk.injEq, and_true, true_and] at hv
  obtain ⟨rfl, rfl⟩ := hv
  unfold maxLen at h2
  have hF := flatv_length l
  have hfl : (flat (l.take p ++ ⟨a, m⟩ :: l.drop p)) = (flat l).take (p * 2) ++ [.int .i64 a, .int .u64 m] ++ (flat l).drop (p * 2) := by
    rw [flat_append, flat_cons, ← flat_take, ← flat_drop]
    simp [encI]
  obtain ⟨e1, e2, e3⟩ := shifted (F := flat l) (c := cur.toList) (n := l.length) (p := p) (m := cap * 2) (u := [.int .i64 a, .int .u64 m]) hF hp h4 (by rw [show cur.toList.length = cur.size from Array.length_toList, h3]; omega) rfl (by rw [show cur.toList.length = cur.size from Array.length_toList, h3])
  have hsrc := World.ownsRow.cellAt h
  have hone := oneCells l
  have HL := Lib.hid hfl
  have hln : (l.take p ++ (⟨a, m⟩ : Hit) :: l.drop p).length = l.length + 1 := by simp; omega
  have HLN := Lib.hid hln
  clear hfl hln h4
  have hov : ∀ lb cb, (callFunc 56 #[.slice (some ⟨X, 0, none⟩) 1 1, .slice (some ⟨g, (p + 1) * 2, none⟩) lb cb]).run Tryd.prog w = .ok (.value (.bool false)) w := fun lb cb => by
    rw [run_callFunc_extern Tryd.func56 (by kernel_rfl) (by kernel_rfl) (by kernel_rfl) (e := Extern.SlicesOverlaps.overlaps #[62, 62] #[4]) (by kernel_rfl),
      Lib.run_overlaps_apart w 62 4 66 Tryd.underlying62 2 Tryd.sizeOf66 ⟨X, 0, none⟩ ⟨g, (p + 1) * 2, none⟩ 1 1 lb cb hgX _ _ _ _ (shape_row hX) (shape_row hg) (by rw [h3]; omega) (frozen_row hX 0) (frozen_row hX _)]
    rfl
  generalize hn : l.length = n at *
  have HN := Lib.hid hn
  clear hn
  have hcp1 : ∀ ty dc sc, (Builtin.copy_ #[62, 62] ty #[.slice (some ⟨g, (p + 1) * 2, none⟩) (n + 1 - (p + 1)) dc, .slice (some ⟨g, p * 2, none⟩) (n + 1 - p) sc]).run Tryd.prog w.drew = .ok (goInt (n - p : Nat)) (w.drew.setRow g (cur.toList.take ((p + 1) * 2) ++ (flat l).drop (p * 2) ++ cur.toList.drop ((p + 1) * 2 + ((flat l).drop (p * 2)).length)).toArray) := fun ty dc sc => by
    have hh := run_copy2 (P := Tryd.prog) w.drew 62 62 ty 66 g ((p + 1) * 2) (n + 1 - (p + 1)) dc ⟨g, p * 2, none⟩ (n + 1 - p) sc cur 66 ((flat l).drop (p * 2)) Tryd.underlying62 size_item hg
      (by rw [List.length_drop, hF]; simp only [Nat.min_def]; split <;> omega)
      (fun j v hj => by
        rw [List.getElem?_drop] at hj
        have hlj : p * 2 + j < n * 2 := by rw [← hF]; exact (List.getElem?_eq_some_iff.1 hj).1
        rw [Addr.add_lit]
        show w.cell? _ = _
        rw [hsrc (p * 2 + j) hlj]
        exact hj)
      (by rw [List.length_drop, hF, h3]; omega) (fun v hv => hone v (List.mem_of_mem_drop hv))
    rw [show (n + 1 - p).min (n + 1 - (p + 1)) = n - p by simp only [Nat.min_def]; split <;> omega] at hh
    exact hh
  obtain ⟨C1, hC1⟩ : ∃ C1 : List Value, C1 = cur.toList.take ((p + 1) * 2) ++ (flat l).drop (p * 2) ++ cur.toList.drop ((p + 1) * 2 + ((flat l).drop (p * 2)).length) := ⟨_, rfl⟩
  rw [← hC1] at hcp1 e1 e2 e3
  have hg1 : (w.drew.setRow g C1.toArray).heap[g]? = some (.cells C1.toArray 66 (0, 0)) := setRow_heap w.drew g cur _ _ _ hg
  have hX1 : (w.drew.setRow g C1.toArray).heap[X]? = some (.cells #[.int .i64 a, .int .u64 m] 66 (0, 0)) := (setRow_other w.drew g X _ hgX).trans hX
  have hcp2 : ∀ ty dc, (Builtin.copy_ #[62, 62] ty #[.slice (some ⟨g, p * 2, none⟩) (n + 1 - p) dc, .slice (some ⟨X, 0, none⟩) 1 1]).run Tryd.prog (w.drew.setRow g C1.toArray) = .ok (goInt (1 : Nat)) (w.drew.setRow g (C1.take (p * 2) ++ [Value.int .i64 a, .int .u64 m] ++ C1.drop (p * 2 + 2)).toArray) := fun ty dc => by
    have hh := run_copy2 (P := Tryd.prog) (w.drew.setRow g C1.toArray) 62 62 ty 66 g (p * 2) (n + 1 - p) dc ⟨X, 0, none⟩ 1 1 C1.toArray 66 [.int .i64 a, .int .u64 m] Tryd.underlying62 size_item hg1
      (by simp only [Nat.min_def]; split <;> simp <;> omega) (at_row hX1) (by rw [List.size_toArray, e1]; simp; omega) (one_cells ⟨a, m⟩)
    rw [show Nat.min 1 (n + 1 - p) = 1 by simp only [Nat.min_def]; split <;> omega, setRow_setRow] at hh
    exact hh
  obtain ⟨C2, hC2⟩ : ∃ C2 : List Value, C2 = C1.take (p * 2) ++ [Value.int .i64 a, .int .u64 m] ++ C1.drop (p * 2 + 2) := ⟨_, rfl⟩
  rw [← hC2] at hcp2
  have e2' : C2.length = cap * 2 := by rw [hC2]; exact e2
  have e3' : C2.take ((n + 1) * 2) = (flat l).take (p * 2) ++ [.int .i64 a, .int .u64 m] ++ (flat l).drop (p * 2) := by rw [hC2]; exact e3
  have hg2 := setRow_heap w.drew g cur C2.toArray _ _ hg
  have HG2 := Lib.hid hg2
  have HB := Lib.hid hb
  have HE2 := Lib.hid e2'
  have HE3 := Lib.hid e3'
  clear hC1 hC2 e1 e2 e3 e2' e3' hg1 hX1 hg2 hsrc hone h hb hF h3 hX hg hgX
  have hw1 : IntKind.i64.wrap ((p : Int) + 1) = (p : Int) + 1 := by rw [IntKind.wrap_i64]; omega
  have hb0 : (0 : Int) ≤ (p : Int) + 1 := by omega
  have htn : ((p : Int) + 1).toNat = p + 1 := by omega
  have hb1 : (p : Int) ≤ (n : Int) := by omega
  have hb6 : (p : Int) ≤ (n : Int) + 1 := by omega
  have hz2 : ¬ ((p : Int) = (n : Int)) := by omega
  have hb2 : ¬ (cap = p + 1) := by omega
  have hb4 : ¬ (cap = p) := by omega
  have hb3 : (p : Int) + 1 ≤ (n : Int) + 1 := by omega
  have hb5 : (n : Int) + 1 ≤ (cap : Int) := by omega
  go_enter Tryd.func40, Tryd.ntmps40
  go_wp2_with (simp only [hov])
  go_region_law (refine step_copyR rfl (.tmp 73) (.tmp 76) 62 rfl (.slice (some ⟨g, (p + 1) * 2, none⟩) (n + 1 - (p + 1)) (cap - (p + 1))) (.slice (some ⟨g, p * 2, none⟩) (n + 1 - p) (cap - p)) (by simp [Act.eval, Act.put]) (by simp [Act.eval, Act.put]) (hcp1 _ _ _) ?_)
  all_goals
    go_wp2_with (at_builtin; refine wpList_copyR _ rfl _ _ 62 rfl _ _ rfl rfl (hcp2 _ _) ?_)
    go_ret
    refine ⟨_, rfl, ?_, ⟨rfl, rfl, rfl, by simp, fun k hk hn => setRow_other w.drew g k _ (fun e => hn (by rw [e]; rfl))⟩, fun j hj => .inl hj⟩
    unfold Its
    rw [HLN.out, HL.out]
    exact ⟨by have := HE3.out; rw [← this]; simp [HE2.out]; omega, .inr ⟨g, cap, C2.toArray, rfl, HB.out, HG2.out, by omega, by unfold maxLen; omega, by simp [HE2.out], HE3.out⟩⟩
set_option maxRecDepth 100000 in
set_option maxHeartbeats 4000000 in
theorem insert_grow {base g cap X p : Nat} {l : List Hit} {a : Int} {m : Nat} {w : World} (hbase : base ≤ w.heap.size) (h : Its base 66 (.slice (some ⟨g, 0, none⟩) l.length cap) l w) (hl : l.length ≤ 2001) (hX : w.heap[X]? = some (.cells #[.int .i64 a, .int .u64 m] 66 (0, 0))) (hp : p < l.length) (hroom : ¬ l.length < cap) :
    Calls Tryd.prog 40 #[.slice (some ⟨g, 0, none⟩) l.length cap, .int .i64 p, .slice (some ⟨X, 0, none⟩) 1 1] w (Put1 base 66 (.slice (some ⟨g, 0, none⟩) l.length cap) (l.take p ++ ⟨a, m⟩ :: l.drop p) w) := by
  rcases h.2 with ⟨h0, _⟩ | ⟨g', cap', cur, hv, hb, hg, h1, h2, h3, h4⟩
  · cases h0
  simp only [Value.slice.injEq, Option.some.injEq, Addr.mk.injEq, and_true, true_and] at hv
  obtain ⟨rfl, rfl⟩ := hv
  obtain ⟨i0, hi0, hz⟩ := Option.map_eq_some_iff.1 info_item
  simp only [Prod.mk.injEq] at hz
  obtain ⟨hz0, hz1, hz2⟩ := hz
  have hF := flatv_length l
  have hfl : (flat (l.take p ++ ⟨a, m⟩ :: l.drop p)) = (flat l).take (p * 2) ++ [.int .i64 a, .int .u64 m] ++ (flat l).drop (p * 2) := by
    rw [flat_append, flat_cons, ← flat_take, ← flat_drop]
    simp [encI]
  have hsrc := World.ownsRow.cellAt h
  have hone := oneCells l
  have hln : (l.take p ++ (⟨a, m⟩ : Hit) :: l.drop p).length = l.length + 1 := by simp; omega
  generalize hn : l.length = n at *
  obtain rfl : cap = n := by omega
  have hgw : g < w.heap.size := (Array.getElem?_eq_some_iff.1 hg).1
  have hXw : X < w.heap.size := (Array.getElem?_eq_some_iff.1 hX).1
  have hold : (Builtin.firstCells i0.size p (.slice (some ⟨g, 0, none⟩) p cap)).run Tryd.prog w.drew = .ok ((flat l).take (p * 2)).toArray w.drew := by
    rw [hz1]
    exact run_firstCells_some w.drew 2 p ⟨g, 0, none⟩ p cap ((flat l).take (p * 2)) (by rw [List.length_take, hF]; omega) (fun j v hj => by
      rw [List.getElem?_take] at hj
      split at hj
      · rename_i hjp
        rw [Addr.add_lit, Nat.zero_add]
        show w.cell? _ = _
        rw [hsrc j (by omega)]
        exact hj
      · cases hj)
  have hik : p + (cap + 1 - p) = cap + 1 := by omega
  have hkk : (cap : Int) + 1 - (p : Int) = ((cap + 1 - p : Nat) : Int) := by omega
  obtain ⟨G, hG⟩ : ∃ G, G = grownCap w (cap + 1) cap 66 := ⟨_, rfl⟩
  have hGn : cap + 1 ≤ G := by rw [hG]; exact grownCap_ge w _ _ _
  have hGm : G ≤ maxLen := by rw [hG]; exact grownCap_le_maxLen w _ _ _ (by unfold maxLen; omega)
  obtain ⟨Z, hZ⟩ : ∃ Z : Array Value, Z = Builtin.zeroCells (Value.agg #[.int .i64 0, .int .u64 0]).cells (cap + 1 - p) ++ Builtin.zeroCells (Value.agg #[.int .i64 0, .int .u64 0]).cells (G - (cap + 1)) := ⟨_, rfl⟩
  have hZs : Z.toList.length = (cap + 1 - p) * 2 + (G - (cap + 1)) * 2 := by
    rw [hZ]
    simp [size_zeroCells, Value.cells]
  have hrz : ∀ ty, (Builtin.append_ #[62, 3] ty #[.slice (some ⟨g, 0, none⟩) p cap, .int .i64 ((cap : Int) + 1 - (p : Int))]).run Tryd.prog w =
      .ok (.slice (some ⟨w.heap.size, 0, none⟩) (cap + 1) G) (w.drew.alloc (.cells ((flat l).take (p * 2) ++ Z.toList).toArray 66)) := fun ty => by
    have hh := Lib.run_append_grow_zeros w 62 3 ty 66 i0 _ .i64 .i64 Tryd.underlying62 Tryd.underlying3 hi0 hz0 (some ⟨g, 0, none⟩) p cap ((flat l).take (p * 2)) hold (cap + 1 - p) (by omega) (by omega) (by omega) (by omega) (by rw [hz2]; omega) (by rw [hz2, hik]; exact growslice_fits (by omega) (by omega))
    rw [hik, ← hG] at hh
    rw [hkk, hh]
    congr 3
    rw [hZ]
    simp
  obtain ⟨e1, e2, e3⟩ := laid (F := flat l) (Z := Z.toList) (n := cap) (p := p) (u := [Value.int .i64 a, .int .u64 m]) hF hp (by omega) rfl
  obtain ⟨R0, hR0⟩ : ∃ R0 : List Value, R0 = (flat l).take (p * 2) ++ Z.toList := ⟨_, rfl⟩
  have hR0l : R0.length = G * 2 := by rw [hR0, List.length_append, hZs, List.length_take, hF]; omega
  rw [← hR0] at hrz e1 e2 e3
  obtain ⟨R1, hR1⟩ : ∃ R1 : List Value, R1 = R0.take (p * 2) ++ [Value.int .i64 a, .int .u64 m] ++ R0.drop (p * 2 + 2) := ⟨_, rfl⟩
  have e1' : R1.length = G * 2 := by rw [hR1, ← hR0l]; exact e1
  obtain ⟨R2, hR2⟩ : ∃ R2 : List Value, R2 = R1.take ((p + 1) * 2) ++ (flat l).drop (p * 2) ++ R1.drop ((p + 1) * 2 + ((flat l).drop (p * 2)).length) := ⟨_, rfl⟩
  have e2' : R2.length = G * 2 := by rw [hR2, hR1, ← hR0l]; exact e2
  have e3' : R2.take ((cap + 1) * 2) = (flat l).take (p * 2) ++ [Value.int .i64 a, .int .u64 m] ++ (flat l).drop (p * 2) := by rw [hR2, hR1]; exact e3
  have hcpA : ∀ (W : World), W.heap[w.heap.size]? = some (.cells R0.toArray 66 (0, 0)) → W.heap[X]? = some (.cells #[.int .i64 a, .int .u64 m] 66 (0, 0)) → ∀ ty dc, (Builtin.copy_ #[62, 62] ty #[.slice (some ⟨w.heap.size, p * 2, none⟩) (cap + 1 - p) dc, .slice (some ⟨X, 0, none⟩) 1 1]).run Tryd.prog W = .ok (goInt (1 : Nat)) (W.setRow w.heap.size R1.toArray) := fun W hN hXW ty dc => by
    have hh := run_copy2 (P := Tryd.prog) W 62 62 ty 66 w.heap.size (p * 2) (cap + 1 - p) dc ⟨X, 0, none⟩ 1 1 R0.toArray 66 [.int .i64 a, .int .u64 m] Tryd.underlying62 size_item hN
      (by simp only [Nat.min_def]; split <;> simp <;> omega) (at_row hXW) (by rw [List.size_toArray, hR0l]; simp; omega) (one_cells ⟨a, m⟩)
    rw [show Nat.min 1 (cap + 1 - p) = 1 by simp only [Nat.min_def]; split <;> omega] at hh
    rw [hR1]
    exact hh
  have hcpB : ∀ (W : World), W.heap[w.heap.size]? = some (.cells R1.toArray 66 (0, 0)) → W.heap[g]? = some (.cells cur 66 (0, 0)) → ∀ ty dc sc, (Builtin.copy_ #[62, 62] ty #[.slice (some ⟨w.heap.size, (p + 1) * 2, none⟩) (cap + 1 - (p + 1)) dc, .slice (some ⟨g, p * 2, none⟩) (cap - p) sc]).run Tryd.prog W = .ok (goInt (cap - p : Nat)) (W.setRow w.heap.size R2.toArray) := fun W hN hgW ty dc sc => by
    have hh := run_copy2 (P := Tryd.prog) W 62 62 ty 66 w.heap.size ((p + 1) * 2) (cap + 1 - (p + 1)) dc ⟨g, p * 2, none⟩ (cap - p) sc R1.toArray 66 ((flat l).drop (p * 2)) Tryd.underlying62 size_item hN
      (by rw [List.length_drop, hF]; simp only [Nat.min_def]; split <;> omega)
      (fun j v hj => by
        rw [List.getElem?_drop] at hj
        have hlj : p * 2 + j < cap * 2 := by rw [← hF]; exact (List.getElem?_eq_some_iff.1 hj).1
        rw [Addr.add_lit]
        have hc := hsrc (p * 2 + j) hlj
        rw [World.cell?_of_block (w := w) (show W.heap[(⟨g, p * 2 + j, none⟩ : Addr).block]? = w.heap[(⟨g, p * 2 + j, none⟩ : Addr).block]? from hgW.trans hg.symm), hc]
        exact hj)
      (by rw [List.length_drop, hF, List.size_toArray, e1']; omega) (fun v hv => hone v (List.mem_of_mem_drop hv))
    rw [show Nat.min (cap - p) (cap + 1 - (p + 1)) = cap - p by simp only [Nat.min_def]; split <;> omega] at hh
    rw [hR2]
    exact hh
  have hN0 : (w.alloc (.cells R0.toArray 66)).heap[w.heap.size]? = some (.cells R0.toArray 66 (0, 0)) := heap_alloc_new w _
  have hX0 : (w.alloc (.cells R0.toArray 66)).heap[X]? = some (.cells #[.int .i64 a, .int .u64 m] 66 (0, 0)) := (heap_alloc_old w _ hXw).trans hX
  have hg0 : (w.alloc (.cells R0.toArray 66)).heap[g]? = some (.cells cur 66 (0, 0)) := (heap_alloc_old w _ hgw).trans hg
  have hN1 := setRow_heap _ w.heap.size _ R1.toArray _ _ hN0
  have hg1 := (setRow_other (w.alloc (.cells R0.toArray 66)) w.heap.size g R1.toArray (by omega)).trans hg0
  have hN2 := setRow_heap _ w.heap.size _ R2.toArray _ _ hN1
  have HL := Lib.hid hfl
  have HLN := Lib.hid hln
  have HN0 := Lib.hid hN0
  have HX0 := Lib.hid hX0
  have HN1 := Lib.hid hN1
  have hcA := hcpA (w.alloc (.cells R0.toArray 66)).drew hN0 hX0
  clear hcpA
  have HG1 := Lib.hid hg1
  have HN2 := Lib.hid hN2
  have HBS := Lib.hid hbase
  have HE2 := Lib.hid e2'
  have HE3 := Lib.hid e3'
  have HGM := Lib.hid hGm
  have hG63 : G ≤ 9223372036854775807 := by unfold maxLen at hGm; omega
  have hGi : ¬ (G = p) := by omega
  have hGim : ¬ (G = p + 1) := by omega
  have hci : ¬ (cap = p) := by omega
  have hz2' : ¬ ((p : Int) = (cap : Int)) := by omega
  have hw1 : IntKind.i64.wrap ((p : Int) + 1) = (p : Int) + 1 := by rw [IntKind.wrap_i64]; omega
  have hb0 : (0 : Int) ≤ (p : Int) + 1 := by omega
  have htn : ((p : Int) + 1).toNat = p + 1 := by omega
  have hb1 : (p : Int) ≤ (cap : Int) := by omega
  have hb6 : (p : Int) ≤ (cap : Int) + 1 := by omega
  clear hfl hln hN0 hX0 hN1 hg1 hN2 hbase e2' e3' hGm e1 e2 e3 e1' hR0 hR0l hR1 hR2 hZ hZs hold hik hkk hsrc hone hF h3 h4 h hg hX hg0 hn hz0 hz1 hz2 hi0 hgw hXw hG hb
  go_enter Tryd.func40, Tryd.ntmps40
  go_wp2_with (at_builtin; refine Lib.wpList_append_run _ rfl _ _ _ _ rfl _ _ rfl rfl _ _ (hrz _) ?_)
  go_region_law (refine step_copyR rfl (.tmp 50) (.tmp 53) 62 rfl (.slice (some ⟨w.heap.size, (p + 1) * 2, none⟩) (cap + 1 - (p + 1)) (G - (p + 1))) (.slice (some ⟨g, p * 2, none⟩) (cap - p) (cap - p)) (by simp [Act.eval, Act.put]) (by simp [Act.eval, Act.put]) (hcpB ((w.alloc (.cells R0.toArray 66)).drew.setRow w.heap.size R1.toArray).drew HN1.out HG1.out _ _ _) ?_)
  all_goals
    go_wp2
    go_ret
    refine ⟨_, rfl, ?_, ?_, fun j hj => .inr (by simp [Value.ownBlock] at hj; omega)⟩
    · unfold Its
      rw [HLN.out, HL.out]
      exact ⟨by have := HE3.out; rw [← this]; simp [HE2.out]; omega, .inr ⟨w.heap.size, G, R2.toArray, rfl, HBS.out, HN2.out, by omega, HGM.out, by simp [HE2.out], HE3.out⟩⟩
    · refine ⟨rfl, rfl, rfl, by simp, fun k hk hn => ?_⟩
      have e1 := setRow_other ((w.alloc (.cells R0.toArray 66)).drew.setRow w.heap.size R1.toArray).drew w.heap.size k R2.toArray (by omega)
      have e2 := setRow_other (w.alloc (.cells R0.toArray 66)).drew w.heap.size k R1.toArray (by omega)
      exact e1.trans (e2.trans (heap_alloc_old w _ hk))
/-- An item put in at its place. -/
theorem insert_any {base X p : Nat} {v : Value} {l : List Hit} {a : Int} {m : Nat} {w : World} (hbase : base ≤ w.heap.size) (h : Its base 66 v l w) (hl : l.length ≤ 2001) (hX : w.heap[X]? = some (.cells #[.int .i64 a, .int .u64 m] 66 (0, 0))) (hne : v.ownBlock ≠ some X) (hp : p ≤ l.length) :
    Calls Tryd.prog 40 #[v, .int .i64 p, .slice (some ⟨X, 0, none⟩) 1 1] w (Put1 base 66 v (l.take p ++ ⟨a, m⟩ :: l.drop p) w) := by
  rcases h.form with ⟨rfl, rfl⟩ | ⟨g, cap, rfl, hb, hg, h1, h2, hcell, hfro⟩
  · obtain rfl : p = 0 := by simpa using hp
    exact insert_nil hbase hX
  · by_cases he : p = l.length
    · subst he
      rw [List.take_length, List.drop_length]
      exact insert_end hbase h hl hX
    · by_cases hr : l.length < cap
      · exact insert_shift h hl hX (fun e => hne (by rw [e]; rfl)) (by omega) hr
      · exact insert_grow hbase h hl hX (by omega) hr
end Go.Proofs.YtmjipafhahggpaaDoor.Hi

namespace Go.Proofs.YtmjipafhahggpaaDoor.Hi
open Go Go.RowKit

set_option maxRecDepth 100000 in
set_option maxHeartbeats 4000000 in
theorem add_full {base B k : Nat} {v : Value} {l : List Hit} {w : World} (h : Hs base 66 B k v l w) (n : Int) (hc : ¬ countH l < 1099511627776) :
    Calls Tryd.prog 22 #[.pointer (some ⟨B, 0, none⟩), .int .i64 n] w (Left base 66 B k v l (.int .i64 7) w) := by
  have hcn := count_any h
  have H := Lib.hid h
  have hsum := h.inv.sum
  clear h
  have hq : (1099511627776 : Int) ≤ (countH l : Int) := by omega
  generalize countH l = c at *
  go_enter Tryd.func22, Tryd.ntmps22
  go_wp2_with fail
  refine hcn.mono ?_
  rintro e w1 ⟨rfl, hB⟩
  go_wp2
  go_ret
  exact Left.same H.out hB
theorem find_any {base B k : Nat} {v : Value} {l : List Hit} {w : World} (h : Hs base 66 B k v l w) (a : Int) :
    Calls Tryd.prog 39 #[v, .int .i64 a, .func (.func 37) #[] #[]] w fun e w' => e = .returned (.tuple #[.int .i64 (cutH a l : Nat), .bool (decide (cutH a l < l.length) && decide (l[cutH a l]!.at_ = a))]) ∧ Below w.heap.size w w' := by
  rcases h.row.form with ⟨rfl, rfl⟩ | ⟨g, cap, rfl, _⟩
  · exact find_nil none 0 a w
  · exact find_row h.row h.inv.ris h.inv.len a
set_option maxRecDepth 100000 in
set_option maxHeartbeats 4000000 in
theorem add_found {base B k : Nat} {v : Value} {l : List Hit} {w : World} (h : Hs base 66 B k v l w) (n : Int) (hn : In64 n) (hc : countH l < 1099511627776) (hp : cutH (ofI k n) l < l.length) (he : l[cutH (ofI k n) l]!.at_ = ofI k n) :
    Calls Tryd.prog 22 #[.pointer (some ⟨B, 0, none⟩), .int .i64 n] w (Left base 66 B k v (more ⟨ofI k n, 1⟩ l) (.int .i64 0) w) := by
  have hI := h.inv.more (x := ⟨ofI k n, 1⟩) (of_fits k h.inv.hk n hn) (by show 0 < 1; omega) (by show countH l + 1 ≤ _; omega)
  have hmo := more_found (m := 1) hp he
  rw [hmo] at hI ⊢
  have hcn := count_any h
  have hof := fun w => of_any k h.inv.hk n hn w
  have hmany := h.inv.many hp
  have hlen := h.inv.len
  obtain ⟨g, cap, rfl, hrest⟩ := h.row.form_pos (by omega)
  clear hrest
  have hfin : (decide (cutH (ofI k n) l < l.length) && decide (l[cutH (ofI k n) l]!.at_ = ofI k n)) = true := by rw [decide_eq_true hp, decide_eq_true he]; rfl
  have hfd := fun (W : World) (hW : Hs base 66 B k (.slice (some ⟨g, 0, none⟩) l.length cap) l W) => find_any hW (ofI k n)
  rw [hfin] at hfd
  have H := Lib.hid h
  have HI := Lib.hid hI
  have hq : decide ((1099511627776 : Int) ≤ (countH l : Int)) = false := decide_eq_false (by omega)
  clear h hI hc hfin hmo he hn
  generalize ofI k n = a at *
  generalize cutH a l = p at *
  generalize countH l = c at *
  have HFD := Lib.hid hfd
  have HMY := Lib.hid hmany
  clear hfd hmany
  go_enter Tryd.func22, Tryd.ntmps22
  go_wp2_with fail
  refine hcn.mono ?_
  rintro e w1 ⟨rfl, hB1⟩
  have H1 := Lib.hid (H.out.below hB1)
  have HB1 := Lib.hid hB1
  have c0 := H1.out.c0
  clear hcn hB1
  go_wp2_with fail
  refine (hof _).mono ?_
  rintro e w2 ⟨rfl, hB2⟩
  have H2 := Lib.hid (H1.out.below hB2)
  have HB2 := Lib.hid (below_on HB1.out hB2 (Nat.le_refl _))
  have hf := HFD.out _ H2.out
  have c1 := H2.out.c1
  clear hof hB2 HFD c0
  go_wp2_with fail
  refine hf.mono ?_
  rintro e w3 ⟨rfl, hB3⟩
  have h3 := H2.out.below hB3
  have HB3 := Lib.hid (below_on HB2.out hB3 (Nat.le_refl _))
  obtain ⟨g', cap', hv, _, _, _, _, hcell, hfro⟩ := h3.row.form_pos (by omega)
  simp only [Value.slice.injEq, Option.some.injEq, Addr.mk.injEq, and_true, true_and] at hv
  obtain ⟨rfl, rfl⟩ := hv
  obtain ⟨_, d1⟩ := hcell p hp
  have f1 := hfro (p * 2 + 1)
  have c1 := h3.c1
  have hst := h3.row.store rfl (p * 2 + 1) (.int .u64 (l[p]!.many + 1 : Nat)) (by simp) (flat_set_many l p (l[p]!.many + 1) hp)
  have H3 := Lib.hid h3
  have HST := Lib.hid hst
  have hi2 : (p : Int) < (l.length : Int) := by omega
  obtain ⟨m, hm⟩ : ∃ m, l[p]!.many = m := ⟨_, rfl⟩
  have hmany := HMY.out
  rw [hm] at d1 hmany
  have HM := Lib.hid hm
  clear hf hB3 hcell hfro hst h3 hm
  obtain ⟨hm1, hm2⟩ := hmany
  go_wp2
  go_ret
  have hm := HM.out
  subst hm
  exact ⟨rfl, _, H3.out.rebuild ((Mov.refl (fun k => (Value.slice (some ⟨g, 0, none⟩) l.length cap).ownBlock = some k) w3).set rfl _ _) HI.out HST.out, (Mov.ofB HB3.out).trans ((Mov.refl (OwnT B (.slice (some ⟨g, 0, none⟩) l.length cap)) _).set (.inr rfl) _ _) fun _ _ hk => hk, fun _ hg => .inl hg⟩
theorem put_len {l : List Hit} {p : Nat} (x : Hit) : (l.take p ++ x :: l.drop p).length = l.length + 1 := by simp; omega
theorem put_at {l : List Hit} {p : Nat} (hp : p ≤ l.length) (x : Hit) : (l.take p ++ x :: l.drop p)[p]! = x := by
  rw [getElem!_pos _ p (by rw [put_len]; omega), List.getElem_append_right (by rw [List.length_take]; omega)]
  simp [List.length_take, Nat.min_eq_left hp]
theorem put_set {l : List Hit} {p : Nat} (hp : p ≤ l.length) (x y : Hit) : (l.take p ++ x :: l.drop p).set p y = l.take p ++ y :: l.drop p := by
  rw [List.set_append_right (h := by rw [List.length_take]; omega)]
  simp [List.length_take, Nat.min_eq_left hp]
set_option maxRecDepth 100000 in
set_option maxHeartbeats 4000000 in
theorem add_new {base B k : Nat} {v : Value} {l : List Hit} {w : World} (hbase : base ≤ w.heap.size) (h : Hs base 66 B k v l w) (n : Int) (hn : In64 n) (hc : countH l < 1099511627776) (he : cutH (ofI k n) l < l.length → l[cutH (ofI k n) l]!.at_ ≠ ofI k n) :
    Calls Tryd.prog 22 #[.pointer (some ⟨B, 0, none⟩), .int .i64 n] w (Left base 66 B k v (more ⟨ofI k n, 1⟩ l) (.int .i64 0) w) := by
  have hI := h.inv.more (x := ⟨ofI k n, 1⟩) (of_fits k h.inv.hk n hn) (by show 0 < 1; omega) (by show countH l + 1 ≤ _; omega)
  have hmo := more_new (m := 1) he
  rw [hmo] at hI ⊢
  have hcn := count_any h
  have hof := fun w => of_any k h.inv.hk n hn w
  have hlen := h.inv.len
  have hle := cutH_le (ofI k n) l
  have hfin : (decide (cutH (ofI k n) l < l.length) && decide (l[cutH (ofI k n) l]!.at_ = ofI k n)) = false := by
    by_cases hp : cutH (ofI k n) l < l.length
    · rw [decide_eq_false (he hp), Bool.and_false]
    · rw [decide_eq_false hp, Bool.false_and]
  have hfd := fun (W : World) (hW : Hs base 66 B k v l W) => find_any hW (ofI k n)
  rw [hfin] at hfd
  have H := Lib.hid h
  have HI := Lib.hid hI
  have HBS := Lib.hid hbase
  have HFD := Lib.hid hfd
  have hq : decide ((1099511627776 : Int) ≤ (countH l : Int)) = false := decide_eq_false (by omega)
  clear h hI hc hfin hmo he hn hfd hbase
  generalize ofI k n = a at *
  generalize cutH a l = p at *
  generalize countH l = c at *
  go_enter Tryd.func22, Tryd.ntmps22
  go_wp2_with fail
  refine hcn.mono ?_
  rintro e w1 ⟨rfl, hB1⟩
  have H1 := Lib.hid (H.out.below hB1)
  have HB1 := Lib.hid hB1
  have c0 := H1.out.c0
  clear hcn hB1
  go_wp2_with fail
  refine (hof _).mono ?_
  rintro e w2 ⟨rfl, hB2⟩
  have H2 := Lib.hid (H1.out.below hB2)
  have HB2 := Lib.hid (below_on HB1.out hB2 (Nat.le_refl _))
  have hf := HFD.out _ H2.out
  have c1 := H2.out.c1
  clear hof hB2 HFD c0
  go_wp2_with fail
  refine hf.mono ?_
  rintro e w3 ⟨rfl, hB3⟩
  have h3 := H2.out.below hB3
  have HB3 := Lib.hid (below_on HB2.out hB3 (Nat.le_refl _))
  have c1 := h3.c1
  have H3 := Lib.hid h3
  have hX : ((w3.alloc (.cells #[.int .i64 a, .int .u64 0] 66))).heap[w3.heap.size]? = some (.cells #[.int .i64 a, .int .u64 (0 : Nat)] 66 (0, 0)) := heap_alloc_new w3 _
  have hBX := (Below.refl w3.heap.size w3).alloc (Nat.le_refl _) (.cells #[.int .i64 a, .int .u64 0] 66)
  have hin := insert_any (p := p) (base := base) (Nat.le_trans HBS.out (Nat.le_trans HB3.out.size (by simp))) (h3.row.below hBX) hlen hX (fun e => by have := (h3.row.lt e).2; omega) hle
  have HX := Lib.hid (h3.below hBX)
  have HBX := Lib.hid hBX
  clear hf hB3 h3 hX hBX
  go_wp2_with fail
  refine hin.mono ?_
  rintro e w5 ⟨v', rfl, hI5, hM5, hat5⟩
  obtain ⟨s1, s2, s3, s4, s5, s6, s7⟩ := HX.out.stored0 hM5 hI5 hat5
  have b1 := (hM5.cell (i := 1) HX.out.lt HX.out.ne).trans HX.out.c1
  have bf := (hM5.frozen (i := 1) HX.out.lt HX.out.ne).trans HX.out.f1
  have hlt5 : w3.heap.size + 1 ≤ w5.heap.size := by have := hM5.size; simpa using this
  obtain ⟨g', cap', rfl, hbg, hg5, hcap5, hmax5, hcell, hfro⟩ := s5.form_pos (by rw [put_len]; omega)
  rw [put_len] at *
  obtain ⟨_, d1⟩ := hcell p (by omega)
  rw [put_at hle] at d1
  have f1 := hfro (p * 2 + 1)
  have hst := s5.store (l' := l.take p ++ ⟨a, 1⟩ :: l.drop p) (by rw [put_len]) (p * 2 + 1) (.int .u64 (1 : Nat)) (by rw [put_len, put_len]) (by
    have hh := flat_set_many (l.take p ++ (⟨a, 0⟩ : Hit) :: l.drop p) p 1 (by rw [put_len]; omega)
    rw [put_at hle, put_set hle] at hh
    exact hh)
  have S1 := Lib.hid s1
  have S2 := Lib.hid s2
  have S3 := Lib.hid s3
  have S4 := Lib.hid s4
  have S6 := Lib.hid s6
  have S7 := Lib.hid s7
  have HST := Lib.hid hst
  have HAT := Lib.hid hat5
  clear hcell hfro hst s1 s2 s4 s5 s6 s7 hat5 hM5 hI5 hin c1
  have hi2 : (p : Int) < (l.length : Int) + 1 := by omega
  have hgB : g' ≠ B := fun e => S6.out (by rw [e]; rfl)
  go_wp2
  go_ret
  have hs3 := HB3.out.size
  have M1 : Mov (OwnT B v) w (w5.setCell ⟨B, 1, none⟩ (.slice (some ⟨g', 0, none⟩) (l.length + 1) cap')) := ((Mov.ofB HB3.out).alloc _).trans S7.out fun _ _ hk => hk
  have hge : v.ownBlock = some g' ∨ w.heap.size ≤ g' := (HAT.out g' rfl).imp id fun hle => by simp at hle; omega
  refine ⟨rfl, _, ⟨by simpa using S1.out, H.out.lo, HI.out, ?_, ?_, ?_, HST.out, S6.out⟩, ?_, fun g hg => ?_⟩
  · rw [World.cell?_setCell_other (h := by simp)]; exact S2.out
  · rw [World.cell?_setCell_other (h := by simp)]; exact S3.out
  · rw [World.frozen?_setCell]; exact S4.out
  · rcases hge with e | e
    · exact M1.set (.inr e) _ _
    · exact M1.setNew e _ _
  · have : g = g' := by simpa [Value.ownBlock] using hg.symm
    rw [this]
    exact hge
theorem add_any {base B k : Nat} {v : Value} {l : List Hit} {w : World} (hbase : base ≤ w.heap.size) (h : Hs base 66 B k v l w) (n : Int) (hn : In64 n) (hc : countH l < 1099511627776) :
    Calls Tryd.prog 22 #[.pointer (some ⟨B, 0, none⟩), .int .i64 n] w (Left base 66 B k v (more ⟨ofI k n, 1⟩ l) (.int .i64 0) w) := by
  by_cases hp : cutH (ofI k n) l < l.length
  · by_cases he : l[cutH (ofI k n) l]!.at_ = ofI k n
    · exact add_found h n hn hc hp he
    · exact add_new hbase h n hn hc fun _ => he
  · exact add_new hbase h n hn hc fun e => absurd e hp
end Go.Proofs.YtmjipafhahggpaaDoor.Hi

