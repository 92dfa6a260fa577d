/- A histogram's small calls: a new one, its bits, how many there are, what tells its items one by one, ranks. -/
import Derived.Test.YtklklpccpbhfgaaHiClo
import Derived.Test.YtklklpccpbhfgaaBBd
import Derived.Deep.LoopGhost
import Derived.Deep.QuietTactic
import Derived.BigQuiet
import Derived.IntWalk
namespace Go.Proofs.Ytklklpccpbhfgaa
open Go Go.RowKit

set_option maxHeartbeats 1000000 in
theorem new_out (x : Int) (h : x < 0 ∨ 4 < x) (w : World) :
    Calls Try.prog 11 #[.int .i64 x] w fun e w' => e = .returned (.tuple #[.pointer none, .int .i64 1]) ∧ Below w.heap.size w w' := by
  have hm := most_out x h w
  clear h
  go_enter Try.func11, Try.ntmps11
  go_wp2_with fail
  refine hm.mono ?_
  rintro e w1 ⟨rfl, hB⟩
  go_wp2
  go_ret2
  exact ⟨rfl, hB⟩
set_option maxHeartbeats 1000000 in
theorem new_any (k : Nat) (hk : k ≤ 4) (w : World) :
    Calls Try.prog 11 #[.int .i64 k] w fun e w' => ∃ B, e = .returned (.tuple #[.pointer (some ⟨B, 0, none⟩), .int .i64 0]) ∧ Below w.heap.size w w' ∧ w.heap.size ≤ B ∧ Hs w.heap.size 62 B k (.slice none 0 0) [] w' := by
  have hm := most_any k hk w
  have HK := Lib.hid hk
  go_enter Try.func11, Try.ntmps11
  go_wp2_with fail
  refine hm.mono ?_
  rintro e w1 ⟨rfl, hB⟩
  have hM0 : ¬ ((mst k : Int) < 0) := by omega
  clear hm
  generalize mst k = M at *
  go_wp2
  go_ret2
  have hC := CellsAt.new #[.int .i64 k, .slice none 0 0] 74 w1
  exact ⟨w1.heap.size, rfl, hB.alloc hB.size _, hB.size, hC.lt, hB.size, Inv.nil HK.out, hC.cell 0 _ rfl, hC.cell 1 _ rfl, hC.fro 1 _ rfl, Its.nil _ _ _, by simp [Value.ownBlock]⟩
theorem bits_any {base B k : Nat} {v : Value} {l : List Hit} {w : World} (h : Hs base 62 B k v l w) :
    Calls Try.prog 33 #[.pointer (some ⟨B, 0, none⟩)] w fun e w' => e = .returned (.int .i64 k) ∧ w = w' := by
  have c0 := h.c0
  clear h
  go_enter Try.func33, Try.ntmps33
  go_wp2
  go_ret
  exact ⟨rfl, rfl⟩
set_option maxHeartbeats 2000000 in
/-- How many there are. -/
theorem count_row {B cap : Nat} {p : Option Addr} {l : List Hit} {w : World} {base : Nat} (c1 : w.cell? ⟨B, 1, none⟩ = some (.slice p l.length cap)) (hr : Its base 62 (.slice p l.length cap) l w) (hl : l.length ≤ 65535) (hm : ∀ x ∈ l, x.many < 281474976710656) :
    Calls Try.prog 31 #[.pointer (some ⟨B, 0, none⟩)] w fun e w' => e = .returned (.int .u64 (countH l)) ∧ Below w.heap.size w w' := by
  have HL := Lib.hid hr.form
  have hsum : ∀ k, k ≤ l.length → countH (l.take k) ≤ k * 281474976710655 := by
    intro k
    induction k with
    | zero => intro _; simp [countH]
    | succ k ih =>
      intro hk
      have h1 := countH_take_succ l k (by omega)
      have h2 := hm _ (at_mem (show k < l.length by omega))
      have h3 := ih (by omega)
      omega
  have HM := Lib.hid hm
  clear hr hm
  obtain ⟨n, hn⟩ : ∃ n, l.length = n := ⟨_, rfl⟩
  have HN := Lib.hid hn
  rw [hn] at hl c1 hsum
  have HS0 := Lib.hid hsum
  clear hn hsum
  go_enter Try.func31, Try.ntmps31
  go_wp2
  go_loopg [3, 11] (n) (fun g s i wx => ∃ k : Nat, k + g = n ∧ i = .int .i64 k ∧ s = .int .u64 (countH (l.take k)) ∧ Below w.heap.size w wx)
  case atStart => exact ⟨0, by omega, rfl, rfl, Below.refl _ _⟩
  case round =>
    obtain ⟨k, hkg, rfl, rfl, hB⟩ := hrel
    cases gk with
    | zero =>
      obtain rfl : k = n := by omega
      have HE : Hid (countH (l.take k) = countH l) := Lib.hid (by rw [List.take_of_length_le (by rw [HN.out]; exact Nat.le_refl _)])
      go_wp2
      go_ret
      exact ⟨by rw [HE.out]; rfl, hB⟩
    | succ g =>
      have hk : k < n := by omega
      rcases HL.out with ⟨_, h0⟩ | ⟨gg, cap', e, _, hg, _, _, hc, _⟩
      · rw [← HN.out, h0] at hk; cases hk
      · simp only [Value.slice.injEq] at e
        obtain ⟨rfl, _, rfl⟩ := e
        obtain ⟨c10, c11⟩ := hc k (by rw [HN.out]; exact hk)
        have d0 := (hB.cell (p := ⟨gg, k * 2, none⟩) hg).trans c10
        have d1 := (hB.cell (p := ⟨gg, k * 2 + 1, none⟩) hg).trans c11
        have hs := countH_take_succ l k (by rw [HN.out]; exact hk)
        have hle := HS0.out k (by omega)
        have hmm := HM.out _ (at_mem (show k < l.length by rw [HN.out]; exact hk))
        have HS := Lib.hid hs
        generalize l[k]!.at_ = nm at *
        generalize l[k]!.many = m at *
        have hsm : countH (l.take k) + m < 18446744073709551616 := by omega
        clear c10 c11 hc hs hle hmm
        generalize countH (l.take k) = q at *
        go_wp2
        go_roundg g
        case measure => omega
        case rel => exact ⟨k + 1, by omega, by go_num, by rw [HS.out]; go_num, hB.trans ((Below.refl _ _).alloc hB.size _)⟩
theorem count_any {base B k : Nat} {v : Value} {l : List Hit} {w : World} (h : Hs base 62 B k v l w) :
    Calls Try.prog 31 #[.pointer (some ⟨B, 0, none⟩)] w fun e w' => e = .returned (.int .u64 (countH l)) ∧ Below w.heap.size w w' := by
  obtain ⟨p, cap, rfl, hcap, hmax⟩ := h.row.cap
  have h1 := h.inv.len
  have h2 := h.inv.sum
  exact count_row h.c1 h.row (by omega) (fun x hx => by have := many_le_count hx; omega)

/-- What tells items one by one, at the i-th: two cells of its own. -/
structure Nxt (C D i : Nat) (v : Value) (w : World) : Prop where
  c : w.cell? ⟨C, 0, none⟩ = some (.int .i64 i)
  f : w.frozen? ⟨C, 0, none⟩ = false
  d : w.cell? ⟨D, 0, none⟩ = some v
  ltC : C < w.heap.size
  ltD : D < w.heap.size
  ne : C ≠ D
theorem Nxt.mov {C D i : Nat} {v : Value} {w w' : World} {S : Nat → Prop} (h : Nxt C D i v w) (hM : Mov S w w') (hC : ¬ S C) (hD : ¬ S D) : Nxt C D i v w' :=
  ⟨(hM.cell h.ltC hC).trans h.c, (hM.frozen h.ltC hC).trans h.f, (hM.cell h.ltD hD).trans h.d, Nat.lt_of_lt_of_le h.ltC hM.size, Nat.lt_of_lt_of_le h.ltD hM.size, h.ne⟩
theorem Nxt.below {C D i : Nat} {v : Value} {w w' : World} (h : Nxt C D i v w) (hB : Below w.heap.size w w') : Nxt C D i v w' :=
  h.mov (Mov.of hB) (by have := h.ltC; omega) (by have := h.ltD; omega)
theorem one_any (p : Option Addr) (n cap : Nat) (w : World) :
    Calls Try.prog 43 #[.slice p n cap] w fun e w' => e = .returned (.func (.func 58) #[] #[.pointer (some ⟨w.heap.size + 1, 0, none⟩), .pointer (some ⟨w.heap.size, 0, none⟩)]) ∧ Below w.heap.size w w' ∧ Nxt (w.heap.size + 1) w.heap.size 0 (.slice p n cap) w' := by
  go_enter Try.func43, Try.ntmps43
  go_wp2
  go_ret
  have h1 := CellsAt.new #[.slice p n cap] 59 w
  have h2 := CellsAt.new #[.int .i64 0] 3 (w.alloc (.cells #[.slice p n cap] 59))
  have h3 := h1.past (.cells #[.int .i64 0] 3)
  have e1 : (w.alloc (.cells #[.slice p n cap] 59)).heap.size = w.heap.size + 1 := by simp
  rw [e1] at h2
  refine ⟨?_, ?_, ?_⟩
  · rfl
  · first
      | exact ((Below.refl _ _).alloc (Nat.le_refl _) _).alloc (by simp) _
      | exact (((Below.refl _ _).alloc (Nat.le_refl _) _).alloc (by simp) _).setCell (by simp) _
  · exact ⟨h2.cell 0 _ rfl, h2.fro 0 _ rfl, h3.cell 0 _ rfl, h2.lt, h3.lt, by omega⟩
/-- There is one more. -/
theorem nxt_some {C D i : Nat} {g n cap many : Nat} {a : Int} {w : World} (h : Nxt C D i (.slice (some ⟨g, 0, none⟩) n cap) w) (hi : i < n) (hn : n ≤ 2001) (hg : g < w.heap.size) (hgc : g ≠ C)
    (d0 : w.cell? ⟨g, i * 2, none⟩ = some (.int .i64 a)) (d1 : w.cell? ⟨g, i * 2 + 1, none⟩ = some (.int .u64 many)) :
    Calls Try.prog 58 #[.pointer (some ⟨C, 0, none⟩), .pointer (some ⟨D, 0, none⟩)] w fun e w' => e = .returned (.tuple #[.agg #[.int .i64 a, .int .u64 many], .bool true]) ∧ Mov (fun j => j = C) w w' ∧ Nxt C D (i + 1) (.slice (some ⟨g, 0, none⟩) n cap) w' := by
  obtain ⟨c, f, d, l1, l2, ne⟩ := h
  have hne : ¬ (i = n) := by omega
  go_enter Try.func58, Try.ntmps58
  go_wp2
  refine bodyPost_ret (v := .tuple #[.agg #[.int .i64 a, .int .u64 many], .bool true]) ?_ rfl ⟨rfl, ?_, ?_⟩
  · simp [results, Try.results58, go_sem]
  · exact ((Mov.refl (fun j => j = C) w).set rfl _ _).alloc _
  · refine ⟨?_, ?_, ?_, ?_, ?_, ne⟩
    · rw [World.cell?_alloc_past _ _ _ (by simpa using l1)]
      rw [World.cell?_setCell_same w ⟨C, 0, none⟩ _ c]
      simp
    · rw [World.frozen?_alloc_past _ _ _ (by simpa using l1), World.frozen?_setCell]
      exact f
    · rw [World.cell?_alloc_past _ _ _ (by simpa using l2), World.cell?_setCell_other (h := by simp [ne])]
      exact d
    · simp; omega
    · simp; omega
/-- There is none. -/
theorem nxt_none {C D : Nat} {p : Option Addr} {n cap : Nat} {w : World} (h : Nxt C D n (.slice p n cap) w) (hn : n ≤ 2001) :
    Calls Try.prog 58 #[.pointer (some ⟨C, 0, none⟩), .pointer (some ⟨D, 0, none⟩)] w fun e w' => e = .returned (.tuple #[.agg #[.int .i64 0, .int .u64 0], .bool false]) ∧ Below w.heap.size w w' := by
  obtain ⟨c, f, d, l1, l2, ne⟩ := h
  go_enter Try.func58, Try.ntmps58
  go_wp2
  refine bodyPost_ret (v := .tuple #[.agg #[.int .i64 0, .int .u64 0], .bool false]) (by simp [results, Try.results58, go_sem]) rfl ?_
  exact ⟨rfl, by first | exact (Below.refl _ _).alloc (Nat.le_refl _) _ | exact ((Below.refl _ _).alloc (Nat.le_refl _) _).setCell (by simp) _⟩
/-- What a rank answers. -/
def rkV : Option Int → Value
  | some a => .tuple #[.int .i64 a, .bool true]
  | none => .tuple #[.int .i64 0, .bool false]
theorem rankH_cons {l : List Hit} {k r : Nat} (hk : k < l.length) : rankH (l.drop k) r = if r ≤ l[k]!.many then some l[k]!.at_ else rankH (l.drop (k + 1)) (r - l[k]!.many) := by
  rw [drop_at hk, rankH]
set_option maxRecDepth 100000 in
set_option maxHeartbeats 4000000 in
theorem rank_zero {base B k : Nat} {v : Value} {l : List Hit} {w : World} (h : Hs base 62 B k v l w) :
    Calls Try.prog 19 #[.pointer (some ⟨B, 0, none⟩), .int .u64 0] w fun e w' => e = .returned (.tuple #[.int .i64 0, .bool false]) ∧ w = w' := by
  clear h
  go_enter Try.func19, Try.ntmps19
  go_wp2
  go_ret2
  exact ⟨rfl, rfl⟩
set_option maxRecDepth 100000 in
set_option maxHeartbeats 4000000 in
theorem rank_any {base B k : Nat} {v : Value} {l : List Hit} {w : World} (h : Hs base 62 B k v l w) (r : Nat) (hr1 : 1 ≤ r) (hr : r < 18446744073709551616) :
    Calls Try.prog 19 #[.pointer (some ⟨B, 0, none⟩), .int .u64 r] w fun e w' => e = .returned (rkV (rankH l r)) ∧ Below w.heap.size w w' := by
  have c1 := h.c1
  have hlen := h.inv.len
  have hz : ¬ ((r : Int) = 0) := by omega
  by_cases h0 : l = []
  · subst h0
    obtain ⟨p, cap, rfl, hcap, hmax⟩ := h.row.cap
    clear h
    rw [show rkV (rankH [] r) = .tuple #[.int .i64 0, .bool false] from rfl]
    have ho := one_any p 0 cap w
    simp only [List.length_nil] at c1
    go_enter Try.func19, Try.ntmps19
    go_wp2_with fail
    refine ho.mono ?_
    rintro e w1 ⟨rfl, hB, hN⟩
    have hn := nxt_none hN (by omega)
    clear ho c1 hN
    go_wp2_with fail
    refine hn.mono ?_
    rintro e w2 ⟨rfl, hB2⟩
    have hB3 := hB.trans (hB2.mono hB.size)
    clear hn hB hB2
    go_wp2
    go_loopg [8] 0 (fun g s8 wx => s8 = .bool false ∧ Below w.heap.size w wx)
    case atStart => exact ⟨rfl, hB3.alloc hB3.size _⟩
    case round =>
      clear hB3
      obtain ⟨rfl, hB⟩ := hrel
      go_wp2
      go_ret2
      exact ⟨rfl, hB⟩
  · have hpos : 0 < l.length := by
      cases l with
      | nil => exact absurd rfl h0
      | cons _ _ => simp
    obtain ⟨g, cap, rfl, hb, hg, hcap, hmax, hcell, hfro⟩ := h.row.form_pos hpos
    obtain ⟨d0, d1⟩ := hcell 0 hpos
    have ho := one_any (some ⟨g, 0, none⟩) l.length cap w
    have HC := Lib.hid hcell
    have HV := Lib.hid h.inv
    have HL := Lib.hid hlen
    clear h hcell hfro h0
    have hr0 : rankH (l.drop 0) r = rankH l r := by simp
    generalize hR : rankH l r = R at *
    clear hR
    have H0 := Lib.hid hr0
    clear hr0
    go_enter Try.func19, Try.ntmps19
    go_wp2_with fail
    refine ho.mono ?_
    rintro e w1 ⟨rfl, hB, hN⟩
    have hs := hB.size
    have H00 := Lib.hid (rfl : l[0]! = l[0]!)
    obtain ⟨a0, ha0⟩ : ∃ a0, l[0]!.at_ = a0 := ⟨_, rfl⟩
    obtain ⟨m0, hm0⟩ : ∃ m0, l[0]!.many = m0 := ⟨_, rfl⟩
    rw [ha0] at d0
    rw [hm0] at d1
    have HA0 := Lib.hid ha0
    have HM0 := Lib.hid hm0
    clear ha0 hm0 H00
    have hn := nxt_some hN hpos HL.out (Nat.lt_of_lt_of_le hg hB.size) (by omega) ((hB.cell (p := ⟨g, 0 * 2, none⟩) hg).trans d0) ((hB.cell (p := ⟨g, 0 * 2 + 1, none⟩) hg).trans d1)
    clear ho c1 hN d0 d1
    go_wp2_with fail
    refine hn.mono ?_
    rintro e w2 ⟨rfl, hM, hN2⟩
    have hB2 := hB.trans (hM.below (N := w.heap.size) (by intro k hk; omega) hs)
    clear hn hB hM
    have HN := Lib.hid hN2
    clear hN2
    go_wp2
    go_loopg [1, 7, 8] l.length (fun gg s1 s7 s8 wx => ∃ (k X : Nat), k + gg = l.length ∧ s7 = .pointer (some ⟨X, 0, none⟩) ∧ w.heap.size + 2 ≤ X ∧ Below w.heap.size w wx ∧
      ((k < l.length ∧ s8 = .bool true ∧ Hid (Nxt (w.heap.size + 1) w.heap.size (k + 1) (.slice (some ⟨g, 0, none⟩) l.length cap) wx) ∧ Hid (CellsAt X #[.int .i64 l[k]!.at_, .int .u64 l[k]!.many] wx) ∧ ∃ q : Nat, s1 = .int .u64 q ∧ 1 ≤ q ∧ q < 18446744073709551616 ∧ rankH (l.drop k) q = R) ∨
        (k = l.length ∧ s8 = .bool false ∧ R = none)))
    case atStart =>
      refine ⟨0, w2.heap.size, by omega, rfl, ?_, hB2.alloc hB2.size _, .inl ⟨hpos, rfl, Lib.hid (HN.out.below ((Below.refl _ _).alloc (Nat.le_refl _) _)), Lib.hid (by rw [HA0.out, HM0.out]; exact CellsAt.new _ _ _), r, rfl, hr1, hr, H0.out⟩⟩
      have := HN.out.ltC
      omega
    case round =>
      clear hB2 HN H0 hz HA0 HM0
      obtain ⟨k, X, hkg, rfl, hX, hB, hcase⟩ := hrel
      rcases hcase with ⟨hk, rfl, HN, HX, q, rfl, q1, q2, hq⟩ | ⟨rfl, rfl, rfl⟩
      · have x0 := HX.out.cell 0 _ rfl
        have x1 := HX.out.cell 1 _ rfl
        have hXl := HX.out.lt
        have xf0 := HX.out.fro 0 _ rfl
        have xf1 := HX.out.fro 1 _ rfl
        have hrk := rankH_cons (r := q) hk
        obtain ⟨m1, m2⟩ := HV.out.many hk
        by_cases hle : q ≤ l[k]!.many
        · rw [if_pos hle] at hrk
          rw [hrk] at hq
          have HQ := Lib.hid hq
          clear hrk hq
          obtain ⟨a, ha⟩ : ∃ a, l[k]!.at_ = a := ⟨_, rfl⟩
          obtain ⟨m, hm⟩ : ∃ m, l[k]!.many = m := ⟨_, rfl⟩
          rw [ha] at x0
          rw [hm] at x1 hle
          have HA := Lib.hid ha
          clear ha hm m1 m2
          go_wp2
          go_ret2
          exact ⟨by rw [← HQ.out, HA.out]; rfl, hB⟩
        · rw [if_neg hle] at hrk
          rw [hrk] at hq
          have HQ := Lib.hid hq
          clear hrk hq
          have hgw := Nat.lt_of_lt_of_le hg hB.size
          have hBs := hB.size
          by_cases hk1 : k + 1 < l.length
          · obtain ⟨d0, d1⟩ := HC.out (k + 1) hk1
            have e0 := (hB.cell (p := ⟨g, (k + 1) * 2, none⟩) hg).trans d0
            have e1 := (hB.cell (p := ⟨g, (k + 1) * 2 + 1, none⟩) hg).trans d1
            have hn := fun (W : World) (hW : Nxt (w.heap.size + 1) w.heap.size (k + 1) (.slice (some ⟨g, 0, none⟩) l.length cap) W) (hWg : g < W.heap.size) (f0 : W.cell? ⟨g, (k + 1) * 2, none⟩ = some (.int .i64 l[k + 1]!.at_)) (f1 : W.cell? ⟨g, (k + 1) * 2 + 1, none⟩ = some (.int .u64 l[k + 1]!.many)) => nxt_some hW hk1 HL.out hWg (by omega) f0 f1
            have hP := (Below.refl wr.heap.size wr).alloc (Nat.le_refl _) (.cells #[.int .i64 l[k]!.at_, .int .u64 l[k]!.many] 62)
            have hcall := hn _ (HN.out.below hP) (by simp; omega) ((hP.cell (p := ⟨g, (k + 1) * 2, none⟩) hgw).trans e0) ((hP.cell (p := ⟨g, (k + 1) * 2 + 1, none⟩) hgw).trans e1)
            have hX' := CellsAt.new #[.int .i64 l[k]!.at_, .int .u64 l[k]!.many] 62 wr
            have hBP := hB.trans (hP.mono hBs)
            have HX' := Lib.hid hX'
            have HBP := Lib.hid hBP
            have hC := HN.out.ltC
            clear d0 d1 e0 e1 hn hP hX' hBP
            obtain ⟨a', ha'⟩ : ∃ a', l[k + 1]!.at_ = a' := ⟨_, rfl⟩
            obtain ⟨m', hm'⟩ : ∃ m', l[k + 1]!.many = m' := ⟨_, rfl⟩
            rw [ha', hm'] at hcall
            have HA' := Lib.hid ha'
            have HM' := Lib.hid hm'
            clear ha' hm'
            generalize l[k]!.at_ = a at *
            generalize l[k]!.many = m at *
            have hle' : ¬ (q : Int) ≤ (m : Int) := by omega
            obtain ⟨Y, hY⟩ : ∃ Y, wr.heap.size = Y := ⟨_, rfl⟩
            have hYX : w.heap.size + 2 ≤ Y := by omega
            have hw1 : (q : Int) - m = ((q - m : Nat) : Int) := by omega
            go_wp2_with fail
            refine hcall.mono ?_
            rintro e W2 ⟨rfl, hM, hN3⟩
            have hX2 := HX'.out.mov hM (by omega)
            have hB2 := HBP.out.trans (hM.below (N := w.heap.size) (by intro k hk; omega) (by simp; omega))
            have y0 := hX2.cell 0 _ rfl
            have y1 := hX2.cell 1 _ rfl
            have z0 := hX2.fro 0 _ rfl
            have z1 := hX2.fro 1 _ rfl
            have hX3 := Lib.hid ((hX2.set 0 (.int .i64 a') (by simp)).set 1 (.int .u64 m') (by simp))
            have hN4 := Lib.hid (hN3.mov (((Mov.refl (fun j => j = wr.heap.size) W2).set rfl 0 (.int .i64 a')).set rfl 1 (.int .u64 m')) (by omega) (by omega))
            clear hcall hM hN3 hX2 hw1
            rw [hY] at *
            go_wp2
            go_roundg (l.length - (k + 1))
            case measure => omega
            case rel =>
              refine ⟨k + 1, Y, by omega, rfl, hYX, ?_, .inl ⟨hk1, rfl, hN4, by rw [HA'.out, HM'.out]; exact hX3, q - m, by go_num, by omega, by omega, HQ.out⟩⟩
              exact (hB2.setCell (p := ⟨Y, 0, none⟩) (by show w.heap.size ≤ Y; omega) _).setCell (p := ⟨Y, 1, none⟩) (by show w.heap.size ≤ Y; omega) _
          · have hkl : k + 1 = l.length := by omega
            rw [hkl, List.drop_length] at HQ
            have hR : R = none := by rw [← HQ.out]; rfl
            have HR := Lib.hid hR
            clear hR
            have hP := (Below.refl wr.heap.size wr).alloc (Nat.le_refl _) (.cells #[.int .i64 l[k]!.at_, .int .u64 l[k]!.many] 62)
            have hN3 := HN.out.below hP
            rw [hkl] at hN3
            have hcall := nxt_none hN3 HL.out
            have hX' := CellsAt.new #[.int .i64 l[k]!.at_, .int .u64 l[k]!.many] 62 wr
            have hBP := hB.trans (hP.mono hBs)
            have HX' := Lib.hid hX'
            have HBP := Lib.hid hBP
            clear hP hX' hBP hN3
            generalize l[k]!.at_ = a at *
            generalize l[k]!.many = m at *
            have hle' : ¬ (q : Int) ≤ (m : Int) := by omega
            obtain ⟨Y, hY⟩ : ∃ Y, wr.heap.size = Y := ⟨_, rfl⟩
            have hYX : w.heap.size + 2 ≤ Y := by omega
            go_wp2_with fail
            refine hcall.mono ?_
            rintro e W2 ⟨rfl, hB3⟩
            have hX2 := HX'.out.below hB3
            have hB2 := HBP.out.trans (hB3.mono (by simp; omega))
            have y0 := hX2.cell 0 _ rfl
            have y1 := hX2.cell 1 _ rfl
            have z0 := hX2.fro 0 _ rfl
            have z1 := hX2.fro 1 _ rfl
            clear hcall hB3 hX2
            rw [hY] at *
            go_wp2
            go_roundg 0
            case measure => omega
            case rel =>
              refine ⟨l.length, Y, by omega, rfl, hYX, ?_, .inr ⟨rfl, rfl, HR.out⟩⟩
              exact (hB2.setCell (p := ⟨Y, 0, none⟩) (by show w.heap.size ≤ Y; omega) _).setCell (p := ⟨Y, 1, none⟩) (by show w.heap.size ≤ Y; omega) _
      · go_wp2
        go_ret2
        exact ⟨rfl, hB⟩
end Go.Proofs.Ytklklpccpbhfgaa
