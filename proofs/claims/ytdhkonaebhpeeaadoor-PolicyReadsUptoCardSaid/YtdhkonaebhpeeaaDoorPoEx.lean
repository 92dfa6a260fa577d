/- The chapter's examples, walked. -/
import Derived.Test.YtdhkonaebhpeeaaDoorPoRd
import Derived.Test.YtdhkonaebhpeeaaDoorRsL
import Derived.Test.YtdhkonaebhpeeaaDoorPoT
import Derived.Test.YtdhkonaebhpeeaaDoorPoEval
namespace Go.Proofs.YtdhkonaebhpeeaaDoor.Po
open Go Go.RowKit

instance (x : Int) : Decidable (In64 x) := by unfold In64; infer_instance
theorem hwhere {p : Option Addr} {c : Nat} {w : World} (h : Tr (fun _ => False) (.slice p 2 c) [1, 5] w) : ∃ g o, p = some ⟨g, o, none⟩ ∧ g < w.heap.size ∧ w.cell? ⟨g, o + 1, none⟩ = some (.int .i64 5) := by
  obtain ⟨g, o, h1, h2, h3⟩ := h.at.2.2.2.2 1 (by decide)
  exact ⟨g, o, h1, h2, h3⟩
theorem text_one {S : Nat → Prop} (v : Value) (w : World) (hT : Tr S v [1, 5] w) (hX : Tens w) : Calls Tryd.prog 19 #[.agg (valsP [2, 1, 2, 8, 6, 2, 2, 60, 30, 5] v)] w fun e w' => e = .returned (.string (⟨#[115, 108, 111, 116, 115, 61, 50, 32, 108, 111, 119, 61, 49, 32, 104, 105, 103, 104, 61, 50, 32, 116, 111, 112, 61, 56, 32, 115, 107, 101, 116, 99, 104, 61, 54, 32, 102, 105, 110, 101, 61, 50, 32, 105, 100, 108, 101, 61, 50, 32, 119, 105, 110, 100, 111, 119, 61, 54, 48, 32, 108, 97, 116, 101, 61, 51, 48, 32, 102, 117, 116, 117, 114, 101, 61, 53, 32, 116, 105, 101, 114, 115, 61, 49, 47, 53]⟩)) ∧ Below w.heap.size w w' := by
  have := text_any S [2, 1, 2, 8, 6, 2, 2, 60, 30, 5] [1, 5] v w rfl (by decide) hT (by decide) hX
  rw [ex_text] at this
  exact this
/-- A policy that is the base. -/
def BaseAt (v : Value) (w : World) : Prop := ∃ u, v = .agg #[.int .i64 64, .int .i64 32, .int .i64 64, .int .i64 8, .int .i64 6, .int .i64 2, .int .i64 2, .int .i64 60, .int .i64 30, .int .i64 5, u] ∧ Tr (fun _ => False) u baseZ.t w
/-- What each operation yields. -/
def ExPhi (Q1 _Q2 _Q3 _Q4 gA oA c1 : Nat) (p4 : Option Addr) (c4 : Nat) : Nat → Value → World → Prop
  | 30, v, w => BaseAt v w
  | 38, v, w => BaseAt v w
  | i, v, _ => v = ([.pointer (some ⟨Q1, 0, none⟩), .int .i64 2, .bool true, .bool true, .pointer (some ⟨Q1, 10, none⟩), .slice (some ⟨gA, oA, none⟩) 2 c1, .int .i64 2, .bool true, .bool true, .bool true, .pointer (some ⟨Q1, 10, none⟩), .slice (some ⟨gA, oA, none⟩) 2 c1, .pointer (some ⟨gA, oA + 1, none⟩), .int .i64 5, .bool true, .bool true, .bool true, .int .i64 0, .bool true, .bool true, .bool true, .int .i64 2, .bool true, .bool true, .bool true, .int .i64 1, .bool true, .bool true, .bool true, .agg #[.int .i64 64, .int .i64 32, .int .i64 64, .int .i64 8, .int .i64 6, .int .i64 2, .int .i64 2, .int .i64 60, .int .i64 30, .int .i64 5, .slice p4 2 c4], undef, .bool true, .bool true, .bool true, .int .i64 0, .bool true, .bool true, .bool true, undef, .bool true, .bool true, .bool true, .agg #[.int .i64 2, .int .i64 1, .int .i64 2, .int .i64 8, .int .i64 6, .int .i64 2, .int .i64 2, .int .i64 60, .int .i64 30, .int .i64 5, .slice (some ⟨gA, oA, none⟩) 2 c1], .string (⟨#[115, 108, 111, 116, 115, 61, 50, 32, 108, 111, 119, 61, 49, 32, 104, 105, 103, 104, 61, 50, 32, 116, 111, 112, 61, 56, 32, 115, 107, 101, 116, 99, 104, 61, 54, 32, 102, 105, 110, 101, 61, 50, 32, 105, 100, 108, 101, 61, 50, 32, 119, 105, 110, 100, 111, 119, 61, 54, 48, 32, 108, 97, 116, 101, 61, 51, 48, 32, 102, 117, 116, 117, 114, 101, 61, 53, 32, 116, 105, 101, 114, 115, 61, 49, 47, 53]⟩), .bool true, .bool true, .bool true] : List Value).getD i undef
theorem ExPhi.stays {Q1 Q2 Q3 Q4 gA oA c1 : Nat} {p4 : Option Addr} {c4 : Nat} : ∀ i v w w', ExPhi Q1 Q2 Q3 Q4 gA oA c1 p4 c4 i v w → Reg.Old w w' → ExPhi Q1 Q2 Q3 Q4 gA oA c1 p4 c4 i v w' := by
  intro i v w w' hv hB
  unfold ExPhi at *
  split at hv
  · obtain ⟨u, rfl, hu⟩ := hv
    exact ⟨u, rfl, hu.below hB⟩
  · obtain ⟨u, rfl, hu⟩ := hv
    exact ⟨u, rfl, hu.below hB⟩
  · exact hv
/-- A policy read off a text that is known. -/
theorem read_at (s : List UInt8) (n t : List Int) (k : Nat) (h : readZ s = (n, t, k)) (hl : s.length ≤ 1099511627776) (w : World) :
    Calls Tryd.prog 23 #[.string (tx s)] w fun e w' => ∃ p c, e = .returned (.tuple #[.agg (valsP n (.slice p t.length c)), .int .i64 (k : Int)]) ∧ Tr (fun _ => False) (.slice p t.length c) t w' ∧ Below w.heap.size w w' := by
  refine (Read_any s hl w).mono ?_
  rintro e w' ⟨v, rfl, hT, hB⟩
  rw [h] at hT ⊢
  obtain ⟨p, c, rfl⟩ := hT.len
  exact ⟨p, c, rfl, hT.weak (fun _ h _ => h.elim), hB⟩
set_option maxRecDepth 100000 in
set_option maxHeartbeats 16000000 in
theorem examples_any (w : World) (hX : Tens w) :
    Calls Tryd.prog 10 #[] w fun e w' => e = .returned (.bool true) ∧ Below w.heap.size w w' := by
  have HX := Lib.hid hX
  have r1 : ∀ W : World, Calls Tryd.prog 23 #[.string (tx [115, 108, 111, 116, 115, 61, 50, 32, 108, 111, 119, 61, 49, 32, 104, 105, 103, 104, 61, 50, 32, 116, 105, 101, 114, 115, 61, 49, 47, 53])] W fun e w' => ∃ p c, e = .returned (.tuple #[.agg #[.int .i64 2, .int .i64 1, .int .i64 2, .int .i64 8, .int .i64 6, .int .i64 2, .int .i64 2, .int .i64 60, .int .i64 30, .int .i64 5, .slice p 2 c], .int .i64 0]) ∧ Tr (fun _ => False) (.slice p 2 c) [1, 5] w' ∧ Below W.heap.size W w' := fun W => read_at _ _ _ _ ex_one (by decide) W
  have r2 : ∀ W : World, Calls Tryd.prog 23 #[.string (tx [115, 108, 111, 116, 115, 61, 50, 32, 115, 108, 111, 116, 115, 61, 51])] W fun e w' => ∃ p c, e = .returned (.tuple #[.agg #[.int .i64 0, .int .i64 0, .int .i64 0, .int .i64 0, .int .i64 0, .int .i64 0, .int .i64 0, .int .i64 0, .int .i64 0, .int .i64 0, .slice p 0 c], .int .i64 2]) ∧ Tr (fun _ => False) (.slice p 0 c) [] w' ∧ Below W.heap.size W w' := fun W => read_at _ _ _ _ ex_two (by decide) W
  have r3 : ∀ W : World, Calls Tryd.prog 23 #[.string (tx [115, 108, 111, 116, 115, 61, 48])] W fun e w' => ∃ p c, e = .returned (.tuple #[.agg #[.int .i64 0, .int .i64 0, .int .i64 0, .int .i64 0, .int .i64 0, .int .i64 0, .int .i64 0, .int .i64 0, .int .i64 0, .int .i64 0, .slice p 0 c], .int .i64 1]) ∧ Tr (fun _ => False) (.slice p 0 c) [] w' ∧ Below W.heap.size W w' := fun W => read_at _ _ _ _ ex_zero (by decide) W
  have r4 : ∀ W : World, Calls Tryd.prog 23 #[.string (tx [])] W fun e w' => ∃ p c, e = .returned (.tuple #[.agg #[.int .i64 64, .int .i64 32, .int .i64 64, .int .i64 8, .int .i64 6, .int .i64 2, .int .i64 2, .int .i64 60, .int .i64 30, .int .i64 5, .slice p 2 c], .int .i64 0]) ∧ Tr (fun _ => False) (.slice p 2 c) [10, 60] w' ∧ Below W.heap.size W w' := fun W => read_at _ _ _ _ ex_none (by decide) W
  clear hX
  go_enter Tryd.func10, Tryd.ntmps10
  go_wp2_with fail
  refine (r1 _).mono ?_
  rintro e w1 ⟨p1, c1, rfl, hT1, hB1⟩
  have HB1 : Hid (Below w.heap.size w w1) := Lib.hid hB1
  have HA1 : Hid (Below w.heap.size w (w1.alloc (.cells #[.int .i64 2, .int .i64 1, .int .i64 2, .int .i64 8, .int .i64 6, .int .i64 2, .int .i64 2, .int .i64 60, .int .i64 30, .int .i64 5, .slice p1 2 c1] 24))) := Lib.hid (HB1.out.alloc HB1.out.size _)
  have HC1x1 := Lib.hid (CellsAt.new #[.int .i64 2, .int .i64 1, .int .i64 2, .int .i64 8, .int .i64 6, .int .i64 2, .int .i64 2, .int .i64 60, .int .i64 30, .int .i64 5, .slice p1 2 c1] 24 w1)
  have HT1x1 := Lib.hid (hT1.below ((Below.refl _ _).alloc (Nat.le_refl _) (.cells #[.int .i64 2, .int .i64 1, .int .i64 2, .int .i64 8, .int .i64 6, .int .i64 2, .int .i64 2, .int .i64 60, .int .i64 30, .int .i64 5, .slice p1 2 c1] 24)))
  obtain ⟨Q1, hQ1⟩ : ∃ Q, w1.heap.size = Q := ⟨_, rfl⟩
  rw [hQ1] at HC1x1
  clear hT1 hB1 r1   HB1
  go_wp2_with fail
  refine (r2 _).mono ?_
  rintro e w2 ⟨p2, c2, rfl, hT2, hB2⟩
  have HB2 : Hid (Below w.heap.size w w2) := Lib.hid (HA1.out.trans (hB2.mono HA1.out.size))
  have HC1x2 := Lib.hid ((HC1x1.out.below hB2).below ((Below.refl _ _).alloc (Nat.le_refl _) (.cells #[.int .i64 0, .int .i64 0, .int .i64 0, .int .i64 0, .int .i64 0, .int .i64 0, .int .i64 0, .int .i64 0, .int .i64 0, .int .i64 0, .slice p2 0 c2] 24)))
  have HT1x2 := Lib.hid ((HT1x1.out.below hB2).below ((Below.refl _ _).alloc (Nat.le_refl _) (.cells #[.int .i64 0, .int .i64 0, .int .i64 0, .int .i64 0, .int .i64 0, .int .i64 0, .int .i64 0, .int .i64 0, .int .i64 0, .int .i64 0, .slice p2 0 c2] 24)))
  have HA2 : Hid (Below w.heap.size w (w2.alloc (.cells #[.int .i64 0, .int .i64 0, .int .i64 0, .int .i64 0, .int .i64 0, .int .i64 0, .int .i64 0, .int .i64 0, .int .i64 0, .int .i64 0, .slice p2 0 c2] 24))) := Lib.hid (HB2.out.alloc HB2.out.size _)
  obtain ⟨Q2, hQ2⟩ : ∃ Q, w2.heap.size = Q := ⟨_, rfl⟩
  clear hT2 hB2 r2 HC1x1 HT1x1 HA1 HB2
  go_wp2_with fail
  refine (r3 _).mono ?_
  rintro e w3 ⟨p3, c3, rfl, hT3, hB3⟩
  have HB3 : Hid (Below w.heap.size w w3) := Lib.hid (HA2.out.trans (hB3.mono HA2.out.size))
  have HC1x3 := Lib.hid ((HC1x2.out.below hB3).below ((Below.refl _ _).alloc (Nat.le_refl _) (.cells #[.int .i64 0, .int .i64 0, .int .i64 0, .int .i64 0, .int .i64 0, .int .i64 0, .int .i64 0, .int .i64 0, .int .i64 0, .int .i64 0, .slice p3 0 c3] 24)))
  have HT1x3 := Lib.hid ((HT1x2.out.below hB3).below ((Below.refl _ _).alloc (Nat.le_refl _) (.cells #[.int .i64 0, .int .i64 0, .int .i64 0, .int .i64 0, .int .i64 0, .int .i64 0, .int .i64 0, .int .i64 0, .int .i64 0, .int .i64 0, .slice p3 0 c3] 24)))
  have HA3 : Hid (Below w.heap.size w (w3.alloc (.cells #[.int .i64 0, .int .i64 0, .int .i64 0, .int .i64 0, .int .i64 0, .int .i64 0, .int .i64 0, .int .i64 0, .int .i64 0, .int .i64 0, .slice p3 0 c3] 24))) := Lib.hid (HB3.out.alloc HB3.out.size _)
  obtain ⟨Q3, hQ3⟩ : ∃ Q, w3.heap.size = Q := ⟨_, rfl⟩
  clear hT3 hB3 r3 HC1x2 HT1x2 HA2 HB3
  go_wp2_with fail
  refine (r4 _).mono ?_
  rintro e w4 ⟨p4, c4, rfl, hT4, hB4⟩
  have HB4 : Hid (Below w.heap.size w w4) := Lib.hid (HA3.out.trans (hB4.mono HA3.out.size))
  have HC1x4 := Lib.hid ((HC1x3.out.below hB4).below ((Below.refl _ _).alloc (Nat.le_refl _) (.cells #[.int .i64 64, .int .i64 32, .int .i64 64, .int .i64 8, .int .i64 6, .int .i64 2, .int .i64 2, .int .i64 60, .int .i64 30, .int .i64 5, .slice p4 2 c4] 24)))
  have HT1x4 := Lib.hid ((HT1x3.out.below hB4).below ((Below.refl _ _).alloc (Nat.le_refl _) (.cells #[.int .i64 64, .int .i64 32, .int .i64 64, .int .i64 8, .int .i64 6, .int .i64 2, .int .i64 2, .int .i64 60, .int .i64 30, .int .i64 5, .slice p4 2 c4] 24)))
  have HA4 : Hid (Below w.heap.size w (w4.alloc (.cells #[.int .i64 64, .int .i64 32, .int .i64 64, .int .i64 8, .int .i64 6, .int .i64 2, .int .i64 2, .int .i64 60, .int .i64 30, .int .i64 5, .slice p4 2 c4] 24))) := Lib.hid (HB4.out.alloc HB4.out.size _)
  have HC4x4 := Lib.hid (CellsAt.new #[.int .i64 64, .int .i64 32, .int .i64 64, .int .i64 8, .int .i64 6, .int .i64 2, .int .i64 2, .int .i64 60, .int .i64 30, .int .i64 5, .slice p4 2 c4] 24 w4)
  have HT4x4 := Lib.hid (hT4.below ((Below.refl _ _).alloc (Nat.le_refl _) (.cells #[.int .i64 64, .int .i64 32, .int .i64 64, .int .i64 8, .int .i64 6, .int .i64 2, .int .i64 2, .int .i64 60, .int .i64 30, .int .i64 5, .slice p4 2 c4] 24)))
  obtain ⟨Q4, hQ4⟩ : ∃ Q, w4.heap.size = Q := ⟨_, rfl⟩
  rw [hQ4] at HC4x4
  clear hT4 hB4 r4 HC1x3 HT1x3 HA3 HB4
  have k1 := hwhere HT1x4.out
  obtain ⟨gA, oA, rfl, hg1, hc1⟩ := k1
  have HG1 := Lib.hid hg1
  have HK1 := Lib.hid hc1
  clear hg1 hc1
  go_wp2_with fail
  obtain ⟨W0, hW0⟩ : ∃ W0, (w4.alloc (.cells #[.int .i64 64, .int .i64 32, .int .i64 64, .int .i64 8, .int .i64 6, .int .i64 2, .int .i64 2, .int .i64 60, .int .i64 30, .int .i64 5, .slice p4 2 c4] 24)) = W0 := ⟨_, rfl⟩
  rw [hW0] at HC1x4 HT1x4 HC4x4 HT4x4 HA4 HG1 HK1 ⊢
  clear hW0 hQ1 hQ2 hQ3 hQ4
  have HTX := Lib.hid (HX.out.ten.on HA4.out)
  clear HX
  refine Reg.wp_region_inv (n := 71) (ExPhi Q1 Q2 Q3 Q4 gA oA c1 p4 c4) (by kernel_rfl) (by kernel_rfl) rfl ExPhi.stays ?_ ?_
  · refine ⟨?_, ?_, ?_, ?_, ?_, ?_, ?_, ?_, ?_, ?_, ?_, ?_, ?_, ?_, ?_, ?_, ?_, ?_, ?_, ?_, ?_, ?_, ?_, ?_, ?_, ?_, ?_, ?_, ?_, ?_, ?_, ?_, ?_, ?_, ?_, ?_, ?_, ?_, ?_, ?_, ?_, ?_, ?_, ?_, ?_, ?_, ?_, trivial⟩
    · intro cx wc hB hp hs
      have g1 : cx.tmps[1]? = some (.pointer (some ⟨Q1, 0, none⟩)) := (hs 1 (by kernel_rfl)).trans rfl
      refine Reg.ok_value Reg.Old.refl (v := .pointer (some ⟨Q1, 0, none⟩)) (Reg.wanted_none rfl) ?_ rfl
      go_simp
    · intro cx wc hB hp hs
      have g25 : cx.tmps[25]? = some (.pointer (some ⟨Q1, 0, none⟩)) := by obtain ⟨_, g, hv⟩ := Reg.pred hp 0 25 (by kernel_rfl) rfl rfl; exact g.trans (congrArg some hv)
      have hc := HC1x4.out.drew.below hB
      have k0 := hc.cell 0 (.int .i64 2) rfl
      refine Reg.ok_value Reg.Old.refl (v := .int .i64 2) (Reg.wanted_none rfl) ?_ rfl
      go_simp
    · intro cx wc hB hp hs
      have g26 : cx.tmps[26]? = some (.int .i64 2) := by obtain ⟨_, g, hv⟩ := Reg.pred hp 1 26 (by kernel_rfl) rfl rfl; exact g.trans (congrArg some hv)
      refine Reg.ok_value Reg.Old.refl (v := .bool true) (Reg.wanted_none rfl) ?_ rfl
      go_simp
    · intro cx wc hB hp hs
      have g27 : cx.tmps[27]? = some (.bool true) := by obtain ⟨_, g, hv⟩ := Reg.pred hp 2 27 (by kernel_rfl) rfl rfl; exact g.trans (congrArg some hv)
      refine Reg.ok_value Reg.Old.refl (v := .bool true) (Reg.wanted_none rfl) ?_ rfl
      go_simp
    · intro cx wc hB hp hs
      have g1 : cx.tmps[1]? = some (.pointer (some ⟨Q1, 0, none⟩)) := (hs 1 (by kernel_rfl)).trans rfl
      have g28 : cx.tmps[28]? = some (.bool true) := by obtain ⟨_, g, hv⟩ := Reg.pred hp 3 28 (by kernel_rfl) rfl rfl; exact g.trans (congrArg some hv)
      refine Reg.ok_value Reg.Old.refl (v := .pointer (some ⟨Q1, 10, none⟩)) (Reg.wanted_at (j := 3) (d := 28) rfl rfl rfl g28) ?_ rfl
      go_simp
    · intro cx wc hB hp hs
      have g29 : cx.tmps[29]? = some (.pointer (some ⟨Q1, 10, none⟩)) := by obtain ⟨_, g, hv⟩ := Reg.pred hp 4 29 (by kernel_rfl) rfl rfl; exact g.trans (congrArg some hv)
      have g28 : cx.tmps[28]? = some (.bool true) := by obtain ⟨_, g, hv⟩ := Reg.pred hp 3 28 (by kernel_rfl) rfl rfl; exact g.trans (congrArg some hv)
      have hc := HC1x4.out.drew.below hB
      have k10 := hc.cell 10 (.slice (some ⟨gA, oA, none⟩) 2 c1) rfl
      refine Reg.ok_value Reg.Old.refl (v := .slice (some ⟨gA, oA, none⟩) 2 c1) (Reg.wanted_at (j := 3) (d := 28) rfl rfl rfl g28) ?_ rfl
      go_simp
    · intro cx wc hB hp hs
      have g30 : cx.tmps[30]? = some (.slice (some ⟨gA, oA, none⟩) 2 c1) := by obtain ⟨_, g, hv⟩ := Reg.pred hp 5 30 (by kernel_rfl) rfl rfl; exact g.trans (congrArg some hv)
      have g28 : cx.tmps[28]? = some (.bool true) := by obtain ⟨_, g, hv⟩ := Reg.pred hp 3 28 (by kernel_rfl) rfl rfl; exact g.trans (congrArg some hv)
      refine Reg.ok_value Reg.Old.refl (v := .int .i64 2) (Reg.wanted_at (j := 3) (d := 28) rfl rfl rfl g28) ?_ rfl
      go_simp
    · intro cx wc hB hp hs
      have g31 : cx.tmps[31]? = some (.int .i64 2) := by obtain ⟨_, g, hv⟩ := Reg.pred hp 6 31 (by kernel_rfl) rfl rfl; exact g.trans (congrArg some hv)
      have g28 : cx.tmps[28]? = some (.bool true) := by obtain ⟨_, g, hv⟩ := Reg.pred hp 3 28 (by kernel_rfl) rfl rfl; exact g.trans (congrArg some hv)
      refine Reg.ok_value Reg.Old.refl (v := .bool true) (Reg.wanted_at (j := 3) (d := 28) rfl rfl rfl g28) ?_ rfl
      go_simp
    · intro cx wc hB hp hs
      have g28 : cx.tmps[28]? = some (.bool true) := by obtain ⟨_, g, hv⟩ := Reg.pred hp 3 28 (by kernel_rfl) rfl rfl; exact g.trans (congrArg some hv)
      have g32 : cx.tmps[32]? = some (.bool true) := by obtain ⟨_, g, hv⟩ := Reg.pred hp 7 32 (by kernel_rfl) rfl rfl; exact g.trans (congrArg some hv)
      refine Reg.ok_value Reg.Old.refl (v := .bool true) (Reg.wanted_none rfl) ?_ rfl
      go_simp
    · intro cx wc hB hp hs
      have g33 : cx.tmps[33]? = some (.bool true) := by obtain ⟨_, g, hv⟩ := Reg.pred hp 8 33 (by kernel_rfl) rfl rfl; exact g.trans (congrArg some hv)
      refine Reg.ok_value Reg.Old.refl (v := .bool true) (Reg.wanted_none rfl) ?_ rfl
      go_simp
    · intro cx wc hB hp hs
      have g1 : cx.tmps[1]? = some (.pointer (some ⟨Q1, 0, none⟩)) := (hs 1 (by kernel_rfl)).trans rfl
      have g34 : cx.tmps[34]? = some (.bool true) := by obtain ⟨_, g, hv⟩ := Reg.pred hp 9 34 (by kernel_rfl) rfl rfl; exact g.trans (congrArg some hv)
      refine Reg.ok_value Reg.Old.refl (v := .pointer (some ⟨Q1, 10, none⟩)) (Reg.wanted_at (j := 9) (d := 34) rfl rfl rfl g34) ?_ rfl
      go_simp
    · intro cx wc hB hp hs
      have g35 : cx.tmps[35]? = some (.pointer (some ⟨Q1, 10, none⟩)) := by obtain ⟨_, g, hv⟩ := Reg.pred hp 10 35 (by kernel_rfl) rfl rfl; exact g.trans (congrArg some hv)
      have g34 : cx.tmps[34]? = some (.bool true) := by obtain ⟨_, g, hv⟩ := Reg.pred hp 9 34 (by kernel_rfl) rfl rfl; exact g.trans (congrArg some hv)
      have hc := HC1x4.out.drew.below hB
      have k10 := hc.cell 10 (.slice (some ⟨gA, oA, none⟩) 2 c1) rfl
      refine Reg.ok_value Reg.Old.refl (v := .slice (some ⟨gA, oA, none⟩) 2 c1) (Reg.wanted_at (j := 9) (d := 34) rfl rfl rfl g34) ?_ rfl
      go_simp
    · intro cx wc hB hp hs
      have g36 : cx.tmps[36]? = some (.slice (some ⟨gA, oA, none⟩) 2 c1) := by obtain ⟨_, g, hv⟩ := Reg.pred hp 11 36 (by kernel_rfl) rfl rfl; exact g.trans (congrArg some hv)
      have g34 : cx.tmps[34]? = some (.bool true) := by obtain ⟨_, g, hv⟩ := Reg.pred hp 9 34 (by kernel_rfl) rfl rfl; exact g.trans (congrArg some hv)
      refine Reg.ok_value Reg.Old.refl (v := .pointer (some ⟨gA, oA + 1, none⟩)) (Reg.wanted_at (j := 9) (d := 34) rfl rfl rfl g34) ?_ rfl
      go_simp
    · intro cx wc hB hp hs
      have g37 : cx.tmps[37]? = some (.pointer (some ⟨gA, oA + 1, none⟩)) := by obtain ⟨_, g, hv⟩ := Reg.pred hp 12 37 (by kernel_rfl) rfl rfl; exact g.trans (congrArg some hv)
      have g34 : cx.tmps[34]? = some (.bool true) := by obtain ⟨_, g, hv⟩ := Reg.pred hp 9 34 (by kernel_rfl) rfl rfl; exact g.trans (congrArg some hv)
      have kx : wc.cell? ⟨gA, oA + 1, none⟩ = some (.int .i64 5) := (Below.cell (p := ⟨gA, oA + 1, none⟩) hB HG1.out).trans HK1.out
      refine Reg.ok_value Reg.Old.refl (v := .int .i64 5) (Reg.wanted_at (j := 9) (d := 34) rfl rfl rfl g34) ?_ rfl
      go_simp
    · intro cx wc hB hp hs
      have g38 : cx.tmps[38]? = some (.int .i64 5) := by obtain ⟨_, g, hv⟩ := Reg.pred hp 13 38 (by kernel_rfl) rfl rfl; exact g.trans (congrArg some hv)
      have g34 : cx.tmps[34]? = some (.bool true) := by obtain ⟨_, g, hv⟩ := Reg.pred hp 9 34 (by kernel_rfl) rfl rfl; exact g.trans (congrArg some hv)
      refine Reg.ok_value Reg.Old.refl (v := .bool true) (Reg.wanted_at (j := 9) (d := 34) rfl rfl rfl g34) ?_ rfl
      go_simp
    · intro cx wc hB hp hs
      have g34 : cx.tmps[34]? = some (.bool true) := by obtain ⟨_, g, hv⟩ := Reg.pred hp 9 34 (by kernel_rfl) rfl rfl; exact g.trans (congrArg some hv)
      have g39 : cx.tmps[39]? = some (.bool true) := by obtain ⟨_, g, hv⟩ := Reg.pred hp 14 39 (by kernel_rfl) rfl rfl; exact g.trans (congrArg some hv)
      refine Reg.ok_value Reg.Old.refl (v := .bool true) (Reg.wanted_none rfl) ?_ rfl
      go_simp
    · intro cx wc hB hp hs
      have g40 : cx.tmps[40]? = some (.bool true) := by obtain ⟨_, g, hv⟩ := Reg.pred hp 15 40 (by kernel_rfl) rfl rfl; exact g.trans (congrArg some hv)
      refine Reg.ok_value Reg.Old.refl (v := .bool true) (Reg.wanted_none rfl) ?_ rfl
      go_simp
    · intro cx wc hB hp hs
      have g2 : cx.tmps[2]? = some (.int .i64 0) := (hs 2 (by kernel_rfl)).trans rfl
      have g41 : cx.tmps[41]? = some (.bool true) := by obtain ⟨_, g, hv⟩ := Reg.pred hp 16 41 (by kernel_rfl) rfl rfl; exact g.trans (congrArg some hv)
      refine Reg.ok_value Reg.Old.refl (v := .int .i64 0) (Reg.wanted_at (j := 16) (d := 41) rfl rfl rfl g41) ?_ rfl
      go_simp
    · intro cx wc hB hp hs
      have g42 : cx.tmps[42]? = some (.int .i64 0) := by obtain ⟨_, g, hv⟩ := Reg.pred hp 17 42 (by kernel_rfl) rfl rfl; exact g.trans (congrArg some hv)
      have g41 : cx.tmps[41]? = some (.bool true) := by obtain ⟨_, g, hv⟩ := Reg.pred hp 16 41 (by kernel_rfl) rfl rfl; exact g.trans (congrArg some hv)
      refine Reg.ok_value Reg.Old.refl (v := .bool true) (Reg.wanted_at (j := 16) (d := 41) rfl rfl rfl g41) ?_ rfl
      go_simp
    · intro cx wc hB hp hs
      have g41 : cx.tmps[41]? = some (.bool true) := by obtain ⟨_, g, hv⟩ := Reg.pred hp 16 41 (by kernel_rfl) rfl rfl; exact g.trans (congrArg some hv)
      have g43 : cx.tmps[43]? = some (.bool true) := by obtain ⟨_, g, hv⟩ := Reg.pred hp 18 43 (by kernel_rfl) rfl rfl; exact g.trans (congrArg some hv)
      refine Reg.ok_value Reg.Old.refl (v := .bool true) (Reg.wanted_none rfl) ?_ rfl
      go_simp
    · intro cx wc hB hp hs
      have g44 : cx.tmps[44]? = some (.bool true) := by obtain ⟨_, g, hv⟩ := Reg.pred hp 19 44 (by kernel_rfl) rfl rfl; exact g.trans (congrArg some hv)
      refine Reg.ok_value Reg.Old.refl (v := .bool true) (Reg.wanted_none rfl) ?_ rfl
      go_simp
    · intro cx wc hB hp hs
      have g4 : cx.tmps[4]? = some (.int .i64 2) := (hs 4 (by kernel_rfl)).trans rfl
      have g45 : cx.tmps[45]? = some (.bool true) := by obtain ⟨_, g, hv⟩ := Reg.pred hp 20 45 (by kernel_rfl) rfl rfl; exact g.trans (congrArg some hv)
      refine Reg.ok_value Reg.Old.refl (v := .int .i64 2) (Reg.wanted_at (j := 20) (d := 45) rfl rfl rfl g45) ?_ rfl
      go_simp
    · intro cx wc hB hp hs
      have g46 : cx.tmps[46]? = some (.int .i64 2) := by obtain ⟨_, g, hv⟩ := Reg.pred hp 21 46 (by kernel_rfl) rfl rfl; exact g.trans (congrArg some hv)
      have g45 : cx.tmps[45]? = some (.bool true) := by obtain ⟨_, g, hv⟩ := Reg.pred hp 20 45 (by kernel_rfl) rfl rfl; exact g.trans (congrArg some hv)
      refine Reg.ok_value Reg.Old.refl (v := .bool true) (Reg.wanted_at (j := 20) (d := 45) rfl rfl rfl g45) ?_ rfl
      go_simp
    · intro cx wc hB hp hs
      have g45 : cx.tmps[45]? = some (.bool true) := by obtain ⟨_, g, hv⟩ := Reg.pred hp 20 45 (by kernel_rfl) rfl rfl; exact g.trans (congrArg some hv)
      have g47 : cx.tmps[47]? = some (.bool true) := by obtain ⟨_, g, hv⟩ := Reg.pred hp 22 47 (by kernel_rfl) rfl rfl; exact g.trans (congrArg some hv)
      refine Reg.ok_value Reg.Old.refl (v := .bool true) (Reg.wanted_none rfl) ?_ rfl
      go_simp
    · intro cx wc hB hp hs
      have g48 : cx.tmps[48]? = some (.bool true) := by obtain ⟨_, g, hv⟩ := Reg.pred hp 23 48 (by kernel_rfl) rfl rfl; exact g.trans (congrArg some hv)
      refine Reg.ok_value Reg.Old.refl (v := .bool true) (Reg.wanted_none rfl) ?_ rfl
      go_simp
    · intro cx wc hB hp hs
      have g6 : cx.tmps[6]? = some (.int .i64 1) := (hs 6 (by kernel_rfl)).trans rfl
      have g49 : cx.tmps[49]? = some (.bool true) := by obtain ⟨_, g, hv⟩ := Reg.pred hp 24 49 (by kernel_rfl) rfl rfl; exact g.trans (congrArg some hv)
      refine Reg.ok_value Reg.Old.refl (v := .int .i64 1) (Reg.wanted_at (j := 24) (d := 49) rfl rfl rfl g49) ?_ rfl
      go_simp
    · intro cx wc hB hp hs
      have g50 : cx.tmps[50]? = some (.int .i64 1) := by obtain ⟨_, g, hv⟩ := Reg.pred hp 25 50 (by kernel_rfl) rfl rfl; exact g.trans (congrArg some hv)
      have g49 : cx.tmps[49]? = some (.bool true) := by obtain ⟨_, g, hv⟩ := Reg.pred hp 24 49 (by kernel_rfl) rfl rfl; exact g.trans (congrArg some hv)
      refine Reg.ok_value Reg.Old.refl (v := .bool true) (Reg.wanted_at (j := 24) (d := 49) rfl rfl rfl g49) ?_ rfl
      go_simp
    · intro cx wc hB hp hs
      have g49 : cx.tmps[49]? = some (.bool true) := by obtain ⟨_, g, hv⟩ := Reg.pred hp 24 49 (by kernel_rfl) rfl rfl; exact g.trans (congrArg some hv)
      have g51 : cx.tmps[51]? = some (.bool true) := by obtain ⟨_, g, hv⟩ := Reg.pred hp 26 51 (by kernel_rfl) rfl rfl; exact g.trans (congrArg some hv)
      refine Reg.ok_value Reg.Old.refl (v := .bool true) (Reg.wanted_none rfl) ?_ rfl
      go_simp
    · intro cx wc hB hp hs
      have g52 : cx.tmps[52]? = some (.bool true) := by obtain ⟨_, g, hv⟩ := Reg.pred hp 27 52 (by kernel_rfl) rfl rfl; exact g.trans (congrArg some hv)
      refine Reg.ok_value Reg.Old.refl (v := .bool true) (Reg.wanted_none rfl) ?_ rfl
      go_simp
    · intro cx wc hB hp hs
      have g7 : cx.tmps[7]? = some (.pointer (some ⟨Q4, 0, none⟩)) := (hs 7 (by kernel_rfl)).trans rfl
      have g53 : cx.tmps[53]? = some (.bool true) := by obtain ⟨_, g, hv⟩ := Reg.pred hp 28 53 (by kernel_rfl) rfl rfl; exact g.trans (congrArg some hv)
      have hc := HC4x4.out.drew.below hB
      have k0 := hc.cell 0 (.int .i64 64) rfl
      have k1 := hc.cell 1 (.int .i64 32) rfl
      have k2 := hc.cell 2 (.int .i64 64) rfl
      have k3 := hc.cell 3 (.int .i64 8) rfl
      have k4 := hc.cell 4 (.int .i64 6) rfl
      have k5 := hc.cell 5 (.int .i64 2) rfl
      have k6 := hc.cell 6 (.int .i64 2) rfl
      have k7 := hc.cell 7 (.int .i64 60) rfl
      have k8 := hc.cell 8 (.int .i64 30) rfl
      have k9 := hc.cell 9 (.int .i64 5) rfl
      have k10 := hc.cell 10 (.slice p4 2 c4) rfl
      refine Reg.ok_value Reg.Old.refl (v := .agg #[.int .i64 64, .int .i64 32, .int .i64 64, .int .i64 8, .int .i64 6, .int .i64 2, .int .i64 2, .int .i64 60, .int .i64 30, .int .i64 5, .slice p4 2 c4]) (Reg.wanted_at (j := 28) (d := 53) rfl rfl rfl g53) ?_ rfl
      go_simp
    · intro cx wc hB hp hs
      have g53 : cx.tmps[53]? = some (.bool true) := by obtain ⟨_, g, hv⟩ := Reg.pred hp 28 53 (by kernel_rfl) rfl rfl; exact g.trans (congrArg some hv)
      refine Reg.ok_call (f := 27) (args := #[]) (Reg.wanted_at (j := 28) (d := 53) rfl rfl rfl g53) (by go_simp) ((base_of wc).mono ?_)
      rintro e w' ⟨u, rfl, hu, hB2⟩
      exact ⟨_, rfl, hB2, u, rfl, hu.tr (fun _ _ h => h) (by decide)⟩
    · intro cx wc hB hp hs
      have g53 : cx.tmps[53]? = some (.bool true) := by obtain ⟨_, g, hv⟩ := Reg.pred hp 28 53 (by kernel_rfl) rfl rfl; exact g.trans (congrArg some hv)
      have g54 : cx.tmps[54]? = some (.agg #[.int .i64 64, .int .i64 32, .int .i64 64, .int .i64 8, .int .i64 6, .int .i64 2, .int .i64 2, .int .i64 60, .int .i64 30, .int .i64 5, .slice p4 2 c4]) := by obtain ⟨_, g, hv⟩ := Reg.pred hp 29 54 (by kernel_rfl) rfl rfl; exact g.trans (congrArg some hv)
      obtain ⟨_, gb, hvb⟩ := Reg.pred hp 30 55 (by kernel_rfl) rfl rfl
      obtain ⟨u, rfl, hu⟩ := hvb
      refine Reg.ok_call (f := 17) (args := #[.agg #[.int .i64 64, .int .i64 32, .int .i64 64, .int .i64 8, .int .i64 6, .int .i64 2, .int .i64 2, .int .i64 60, .int .i64 30, .int .i64 5, .slice p4 2 c4], .agg #[.int .i64 64, .int .i64 32, .int .i64 64, .int .i64 8, .int .i64 6, .int .i64 2, .int .i64 2, .int .i64 60, .int .i64 30, .int .i64 5, u]]) (Reg.wanted_at (j := 28) (d := 53) rfl rfl rfl g53) (by go_simp) ((same_any _ _ baseZ.n baseZ.t baseZ.n baseZ.t (.slice p4 2 c4) u wc rfl (by decide) (HT4x4.out.below ((Below.refl _ _).drew.trans hB)) rfl (by decide) hu).mono ?_)
      rintro e w' ⟨rfl, hB2⟩
      exact ⟨_, rfl, hB2, rfl⟩
    · intro cx wc hB hp hs
      have g53 : cx.tmps[53]? = some (.bool true) := by obtain ⟨_, g, hv⟩ := Reg.pred hp 28 53 (by kernel_rfl) rfl rfl; exact g.trans (congrArg some hv)
      have g56 : cx.tmps[56]? = some (.bool true) := by obtain ⟨_, g, hv⟩ := Reg.pred hp 31 56 (by kernel_rfl) rfl rfl; exact g.trans (congrArg some hv)
      refine Reg.ok_value Reg.Old.refl (v := .bool true) (Reg.wanted_none rfl) ?_ rfl
      go_simp
    · intro cx wc hB hp hs
      have g57 : cx.tmps[57]? = some (.bool true) := by obtain ⟨_, g, hv⟩ := Reg.pred hp 32 57 (by kernel_rfl) rfl rfl; exact g.trans (congrArg some hv)
      refine Reg.ok_value Reg.Old.refl (v := .bool true) (Reg.wanted_none rfl) ?_ rfl
      go_simp
    · intro cx wc hB hp hs
      have g8 : cx.tmps[8]? = some (.int .i64 0) := (hs 8 (by kernel_rfl)).trans rfl
      have g58 : cx.tmps[58]? = some (.bool true) := by obtain ⟨_, g, hv⟩ := Reg.pred hp 33 58 (by kernel_rfl) rfl rfl; exact g.trans (congrArg some hv)
      refine Reg.ok_value Reg.Old.refl (v := .int .i64 0) (Reg.wanted_at (j := 33) (d := 58) rfl rfl rfl g58) ?_ rfl
      go_simp
    · intro cx wc hB hp hs
      have g59 : cx.tmps[59]? = some (.int .i64 0) := by obtain ⟨_, g, hv⟩ := Reg.pred hp 34 59 (by kernel_rfl) rfl rfl; exact g.trans (congrArg some hv)
      have g58 : cx.tmps[58]? = some (.bool true) := by obtain ⟨_, g, hv⟩ := Reg.pred hp 33 58 (by kernel_rfl) rfl rfl; exact g.trans (congrArg some hv)
      refine Reg.ok_value Reg.Old.refl (v := .bool true) (Reg.wanted_at (j := 33) (d := 58) rfl rfl rfl g58) ?_ rfl
      go_simp
    · intro cx wc hB hp hs
      have g58 : cx.tmps[58]? = some (.bool true) := by obtain ⟨_, g, hv⟩ := Reg.pred hp 33 58 (by kernel_rfl) rfl rfl; exact g.trans (congrArg some hv)
      have g60 : cx.tmps[60]? = some (.bool true) := by obtain ⟨_, g, hv⟩ := Reg.pred hp 35 60 (by kernel_rfl) rfl rfl; exact g.trans (congrArg some hv)
      refine Reg.ok_value Reg.Old.refl (v := .bool true) (Reg.wanted_none rfl) ?_ rfl
      go_simp
    · intro cx wc hB hp hs
      have g61 : cx.tmps[61]? = some (.bool true) := by obtain ⟨_, g, hv⟩ := Reg.pred hp 36 61 (by kernel_rfl) rfl rfl; exact g.trans (congrArg some hv)
      refine Reg.ok_value Reg.Old.refl (v := .bool true) (Reg.wanted_none rfl) ?_ rfl
      go_simp
    · intro cx wc hB hp hs
      have g62 : cx.tmps[62]? = some (.bool true) := by obtain ⟨_, g, hv⟩ := Reg.pred hp 37 62 (by kernel_rfl) rfl rfl; exact g.trans (congrArg some hv)
      refine Reg.ok_call (f := 27) (args := #[]) (Reg.wanted_at (j := 37) (d := 62) rfl rfl rfl g62) (by go_simp) ((base_of wc).mono ?_)
      rintro e w' ⟨u, rfl, hu, hB2⟩
      exact ⟨_, rfl, hB2, u, rfl, hu.tr (fun _ _ h => h) (by decide)⟩
    · intro cx wc hB hp hs
      have g62 : cx.tmps[62]? = some (.bool true) := by obtain ⟨_, g, hv⟩ := Reg.pred hp 37 62 (by kernel_rfl) rfl rfl; exact g.trans (congrArg some hv)
      obtain ⟨_, gb, hvb⟩ := Reg.pred hp 38 63 (by kernel_rfl) rfl rfl
      obtain ⟨u, rfl, hu⟩ := hvb
      refine Reg.ok_call (f := 15) (args := #[.agg #[.int .i64 64, .int .i64 32, .int .i64 64, .int .i64 8, .int .i64 6, .int .i64 2, .int .i64 2, .int .i64 60, .int .i64 30, .int .i64 5, u]]) (Reg.wanted_at (j := 37) (d := 62) rfl rfl rfl g62) (by go_simp) ((right_any _ baseZ.n baseZ.t u wc rfl (by decide) hu).mono ?_)
      rintro e w' ⟨rfl, hB2⟩
      exact ⟨_, rfl, hB2, rfl⟩
    · intro cx wc hB hp hs
      have g62 : cx.tmps[62]? = some (.bool true) := by obtain ⟨_, g, hv⟩ := Reg.pred hp 37 62 (by kernel_rfl) rfl rfl; exact g.trans (congrArg some hv)
      have g64 : cx.tmps[64]? = some (.bool true) := by obtain ⟨_, g, hv⟩ := Reg.pred hp 39 64 (by kernel_rfl) rfl rfl; exact g.trans (congrArg some hv)
      refine Reg.ok_value Reg.Old.refl (v := .bool true) (Reg.wanted_none rfl) ?_ rfl
      go_simp
    · intro cx wc hB hp hs
      have g65 : cx.tmps[65]? = some (.bool true) := by obtain ⟨_, g, hv⟩ := Reg.pred hp 40 65 (by kernel_rfl) rfl rfl; exact g.trans (congrArg some hv)
      refine Reg.ok_value Reg.Old.refl (v := .bool true) (Reg.wanted_none rfl) ?_ rfl
      go_simp
    · intro cx wc hB hp hs
      have g1 : cx.tmps[1]? = some (.pointer (some ⟨Q1, 0, none⟩)) := (hs 1 (by kernel_rfl)).trans rfl
      have g66 : cx.tmps[66]? = some (.bool true) := by obtain ⟨_, g, hv⟩ := Reg.pred hp 41 66 (by kernel_rfl) rfl rfl; exact g.trans (congrArg some hv)
      have hc := HC1x4.out.drew.below hB
      have k0 := hc.cell 0 (.int .i64 2) rfl
      have k1 := hc.cell 1 (.int .i64 1) rfl
      have k2 := hc.cell 2 (.int .i64 2) rfl
      have k3 := hc.cell 3 (.int .i64 8) rfl
      have k4 := hc.cell 4 (.int .i64 6) rfl
      have k5 := hc.cell 5 (.int .i64 2) rfl
      have k6 := hc.cell 6 (.int .i64 2) rfl
      have k7 := hc.cell 7 (.int .i64 60) rfl
      have k8 := hc.cell 8 (.int .i64 30) rfl
      have k9 := hc.cell 9 (.int .i64 5) rfl
      have k10 := hc.cell 10 (.slice (some ⟨gA, oA, none⟩) 2 c1) rfl
      refine Reg.ok_value Reg.Old.refl (v := .agg #[.int .i64 2, .int .i64 1, .int .i64 2, .int .i64 8, .int .i64 6, .int .i64 2, .int .i64 2, .int .i64 60, .int .i64 30, .int .i64 5, .slice (some ⟨gA, oA, none⟩) 2 c1]) (Reg.wanted_at (j := 41) (d := 66) rfl rfl rfl g66) ?_ rfl
      go_simp
    · intro cx wc hB hp hs
      have g67 : cx.tmps[67]? = some (.agg #[.int .i64 2, .int .i64 1, .int .i64 2, .int .i64 8, .int .i64 6, .int .i64 2, .int .i64 2, .int .i64 60, .int .i64 30, .int .i64 5, .slice (some ⟨gA, oA, none⟩) 2 c1]) := by obtain ⟨_, g, hv⟩ := Reg.pred hp 42 67 (by kernel_rfl) rfl rfl; exact g.trans (congrArg some hv)
      have g66 : cx.tmps[66]? = some (.bool true) := by obtain ⟨_, g, hv⟩ := Reg.pred hp 41 66 (by kernel_rfl) rfl rfl; exact g.trans (congrArg some hv)
      refine Reg.ok_call (f := 19) (args := #[.agg #[.int .i64 2, .int .i64 1, .int .i64 2, .int .i64 8, .int .i64 6, .int .i64 2, .int .i64 2, .int .i64 60, .int .i64 30, .int .i64 5, .slice (some ⟨gA, oA, none⟩) 2 c1]]) (Reg.wanted_at (j := 41) (d := 66) rfl rfl rfl g66) (by go_simp) ((text_one _ wc (HT1x4.out.below ((Below.refl _ _).drew.trans hB)) (HTX.out wc (Below.mono ((Below.refl _ _).drew.trans hB) HA4.out.size))).mono ?_)
      rintro e w' ⟨rfl, hB2⟩
      exact ⟨_, rfl, hB2, rfl⟩
    · intro cx wc hB hp hs
      have g68 : cx.tmps[68]? = some (.string (⟨#[115, 108, 111, 116, 115, 61, 50, 32, 108, 111, 119, 61, 49, 32, 104, 105, 103, 104, 61, 50, 32, 116, 111, 112, 61, 56, 32, 115, 107, 101, 116, 99, 104, 61, 54, 32, 102, 105, 110, 101, 61, 50, 32, 105, 100, 108, 101, 61, 50, 32, 119, 105, 110, 100, 111, 119, 61, 54, 48, 32, 108, 97, 116, 101, 61, 51, 48, 32, 102, 117, 116, 117, 114, 101, 61, 53, 32, 116, 105, 101, 114, 115, 61, 49, 47, 53]⟩)) := by obtain ⟨_, g, hv⟩ := Reg.pred hp 43 68 (by kernel_rfl) rfl rfl; exact g.trans (congrArg some hv)
      have g66 : cx.tmps[66]? = some (.bool true) := by obtain ⟨_, g, hv⟩ := Reg.pred hp 41 66 (by kernel_rfl) rfl rfl; exact g.trans (congrArg some hv)
      refine Reg.ok_value Reg.Old.refl (v := .bool true) (Reg.wanted_at (j := 41) (d := 66) rfl rfl rfl g66) ?_ rfl
      go_simp
    · intro cx wc hB hp hs
      have g66 : cx.tmps[66]? = some (.bool true) := by obtain ⟨_, g, hv⟩ := Reg.pred hp 41 66 (by kernel_rfl) rfl rfl; exact g.trans (congrArg some hv)
      have g69 : cx.tmps[69]? = some (.bool true) := by obtain ⟨_, g, hv⟩ := Reg.pred hp 44 69 (by kernel_rfl) rfl rfl; exact g.trans (congrArg some hv)
      refine Reg.ok_value Reg.Old.refl (v := .bool true) (Reg.wanted_none rfl) ?_ rfl
      go_simp
    · intro cx wc hB hp hs
      have g70 : cx.tmps[70]? = some (.bool true) := by obtain ⟨_, g, hv⟩ := Reg.pred hp 45 70 (by kernel_rfl) rfl rfl; exact g.trans (congrArg some hv)
      refine Reg.ok_value Reg.Old.refl (v := .bool true) (Reg.wanted_none rfl) ?_ rfl
      go_simp
  · intro d wc hB hsz hdf hv ho
    have gr : d.tmps[0]? = some (.bool true) := by obtain ⟨_, g, hv⟩ := hv 46 _ 0 rfl rfl; exact g.trans (congrArg some hv)
    have hF := HA4.out.trans (Below.mono hB HA4.out.size)
    clear hv ho hB
    go_wp2
    refine bodyPost_ret (v := .bool true) ?_ hdf ⟨rfl, hF⟩
    simp [results, Tryd.results10, go_sem, gr]

end Go.Proofs.YtdhkonaebhpeeaaDoor.Po

