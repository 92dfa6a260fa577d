/- WideSums, walked. -/
import Derived.Test.YthddnhnhlgnlhaaDoorWRefA
import Derived.Test.YthddnhnhlgnlhaaDoorWRefP
namespace Go.Proofs.YthddnhnhlgnlhaaDoor
open Go Go.RowKit

def SumsPhi (w : World) (R R2 : Nat) (a b n : Int) (t p : ByteArray) : Nat → Value → World → Prop
  | i, v, _ => v = ([.bool true, .bool true, sv a, sv b, sv (w128 (a + b)), sv (w128 (a + b)), sv a, sv b, sv (w128 (a + b)), .bool true, .bool true, .bool true, sv a, sv (w128 (-a)), sv (w128 (-a)), sv a, sv (w128 (-a)), .bool true, .bool true, .bool true, sv a, sv b, .bool (decide (a < b)), sv a, sv b, .bool (decide (a < b)), .bool true, .bool true, .bool true, sv a, .int .i64 (ssgn a), sv a, .int .i64 (ssgn a), .bool true, .bool true, .bool true, sv a, .string t, sv a, .string t, .bool true, .bool true, .bool true, sv a, .string p, sv a, .string p, .bool true, .bool true, .bool true, .int .i64 n, sv n, sv n, .int .i64 n, sv n, .bool true, .bool true, .bool true] : List Value).getD i undef
theorem SumsPhi.stays {w : World} {R R2 : Nat} {a b n : Int} {t p : ByteArray} : ∀ i v wx wy, SumsPhi w R R2 a b n t p i v wx → Reg.Old wx wy → SumsPhi w R R2 a b n t p i v wy := fun _ _ _ _ h _ => h

set_option maxRecDepth 100000 in
set_option maxHeartbeats 8000000 in
theorem WideSums_walk (a : Int) (ha : InS a) (b : Int) (hb : InS b) (n : Int) (hn : (Lit.int .i64 n).wf = true) (w : World) (hT : Tens w) :
    Calls Tryd.prog 3 #[sv a, sv b, .int .i64 n] w fun e w' => e = .returned (.bool true) ∧ Below w.heap.size w w' := by
  have hn' : -9223372036854775808 ≤ n ∧ n ≤ 9223372036854775807 := by simpa [Lit.wf, IntKind.min, IntKind.max, IntKind.signed, IntKind.bits] using hn
  obtain ⟨n1, n2⟩ := hn'
  clear hn
  have HT := Lib.hid hT
  have HA := Lib.hid ha
  have HB := Lib.hid hb
  clear hT ha hb
  rw [show sv a = .agg #[.int .i64 (shi a), .int .u64 (slo a)] from rfl, show sv b = .agg #[.int .i64 (shi b), .int .u64 (slo b)] from rfl]
  go_enter Tryd.func3, Tryd.ntmps3
  go_wp2_with fail
  have hE0 : ∀ o1 o2, Below w.heap.size w ((w.alloc o1).alloc o2) := fun o1 o2 => ((Below.refl _ _).alloc (Nat.le_refl _) _).alloc (by simp) _
  refine (examples_any _ (HT.out.below (hE0 _ _))).mono ?_
  rintro e W ⟨rfl, hBx⟩
  have hA : CellsAt w.heap.size #[.int .i64 (shi a), .int .u64 (slo a)] W := ((CellsAt.new _ _ _).past _).below hBx
  have hB1 : CellsAt (w.heap.size + 1) #[.int .i64 (shi b), .int .u64 (slo b)] W := (CellsAt.newAt _ _ _ _ (by simp)).below hBx
  have hE := (hE0 _ _).trans (hBx.mono (hE0 _ _).size)
  clear hE0 hBx
  have a0 := hA.cell 0 (.int .i64 (shi a)) rfl
  have a1 := hA.cell 1 (.int .u64 (slo a)) rfl
  go_wp2_with fail
  refine (ref_any a HA.out _).mono ?_
  rintro e W1 ⟨rfl, hBr⟩
  have hA1 := hA.below hBr
  have hB2 := hB1.below hBr
  have hE1 := hE.trans (hBr.mono hE.size)
  clear a0 a1
  have b0 := hB2.cell 0 (.int .i64 (shi b)) rfl
  have b1 := hB2.cell 1 (.int .u64 (slo b)) rfl
  have c0 : CellsAt W1.heap.size #[.int .i64 (shi a), .int .u64 (slo a)] (W1.alloc (.cells #[.int .i64 (shi a), .int .u64 (slo a)] 26)) := CellsAt.new _ _ _
  have hB3 := hB2.past (.cells #[.int .i64 (shi a), .int .u64 (slo a)] 26)
  have b2 := hB3.cell 0 (.int .i64 (shi b)) rfl
  have b3 := hB3.cell 1 (.int .u64 (slo b)) rfl
  have f2 := hB3.lt
  have hA3 := hA1.past (.cells #[.int .i64 (shi a), .int .u64 (slo a)] 26)
  have hE3 := hE1.alloc hE1.size (.cells #[.int .i64 (shi a), .int .u64 (slo a)] 26)
  rw [show sv a = .agg #[.int .i64 (shi a), .int .u64 (slo a)] from rfl]
  go_wp2_with fail
  refine (ref_any b HB.out _).mono ?_
  rintro e W2 ⟨rfl, hBs⟩
  have hA4 := hA3.below hBs
  have hB4 := hB3.below hBs
  have hX4 := c0.below hBs
  have hE4 := hE3.trans (hBs.mono hE3.size)
  clear hE3 hE1 hB3 hA3 c0 hBs b0 b1 b2 b3 f2 hA1 hB2 hA hB1 hE hBr
  generalize W1.heap.size = R at *
  rw [show sv b = .agg #[.int .i64 (shi b), .int .u64 (slo b)] from rfl]
  go_wp2_with fail
  refine wp_gen (fun W => CellsAt w.heap.size #[.int .i64 (shi a), .int .u64 (slo a)] W ∧ CellsAt (w.heap.size + 1) #[.int .i64 (shi b), .int .u64 (slo b)] W ∧ CellsAt R #[.int .i64 (shi a), .int .u64 (slo a)] W ∧ CellsAt W2.heap.size #[.int .i64 (shi b), .int .u64 (slo b)] W ∧ Below w.heap.size w W) ?_ ?_
  · exact ⟨hA4.past _, hB4.past _, hX4.past _, CellsAt.new _ _ _, hE4.alloc hE4.size _⟩
  clear hA4 hB4 hX4 hE4
  generalize W2.heap.size = R2 at *
  intro W3 ⟨hA, hB1, hX, hY, hE⟩
  have HTW := Lib.hid (HT.out.below hE)
  obtain ⟨t, ht⟩ : ∃ t, tx (Lib.itoa a) = t := ⟨_, rfl⟩
  obtain ⟨p, hp⟩ : ∃ p, tx (sput a) = p := ⟨_, rfl⟩
  have htext : ∀ w, Tens w → Calls Tryd.prog 21 #[sv a] w fun e w' => e = .returned (.string t) ∧ Below w.heap.size w w' := fun w h => by rw [← ht]; exact text_any a HA.out w h
  have hreft : ∀ w, Calls Tryd.prog 22 #[sv a] w fun e w' => e = .returned (.string t) ∧ Below w.heap.size w w' := fun w => by rw [← ht]; exact refText_any a HA.out w
  have hput : ∀ w, Calls Tryd.prog 23 #[sv a] w fun e w' => e = .returned (.string p) ∧ Below w.heap.size w w' := fun w => by rw [← hp]; exact put_any a HA.out w
  have hrefp : ∀ w, Calls Tryd.prog 24 #[sv a] w fun e w' => e = .returned (.string p) ∧ Below w.heap.size w w' := fun w => by rw [← hp]; exact refPut_any a HA.out w
  clear ht hp
  refine Reg.wp_region_inv (n := 74) (SumsPhi w R R2 a b n t p) (by kernel_rfl) (by kernel_rfl) rfl SumsPhi.stays ?_ ?_
  · refine ⟨?_, ?_, ?_, ?_, ?_, ?_, ?_, ?_, ?_, ?_, ?_, ?_, ?_, ?_, ?_, ?_, ?_, ?_, ?_, ?_, ?_, ?_, ?_, ?_, ?_, ?_, ?_, ?_, ?_, ?_, ?_, ?_, ?_, ?_, ?_, ?_, ?_, ?_, ?_, ?_, ?_, ?_, ?_, ?_, ?_, ?_, ?_, ?_, ?_, ?_, ?_, ?_, ?_, ?_, ?_, ?_, ?_, ?_, trivial⟩
    · intro cx wc hB hp hs
      have g7 : cx.tmps[7]? = some (.bool true) := (hs 7 (by kernel_rfl)).trans rfl
      refine Reg.ok_value Reg.Old.refl (v := .bool true) (Reg.wanted_none rfl) ?_ rfl
      go_simp
    · intro cx wc hB hp hs
      have g17 : cx.tmps[17]? = some (.bool true) := by obtain ⟨_, g, hv⟩ := Reg.pred hp 0 17 (by kernel_rfl) rfl rfl; exact g.trans (congrArg some hv)
      refine Reg.ok_value Reg.Old.refl (v := .bool true) (Reg.wanted_none rfl) ?_ rfl
      go_simp
    · intro cx wc hB hp hs
      have g3 : cx.tmps[3]? = some (.pointer (some ⟨w.heap.size, 0, none⟩)) := (hs 3 (by kernel_rfl)).trans rfl
      have g18 : cx.tmps[18]? = some (.bool true) := by obtain ⟨_, g, hv⟩ := Reg.pred hp 1 18 (by kernel_rfl) rfl rfl; exact g.trans (congrArg some hv)
      have hc := hA.drew.below hB
      have k0 := hc.cell 0 (.int .i64 (shi a)) rfl
      have k1 := hc.cell 1 (.int .u64 (slo a)) rfl
      refine Reg.ok_value Reg.Old.refl (v := sv a) (Reg.wanted_at (j := 1) (d := 18) rfl rfl rfl g18) ?_ rfl
      go_simp
    · intro cx wc hB hp hs
      have g4 : cx.tmps[4]? = some (.pointer (some ⟨(w.heap.size + 1), 0, none⟩)) := (hs 4 (by kernel_rfl)).trans rfl
      have g18 : cx.tmps[18]? = some (.bool true) := by obtain ⟨_, g, hv⟩ := Reg.pred hp 1 18 (by kernel_rfl) rfl rfl; exact g.trans (congrArg some hv)
      have hc := hB1.drew.below hB
      have k0 := hc.cell 0 (.int .i64 (shi b)) rfl
      have k1 := hc.cell 1 (.int .u64 (slo b)) rfl
      refine Reg.ok_value Reg.Old.refl (v := sv b) (Reg.wanted_at (j := 1) (d := 18) rfl rfl rfl g18) ?_ rfl
      go_simp
    · intro cx wc hB hp hs
      have g19 : cx.tmps[19]? = some (sv a) := by obtain ⟨_, g, hv⟩ := Reg.pred hp 2 19 (by kernel_rfl) rfl rfl; exact g.trans (congrArg some hv)
      have g20 : cx.tmps[20]? = some (sv b) := by obtain ⟨_, g, hv⟩ := Reg.pred hp 3 20 (by kernel_rfl) rfl rfl; exact g.trans (congrArg some hv)
      have g18 : cx.tmps[18]? = some (.bool true) := by obtain ⟨_, g, hv⟩ := Reg.pred hp 1 18 (by kernel_rfl) rfl rfl; exact g.trans (congrArg some hv)
      refine Reg.ok_call (f := 13) (args := #[sv a, sv b]) (Reg.wanted_at (j := 1) (d := 18) rfl rfl rfl g18) (by go_simp) ((add_any a b (HA.out) (HB.out) wc).mono ?_)
      rintro e w' ⟨rfl, hB2⟩
      exact ⟨_, rfl, hB2, rfl⟩
    · intro cx wc hB hp hs
      have g21 : cx.tmps[21]? = some (sv (w128 (a + b))) := by obtain ⟨_, g, hv⟩ := Reg.pred hp 4 21 (by kernel_rfl) rfl rfl; exact g.trans (congrArg some hv)
      have g18 : cx.tmps[18]? = some (.bool true) := by obtain ⟨_, g, hv⟩ := Reg.pred hp 1 18 (by kernel_rfl) rfl rfl; exact g.trans (congrArg some hv)
      refine Reg.ok_call (f := 12) (args := #[sv (w128 (a + b))]) (Reg.wanted_at (j := 1) (d := 18) rfl rfl rfl g18) (by go_simp) ((ref_any (w128 (a + b)) (w128_in _) wc).mono ?_)
      rintro e w' ⟨rfl, hB2⟩
      exact ⟨_, rfl, hB2, rfl⟩
    · intro cx wc hB hp hs
      have g8 : cx.tmps[8]? = some (.pointer (some ⟨R, 0, none⟩)) := (hs 8 (by kernel_rfl)).trans rfl
      have g18 : cx.tmps[18]? = some (.bool true) := by obtain ⟨_, g, hv⟩ := Reg.pred hp 1 18 (by kernel_rfl) rfl rfl; exact g.trans (congrArg some hv)
      have hc := hX.drew.below hB
      have k0 := hc.cell 0 (.int .i64 (shi a)) rfl
      have k1 := hc.cell 1 (.int .u64 (slo a)) rfl
      refine Reg.ok_value Reg.Old.refl (v := sv a) (Reg.wanted_at (j := 1) (d := 18) rfl rfl rfl g18) ?_ rfl
      go_simp
    · intro cx wc hB hp hs
      have g9 : cx.tmps[9]? = some (.pointer (some ⟨R2, 0, none⟩)) := (hs 9 (by kernel_rfl)).trans rfl
      have g18 : cx.tmps[18]? = some (.bool true) := by obtain ⟨_, g, hv⟩ := Reg.pred hp 1 18 (by kernel_rfl) rfl rfl; exact g.trans (congrArg some hv)
      have hc := hY.drew.below hB
      have k0 := hc.cell 0 (.int .i64 (shi b)) rfl
      have k1 := hc.cell 1 (.int .u64 (slo b)) rfl
      refine Reg.ok_value Reg.Old.refl (v := sv b) (Reg.wanted_at (j := 1) (d := 18) rfl rfl rfl g18) ?_ rfl
      go_simp
    · intro cx wc hB hp hs
      have g23 : cx.tmps[23]? = some (sv a) := by obtain ⟨_, g, hv⟩ := Reg.pred hp 6 23 (by kernel_rfl) rfl rfl; exact g.trans (congrArg some hv)
      have g24 : cx.tmps[24]? = some (sv b) := by obtain ⟨_, g, hv⟩ := Reg.pred hp 7 24 (by kernel_rfl) rfl rfl; exact g.trans (congrArg some hv)
      have g18 : cx.tmps[18]? = some (.bool true) := by obtain ⟨_, g, hv⟩ := Reg.pred hp 1 18 (by kernel_rfl) rfl rfl; exact g.trans (congrArg some hv)
      refine Reg.ok_call (f := 14) (args := #[sv a, sv b]) (Reg.wanted_at (j := 1) (d := 18) rfl rfl rfl g18) (by go_simp) ((refAdd_any a b (HA.out) (HB.out) wc).mono ?_)
      rintro e w' ⟨rfl, hB2⟩
      exact ⟨_, rfl, hB2, rfl⟩
    · intro cx wc hB hp hs
      have g22 : cx.tmps[22]? = some (sv (w128 (a + b))) := by obtain ⟨_, g, hv⟩ := Reg.pred hp 5 22 (by kernel_rfl) rfl rfl; exact g.trans (congrArg some hv)
      have g25 : cx.tmps[25]? = some (sv (w128 (a + b))) := by obtain ⟨_, g, hv⟩ := Reg.pred hp 8 25 (by kernel_rfl) rfl rfl; exact g.trans (congrArg some hv)
      have g18 : cx.tmps[18]? = some (.bool true) := by obtain ⟨_, g, hv⟩ := Reg.pred hp 1 18 (by kernel_rfl) rfl rfl; exact g.trans (congrArg some hv)
      refine Reg.ok_value Reg.Old.refl (v := .bool true) (Reg.wanted_at (j := 1) (d := 18) rfl rfl rfl g18) ?_ rfl
      go_simp
    · intro cx wc hB hp hs
      have g18 : cx.tmps[18]? = some (.bool true) := by obtain ⟨_, g, hv⟩ := Reg.pred hp 1 18 (by kernel_rfl) rfl rfl; exact g.trans (congrArg some hv)
      have g26 : cx.tmps[26]? = some (.bool true) := by obtain ⟨_, g, hv⟩ := Reg.pred hp 9 26 (by kernel_rfl) rfl rfl; exact g.trans (congrArg some hv)
      refine Reg.ok_value Reg.Old.refl (v := .bool true) (Reg.wanted_none rfl) ?_ rfl
      go_simp
    · intro cx wc hB hp hs
      have g27 : cx.tmps[27]? = some (.bool true) := by obtain ⟨_, g, hv⟩ := Reg.pred hp 10 27 (by kernel_rfl) rfl rfl; exact g.trans (congrArg some hv)
      refine Reg.ok_value Reg.Old.refl (v := .bool true) (Reg.wanted_none rfl) ?_ rfl
      go_simp
    · intro cx wc hB hp hs
      have g3 : cx.tmps[3]? = some (.pointer (some ⟨w.heap.size, 0, none⟩)) := (hs 3 (by kernel_rfl)).trans rfl
      have g28 : cx.tmps[28]? = some (.bool true) := by obtain ⟨_, g, hv⟩ := Reg.pred hp 11 28 (by kernel_rfl) rfl rfl; exact g.trans (congrArg some hv)
      have hc := hA.drew.below hB
      have k0 := hc.cell 0 (.int .i64 (shi a)) rfl
      have k1 := hc.cell 1 (.int .u64 (slo a)) rfl
      refine Reg.ok_value Reg.Old.refl (v := sv a) (Reg.wanted_at (j := 11) (d := 28) rfl rfl rfl g28) ?_ rfl
      go_simp
    · intro cx wc hB hp hs
      have g29 : cx.tmps[29]? = some (sv a) := by obtain ⟨_, g, hv⟩ := Reg.pred hp 12 29 (by kernel_rfl) rfl rfl; exact g.trans (congrArg some hv)
      have g28 : cx.tmps[28]? = some (.bool true) := by obtain ⟨_, g, hv⟩ := Reg.pred hp 11 28 (by kernel_rfl) rfl rfl; exact g.trans (congrArg some hv)
      refine Reg.ok_call (f := 15) (args := #[sv a]) (Reg.wanted_at (j := 11) (d := 28) rfl rfl rfl g28) (by go_simp) ((neg_any a (HA.out) wc).mono ?_)
      rintro e w' ⟨rfl, hB2⟩
      exact ⟨_, rfl, hB2, rfl⟩
    · intro cx wc hB hp hs
      have g30 : cx.tmps[30]? = some (sv (w128 (-a))) := by obtain ⟨_, g, hv⟩ := Reg.pred hp 13 30 (by kernel_rfl) rfl rfl; exact g.trans (congrArg some hv)
      have g28 : cx.tmps[28]? = some (.bool true) := by obtain ⟨_, g, hv⟩ := Reg.pred hp 11 28 (by kernel_rfl) rfl rfl; exact g.trans (congrArg some hv)
      refine Reg.ok_call (f := 12) (args := #[sv (w128 (-a))]) (Reg.wanted_at (j := 11) (d := 28) rfl rfl rfl g28) (by go_simp) ((ref_any (w128 (-a)) (w128_in _) wc).mono ?_)
      rintro e w' ⟨rfl, hB2⟩
      exact ⟨_, rfl, hB2, rfl⟩
    · intro cx wc hB hp hs
      have g8 : cx.tmps[8]? = some (.pointer (some ⟨R, 0, none⟩)) := (hs 8 (by kernel_rfl)).trans rfl
      have g28 : cx.tmps[28]? = some (.bool true) := by obtain ⟨_, g, hv⟩ := Reg.pred hp 11 28 (by kernel_rfl) rfl rfl; exact g.trans (congrArg some hv)
      have hc := hX.drew.below hB
      have k0 := hc.cell 0 (.int .i64 (shi a)) rfl
      have k1 := hc.cell 1 (.int .u64 (slo a)) rfl
      refine Reg.ok_value Reg.Old.refl (v := sv a) (Reg.wanted_at (j := 11) (d := 28) rfl rfl rfl g28) ?_ rfl
      go_simp
    · intro cx wc hB hp hs
      have g32 : cx.tmps[32]? = some (sv a) := by obtain ⟨_, g, hv⟩ := Reg.pred hp 15 32 (by kernel_rfl) rfl rfl; exact g.trans (congrArg some hv)
      have g28 : cx.tmps[28]? = some (.bool true) := by obtain ⟨_, g, hv⟩ := Reg.pred hp 11 28 (by kernel_rfl) rfl rfl; exact g.trans (congrArg some hv)
      refine Reg.ok_call (f := 16) (args := #[sv a]) (Reg.wanted_at (j := 11) (d := 28) rfl rfl rfl g28) (by go_simp) ((refNeg_any a (HA.out) wc).mono ?_)
      rintro e w' ⟨rfl, hB2⟩
      exact ⟨_, rfl, hB2, rfl⟩
    · intro cx wc hB hp hs
      have g31 : cx.tmps[31]? = some (sv (w128 (-a))) := by obtain ⟨_, g, hv⟩ := Reg.pred hp 14 31 (by kernel_rfl) rfl rfl; exact g.trans (congrArg some hv)
      have g33 : cx.tmps[33]? = some (sv (w128 (-a))) := by obtain ⟨_, g, hv⟩ := Reg.pred hp 16 33 (by kernel_rfl) rfl rfl; exact g.trans (congrArg some hv)
      have g28 : cx.tmps[28]? = some (.bool true) := by obtain ⟨_, g, hv⟩ := Reg.pred hp 11 28 (by kernel_rfl) rfl rfl; exact g.trans (congrArg some hv)
      refine Reg.ok_value Reg.Old.refl (v := .bool true) (Reg.wanted_at (j := 11) (d := 28) rfl rfl rfl g28) ?_ rfl
      go_simp
    · intro cx wc hB hp hs
      have g28 : cx.tmps[28]? = some (.bool true) := by obtain ⟨_, g, hv⟩ := Reg.pred hp 11 28 (by kernel_rfl) rfl rfl; exact g.trans (congrArg some hv)
      have g34 : cx.tmps[34]? = some (.bool true) := by obtain ⟨_, g, hv⟩ := Reg.pred hp 17 34 (by kernel_rfl) rfl rfl; exact g.trans (congrArg some hv)
      refine Reg.ok_value Reg.Old.refl (v := .bool true) (Reg.wanted_none rfl) ?_ rfl
      go_simp
    · intro cx wc hB hp hs
      have g35 : cx.tmps[35]? = some (.bool true) := by obtain ⟨_, g, hv⟩ := Reg.pred hp 18 35 (by kernel_rfl) rfl rfl; exact g.trans (congrArg some hv)
      refine Reg.ok_value Reg.Old.refl (v := .bool true) (Reg.wanted_none rfl) ?_ rfl
      go_simp
    · intro cx wc hB hp hs
      have g3 : cx.tmps[3]? = some (.pointer (some ⟨w.heap.size, 0, none⟩)) := (hs 3 (by kernel_rfl)).trans rfl
      have g36 : cx.tmps[36]? = some (.bool true) := by obtain ⟨_, g, hv⟩ := Reg.pred hp 19 36 (by kernel_rfl) rfl rfl; exact g.trans (congrArg some hv)
      have hc := hA.drew.below hB
      have k0 := hc.cell 0 (.int .i64 (shi a)) rfl
      have k1 := hc.cell 1 (.int .u64 (slo a)) rfl
      refine Reg.ok_value Reg.Old.refl (v := sv a) (Reg.wanted_at (j := 19) (d := 36) rfl rfl rfl g36) ?_ rfl
      go_simp
    · intro cx wc hB hp hs
      have g4 : cx.tmps[4]? = some (.pointer (some ⟨(w.heap.size + 1), 0, none⟩)) := (hs 4 (by kernel_rfl)).trans rfl
      have g36 : cx.tmps[36]? = some (.bool true) := by obtain ⟨_, g, hv⟩ := Reg.pred hp 19 36 (by kernel_rfl) rfl rfl; exact g.trans (congrArg some hv)
      have hc := hB1.drew.below hB
      have k0 := hc.cell 0 (.int .i64 (shi b)) rfl
      have k1 := hc.cell 1 (.int .u64 (slo b)) rfl
      refine Reg.ok_value Reg.Old.refl (v := sv b) (Reg.wanted_at (j := 19) (d := 36) rfl rfl rfl g36) ?_ rfl
      go_simp
    · intro cx wc hB hp hs
      have g37 : cx.tmps[37]? = some (sv a) := by obtain ⟨_, g, hv⟩ := Reg.pred hp 20 37 (by kernel_rfl) rfl rfl; exact g.trans (congrArg some hv)
      have g38 : cx.tmps[38]? = some (sv b) := by obtain ⟨_, g, hv⟩ := Reg.pred hp 21 38 (by kernel_rfl) rfl rfl; exact g.trans (congrArg some hv)
      have g36 : cx.tmps[36]? = some (.bool true) := by obtain ⟨_, g, hv⟩ := Reg.pred hp 19 36 (by kernel_rfl) rfl rfl; exact g.trans (congrArg some hv)
      refine Reg.ok_call (f := 17) (args := #[sv a, sv b]) (Reg.wanted_at (j := 19) (d := 36) rfl rfl rfl g36) (by go_simp) ((less_any a b (HA.out) (HB.out) wc).mono ?_)
      rintro e w' ⟨rfl, hB2⟩
      exact ⟨_, rfl, hB2, rfl⟩
    · intro cx wc hB hp hs
      have g8 : cx.tmps[8]? = some (.pointer (some ⟨R, 0, none⟩)) := (hs 8 (by kernel_rfl)).trans rfl
      have g36 : cx.tmps[36]? = some (.bool true) := by obtain ⟨_, g, hv⟩ := Reg.pred hp 19 36 (by kernel_rfl) rfl rfl; exact g.trans (congrArg some hv)
      have hc := hX.drew.below hB
      have k0 := hc.cell 0 (.int .i64 (shi a)) rfl
      have k1 := hc.cell 1 (.int .u64 (slo a)) rfl
      refine Reg.ok_value Reg.Old.refl (v := sv a) (Reg.wanted_at (j := 19) (d := 36) rfl rfl rfl g36) ?_ rfl
      go_simp
    · intro cx wc hB hp hs
      have g9 : cx.tmps[9]? = some (.pointer (some ⟨R2, 0, none⟩)) := (hs 9 (by kernel_rfl)).trans rfl
      have g36 : cx.tmps[36]? = some (.bool true) := by obtain ⟨_, g, hv⟩ := Reg.pred hp 19 36 (by kernel_rfl) rfl rfl; exact g.trans (congrArg some hv)
      have hc := hY.drew.below hB
      have k0 := hc.cell 0 (.int .i64 (shi b)) rfl
      have k1 := hc.cell 1 (.int .u64 (slo b)) rfl
      refine Reg.ok_value Reg.Old.refl (v := sv b) (Reg.wanted_at (j := 19) (d := 36) rfl rfl rfl g36) ?_ rfl
      go_simp
    · intro cx wc hB hp hs
      have g40 : cx.tmps[40]? = some (sv a) := by obtain ⟨_, g, hv⟩ := Reg.pred hp 23 40 (by kernel_rfl) rfl rfl; exact g.trans (congrArg some hv)
      have g41 : cx.tmps[41]? = some (sv b) := by obtain ⟨_, g, hv⟩ := Reg.pred hp 24 41 (by kernel_rfl) rfl rfl; exact g.trans (congrArg some hv)
      have g36 : cx.tmps[36]? = some (.bool true) := by obtain ⟨_, g, hv⟩ := Reg.pred hp 19 36 (by kernel_rfl) rfl rfl; exact g.trans (congrArg some hv)
      refine Reg.ok_call (f := 18) (args := #[sv a, sv b]) (Reg.wanted_at (j := 19) (d := 36) rfl rfl rfl g36) (by go_simp) ((refLess_any a b (HA.out) (HB.out) wc).mono ?_)
      rintro e w' ⟨rfl, hB2⟩
      exact ⟨_, rfl, hB2, rfl⟩
    · intro cx wc hB hp hs
      have g39 : cx.tmps[39]? = some (.bool (decide (a < b))) := by obtain ⟨_, g, hv⟩ := Reg.pred hp 22 39 (by kernel_rfl) rfl rfl; exact g.trans (congrArg some hv)
      have g42 : cx.tmps[42]? = some (.bool (decide (a < b))) := by obtain ⟨_, g, hv⟩ := Reg.pred hp 25 42 (by kernel_rfl) rfl rfl; exact g.trans (congrArg some hv)
      have g36 : cx.tmps[36]? = some (.bool true) := by obtain ⟨_, g, hv⟩ := Reg.pred hp 19 36 (by kernel_rfl) rfl rfl; exact g.trans (congrArg some hv)
      refine Reg.ok_value Reg.Old.refl (v := .bool true) (Reg.wanted_at (j := 19) (d := 36) rfl rfl rfl g36) ?_ rfl
      go_simp
    · intro cx wc hB hp hs
      have g36 : cx.tmps[36]? = some (.bool true) := by obtain ⟨_, g, hv⟩ := Reg.pred hp 19 36 (by kernel_rfl) rfl rfl; exact g.trans (congrArg some hv)
      have g43 : cx.tmps[43]? = some (.bool true) := by obtain ⟨_, g, hv⟩ := Reg.pred hp 26 43 (by kernel_rfl) rfl rfl; exact g.trans (congrArg some hv)
      refine Reg.ok_value Reg.Old.refl (v := .bool true) (Reg.wanted_none rfl) ?_ rfl
      go_simp
    · intro cx wc hB hp hs
      have g44 : cx.tmps[44]? = some (.bool true) := by obtain ⟨_, g, hv⟩ := Reg.pred hp 27 44 (by kernel_rfl) rfl rfl; exact g.trans (congrArg some hv)
      refine Reg.ok_value Reg.Old.refl (v := .bool true) (Reg.wanted_none rfl) ?_ rfl
      go_simp
    · intro cx wc hB hp hs
      have g3 : cx.tmps[3]? = some (.pointer (some ⟨w.heap.size, 0, none⟩)) := (hs 3 (by kernel_rfl)).trans rfl
      have g45 : cx.tmps[45]? = some (.bool true) := by obtain ⟨_, g, hv⟩ := Reg.pred hp 28 45 (by kernel_rfl) rfl rfl; exact g.trans (congrArg some hv)
      have hc := hA.drew.below hB
      have k0 := hc.cell 0 (.int .i64 (shi a)) rfl
      have k1 := hc.cell 1 (.int .u64 (slo a)) rfl
      refine Reg.ok_value Reg.Old.refl (v := sv a) (Reg.wanted_at (j := 28) (d := 45) rfl rfl rfl g45) ?_ rfl
      go_simp
    · intro cx wc hB hp hs
      have g46 : cx.tmps[46]? = some (sv a) := by obtain ⟨_, g, hv⟩ := Reg.pred hp 29 46 (by kernel_rfl) rfl rfl; exact g.trans (congrArg some hv)
      have g45 : cx.tmps[45]? = some (.bool true) := by obtain ⟨_, g, hv⟩ := Reg.pred hp 28 45 (by kernel_rfl) rfl rfl; exact g.trans (congrArg some hv)
      refine Reg.ok_call (f := 19) (args := #[sv a]) (Reg.wanted_at (j := 28) (d := 45) rfl rfl rfl g45) (by go_simp) ((sign_any a (HA.out) wc).mono ?_)
      rintro e w' ⟨rfl, hB2⟩
      exact ⟨_, rfl, hB2, rfl⟩
    · intro cx wc hB hp hs
      have g8 : cx.tmps[8]? = some (.pointer (some ⟨R, 0, none⟩)) := (hs 8 (by kernel_rfl)).trans rfl
      have g45 : cx.tmps[45]? = some (.bool true) := by obtain ⟨_, g, hv⟩ := Reg.pred hp 28 45 (by kernel_rfl) rfl rfl; exact g.trans (congrArg some hv)
      have hc := hX.drew.below hB
      have k0 := hc.cell 0 (.int .i64 (shi a)) rfl
      have k1 := hc.cell 1 (.int .u64 (slo a)) rfl
      refine Reg.ok_value Reg.Old.refl (v := sv a) (Reg.wanted_at (j := 28) (d := 45) rfl rfl rfl g45) ?_ rfl
      go_simp
    · intro cx wc hB hp hs
      have g48 : cx.tmps[48]? = some (sv a) := by obtain ⟨_, g, hv⟩ := Reg.pred hp 31 48 (by kernel_rfl) rfl rfl; exact g.trans (congrArg some hv)
      have g45 : cx.tmps[45]? = some (.bool true) := by obtain ⟨_, g, hv⟩ := Reg.pred hp 28 45 (by kernel_rfl) rfl rfl; exact g.trans (congrArg some hv)
      refine Reg.ok_call (f := 20) (args := #[sv a]) (Reg.wanted_at (j := 28) (d := 45) rfl rfl rfl g45) (by go_simp) ((refSign_any a (HA.out) wc).mono ?_)
      rintro e w' ⟨rfl, hB2⟩
      exact ⟨_, rfl, hB2, rfl⟩
    · intro cx wc hB hp hs
      have g47 : cx.tmps[47]? = some (.int .i64 (ssgn a)) := by obtain ⟨_, g, hv⟩ := Reg.pred hp 30 47 (by kernel_rfl) rfl rfl; exact g.trans (congrArg some hv)
      have g49 : cx.tmps[49]? = some (.int .i64 (ssgn a)) := by obtain ⟨_, g, hv⟩ := Reg.pred hp 32 49 (by kernel_rfl) rfl rfl; exact g.trans (congrArg some hv)
      have g45 : cx.tmps[45]? = some (.bool true) := by obtain ⟨_, g, hv⟩ := Reg.pred hp 28 45 (by kernel_rfl) rfl rfl; exact g.trans (congrArg some hv)
      refine Reg.ok_value Reg.Old.refl (v := .bool true) (Reg.wanted_at (j := 28) (d := 45) rfl rfl rfl g45) ?_ rfl
      go_simp
    · intro cx wc hB hp hs
      have g45 : cx.tmps[45]? = some (.bool true) := by obtain ⟨_, g, hv⟩ := Reg.pred hp 28 45 (by kernel_rfl) rfl rfl; exact g.trans (congrArg some hv)
      have g50 : cx.tmps[50]? = some (.bool true) := by obtain ⟨_, g, hv⟩ := Reg.pred hp 33 50 (by kernel_rfl) rfl rfl; exact g.trans (congrArg some hv)
      refine Reg.ok_value Reg.Old.refl (v := .bool true) (Reg.wanted_none rfl) ?_ rfl
      go_simp
    · intro cx wc hB hp hs
      have g51 : cx.tmps[51]? = some (.bool true) := by obtain ⟨_, g, hv⟩ := Reg.pred hp 34 51 (by kernel_rfl) rfl rfl; exact g.trans (congrArg some hv)
      refine Reg.ok_value Reg.Old.refl (v := .bool true) (Reg.wanted_none rfl) ?_ rfl
      go_simp
    · intro cx wc hB hp hs
      have g3 : cx.tmps[3]? = some (.pointer (some ⟨w.heap.size, 0, none⟩)) := (hs 3 (by kernel_rfl)).trans rfl
      have g52 : cx.tmps[52]? = some (.bool true) := by obtain ⟨_, g, hv⟩ := Reg.pred hp 35 52 (by kernel_rfl) rfl rfl; exact g.trans (congrArg some hv)
      have hc := hA.drew.below hB
      have k0 := hc.cell 0 (.int .i64 (shi a)) rfl
      have k1 := hc.cell 1 (.int .u64 (slo a)) rfl
      refine Reg.ok_value Reg.Old.refl (v := sv a) (Reg.wanted_at (j := 35) (d := 52) rfl rfl rfl g52) ?_ rfl
      go_simp
    · intro cx wc hB hp hs
      have g53 : cx.tmps[53]? = some (sv a) := by obtain ⟨_, g, hv⟩ := Reg.pred hp 36 53 (by kernel_rfl) rfl rfl; exact g.trans (congrArg some hv)
      have g52 : cx.tmps[52]? = some (.bool true) := by obtain ⟨_, g, hv⟩ := Reg.pred hp 35 52 (by kernel_rfl) rfl rfl; exact g.trans (congrArg some hv)
      refine Reg.ok_call (f := 21) (args := #[sv a]) (Reg.wanted_at (j := 35) (d := 52) rfl rfl rfl g52) (by go_simp) ((htext wc (HTW.out.drew.below hB)).mono ?_)
      rintro e w' ⟨rfl, hB2⟩
      exact ⟨_, rfl, hB2, rfl⟩
    · intro cx wc hB hp hs
      have g8 : cx.tmps[8]? = some (.pointer (some ⟨R, 0, none⟩)) := (hs 8 (by kernel_rfl)).trans rfl
      have g52 : cx.tmps[52]? = some (.bool true) := by obtain ⟨_, g, hv⟩ := Reg.pred hp 35 52 (by kernel_rfl) rfl rfl; exact g.trans (congrArg some hv)
      have hc := hX.drew.below hB
      have k0 := hc.cell 0 (.int .i64 (shi a)) rfl
      have k1 := hc.cell 1 (.int .u64 (slo a)) rfl
      refine Reg.ok_value Reg.Old.refl (v := sv a) (Reg.wanted_at (j := 35) (d := 52) rfl rfl rfl g52) ?_ rfl
      go_simp
    · intro cx wc hB hp hs
      have g55 : cx.tmps[55]? = some (sv a) := by obtain ⟨_, g, hv⟩ := Reg.pred hp 38 55 (by kernel_rfl) rfl rfl; exact g.trans (congrArg some hv)
      have g52 : cx.tmps[52]? = some (.bool true) := by obtain ⟨_, g, hv⟩ := Reg.pred hp 35 52 (by kernel_rfl) rfl rfl; exact g.trans (congrArg some hv)
      refine Reg.ok_call (f := 22) (args := #[sv a]) (Reg.wanted_at (j := 35) (d := 52) rfl rfl rfl g52) (by go_simp) ((hreft wc).mono ?_)
      rintro e w' ⟨rfl, hB2⟩
      exact ⟨_, rfl, hB2, rfl⟩
    · intro cx wc hB hp hs
      have g54 : cx.tmps[54]? = some (.string t) := by obtain ⟨_, g, hv⟩ := Reg.pred hp 37 54 (by kernel_rfl) rfl rfl; exact g.trans (congrArg some hv)
      have g56 : cx.tmps[56]? = some (.string t) := by obtain ⟨_, g, hv⟩ := Reg.pred hp 39 56 (by kernel_rfl) rfl rfl; exact g.trans (congrArg some hv)
      have g52 : cx.tmps[52]? = some (.bool true) := by obtain ⟨_, g, hv⟩ := Reg.pred hp 35 52 (by kernel_rfl) rfl rfl; exact g.trans (congrArg some hv)
      refine Reg.ok_value Reg.Old.refl (v := .bool true) (Reg.wanted_at (j := 35) (d := 52) rfl rfl rfl g52) ?_ rfl
      go_simp
    · intro cx wc hB hp hs
      have g52 : cx.tmps[52]? = some (.bool true) := by obtain ⟨_, g, hv⟩ := Reg.pred hp 35 52 (by kernel_rfl) rfl rfl; exact g.trans (congrArg some hv)
      have g57 : cx.tmps[57]? = some (.bool true) := by obtain ⟨_, g, hv⟩ := Reg.pred hp 40 57 (by kernel_rfl) rfl rfl; exact g.trans (congrArg some hv)
      refine Reg.ok_value Reg.Old.refl (v := .bool true) (Reg.wanted_none rfl) ?_ rfl
      go_simp
    · intro cx wc hB hp hs
      have g58 : cx.tmps[58]? = some (.bool true) := by obtain ⟨_, g, hv⟩ := Reg.pred hp 41 58 (by kernel_rfl) rfl rfl; exact g.trans (congrArg some hv)
      refine Reg.ok_value Reg.Old.refl (v := .bool true) (Reg.wanted_none rfl) ?_ rfl
      go_simp
    · intro cx wc hB hp hs
      have g3 : cx.tmps[3]? = some (.pointer (some ⟨w.heap.size, 0, none⟩)) := (hs 3 (by kernel_rfl)).trans rfl
      have g59 : cx.tmps[59]? = some (.bool true) := by obtain ⟨_, g, hv⟩ := Reg.pred hp 42 59 (by kernel_rfl) rfl rfl; exact g.trans (congrArg some hv)
      have hc := hA.drew.below hB
      have k0 := hc.cell 0 (.int .i64 (shi a)) rfl
      have k1 := hc.cell 1 (.int .u64 (slo a)) rfl
      refine Reg.ok_value Reg.Old.refl (v := sv a) (Reg.wanted_at (j := 42) (d := 59) rfl rfl rfl g59) ?_ rfl
      go_simp
    · intro cx wc hB hp hs
      have g60 : cx.tmps[60]? = some (sv a) := by obtain ⟨_, g, hv⟩ := Reg.pred hp 43 60 (by kernel_rfl) rfl rfl; exact g.trans (congrArg some hv)
      have g59 : cx.tmps[59]? = some (.bool true) := by obtain ⟨_, g, hv⟩ := Reg.pred hp 42 59 (by kernel_rfl) rfl rfl; exact g.trans (congrArg some hv)
      refine Reg.ok_call (f := 23) (args := #[sv a]) (Reg.wanted_at (j := 42) (d := 59) rfl rfl rfl g59) (by go_simp) ((hput wc).mono ?_)
      rintro e w' ⟨rfl, hB2⟩
      exact ⟨_, rfl, hB2, rfl⟩
    · intro cx wc hB hp hs
      have g8 : cx.tmps[8]? = some (.pointer (some ⟨R, 0, none⟩)) := (hs 8 (by kernel_rfl)).trans rfl
      have g59 : cx.tmps[59]? = some (.bool true) := by obtain ⟨_, g, hv⟩ := Reg.pred hp 42 59 (by kernel_rfl) rfl rfl; exact g.trans (congrArg some hv)
      have hc := hX.drew.below hB
      have k0 := hc.cell 0 (.int .i64 (shi a)) rfl
      have k1 := hc.cell 1 (.int .u64 (slo a)) rfl
      refine Reg.ok_value Reg.Old.refl (v := sv a) (Reg.wanted_at (j := 42) (d := 59) rfl rfl rfl g59) ?_ rfl
      go_simp
    · intro cx wc hB hp hs
      have g62 : cx.tmps[62]? = some (sv a) := by obtain ⟨_, g, hv⟩ := Reg.pred hp 45 62 (by kernel_rfl) rfl rfl; exact g.trans (congrArg some hv)
      have g59 : cx.tmps[59]? = some (.bool true) := by obtain ⟨_, g, hv⟩ := Reg.pred hp 42 59 (by kernel_rfl) rfl rfl; exact g.trans (congrArg some hv)
      refine Reg.ok_call (f := 24) (args := #[sv a]) (Reg.wanted_at (j := 42) (d := 59) rfl rfl rfl g59) (by go_simp) ((hrefp wc).mono ?_)
      rintro e w' ⟨rfl, hB2⟩
      exact ⟨_, rfl, hB2, rfl⟩
    · intro cx wc hB hp hs
      have g61 : cx.tmps[61]? = some (.string p) := by obtain ⟨_, g, hv⟩ := Reg.pred hp 44 61 (by kernel_rfl) rfl rfl; exact g.trans (congrArg some hv)
      have g63 : cx.tmps[63]? = some (.string p) := by obtain ⟨_, g, hv⟩ := Reg.pred hp 46 63 (by kernel_rfl) rfl rfl; exact g.trans (congrArg some hv)
      have g59 : cx.tmps[59]? = some (.bool true) := by obtain ⟨_, g, hv⟩ := Reg.pred hp 42 59 (by kernel_rfl) rfl rfl; exact g.trans (congrArg some hv)
      refine Reg.ok_value Reg.Old.refl (v := .bool true) (Reg.wanted_at (j := 42) (d := 59) rfl rfl rfl g59) ?_ rfl
      go_simp
    · intro cx wc hB hp hs
      have g59 : cx.tmps[59]? = some (.bool true) := by obtain ⟨_, g, hv⟩ := Reg.pred hp 42 59 (by kernel_rfl) rfl rfl; exact g.trans (congrArg some hv)
      have g64 : cx.tmps[64]? = some (.bool true) := by obtain ⟨_, g, hv⟩ := Reg.pred hp 47 64 (by kernel_rfl) rfl rfl; exact g.trans (congrArg some hv)
      refine Reg.ok_value Reg.Old.refl (v := .bool true) (Reg.wanted_none rfl) ?_ rfl
      go_simp
    · intro cx wc hB hp hs
      have g65 : cx.tmps[65]? = some (.bool true) := by obtain ⟨_, g, hv⟩ := Reg.pred hp 48 65 (by kernel_rfl) rfl rfl; exact g.trans (congrArg some hv)
      refine Reg.ok_value Reg.Old.refl (v := .bool true) (Reg.wanted_none rfl) ?_ rfl
      go_simp
    · intro cx wc hB hp hs
      have g2 : cx.tmps[2]? = some (.int .i64 n) := (hs 2 (by kernel_rfl)).trans rfl
      have g66 : cx.tmps[66]? = some (.bool true) := by obtain ⟨_, g, hv⟩ := Reg.pred hp 49 66 (by kernel_rfl) rfl rfl; exact g.trans (congrArg some hv)
      refine Reg.ok_value Reg.Old.refl (v := .int .i64 n) (Reg.wanted_at (j := 49) (d := 66) rfl rfl rfl g66) ?_ rfl
      go_simp
    · intro cx wc hB hp hs
      have g67 : cx.tmps[67]? = some (.int .i64 n) := by obtain ⟨_, g, hv⟩ := Reg.pred hp 50 67 (by kernel_rfl) rfl rfl; exact g.trans (congrArg some hv)
      have g66 : cx.tmps[66]? = some (.bool true) := by obtain ⟨_, g, hv⟩ := Reg.pred hp 49 66 (by kernel_rfl) rfl rfl; exact g.trans (congrArg some hv)
      refine Reg.ok_call (f := 25) (args := #[.int .i64 n]) (Reg.wanted_at (j := 49) (d := 66) rfl rfl rfl g66) (by go_simp) ((of_any n n1 n2 wc).mono ?_)
      rintro e w' ⟨rfl, hB2⟩
      exact ⟨_, rfl, hB2, rfl⟩
    · intro cx wc hB hp hs
      have g68 : cx.tmps[68]? = some (sv n) := by obtain ⟨_, g, hv⟩ := Reg.pred hp 51 68 (by kernel_rfl) rfl rfl; exact g.trans (congrArg some hv)
      have g66 : cx.tmps[66]? = some (.bool true) := by obtain ⟨_, g, hv⟩ := Reg.pred hp 49 66 (by kernel_rfl) rfl rfl; exact g.trans (congrArg some hv)
      refine Reg.ok_call (f := 12) (args := #[sv n]) (Reg.wanted_at (j := 49) (d := 66) rfl rfl rfl g66) (by go_simp) ((ref_any n (InS.small (by omega) (by omega)) wc).mono ?_)
      rintro e w' ⟨rfl, hB2⟩
      exact ⟨_, rfl, hB2, rfl⟩
    · intro cx wc hB hp hs
      have g2 : cx.tmps[2]? = some (.int .i64 n) := (hs 2 (by kernel_rfl)).trans rfl
      have g66 : cx.tmps[66]? = some (.bool true) := by obtain ⟨_, g, hv⟩ := Reg.pred hp 49 66 (by kernel_rfl) rfl rfl; exact g.trans (congrArg some hv)
      refine Reg.ok_value Reg.Old.refl (v := .int .i64 n) (Reg.wanted_at (j := 49) (d := 66) rfl rfl rfl g66) ?_ rfl
      go_simp
    · intro cx wc hB hp hs
      have g70 : cx.tmps[70]? = some (.int .i64 n) := by obtain ⟨_, g, hv⟩ := Reg.pred hp 53 70 (by kernel_rfl) rfl rfl; exact g.trans (congrArg some hv)
      have g66 : cx.tmps[66]? = some (.bool true) := by obtain ⟨_, g, hv⟩ := Reg.pred hp 49 66 (by kernel_rfl) rfl rfl; exact g.trans (congrArg some hv)
      refine Reg.ok_call (f := 26) (args := #[.int .i64 n]) (Reg.wanted_at (j := 49) (d := 66) rfl rfl rfl g66) (by go_simp) ((refOf_any n n1 n2 wc).mono ?_)
      rintro e w' ⟨rfl, hB2⟩
      exact ⟨_, rfl, hB2, rfl⟩
    · intro cx wc hB hp hs
      have g69 : cx.tmps[69]? = some (sv n) := by obtain ⟨_, g, hv⟩ := Reg.pred hp 52 69 (by kernel_rfl) rfl rfl; exact g.trans (congrArg some hv)
      have g71 : cx.tmps[71]? = some (sv n) := by obtain ⟨_, g, hv⟩ := Reg.pred hp 54 71 (by kernel_rfl) rfl rfl; exact g.trans (congrArg some hv)
      have g66 : cx.tmps[66]? = some (.bool true) := by obtain ⟨_, g, hv⟩ := Reg.pred hp 49 66 (by kernel_rfl) rfl rfl; exact g.trans (congrArg some hv)
      refine Reg.ok_value Reg.Old.refl (v := .bool true) (Reg.wanted_at (j := 49) (d := 66) rfl rfl rfl g66) ?_ rfl
      go_simp
    · intro cx wc hB hp hs
      have g66 : cx.tmps[66]? = some (.bool true) := by obtain ⟨_, g, hv⟩ := Reg.pred hp 49 66 (by kernel_rfl) rfl rfl; exact g.trans (congrArg some hv)
      have g72 : cx.tmps[72]? = some (.bool true) := by obtain ⟨_, g, hv⟩ := Reg.pred hp 55 72 (by kernel_rfl) rfl rfl; exact g.trans (congrArg some hv)
      refine Reg.ok_value Reg.Old.refl (v := .bool true) (Reg.wanted_none rfl) ?_ rfl
      go_simp
    · intro cx wc hB hp hs
      have g73 : cx.tmps[73]? = some (.bool true) := by obtain ⟨_, g, hv⟩ := Reg.pred hp 56 73 (by kernel_rfl) rfl rfl; exact g.trans (congrArg some hv)
      refine Reg.ok_value Reg.Old.refl (v := .bool true) (Reg.wanted_none rfl) ?_ rfl
      go_simp
  · intro d wc hB hsz hdf hv ho
    have gr : d.tmps[6]? = some (.bool true) := by obtain ⟨_, g, hv⟩ := hv 57 _ 6 rfl rfl; exact g.trans (congrArg some hv)
    have hF := hE.trans (hB.mono hE.size)
    clear hv ho hB
    go_wp2
    refine bodyPost_ret (v := .bool true) ?_ hdf ⟨rfl, hF⟩
    simp [results, Tryd.results3, go_sem, gr]

end Go.Proofs.YthddnhnhlgnlhaaDoor
