/- WideAdds, walked. -/
import Derived.Test.YthddnhnhlgnlhaaDoorWideE
namespace Go.Proofs.YthddnhnhlgnlhaaDoor
open Go Go.RowKit

theorem w128_assoc (a b c : Int) : w128 (w128 (a + b) + c) = w128 (a + w128 (b + c)) := by unfold w128; omega
theorem w128_back {a b : Int} (ha : InS a) : w128 (w128 (a + b) + w128 (-b)) = a := by unfold w128 InS at *; omega
theorem w128_neg_neg {a : Int} (ha : InS a) : w128 (-(w128 (-a))) = a := by unfold w128 InS at *; omega
theorem w128_zero {a : Int} (ha : InS a) : w128 (a + 0) = a := by unfold w128 InS at *; omega
theorem add_0 (a : Int) (ha : InS a) (w : World) :
    Calls Tryd.prog 13 #[sv a, .agg #[.int .i64 0, .int .u64 0]] w fun e w' => e = .returned (sv (w128 (a + 0))) ∧ Below w.heap.size w w' := by
  rw [← sv_0]; exact add_any a 0 ha (InS.small (by decide) (by decide)) w

def AddsPhi (w : World) (a b c : Int) : Nat → Value → World → Prop
  | i, v, _ => v = ([.bool true, .bool true, sv a, sv b, sv (w128 (a + b)), sv b, sv a, sv (w128 (b + a)), .bool true, .bool true, .bool true, sv a, sv b, sv (w128 (a + b)), sv c, sv (w128 (w128 (a + b) + c)), sv a, sv b, sv c, sv (w128 (b + c)), sv (w128 (a + w128 (b + c))), .bool true, .bool true, .bool true, sv a, sv b, sv (w128 (a + b)), sv b, sv (w128 (-b)), sv (w128 (w128 (a + b) + w128 (-b))), sv a, .bool true, .bool true, .bool true, sv a, sv (w128 (-a)), sv (w128 (-(w128 (-a)))), sv a, .bool true, .bool true, .bool true, sv a, .agg #[.int .i64 0, .int .u64 0], sv (w128 (a + 0)), sv a, .bool true, .bool true, .bool true] : List Value).getD i undef
theorem AddsPhi.stays {w : World} {a b c : Int} : ∀ i v x y, AddsPhi w a b c i v x → Reg.Old x y → AddsPhi w a b c i v y := fun _ _ _ _ h _ => h

set_option maxRecDepth 100000 in
set_option maxHeartbeats 4000000 in
theorem WideAdds_walk (a : Int) (ha : InS a) (b : Int) (hb : InS b) (c : Int) (hc : InS c) (w : World) (hT : Tens w) :
    Calls Tryd.prog 5 #[sv a, sv b, sv c] w fun e w' => e = .returned (.bool true) ∧ Below w.heap.size w w' := by
  have HT := Lib.hid hT
  have HA := Lib.hid ha
  have HB := Lib.hid hb
  have HC := Lib.hid hc
  clear hT ha hb hc
  rw [show sv a = .agg #[.int .i64 (shi a), .int .u64 (slo a)] from rfl, show sv b = .agg #[.int .i64 (shi b), .int .u64 (slo b)] from rfl, show sv c = .agg #[.int .i64 (shi c), .int .u64 (slo c)] from rfl]
  go_enter Tryd.func5, Tryd.ntmps5
  go_wp2_with fail
  have hE0 : ∀ o1 o2 o3, Below w.heap.size w (((w.alloc o1).alloc o2).alloc o3) := fun o1 o2 o3 => (((Below.refl _ _).alloc (Nat.le_refl _) _).alloc (by simp) _).alloc (by simp; omega) _
  refine (examples_any _ (HT.out.below (hE0 _ _ _))).mono ?_
  rintro e W ⟨rfl, hBx⟩
  have hA : CellsAt w.heap.size #[.int .i64 (shi a), .int .u64 (slo a)] W := (((CellsAt.new _ _ _).past _).past _).below hBx
  have hB1 : CellsAt (w.heap.size + 1) #[.int .i64 (shi b), .int .u64 (slo b)] W := ((CellsAt.newAt _ _ _ _ (by simp)).past _).below hBx
  have hC : CellsAt (w.heap.size + 2) #[.int .i64 (shi c), .int .u64 (slo c)] W := (CellsAt.newAt _ _ _ _ (by simp)).below hBx
  have hE := (hE0 _ _ _).trans (hBx.mono (hE0 _ _ _).size)
  clear hE0 hBx HT
  go_wp2_with fail
  refine Reg.wp_region_inv (n := 58) (AddsPhi w a b c) (by kernel_rfl) (by kernel_rfl) rfl AddsPhi.stays ?_ ?_
  · refine ⟨?_, ?_, ?_, ?_, ?_, ?_, ?_, ?_, ?_, ?_, ?_, ?_, ?_, ?_, ?_, ?_, ?_, ?_, ?_, ?_, ?_, ?_, ?_, ?_, ?_, ?_, ?_, ?_, ?_, ?_, ?_, ?_, ?_, ?_, ?_, ?_, ?_, ?_, ?_, ?_, ?_, ?_, ?_, ?_, ?_, ?_, ?_, ?_, trivial⟩
    · intro cx wc hB hp hs
      have g7 : cx.tmps[7]? = some (.bool true) := (hs 7 (by kernel_rfl)).trans rfl
      refine Reg.ok_value Reg.Old.refl (v := .bool true) (Reg.wanted_none rfl) ?_ rfl
      go_simp
    · intro cx wc hB hp hs
      have g11 : cx.tmps[11]? = some (.bool true) := by obtain ⟨_, g, hv⟩ := Reg.pred hp 0 11 (by kernel_rfl) rfl rfl; exact g.trans (congrArg some hv)
      refine Reg.ok_value Reg.Old.refl (v := .bool true) (Reg.wanted_none rfl) ?_ rfl
      go_simp
    · intro cx wc hB hp hs
      have g3 : cx.tmps[3]? = some (.pointer (some ⟨w.heap.size, 0, none⟩)) := (hs 3 (by kernel_rfl)).trans rfl
      have g12 : cx.tmps[12]? = some (.bool true) := by obtain ⟨_, g, hv⟩ := Reg.pred hp 1 12 (by kernel_rfl) rfl rfl; exact g.trans (congrArg some hv)
      have hc := hA.drew.below hB
      have k0 := hc.cell 0 (.int .i64 (shi a)) rfl
      have k1 := hc.cell 1 (.int .u64 (slo a)) rfl
      refine Reg.ok_value Reg.Old.refl (v := sv a) (Reg.wanted_at (j := 1) (d := 12) rfl rfl rfl g12) ?_ rfl
      go_simp
    · intro cx wc hB hp hs
      have g4 : cx.tmps[4]? = some (.pointer (some ⟨(w.heap.size + 1), 0, none⟩)) := (hs 4 (by kernel_rfl)).trans rfl
      have g12 : cx.tmps[12]? = some (.bool true) := by obtain ⟨_, g, hv⟩ := Reg.pred hp 1 12 (by kernel_rfl) rfl rfl; exact g.trans (congrArg some hv)
      have hc := hB1.drew.below hB
      have k0 := hc.cell 0 (.int .i64 (shi b)) rfl
      have k1 := hc.cell 1 (.int .u64 (slo b)) rfl
      refine Reg.ok_value Reg.Old.refl (v := sv b) (Reg.wanted_at (j := 1) (d := 12) rfl rfl rfl g12) ?_ rfl
      go_simp
    · intro cx wc hB hp hs
      have g13 : cx.tmps[13]? = some (sv a) := by obtain ⟨_, g, hv⟩ := Reg.pred hp 2 13 (by kernel_rfl) rfl rfl; exact g.trans (congrArg some hv)
      have g14 : cx.tmps[14]? = some (sv b) := by obtain ⟨_, g, hv⟩ := Reg.pred hp 3 14 (by kernel_rfl) rfl rfl; exact g.trans (congrArg some hv)
      have g12 : cx.tmps[12]? = some (.bool true) := by obtain ⟨_, g, hv⟩ := Reg.pred hp 1 12 (by kernel_rfl) rfl rfl; exact g.trans (congrArg some hv)
      refine Reg.ok_call (f := 13) (args := #[sv a, sv b]) (Reg.wanted_at (j := 1) (d := 12) rfl rfl rfl g12) (by go_simp) ((add_any (a) (b) (HA.out) (HB.out) wc).mono ?_)
      rintro e w' ⟨rfl, hB2⟩
      exact ⟨_, rfl, hB2, rfl⟩
    · intro cx wc hB hp hs
      have g4 : cx.tmps[4]? = some (.pointer (some ⟨(w.heap.size + 1), 0, none⟩)) := (hs 4 (by kernel_rfl)).trans rfl
      have g12 : cx.tmps[12]? = some (.bool true) := by obtain ⟨_, g, hv⟩ := Reg.pred hp 1 12 (by kernel_rfl) rfl rfl; exact g.trans (congrArg some hv)
      have hc := hB1.drew.below hB
      have k0 := hc.cell 0 (.int .i64 (shi b)) rfl
      have k1 := hc.cell 1 (.int .u64 (slo b)) rfl
      refine Reg.ok_value Reg.Old.refl (v := sv b) (Reg.wanted_at (j := 1) (d := 12) rfl rfl rfl g12) ?_ rfl
      go_simp
    · intro cx wc hB hp hs
      have g3 : cx.tmps[3]? = some (.pointer (some ⟨w.heap.size, 0, none⟩)) := (hs 3 (by kernel_rfl)).trans rfl
      have g12 : cx.tmps[12]? = some (.bool true) := by obtain ⟨_, g, hv⟩ := Reg.pred hp 1 12 (by kernel_rfl) rfl rfl; exact g.trans (congrArg some hv)
      have hc := hA.drew.below hB
      have k0 := hc.cell 0 (.int .i64 (shi a)) rfl
      have k1 := hc.cell 1 (.int .u64 (slo a)) rfl
      refine Reg.ok_value Reg.Old.refl (v := sv a) (Reg.wanted_at (j := 1) (d := 12) rfl rfl rfl g12) ?_ rfl
      go_simp
    · intro cx wc hB hp hs
      have g16 : cx.tmps[16]? = some (sv b) := by obtain ⟨_, g, hv⟩ := Reg.pred hp 5 16 (by kernel_rfl) rfl rfl; exact g.trans (congrArg some hv)
      have g17 : cx.tmps[17]? = some (sv a) := by obtain ⟨_, g, hv⟩ := Reg.pred hp 6 17 (by kernel_rfl) rfl rfl; exact g.trans (congrArg some hv)
      have g12 : cx.tmps[12]? = some (.bool true) := by obtain ⟨_, g, hv⟩ := Reg.pred hp 1 12 (by kernel_rfl) rfl rfl; exact g.trans (congrArg some hv)
      refine Reg.ok_call (f := 13) (args := #[sv b, sv a]) (Reg.wanted_at (j := 1) (d := 12) rfl rfl rfl g12) (by go_simp) ((add_any (b) (a) (HB.out) (HA.out) wc).mono ?_)
      rintro e w' ⟨rfl, hB2⟩
      exact ⟨_, rfl, hB2, rfl⟩
    · intro cx wc hB hp hs
      have g15 : cx.tmps[15]? = some (sv (w128 (a + b))) := by obtain ⟨_, g, hv⟩ := Reg.pred hp 4 15 (by kernel_rfl) rfl rfl; exact g.trans (congrArg some hv)
      have g18 : cx.tmps[18]? = some (sv (w128 (b + a))) := by obtain ⟨_, g, hv⟩ := Reg.pred hp 7 18 (by kernel_rfl) rfl rfl; exact g.trans (congrArg some hv)
      have g12 : cx.tmps[12]? = some (.bool true) := by obtain ⟨_, g, hv⟩ := Reg.pred hp 1 12 (by kernel_rfl) rfl rfl; exact g.trans (congrArg some hv)
      have e1 : w128 (b + a) = w128 (a + b) := by rw [Int.add_comm]
      refine Reg.ok_value Reg.Old.refl (v := .bool true) (Reg.wanted_at (j := 1) (d := 12) rfl rfl rfl g12) ?_ rfl
      go_simp
    · intro cx wc hB hp hs
      have g12 : cx.tmps[12]? = some (.bool true) := by obtain ⟨_, g, hv⟩ := Reg.pred hp 1 12 (by kernel_rfl) rfl rfl; exact g.trans (congrArg some hv)
      have g19 : cx.tmps[19]? = some (.bool true) := by obtain ⟨_, g, hv⟩ := Reg.pred hp 8 19 (by kernel_rfl) rfl rfl; exact g.trans (congrArg some hv)
      refine Reg.ok_value Reg.Old.refl (v := .bool true) (Reg.wanted_none rfl) ?_ rfl
      go_simp
    · intro cx wc hB hp hs
      have g20 : cx.tmps[20]? = some (.bool true) := by obtain ⟨_, g, hv⟩ := Reg.pred hp 9 20 (by kernel_rfl) rfl rfl; exact g.trans (congrArg some hv)
      refine Reg.ok_value Reg.Old.refl (v := .bool true) (Reg.wanted_none rfl) ?_ rfl
      go_simp
    · intro cx wc hB hp hs
      have g3 : cx.tmps[3]? = some (.pointer (some ⟨w.heap.size, 0, none⟩)) := (hs 3 (by kernel_rfl)).trans rfl
      have g21 : cx.tmps[21]? = some (.bool true) := by obtain ⟨_, g, hv⟩ := Reg.pred hp 10 21 (by kernel_rfl) rfl rfl; exact g.trans (congrArg some hv)
      have hc := hA.drew.below hB
      have k0 := hc.cell 0 (.int .i64 (shi a)) rfl
      have k1 := hc.cell 1 (.int .u64 (slo a)) rfl
      refine Reg.ok_value Reg.Old.refl (v := sv a) (Reg.wanted_at (j := 10) (d := 21) rfl rfl rfl g21) ?_ rfl
      go_simp
    · intro cx wc hB hp hs
      have g4 : cx.tmps[4]? = some (.pointer (some ⟨(w.heap.size + 1), 0, none⟩)) := (hs 4 (by kernel_rfl)).trans rfl
      have g21 : cx.tmps[21]? = some (.bool true) := by obtain ⟨_, g, hv⟩ := Reg.pred hp 10 21 (by kernel_rfl) rfl rfl; exact g.trans (congrArg some hv)
      have hc := hB1.drew.below hB
      have k0 := hc.cell 0 (.int .i64 (shi b)) rfl
      have k1 := hc.cell 1 (.int .u64 (slo b)) rfl
      refine Reg.ok_value Reg.Old.refl (v := sv b) (Reg.wanted_at (j := 10) (d := 21) rfl rfl rfl g21) ?_ rfl
      go_simp
    · intro cx wc hB hp hs
      have g22 : cx.tmps[22]? = some (sv a) := by obtain ⟨_, g, hv⟩ := Reg.pred hp 11 22 (by kernel_rfl) rfl rfl; exact g.trans (congrArg some hv)
      have g23 : cx.tmps[23]? = some (sv b) := by obtain ⟨_, g, hv⟩ := Reg.pred hp 12 23 (by kernel_rfl) rfl rfl; exact g.trans (congrArg some hv)
      have g21 : cx.tmps[21]? = some (.bool true) := by obtain ⟨_, g, hv⟩ := Reg.pred hp 10 21 (by kernel_rfl) rfl rfl; exact g.trans (congrArg some hv)
      refine Reg.ok_call (f := 13) (args := #[sv a, sv b]) (Reg.wanted_at (j := 10) (d := 21) rfl rfl rfl g21) (by go_simp) ((add_any (a) (b) (HA.out) (HB.out) wc).mono ?_)
      rintro e w' ⟨rfl, hB2⟩
      exact ⟨_, rfl, hB2, rfl⟩
    · intro cx wc hB hp hs
      have g5 : cx.tmps[5]? = some (.pointer (some ⟨(w.heap.size + 2), 0, none⟩)) := (hs 5 (by kernel_rfl)).trans rfl
      have g21 : cx.tmps[21]? = some (.bool true) := by obtain ⟨_, g, hv⟩ := Reg.pred hp 10 21 (by kernel_rfl) rfl rfl; exact g.trans (congrArg some hv)
      have hc := hC.drew.below hB
      have k0 := hc.cell 0 (.int .i64 (shi c)) rfl
      have k1 := hc.cell 1 (.int .u64 (slo c)) rfl
      refine Reg.ok_value Reg.Old.refl (v := sv c) (Reg.wanted_at (j := 10) (d := 21) rfl rfl rfl g21) ?_ rfl
      go_simp
    · intro cx wc hB hp hs
      have g24 : cx.tmps[24]? = some (sv (w128 (a + b))) := by obtain ⟨_, g, hv⟩ := Reg.pred hp 13 24 (by kernel_rfl) rfl rfl; exact g.trans (congrArg some hv)
      have g25 : cx.tmps[25]? = some (sv c) := by obtain ⟨_, g, hv⟩ := Reg.pred hp 14 25 (by kernel_rfl) rfl rfl; exact g.trans (congrArg some hv)
      have g21 : cx.tmps[21]? = some (.bool true) := by obtain ⟨_, g, hv⟩ := Reg.pred hp 10 21 (by kernel_rfl) rfl rfl; exact g.trans (congrArg some hv)
      refine Reg.ok_call (f := 13) (args := #[sv (w128 (a + b)), sv c]) (Reg.wanted_at (j := 10) (d := 21) rfl rfl rfl g21) (by go_simp) ((add_any (w128 (a + b)) (c) (w128_in _) (HC.out) wc).mono ?_)
      rintro e w' ⟨rfl, hB2⟩
      exact ⟨_, rfl, hB2, rfl⟩
    · intro cx wc hB hp hs
      have g3 : cx.tmps[3]? = some (.pointer (some ⟨w.heap.size, 0, none⟩)) := (hs 3 (by kernel_rfl)).trans rfl
      have g21 : cx.tmps[21]? = some (.bool true) := by obtain ⟨_, g, hv⟩ := Reg.pred hp 10 21 (by kernel_rfl) rfl rfl; exact g.trans (congrArg some hv)
      have hc := hA.drew.below hB
      have k0 := hc.cell 0 (.int .i64 (shi a)) rfl
      have k1 := hc.cell 1 (.int .u64 (slo a)) rfl
      refine Reg.ok_value Reg.Old.refl (v := sv a) (Reg.wanted_at (j := 10) (d := 21) rfl rfl rfl g21) ?_ rfl
      go_simp
    · intro cx wc hB hp hs
      have g4 : cx.tmps[4]? = some (.pointer (some ⟨(w.heap.size + 1), 0, none⟩)) := (hs 4 (by kernel_rfl)).trans rfl
      have g21 : cx.tmps[21]? = some (.bool true) := by obtain ⟨_, g, hv⟩ := Reg.pred hp 10 21 (by kernel_rfl) rfl rfl; exact g.trans (congrArg some hv)
      have hc := hB1.drew.below hB
      have k0 := hc.cell 0 (.int .i64 (shi b)) rfl
      have k1 := hc.cell 1 (.int .u64 (slo b)) rfl
      refine Reg.ok_value Reg.Old.refl (v := sv b) (Reg.wanted_at (j := 10) (d := 21) rfl rfl rfl g21) ?_ rfl
      go_simp
    · intro cx wc hB hp hs
      have g5 : cx.tmps[5]? = some (.pointer (some ⟨(w.heap.size + 2), 0, none⟩)) := (hs 5 (by kernel_rfl)).trans rfl
      have g21 : cx.tmps[21]? = some (.bool true) := by obtain ⟨_, g, hv⟩ := Reg.pred hp 10 21 (by kernel_rfl) rfl rfl; exact g.trans (congrArg some hv)
      have hc := hC.drew.below hB
      have k0 := hc.cell 0 (.int .i64 (shi c)) rfl
      have k1 := hc.cell 1 (.int .u64 (slo c)) rfl
      refine Reg.ok_value Reg.Old.refl (v := sv c) (Reg.wanted_at (j := 10) (d := 21) rfl rfl rfl g21) ?_ rfl
      go_simp
    · intro cx wc hB hp hs
      have g28 : cx.tmps[28]? = some (sv b) := by obtain ⟨_, g, hv⟩ := Reg.pred hp 17 28 (by kernel_rfl) rfl rfl; exact g.trans (congrArg some hv)
      have g29 : cx.tmps[29]? = some (sv c) := by obtain ⟨_, g, hv⟩ := Reg.pred hp 18 29 (by kernel_rfl) rfl rfl; exact g.trans (congrArg some hv)
      have g21 : cx.tmps[21]? = some (.bool true) := by obtain ⟨_, g, hv⟩ := Reg.pred hp 10 21 (by kernel_rfl) rfl rfl; exact g.trans (congrArg some hv)
      refine Reg.ok_call (f := 13) (args := #[sv b, sv c]) (Reg.wanted_at (j := 10) (d := 21) rfl rfl rfl g21) (by go_simp) ((add_any (b) (c) (HB.out) (HC.out) wc).mono ?_)
      rintro e w' ⟨rfl, hB2⟩
      exact ⟨_, rfl, hB2, rfl⟩
    · intro cx wc hB hp hs
      have g27 : cx.tmps[27]? = some (sv a) := by obtain ⟨_, g, hv⟩ := Reg.pred hp 16 27 (by kernel_rfl) rfl rfl; exact g.trans (congrArg some hv)
      have g30 : cx.tmps[30]? = some (sv (w128 (b + c))) := by obtain ⟨_, g, hv⟩ := Reg.pred hp 19 30 (by kernel_rfl) rfl rfl; exact g.trans (congrArg some hv)
      have g21 : cx.tmps[21]? = some (.bool true) := by obtain ⟨_, g, hv⟩ := Reg.pred hp 10 21 (by kernel_rfl) rfl rfl; exact g.trans (congrArg some hv)
      refine Reg.ok_call (f := 13) (args := #[sv a, sv (w128 (b + c))]) (Reg.wanted_at (j := 10) (d := 21) rfl rfl rfl g21) (by go_simp) ((add_any (a) (w128 (b + c)) (HA.out) (w128_in _) wc).mono ?_)
      rintro e w' ⟨rfl, hB2⟩
      exact ⟨_, rfl, hB2, rfl⟩
    · intro cx wc hB hp hs
      have g26 : cx.tmps[26]? = some (sv (w128 (w128 (a + b) + c))) := by obtain ⟨_, g, hv⟩ := Reg.pred hp 15 26 (by kernel_rfl) rfl rfl; exact g.trans (congrArg some hv)
      have g31 : cx.tmps[31]? = some (sv (w128 (a + w128 (b + c)))) := by obtain ⟨_, g, hv⟩ := Reg.pred hp 20 31 (by kernel_rfl) rfl rfl; exact g.trans (congrArg some hv)
      have g21 : cx.tmps[21]? = some (.bool true) := by obtain ⟨_, g, hv⟩ := Reg.pred hp 10 21 (by kernel_rfl) rfl rfl; exact g.trans (congrArg some hv)
      have e1 := w128_assoc a b c
      refine Reg.ok_value Reg.Old.refl (v := .bool true) (Reg.wanted_at (j := 10) (d := 21) rfl rfl rfl g21) ?_ rfl
      go_simp
    · intro cx wc hB hp hs
      have g21 : cx.tmps[21]? = some (.bool true) := by obtain ⟨_, g, hv⟩ := Reg.pred hp 10 21 (by kernel_rfl) rfl rfl; exact g.trans (congrArg some hv)
      have g32 : cx.tmps[32]? = some (.bool true) := by obtain ⟨_, g, hv⟩ := Reg.pred hp 21 32 (by kernel_rfl) rfl rfl; exact g.trans (congrArg some hv)
      refine Reg.ok_value Reg.Old.refl (v := .bool true) (Reg.wanted_none rfl) ?_ rfl
      go_simp
    · intro cx wc hB hp hs
      have g33 : cx.tmps[33]? = some (.bool true) := by obtain ⟨_, g, hv⟩ := Reg.pred hp 22 33 (by kernel_rfl) rfl rfl; exact g.trans (congrArg some hv)
      refine Reg.ok_value Reg.Old.refl (v := .bool true) (Reg.wanted_none rfl) ?_ rfl
      go_simp
    · intro cx wc hB hp hs
      have g3 : cx.tmps[3]? = some (.pointer (some ⟨w.heap.size, 0, none⟩)) := (hs 3 (by kernel_rfl)).trans rfl
      have g34 : cx.tmps[34]? = some (.bool true) := by obtain ⟨_, g, hv⟩ := Reg.pred hp 23 34 (by kernel_rfl) rfl rfl; exact g.trans (congrArg some hv)
      have hc := hA.drew.below hB
      have k0 := hc.cell 0 (.int .i64 (shi a)) rfl
      have k1 := hc.cell 1 (.int .u64 (slo a)) rfl
      refine Reg.ok_value Reg.Old.refl (v := sv a) (Reg.wanted_at (j := 23) (d := 34) rfl rfl rfl g34) ?_ rfl
      go_simp
    · intro cx wc hB hp hs
      have g4 : cx.tmps[4]? = some (.pointer (some ⟨(w.heap.size + 1), 0, none⟩)) := (hs 4 (by kernel_rfl)).trans rfl
      have g34 : cx.tmps[34]? = some (.bool true) := by obtain ⟨_, g, hv⟩ := Reg.pred hp 23 34 (by kernel_rfl) rfl rfl; exact g.trans (congrArg some hv)
      have hc := hB1.drew.below hB
      have k0 := hc.cell 0 (.int .i64 (shi b)) rfl
      have k1 := hc.cell 1 (.int .u64 (slo b)) rfl
      refine Reg.ok_value Reg.Old.refl (v := sv b) (Reg.wanted_at (j := 23) (d := 34) rfl rfl rfl g34) ?_ rfl
      go_simp
    · intro cx wc hB hp hs
      have g35 : cx.tmps[35]? = some (sv a) := by obtain ⟨_, g, hv⟩ := Reg.pred hp 24 35 (by kernel_rfl) rfl rfl; exact g.trans (congrArg some hv)
      have g36 : cx.tmps[36]? = some (sv b) := by obtain ⟨_, g, hv⟩ := Reg.pred hp 25 36 (by kernel_rfl) rfl rfl; exact g.trans (congrArg some hv)
      have g34 : cx.tmps[34]? = some (.bool true) := by obtain ⟨_, g, hv⟩ := Reg.pred hp 23 34 (by kernel_rfl) rfl rfl; exact g.trans (congrArg some hv)
      refine Reg.ok_call (f := 13) (args := #[sv a, sv b]) (Reg.wanted_at (j := 23) (d := 34) rfl rfl rfl g34) (by go_simp) ((add_any (a) (b) (HA.out) (HB.out) wc).mono ?_)
      rintro e w' ⟨rfl, hB2⟩
      exact ⟨_, rfl, hB2, rfl⟩
    · intro cx wc hB hp hs
      have g4 : cx.tmps[4]? = some (.pointer (some ⟨(w.heap.size + 1), 0, none⟩)) := (hs 4 (by kernel_rfl)).trans rfl
      have g34 : cx.tmps[34]? = some (.bool true) := by obtain ⟨_, g, hv⟩ := Reg.pred hp 23 34 (by kernel_rfl) rfl rfl; exact g.trans (congrArg some hv)
      have hc := hB1.drew.below hB
      have k0 := hc.cell 0 (.int .i64 (shi b)) rfl
      have k1 := hc.cell 1 (.int .u64 (slo b)) rfl
      refine Reg.ok_value Reg.Old.refl (v := sv b) (Reg.wanted_at (j := 23) (d := 34) rfl rfl rfl g34) ?_ rfl
      go_simp
    · intro cx wc hB hp hs
      have g38 : cx.tmps[38]? = some (sv b) := by obtain ⟨_, g, hv⟩ := Reg.pred hp 27 38 (by kernel_rfl) rfl rfl; exact g.trans (congrArg some hv)
      have g34 : cx.tmps[34]? = some (.bool true) := by obtain ⟨_, g, hv⟩ := Reg.pred hp 23 34 (by kernel_rfl) rfl rfl; exact g.trans (congrArg some hv)
      refine Reg.ok_call (f := 15) (args := #[sv b]) (Reg.wanted_at (j := 23) (d := 34) rfl rfl rfl g34) (by go_simp) ((neg_any (b) (HB.out) wc).mono ?_)
      rintro e w' ⟨rfl, hB2⟩
      exact ⟨_, rfl, hB2, rfl⟩
    · intro cx wc hB hp hs
      have g37 : cx.tmps[37]? = some (sv (w128 (a + b))) := by obtain ⟨_, g, hv⟩ := Reg.pred hp 26 37 (by kernel_rfl) rfl rfl; exact g.trans (congrArg some hv)
      have g39 : cx.tmps[39]? = some (sv (w128 (-b))) := by obtain ⟨_, g, hv⟩ := Reg.pred hp 28 39 (by kernel_rfl) rfl rfl; exact g.trans (congrArg some hv)
      have g34 : cx.tmps[34]? = some (.bool true) := by obtain ⟨_, g, hv⟩ := Reg.pred hp 23 34 (by kernel_rfl) rfl rfl; exact g.trans (congrArg some hv)
      refine Reg.ok_call (f := 13) (args := #[sv (w128 (a + b)), sv (w128 (-b))]) (Reg.wanted_at (j := 23) (d := 34) rfl rfl rfl g34) (by go_simp) ((add_any (w128 (a + b)) (w128 (-b)) (w128_in _) (w128_in _) wc).mono ?_)
      rintro e w' ⟨rfl, hB2⟩
      exact ⟨_, rfl, hB2, rfl⟩
    · intro cx wc hB hp hs
      have g3 : cx.tmps[3]? = some (.pointer (some ⟨w.heap.size, 0, none⟩)) := (hs 3 (by kernel_rfl)).trans rfl
      have g34 : cx.tmps[34]? = some (.bool true) := by obtain ⟨_, g, hv⟩ := Reg.pred hp 23 34 (by kernel_rfl) rfl rfl; exact g.trans (congrArg some hv)
      have hc := hA.drew.below hB
      have k0 := hc.cell 0 (.int .i64 (shi a)) rfl
      have k1 := hc.cell 1 (.int .u64 (slo a)) rfl
      refine Reg.ok_value Reg.Old.refl (v := sv a) (Reg.wanted_at (j := 23) (d := 34) rfl rfl rfl g34) ?_ rfl
      go_simp
    · intro cx wc hB hp hs
      have g40 : cx.tmps[40]? = some (sv (w128 (w128 (a + b) + w128 (-b)))) := by obtain ⟨_, g, hv⟩ := Reg.pred hp 29 40 (by kernel_rfl) rfl rfl; exact g.trans (congrArg some hv)
      have g41 : cx.tmps[41]? = some (sv a) := by obtain ⟨_, g, hv⟩ := Reg.pred hp 30 41 (by kernel_rfl) rfl rfl; exact g.trans (congrArg some hv)
      have g34 : cx.tmps[34]? = some (.bool true) := by obtain ⟨_, g, hv⟩ := Reg.pred hp 23 34 (by kernel_rfl) rfl rfl; exact g.trans (congrArg some hv)
      have e1 := w128_back (b := b) HA.out
      refine Reg.ok_value Reg.Old.refl (v := .bool true) (Reg.wanted_at (j := 23) (d := 34) rfl rfl rfl g34) ?_ rfl
      go_simp
    · intro cx wc hB hp hs
      have g34 : cx.tmps[34]? = some (.bool true) := by obtain ⟨_, g, hv⟩ := Reg.pred hp 23 34 (by kernel_rfl) rfl rfl; exact g.trans (congrArg some hv)
      have g42 : cx.tmps[42]? = some (.bool true) := by obtain ⟨_, g, hv⟩ := Reg.pred hp 31 42 (by kernel_rfl) rfl rfl; exact g.trans (congrArg some hv)
      refine Reg.ok_value Reg.Old.refl (v := .bool true) (Reg.wanted_none rfl) ?_ rfl
      go_simp
    · intro cx wc hB hp hs
      have g43 : cx.tmps[43]? = some (.bool true) := by obtain ⟨_, g, hv⟩ := Reg.pred hp 32 43 (by kernel_rfl) rfl rfl; exact g.trans (congrArg some hv)
      refine Reg.ok_value Reg.Old.refl (v := .bool true) (Reg.wanted_none rfl) ?_ rfl
      go_simp
    · intro cx wc hB hp hs
      have g3 : cx.tmps[3]? = some (.pointer (some ⟨w.heap.size, 0, none⟩)) := (hs 3 (by kernel_rfl)).trans rfl
      have g44 : cx.tmps[44]? = some (.bool true) := by obtain ⟨_, g, hv⟩ := Reg.pred hp 33 44 (by kernel_rfl) rfl rfl; exact g.trans (congrArg some hv)
      have hc := hA.drew.below hB
      have k0 := hc.cell 0 (.int .i64 (shi a)) rfl
      have k1 := hc.cell 1 (.int .u64 (slo a)) rfl
      refine Reg.ok_value Reg.Old.refl (v := sv a) (Reg.wanted_at (j := 33) (d := 44) rfl rfl rfl g44) ?_ rfl
      go_simp
    · intro cx wc hB hp hs
      have g45 : cx.tmps[45]? = some (sv a) := by obtain ⟨_, g, hv⟩ := Reg.pred hp 34 45 (by kernel_rfl) rfl rfl; exact g.trans (congrArg some hv)
      have g44 : cx.tmps[44]? = some (.bool true) := by obtain ⟨_, g, hv⟩ := Reg.pred hp 33 44 (by kernel_rfl) rfl rfl; exact g.trans (congrArg some hv)
      refine Reg.ok_call (f := 15) (args := #[sv a]) (Reg.wanted_at (j := 33) (d := 44) rfl rfl rfl g44) (by go_simp) ((neg_any (a) (HA.out) wc).mono ?_)
      rintro e w' ⟨rfl, hB2⟩
      exact ⟨_, rfl, hB2, rfl⟩
    · intro cx wc hB hp hs
      have g46 : cx.tmps[46]? = some (sv (w128 (-a))) := by obtain ⟨_, g, hv⟩ := Reg.pred hp 35 46 (by kernel_rfl) rfl rfl; exact g.trans (congrArg some hv)
      have g44 : cx.tmps[44]? = some (.bool true) := by obtain ⟨_, g, hv⟩ := Reg.pred hp 33 44 (by kernel_rfl) rfl rfl; exact g.trans (congrArg some hv)
      refine Reg.ok_call (f := 15) (args := #[sv (w128 (-a))]) (Reg.wanted_at (j := 33) (d := 44) rfl rfl rfl g44) (by go_simp) ((neg_any (w128 (-a)) (w128_in _) wc).mono ?_)
      rintro e w' ⟨rfl, hB2⟩
      exact ⟨_, rfl, hB2, rfl⟩
    · intro cx wc hB hp hs
      have g3 : cx.tmps[3]? = some (.pointer (some ⟨w.heap.size, 0, none⟩)) := (hs 3 (by kernel_rfl)).trans rfl
      have g44 : cx.tmps[44]? = some (.bool true) := by obtain ⟨_, g, hv⟩ := Reg.pred hp 33 44 (by kernel_rfl) rfl rfl; exact g.trans (congrArg some hv)
      have hc := hA.drew.below hB
      have k0 := hc.cell 0 (.int .i64 (shi a)) rfl
      have k1 := hc.cell 1 (.int .u64 (slo a)) rfl
      refine Reg.ok_value Reg.Old.refl (v := sv a) (Reg.wanted_at (j := 33) (d := 44) rfl rfl rfl g44) ?_ rfl
      go_simp
    · intro cx wc hB hp hs
      have g47 : cx.tmps[47]? = some (sv (w128 (-(w128 (-a))))) := by obtain ⟨_, g, hv⟩ := Reg.pred hp 36 47 (by kernel_rfl) rfl rfl; exact g.trans (congrArg some hv)
      have g48 : cx.tmps[48]? = some (sv a) := by obtain ⟨_, g, hv⟩ := Reg.pred hp 37 48 (by kernel_rfl) rfl rfl; exact g.trans (congrArg some hv)
      have g44 : cx.tmps[44]? = some (.bool true) := by obtain ⟨_, g, hv⟩ := Reg.pred hp 33 44 (by kernel_rfl) rfl rfl; exact g.trans (congrArg some hv)
      have e1 := w128_neg_neg HA.out
      refine Reg.ok_value Reg.Old.refl (v := .bool true) (Reg.wanted_at (j := 33) (d := 44) rfl rfl rfl g44) ?_ rfl
      go_simp
    · intro cx wc hB hp hs
      have g44 : cx.tmps[44]? = some (.bool true) := by obtain ⟨_, g, hv⟩ := Reg.pred hp 33 44 (by kernel_rfl) rfl rfl; exact g.trans (congrArg some hv)
      have g49 : cx.tmps[49]? = some (.bool true) := by obtain ⟨_, g, hv⟩ := Reg.pred hp 38 49 (by kernel_rfl) rfl rfl; exact g.trans (congrArg some hv)
      refine Reg.ok_value Reg.Old.refl (v := .bool true) (Reg.wanted_none rfl) ?_ rfl
      go_simp
    · intro cx wc hB hp hs
      have g50 : cx.tmps[50]? = some (.bool true) := by obtain ⟨_, g, hv⟩ := Reg.pred hp 39 50 (by kernel_rfl) rfl rfl; exact g.trans (congrArg some hv)
      refine Reg.ok_value Reg.Old.refl (v := .bool true) (Reg.wanted_none rfl) ?_ rfl
      go_simp
    · intro cx wc hB hp hs
      have g3 : cx.tmps[3]? = some (.pointer (some ⟨w.heap.size, 0, none⟩)) := (hs 3 (by kernel_rfl)).trans rfl
      have g51 : cx.tmps[51]? = some (.bool true) := by obtain ⟨_, g, hv⟩ := Reg.pred hp 40 51 (by kernel_rfl) rfl rfl; exact g.trans (congrArg some hv)
      have hc := hA.drew.below hB
      have k0 := hc.cell 0 (.int .i64 (shi a)) rfl
      have k1 := hc.cell 1 (.int .u64 (slo a)) rfl
      refine Reg.ok_value Reg.Old.refl (v := sv a) (Reg.wanted_at (j := 40) (d := 51) rfl rfl rfl g51) ?_ rfl
      go_simp
    · intro cx wc hB hp hs
      have g51 : cx.tmps[51]? = some (.bool true) := by obtain ⟨_, g, hv⟩ := Reg.pred hp 40 51 (by kernel_rfl) rfl rfl; exact g.trans (congrArg some hv)
      refine Reg.ok_value Reg.Old.refl (v := .agg #[.int .i64 0, .int .u64 0]) (Reg.wanted_at (j := 40) (d := 51) rfl rfl rfl g51) ?_ rfl
      go_simp
    · intro cx wc hB hp hs
      have g52 : cx.tmps[52]? = some (sv a) := by obtain ⟨_, g, hv⟩ := Reg.pred hp 41 52 (by kernel_rfl) rfl rfl; exact g.trans (congrArg some hv)
      have g53 : cx.tmps[53]? = some (.agg #[.int .i64 0, .int .u64 0]) := by obtain ⟨_, g, hv⟩ := Reg.pred hp 42 53 (by kernel_rfl) rfl rfl; exact g.trans (congrArg some hv)
      have g51 : cx.tmps[51]? = some (.bool true) := by obtain ⟨_, g, hv⟩ := Reg.pred hp 40 51 (by kernel_rfl) rfl rfl; exact g.trans (congrArg some hv)
      refine Reg.ok_call (f := 13) (args := #[sv a, .agg #[.int .i64 0, .int .u64 0]]) (Reg.wanted_at (j := 40) (d := 51) rfl rfl rfl g51) (by go_simp) ((add_0 (a) (HA.out) wc).mono ?_)
      rintro e w' ⟨rfl, hB2⟩
      exact ⟨_, rfl, hB2, rfl⟩
    · intro cx wc hB hp hs
      have g3 : cx.tmps[3]? = some (.pointer (some ⟨w.heap.size, 0, none⟩)) := (hs 3 (by kernel_rfl)).trans rfl
      have g51 : cx.tmps[51]? = some (.bool true) := by obtain ⟨_, g, hv⟩ := Reg.pred hp 40 51 (by kernel_rfl) rfl rfl; exact g.trans (congrArg some hv)
      have hc := hA.drew.below hB
      have k0 := hc.cell 0 (.int .i64 (shi a)) rfl
      have k1 := hc.cell 1 (.int .u64 (slo a)) rfl
      refine Reg.ok_value Reg.Old.refl (v := sv a) (Reg.wanted_at (j := 40) (d := 51) rfl rfl rfl g51) ?_ rfl
      go_simp
    · intro cx wc hB hp hs
      have g54 : cx.tmps[54]? = some (sv (w128 (a + 0))) := by obtain ⟨_, g, hv⟩ := Reg.pred hp 43 54 (by kernel_rfl) rfl rfl; exact g.trans (congrArg some hv)
      have g55 : cx.tmps[55]? = some (sv a) := by obtain ⟨_, g, hv⟩ := Reg.pred hp 44 55 (by kernel_rfl) rfl rfl; exact g.trans (congrArg some hv)
      have g51 : cx.tmps[51]? = some (.bool true) := by obtain ⟨_, g, hv⟩ := Reg.pred hp 40 51 (by kernel_rfl) rfl rfl; exact g.trans (congrArg some hv)
      have e1 := w128_of HA.out
      refine Reg.ok_value Reg.Old.refl (v := .bool true) (Reg.wanted_at (j := 40) (d := 51) rfl rfl rfl g51) ?_ rfl
      go_simp
    · intro cx wc hB hp hs
      have g51 : cx.tmps[51]? = some (.bool true) := by obtain ⟨_, g, hv⟩ := Reg.pred hp 40 51 (by kernel_rfl) rfl rfl; exact g.trans (congrArg some hv)
      have g56 : cx.tmps[56]? = some (.bool true) := by obtain ⟨_, g, hv⟩ := Reg.pred hp 45 56 (by kernel_rfl) rfl rfl; exact g.trans (congrArg some hv)
      refine Reg.ok_value Reg.Old.refl (v := .bool true) (Reg.wanted_none rfl) ?_ rfl
      go_simp
    · intro cx wc hB hp hs
      have g57 : cx.tmps[57]? = some (.bool true) := by obtain ⟨_, g, hv⟩ := Reg.pred hp 46 57 (by kernel_rfl) rfl rfl; exact g.trans (congrArg some hv)
      refine Reg.ok_value Reg.Old.refl (v := .bool true) (Reg.wanted_none rfl) ?_ rfl
      go_simp
  · intro d wc hB hsz hdf hv ho
    have g6 : d.tmps[6]? = some (.bool true) := by obtain ⟨_, g, hv⟩ := hv 47 _ 6 rfl rfl; exact g.trans (congrArg some hv)
    have hF := hE.trans (hB.mono hE.size)
    clear hv ho hB
    go_wp2
    refine bodyPost_ret (v := .bool true) ?_ hdf ⟨rfl, hF⟩
    simp [results, Tryd.results5, go_sem, g6]
end Go.Proofs.YthddnhnhlgnlhaaDoor
