/- WideOrder, walked. -/
import Derived.Test.YthddnhnhlgnlhaaDoorWideE
namespace Go.Proofs.YthddnhnhlgnlhaaDoor
open Go Go.RowKit

def OrderEqPhi (w : World) (a m k g : Int) (l n z : Bool) : Nat → Value → World → Prop
  | i, v, _ => v = ([.bool true, .bool true, sv a, sv a, .bool true, .bool true, undef, undef, undef, undef, undef, undef, undef, .bool true, .bool true, .bool true, sv a, sv a, .bool false, .bool true, .bool true, .bool true, .int .i64 m, sv m, .int .i64 k, sv k, .bool (decide (m < k)), .int .i64 m, .int .i64 k, .bool (decide (m < k)), .bool true, .bool true, .bool true, sv a, .int .i64 g, .bool n, sv a, .agg #[.int .i64 0, .int .u64 0], .bool n, .bool true, .bool true, .bool true, sv a, .int .i64 g, .bool z, sv a, .agg #[.int .i64 0, .int .u64 0], .bool z, .bool true, .bool true, .bool true] : List Value).getD i undef
theorem OrderEqPhi.stays {w : World} {a m k g : Int} {l n z : Bool} : ∀ i v x y, OrderEqPhi w a m k g l n z i v x → Reg.Old x y → OrderEqPhi w a m k g l n z i v y := fun _ _ _ _ h _ => h

set_option maxRecDepth 100000 in
set_option maxHeartbeats 4000000 in
theorem order_Eq (a m k g : Int) (l n z : Bool) (hz : z = (decide (shi a = 0) && decide (slo a = 0))) (hn : decide (g < 0) = n) (hgz : (g == 0) = z)
    (hm1 : -9223372036854775808 ≤ m) (hm2 : m ≤ 9223372036854775807) (hk1 : -9223372036854775808 ≤ k) (hk2 : k ≤ 9223372036854775807)
    (hsg : ∀ w, Calls Tryd.prog 19 #[sv a] w fun e w' => e = .returned (.int .i64 g) ∧ Below w.heap.size w w')
    
    (haa : ∀ w, Calls Tryd.prog 17 #[sv a, sv a] w fun e w' => e = .returned (.bool false) ∧ Below w.heap.size w w')
    (hmk : ∀ w, Calls Tryd.prog 17 #[sv m, sv k] w fun e w' => e = .returned (.bool (decide (m < k))) ∧ Below w.heap.size w w')
    (hl0 : ∀ w, Calls Tryd.prog 17 #[sv a, .agg #[.int .i64 0, .int .u64 0]] w fun e w' => e = .returned (.bool n) ∧ Below w.heap.size w w')
    (w : World) (hT : Tens w) :
    Calls Tryd.prog 7 #[sv a, sv a, .int .i64 m, .int .i64 k] w fun e w' => e = .returned (.bool true) ∧ Below w.heap.size w w' := by
  have HT := Lib.hid hT
  have HN := Lib.hid hn
  have HG := Lib.hid hgz
  have HZ := Lib.hid hz
  clear hT hn hgz hz
  rw [show sv a = .agg #[.int .i64 (shi a), .int .u64 (slo a)] from rfl]
  go_enter Tryd.func7, Tryd.ntmps7
  go_wp2_with fail
  have hE0 : ∀ o1 o2, Below w.heap.size w ((w.alloc o1).alloc o2) := fun o1 o2 => ((Below.refl _ _).alloc (Nat.le_refl _) _).alloc (by simp) _
  refine (examples_any _ (HT.out.below (hE0 _ _))).mono ?_
  rintro e W ⟨rfl, hBx⟩
  have hA : CellsAt w.heap.size #[.int .i64 (shi a), .int .u64 (slo a)] W := ((CellsAt.new _ _ _).past _).below hBx
  have hBb : CellsAt (w.heap.size + 1) #[.int .i64 (shi a), .int .u64 (slo a)] W := (CellsAt.newAt _ _ _ _ (by simp)).below hBx
  have hE := (hE0 _ _).trans (hBx.mono (hE0 _ _).size)
  clear hE0 hBx HT
  go_wp2_with fail
  have hn := HN.out
  have hgz := HG.out
  have hz := HZ.out
  refine Reg.wp_region_inv (n := 63) (OrderEqPhi w a m k g l n z) (by kernel_rfl) (by kernel_rfl) rfl OrderEqPhi.stays ?_ ?_
  · refine ⟨?_, ?_, ?_, ?_, ?_, ?_, ?_, ?_, ?_, ?_, ?_, ?_, ?_, ?_, ?_, ?_, ?_, ?_, ?_, ?_, ?_, ?_, ?_, ?_, ?_, ?_, ?_, ?_, ?_, ?_, ?_, ?_, ?_, ?_, ?_, ?_, ?_, ?_, ?_, ?_, ?_, ?_, ?_, ?_, ?_, ?_, ?_, ?_, ?_, ?_, ?_, trivial⟩
    · intro cx wc hB hp hs
      have g9 : cx.tmps[9]? = some (.bool true) := (hs 9 (by kernel_rfl)).trans rfl
      refine Reg.ok_value Reg.Old.refl (v := .bool true) (Reg.wanted_none rfl) ?_ rfl
      go_simp
    · intro cx wc hB hp hs
      have g13 : cx.tmps[13]? = some (.bool true) := by obtain ⟨_, g, hv⟩ := Reg.pred hp 0 13 (by kernel_rfl) rfl rfl; exact g.trans (congrArg some hv)
      refine Reg.ok_value Reg.Old.refl (v := .bool true) (Reg.wanted_none rfl) ?_ rfl
      go_simp
    · intro cx wc hB hp hs
      have g4 : cx.tmps[4]? = some (.pointer (some ⟨w.heap.size, 0, none⟩)) := (hs 4 (by kernel_rfl)).trans rfl
      have g14 : cx.tmps[14]? = some (.bool true) := by obtain ⟨_, g, hv⟩ := Reg.pred hp 1 14 (by kernel_rfl) rfl rfl; exact g.trans (congrArg some hv)
      have hc := hA.drew.below hB
      have k0 := hc.cell 0 (.int .i64 (shi a)) rfl
      have k1 := hc.cell 1 (.int .u64 (slo a)) rfl
      refine Reg.ok_value Reg.Old.refl (v := sv a) (Reg.wanted_at (j := 1) (d := 14) rfl rfl rfl g14) ?_ rfl
      go_simp
    · intro cx wc hB hp hs
      have g5 : cx.tmps[5]? = some (.pointer (some ⟨(w.heap.size + 1), 0, none⟩)) := (hs 5 (by kernel_rfl)).trans rfl
      have g14 : cx.tmps[14]? = some (.bool true) := by obtain ⟨_, g, hv⟩ := Reg.pred hp 1 14 (by kernel_rfl) rfl rfl; exact g.trans (congrArg some hv)
      have hc := hBb.drew.below hB
      have k0 := hc.cell 0 (.int .i64 (shi a)) rfl
      have k1 := hc.cell 1 (.int .u64 (slo a)) rfl
      refine Reg.ok_value Reg.Old.refl (v := sv a) (Reg.wanted_at (j := 1) (d := 14) rfl rfl rfl g14) ?_ rfl
      go_simp
    · intro cx wc hB hp hs
      have g15 : cx.tmps[15]? = some (sv a) := by obtain ⟨_, g, hv⟩ := Reg.pred hp 2 15 (by kernel_rfl) rfl rfl; exact g.trans (congrArg some hv)
      have g16 : cx.tmps[16]? = some (sv a) := by obtain ⟨_, g, hv⟩ := Reg.pred hp 3 16 (by kernel_rfl) rfl rfl; exact g.trans (congrArg some hv)
      have g14 : cx.tmps[14]? = some (.bool true) := by obtain ⟨_, g, hv⟩ := Reg.pred hp 1 14 (by kernel_rfl) rfl rfl; exact g.trans (congrArg some hv)
      refine Reg.ok_value Reg.Old.refl (v := .bool true) (Reg.wanted_at (j := 1) (d := 14) rfl rfl rfl g14) ?_ rfl
      go_simp
    · intro cx wc hB hp hs
      have g17 : cx.tmps[17]? = some (.bool true) := by obtain ⟨_, g, hv⟩ := Reg.pred hp 4 17 (by kernel_rfl) rfl rfl; exact g.trans (congrArg some hv)
      have g14 : cx.tmps[14]? = some (.bool true) := by obtain ⟨_, g, hv⟩ := Reg.pred hp 1 14 (by kernel_rfl) rfl rfl; exact g.trans (congrArg some hv)
      refine Reg.ok_value Reg.Old.refl (v := .bool true) (Reg.wanted_at (j := 1) (d := 14) rfl rfl rfl g14) ?_ rfl
      go_simp
    · intro cx wc hB hp hs
      have g18 : cx.tmps[18]? = some (.bool true) := by obtain ⟨_, g, hv⟩ := Reg.pred hp 5 18 (by kernel_rfl) rfl rfl; exact g.trans (congrArg some hv)
      exact Reg.ok_skip (Reg.unwanted_at (j := 5) (d := 18) rfl rfl rfl g18 rfl) rfl
    · intro cx wc hB hp hs
      have g18 : cx.tmps[18]? = some (.bool true) := by obtain ⟨_, g, hv⟩ := Reg.pred hp 5 18 (by kernel_rfl) rfl rfl; exact g.trans (congrArg some hv)
      exact Reg.ok_skip (Reg.unwanted_at (j := 5) (d := 18) rfl rfl rfl g18 rfl) rfl
    · intro cx wc hB hp hs
      have g18 : cx.tmps[18]? = some (.bool true) := by obtain ⟨_, g, hv⟩ := Reg.pred hp 5 18 (by kernel_rfl) rfl rfl; exact g.trans (congrArg some hv)
      exact Reg.ok_skip (Reg.unwanted_at (j := 5) (d := 18) rfl rfl rfl g18 rfl) rfl
    · intro cx wc hB hp hs
      have g18 : cx.tmps[18]? = some (.bool true) := by obtain ⟨_, g, hv⟩ := Reg.pred hp 5 18 (by kernel_rfl) rfl rfl; exact g.trans (congrArg some hv)
      exact Reg.ok_skip (Reg.unwanted_at (j := 5) (d := 18) rfl rfl rfl g18 rfl) rfl
    · intro cx wc hB hp hs
      have g18 : cx.tmps[18]? = some (.bool true) := by obtain ⟨_, g, hv⟩ := Reg.pred hp 5 18 (by kernel_rfl) rfl rfl; exact g.trans (congrArg some hv)
      exact Reg.ok_skip (Reg.unwanted_at (j := 5) (d := 18) rfl rfl rfl g18 rfl) rfl
    · intro cx wc hB hp hs
      have g18 : cx.tmps[18]? = some (.bool true) := by obtain ⟨_, g, hv⟩ := Reg.pred hp 5 18 (by kernel_rfl) rfl rfl; exact g.trans (congrArg some hv)
      exact Reg.ok_skip (Reg.unwanted_at (j := 5) (d := 18) rfl rfl rfl g18 rfl) rfl
    · intro cx wc hB hp hs
      have g18 : cx.tmps[18]? = some (.bool true) := by obtain ⟨_, g, hv⟩ := Reg.pred hp 5 18 (by kernel_rfl) rfl rfl; exact g.trans (congrArg some hv)
      exact Reg.ok_skip (Reg.unwanted_at (j := 5) (d := 18) rfl rfl rfl g18 rfl) rfl
    · intro cx wc hB hp hs
      have g18 : cx.tmps[18]? = some (.bool true) := by obtain ⟨_, g, hv⟩ := Reg.pred hp 5 18 (by kernel_rfl) rfl rfl; exact g.trans (congrArg some hv)
      have g14 : cx.tmps[14]? = some (.bool true) := by obtain ⟨_, g, hv⟩ := Reg.pred hp 1 14 (by kernel_rfl) rfl rfl; exact g.trans (congrArg some hv)
      refine Reg.ok_value Reg.Old.refl (v := .bool true) (Reg.wanted_at (j := 1) (d := 14) rfl rfl rfl g14) ?_ rfl
      go_simp
    · intro cx wc hB hp hs
      have g14 : cx.tmps[14]? = some (.bool true) := by obtain ⟨_, g, hv⟩ := Reg.pred hp 1 14 (by kernel_rfl) rfl rfl; exact g.trans (congrArg some hv)
      have g26 : cx.tmps[26]? = some (.bool true) := by obtain ⟨_, g, hv⟩ := Reg.pred hp 13 26 (by kernel_rfl) rfl rfl; exact g.trans (congrArg some hv)
      refine Reg.ok_value Reg.Old.refl (v := .bool true) (Reg.wanted_none rfl) ?_ rfl
      go_simp
    · intro cx wc hB hp hs
      have g27 : cx.tmps[27]? = some (.bool true) := by obtain ⟨_, g, hv⟩ := Reg.pred hp 14 27 (by kernel_rfl) rfl rfl; exact g.trans (congrArg some hv)
      refine Reg.ok_value Reg.Old.refl (v := .bool true) (Reg.wanted_none rfl) ?_ rfl
      go_simp
    · intro cx wc hB hp hs
      have g4 : cx.tmps[4]? = some (.pointer (some ⟨w.heap.size, 0, none⟩)) := (hs 4 (by kernel_rfl)).trans rfl
      have g28 : cx.tmps[28]? = some (.bool true) := by obtain ⟨_, g, hv⟩ := Reg.pred hp 15 28 (by kernel_rfl) rfl rfl; exact g.trans (congrArg some hv)
      have hc := hA.drew.below hB
      have k0 := hc.cell 0 (.int .i64 (shi a)) rfl
      have k1 := hc.cell 1 (.int .u64 (slo a)) rfl
      refine Reg.ok_value Reg.Old.refl (v := sv a) (Reg.wanted_at (j := 15) (d := 28) rfl rfl rfl g28) ?_ rfl
      go_simp
    · intro cx wc hB hp hs
      have g4 : cx.tmps[4]? = some (.pointer (some ⟨w.heap.size, 0, none⟩)) := (hs 4 (by kernel_rfl)).trans rfl
      have g28 : cx.tmps[28]? = some (.bool true) := by obtain ⟨_, g, hv⟩ := Reg.pred hp 15 28 (by kernel_rfl) rfl rfl; exact g.trans (congrArg some hv)
      have hc := hA.drew.below hB
      have k0 := hc.cell 0 (.int .i64 (shi a)) rfl
      have k1 := hc.cell 1 (.int .u64 (slo a)) rfl
      refine Reg.ok_value Reg.Old.refl (v := sv a) (Reg.wanted_at (j := 15) (d := 28) rfl rfl rfl g28) ?_ rfl
      go_simp
    · intro cx wc hB hp hs
      have g29 : cx.tmps[29]? = some (sv a) := by obtain ⟨_, g, hv⟩ := Reg.pred hp 16 29 (by kernel_rfl) rfl rfl; exact g.trans (congrArg some hv)
      have g30 : cx.tmps[30]? = some (sv a) := by obtain ⟨_, g, hv⟩ := Reg.pred hp 17 30 (by kernel_rfl) rfl rfl; exact g.trans (congrArg some hv)
      have g28 : cx.tmps[28]? = some (.bool true) := by obtain ⟨_, g, hv⟩ := Reg.pred hp 15 28 (by kernel_rfl) rfl rfl; exact g.trans (congrArg some hv)
      refine Reg.ok_call (f := 17) (args := #[sv a, sv a]) (Reg.wanted_at (j := 15) (d := 28) rfl rfl rfl g28) (by go_simp) ((haa wc).mono ?_)
      rintro e w' ⟨rfl, hB2⟩
      exact ⟨_, rfl, hB2, rfl⟩
    · intro cx wc hB hp hs
      have g31 : cx.tmps[31]? = some (.bool false) := by obtain ⟨_, g, hv⟩ := Reg.pred hp 18 31 (by kernel_rfl) rfl rfl; exact g.trans (congrArg some hv)
      have g28 : cx.tmps[28]? = some (.bool true) := by obtain ⟨_, g, hv⟩ := Reg.pred hp 15 28 (by kernel_rfl) rfl rfl; exact g.trans (congrArg some hv)
      refine Reg.ok_value Reg.Old.refl (v := .bool true) (Reg.wanted_at (j := 15) (d := 28) rfl rfl rfl g28) ?_ rfl
      go_simp
    · intro cx wc hB hp hs
      have g28 : cx.tmps[28]? = some (.bool true) := by obtain ⟨_, g, hv⟩ := Reg.pred hp 15 28 (by kernel_rfl) rfl rfl; exact g.trans (congrArg some hv)
      have g32 : cx.tmps[32]? = some (.bool true) := by obtain ⟨_, g, hv⟩ := Reg.pred hp 19 32 (by kernel_rfl) rfl rfl; exact g.trans (congrArg some hv)
      refine Reg.ok_value Reg.Old.refl (v := .bool true) (Reg.wanted_none rfl) ?_ rfl
      go_simp
    · intro cx wc hB hp hs
      have g33 : cx.tmps[33]? = some (.bool true) := by obtain ⟨_, g, hv⟩ := Reg.pred hp 20 33 (by kernel_rfl) rfl rfl; exact g.trans (congrArg some hv)
      refine Reg.ok_value Reg.Old.refl (v := .bool true) (Reg.wanted_none rfl) ?_ rfl
      go_simp
    · intro cx wc hB hp hs
      have g2 : cx.tmps[2]? = some (.int .i64 m) := (hs 2 (by kernel_rfl)).trans rfl
      have g34 : cx.tmps[34]? = some (.bool true) := by obtain ⟨_, g, hv⟩ := Reg.pred hp 21 34 (by kernel_rfl) rfl rfl; exact g.trans (congrArg some hv)
      refine Reg.ok_value Reg.Old.refl (v := .int .i64 m) (Reg.wanted_at (j := 21) (d := 34) rfl rfl rfl g34) ?_ rfl
      go_simp
    · intro cx wc hB hp hs
      have g35 : cx.tmps[35]? = some (.int .i64 m) := by obtain ⟨_, g, hv⟩ := Reg.pred hp 22 35 (by kernel_rfl) rfl rfl; exact g.trans (congrArg some hv)
      have g34 : cx.tmps[34]? = some (.bool true) := by obtain ⟨_, g, hv⟩ := Reg.pred hp 21 34 (by kernel_rfl) rfl rfl; exact g.trans (congrArg some hv)
      refine Reg.ok_call (f := 25) (args := #[.int .i64 m]) (Reg.wanted_at (j := 21) (d := 34) rfl rfl rfl g34) (by go_simp) ((of_any m hm1 hm2 wc).mono ?_)
      rintro e w' ⟨rfl, hB2⟩
      exact ⟨_, rfl, hB2, rfl⟩
    · intro cx wc hB hp hs
      have g3 : cx.tmps[3]? = some (.int .i64 k) := (hs 3 (by kernel_rfl)).trans rfl
      have g34 : cx.tmps[34]? = some (.bool true) := by obtain ⟨_, g, hv⟩ := Reg.pred hp 21 34 (by kernel_rfl) rfl rfl; exact g.trans (congrArg some hv)
      refine Reg.ok_value Reg.Old.refl (v := .int .i64 k) (Reg.wanted_at (j := 21) (d := 34) rfl rfl rfl g34) ?_ rfl
      go_simp
    · intro cx wc hB hp hs
      have g37 : cx.tmps[37]? = some (.int .i64 k) := by obtain ⟨_, g, hv⟩ := Reg.pred hp 24 37 (by kernel_rfl) rfl rfl; exact g.trans (congrArg some hv)
      have g34 : cx.tmps[34]? = some (.bool true) := by obtain ⟨_, g, hv⟩ := Reg.pred hp 21 34 (by kernel_rfl) rfl rfl; exact g.trans (congrArg some hv)
      refine Reg.ok_call (f := 25) (args := #[.int .i64 k]) (Reg.wanted_at (j := 21) (d := 34) rfl rfl rfl g34) (by go_simp) ((of_any k hk1 hk2 wc).mono ?_)
      rintro e w' ⟨rfl, hB2⟩
      exact ⟨_, rfl, hB2, rfl⟩
    · intro cx wc hB hp hs
      have g36 : cx.tmps[36]? = some (sv m) := by obtain ⟨_, g, hv⟩ := Reg.pred hp 23 36 (by kernel_rfl) rfl rfl; exact g.trans (congrArg some hv)
      have g38 : cx.tmps[38]? = some (sv k) := by obtain ⟨_, g, hv⟩ := Reg.pred hp 25 38 (by kernel_rfl) rfl rfl; exact g.trans (congrArg some hv)
      have g34 : cx.tmps[34]? = some (.bool true) := by obtain ⟨_, g, hv⟩ := Reg.pred hp 21 34 (by kernel_rfl) rfl rfl; exact g.trans (congrArg some hv)
      refine Reg.ok_call (f := 17) (args := #[sv m, sv k]) (Reg.wanted_at (j := 21) (d := 34) rfl rfl rfl g34) (by go_simp) ((hmk wc).mono ?_)
      rintro e w' ⟨rfl, hB2⟩
      exact ⟨_, rfl, hB2, rfl⟩
    · intro cx wc hB hp hs
      have g2 : cx.tmps[2]? = some (.int .i64 m) := (hs 2 (by kernel_rfl)).trans rfl
      have g34 : cx.tmps[34]? = some (.bool true) := by obtain ⟨_, g, hv⟩ := Reg.pred hp 21 34 (by kernel_rfl) rfl rfl; exact g.trans (congrArg some hv)
      refine Reg.ok_value Reg.Old.refl (v := .int .i64 m) (Reg.wanted_at (j := 21) (d := 34) rfl rfl rfl g34) ?_ rfl
      go_simp
    · intro cx wc hB hp hs
      have g3 : cx.tmps[3]? = some (.int .i64 k) := (hs 3 (by kernel_rfl)).trans rfl
      have g34 : cx.tmps[34]? = some (.bool true) := by obtain ⟨_, g, hv⟩ := Reg.pred hp 21 34 (by kernel_rfl) rfl rfl; exact g.trans (congrArg some hv)
      refine Reg.ok_value Reg.Old.refl (v := .int .i64 k) (Reg.wanted_at (j := 21) (d := 34) rfl rfl rfl g34) ?_ rfl
      go_simp
    · intro cx wc hB hp hs
      have g40 : cx.tmps[40]? = some (.int .i64 m) := by obtain ⟨_, g, hv⟩ := Reg.pred hp 27 40 (by kernel_rfl) rfl rfl; exact g.trans (congrArg some hv)
      have g41 : cx.tmps[41]? = some (.int .i64 k) := by obtain ⟨_, g, hv⟩ := Reg.pred hp 28 41 (by kernel_rfl) rfl rfl; exact g.trans (congrArg some hv)
      have g34 : cx.tmps[34]? = some (.bool true) := by obtain ⟨_, g, hv⟩ := Reg.pred hp 21 34 (by kernel_rfl) rfl rfl; exact g.trans (congrArg some hv)
      refine Reg.ok_value Reg.Old.refl (v := .bool (decide (m < k))) (Reg.wanted_at (j := 21) (d := 34) rfl rfl rfl g34) ?_ rfl
      go_simp
    · intro cx wc hB hp hs
      have g39 : cx.tmps[39]? = some (.bool (decide (m < k))) := by obtain ⟨_, g, hv⟩ := Reg.pred hp 26 39 (by kernel_rfl) rfl rfl; exact g.trans (congrArg some hv)
      have g42 : cx.tmps[42]? = some (.bool (decide (m < k))) := by obtain ⟨_, g, hv⟩ := Reg.pred hp 29 42 (by kernel_rfl) rfl rfl; exact g.trans (congrArg some hv)
      have g34 : cx.tmps[34]? = some (.bool true) := by obtain ⟨_, g, hv⟩ := Reg.pred hp 21 34 (by kernel_rfl) rfl rfl; exact g.trans (congrArg some hv)
      refine Reg.ok_value Reg.Old.refl (v := .bool true) (Reg.wanted_at (j := 21) (d := 34) rfl rfl rfl g34) ?_ rfl
      go_simp
    · intro cx wc hB hp hs
      have g34 : cx.tmps[34]? = some (.bool true) := by obtain ⟨_, g, hv⟩ := Reg.pred hp 21 34 (by kernel_rfl) rfl rfl; exact g.trans (congrArg some hv)
      have g43 : cx.tmps[43]? = some (.bool true) := by obtain ⟨_, g, hv⟩ := Reg.pred hp 30 43 (by kernel_rfl) rfl rfl; exact g.trans (congrArg some hv)
      refine Reg.ok_value Reg.Old.refl (v := .bool true) (Reg.wanted_none rfl) ?_ rfl
      go_simp
    · intro cx wc hB hp hs
      have g44 : cx.tmps[44]? = some (.bool true) := by obtain ⟨_, g, hv⟩ := Reg.pred hp 31 44 (by kernel_rfl) rfl rfl; exact g.trans (congrArg some hv)
      refine Reg.ok_value Reg.Old.refl (v := .bool true) (Reg.wanted_none rfl) ?_ rfl
      go_simp
    · intro cx wc hB hp hs
      have g4 : cx.tmps[4]? = some (.pointer (some ⟨w.heap.size, 0, none⟩)) := (hs 4 (by kernel_rfl)).trans rfl
      have g45 : cx.tmps[45]? = some (.bool true) := by obtain ⟨_, g, hv⟩ := Reg.pred hp 32 45 (by kernel_rfl) rfl rfl; exact g.trans (congrArg some hv)
      have hc := hA.drew.below hB
      have k0 := hc.cell 0 (.int .i64 (shi a)) rfl
      have k1 := hc.cell 1 (.int .u64 (slo a)) rfl
      refine Reg.ok_value Reg.Old.refl (v := sv a) (Reg.wanted_at (j := 32) (d := 45) rfl rfl rfl g45) ?_ rfl
      go_simp
    · intro cx wc hB hp hs
      have g46 : cx.tmps[46]? = some (sv a) := by obtain ⟨_, g, hv⟩ := Reg.pred hp 33 46 (by kernel_rfl) rfl rfl; exact g.trans (congrArg some hv)
      have g45 : cx.tmps[45]? = some (.bool true) := by obtain ⟨_, g, hv⟩ := Reg.pred hp 32 45 (by kernel_rfl) rfl rfl; exact g.trans (congrArg some hv)
      refine Reg.ok_call (f := 19) (args := #[sv a]) (Reg.wanted_at (j := 32) (d := 45) rfl rfl rfl g45) (by go_simp) ((hsg wc).mono ?_)
      rintro e w' ⟨rfl, hB2⟩
      exact ⟨_, rfl, hB2, rfl⟩
    · intro cx wc hB hp hs
      have g47 : cx.tmps[47]? = some (.int .i64 g) := by obtain ⟨_, g, hv⟩ := Reg.pred hp 34 47 (by kernel_rfl) rfl rfl; exact g.trans (congrArg some hv)
      have g45 : cx.tmps[45]? = some (.bool true) := by obtain ⟨_, g, hv⟩ := Reg.pred hp 32 45 (by kernel_rfl) rfl rfl; exact g.trans (congrArg some hv)
      refine Reg.ok_value Reg.Old.refl (v := .bool n) (Reg.wanted_at (j := 32) (d := 45) rfl rfl rfl g45) ?_ rfl
      go_simp
    · intro cx wc hB hp hs
      have g4 : cx.tmps[4]? = some (.pointer (some ⟨w.heap.size, 0, none⟩)) := (hs 4 (by kernel_rfl)).trans rfl
      have g45 : cx.tmps[45]? = some (.bool true) := by obtain ⟨_, g, hv⟩ := Reg.pred hp 32 45 (by kernel_rfl) rfl rfl; exact g.trans (congrArg some hv)
      have hc := hA.drew.below hB
      have k0 := hc.cell 0 (.int .i64 (shi a)) rfl
      have k1 := hc.cell 1 (.int .u64 (slo a)) rfl
      refine Reg.ok_value Reg.Old.refl (v := sv a) (Reg.wanted_at (j := 32) (d := 45) rfl rfl rfl g45) ?_ rfl
      go_simp
    · intro cx wc hB hp hs
      have g45 : cx.tmps[45]? = some (.bool true) := by obtain ⟨_, g, hv⟩ := Reg.pred hp 32 45 (by kernel_rfl) rfl rfl; exact g.trans (congrArg some hv)
      refine Reg.ok_value Reg.Old.refl (v := .agg #[.int .i64 0, .int .u64 0]) (Reg.wanted_at (j := 32) (d := 45) rfl rfl rfl g45) ?_ rfl
      go_simp
    · intro cx wc hB hp hs
      have g49 : cx.tmps[49]? = some (sv a) := by obtain ⟨_, g, hv⟩ := Reg.pred hp 36 49 (by kernel_rfl) rfl rfl; exact g.trans (congrArg some hv)
      have g50 : cx.tmps[50]? = some (.agg #[.int .i64 0, .int .u64 0]) := by obtain ⟨_, g, hv⟩ := Reg.pred hp 37 50 (by kernel_rfl) rfl rfl; exact g.trans (congrArg some hv)
      have g45 : cx.tmps[45]? = some (.bool true) := by obtain ⟨_, g, hv⟩ := Reg.pred hp 32 45 (by kernel_rfl) rfl rfl; exact g.trans (congrArg some hv)
      refine Reg.ok_call (f := 17) (args := #[sv a, .agg #[.int .i64 0, .int .u64 0]]) (Reg.wanted_at (j := 32) (d := 45) rfl rfl rfl g45) (by go_simp) ((hl0 wc).mono ?_)
      rintro e w' ⟨rfl, hB2⟩
      exact ⟨_, rfl, hB2, rfl⟩
    · intro cx wc hB hp hs
      have g48 : cx.tmps[48]? = some (.bool n) := by obtain ⟨_, g, hv⟩ := Reg.pred hp 35 48 (by kernel_rfl) rfl rfl; exact g.trans (congrArg some hv)
      have g51 : cx.tmps[51]? = some (.bool n) := by obtain ⟨_, g, hv⟩ := Reg.pred hp 38 51 (by kernel_rfl) rfl rfl; exact g.trans (congrArg some hv)
      have g45 : cx.tmps[45]? = some (.bool true) := by obtain ⟨_, g, hv⟩ := Reg.pred hp 32 45 (by kernel_rfl) rfl rfl; exact g.trans (congrArg some hv)
      refine Reg.ok_value Reg.Old.refl (v := .bool true) (Reg.wanted_at (j := 32) (d := 45) rfl rfl rfl g45) ?_ rfl
      go_simp
    · intro cx wc hB hp hs
      have g45 : cx.tmps[45]? = some (.bool true) := by obtain ⟨_, g, hv⟩ := Reg.pred hp 32 45 (by kernel_rfl) rfl rfl; exact g.trans (congrArg some hv)
      have g52 : cx.tmps[52]? = some (.bool true) := by obtain ⟨_, g, hv⟩ := Reg.pred hp 39 52 (by kernel_rfl) rfl rfl; exact g.trans (congrArg some hv)
      refine Reg.ok_value Reg.Old.refl (v := .bool true) (Reg.wanted_none rfl) ?_ rfl
      go_simp
    · intro cx wc hB hp hs
      have g53 : cx.tmps[53]? = some (.bool true) := by obtain ⟨_, g, hv⟩ := Reg.pred hp 40 53 (by kernel_rfl) rfl rfl; exact g.trans (congrArg some hv)
      refine Reg.ok_value Reg.Old.refl (v := .bool true) (Reg.wanted_none rfl) ?_ rfl
      go_simp
    · intro cx wc hB hp hs
      have g4 : cx.tmps[4]? = some (.pointer (some ⟨w.heap.size, 0, none⟩)) := (hs 4 (by kernel_rfl)).trans rfl
      have g54 : cx.tmps[54]? = some (.bool true) := by obtain ⟨_, g, hv⟩ := Reg.pred hp 41 54 (by kernel_rfl) rfl rfl; exact g.trans (congrArg some hv)
      have hc := hA.drew.below hB
      have k0 := hc.cell 0 (.int .i64 (shi a)) rfl
      have k1 := hc.cell 1 (.int .u64 (slo a)) rfl
      refine Reg.ok_value Reg.Old.refl (v := sv a) (Reg.wanted_at (j := 41) (d := 54) rfl rfl rfl g54) ?_ rfl
      go_simp
    · intro cx wc hB hp hs
      have g55 : cx.tmps[55]? = some (sv a) := by obtain ⟨_, g, hv⟩ := Reg.pred hp 42 55 (by kernel_rfl) rfl rfl; exact g.trans (congrArg some hv)
      have g54 : cx.tmps[54]? = some (.bool true) := by obtain ⟨_, g, hv⟩ := Reg.pred hp 41 54 (by kernel_rfl) rfl rfl; exact g.trans (congrArg some hv)
      refine Reg.ok_call (f := 19) (args := #[sv a]) (Reg.wanted_at (j := 41) (d := 54) rfl rfl rfl g54) (by go_simp) ((hsg wc).mono ?_)
      rintro e w' ⟨rfl, hB2⟩
      exact ⟨_, rfl, hB2, rfl⟩
    · intro cx wc hB hp hs
      have g56 : cx.tmps[56]? = some (.int .i64 g) := by obtain ⟨_, g, hv⟩ := Reg.pred hp 43 56 (by kernel_rfl) rfl rfl; exact g.trans (congrArg some hv)
      have g54 : cx.tmps[54]? = some (.bool true) := by obtain ⟨_, g, hv⟩ := Reg.pred hp 41 54 (by kernel_rfl) rfl rfl; exact g.trans (congrArg some hv)
      refine Reg.ok_value Reg.Old.refl (v := .bool z) (Reg.wanted_at (j := 41) (d := 54) rfl rfl rfl g54) ?_ rfl
      go_simp
    · intro cx wc hB hp hs
      have g4 : cx.tmps[4]? = some (.pointer (some ⟨w.heap.size, 0, none⟩)) := (hs 4 (by kernel_rfl)).trans rfl
      have g54 : cx.tmps[54]? = some (.bool true) := by obtain ⟨_, g, hv⟩ := Reg.pred hp 41 54 (by kernel_rfl) rfl rfl; exact g.trans (congrArg some hv)
      have hc := hA.drew.below hB
      have k0 := hc.cell 0 (.int .i64 (shi a)) rfl
      have k1 := hc.cell 1 (.int .u64 (slo a)) rfl
      refine Reg.ok_value Reg.Old.refl (v := sv a) (Reg.wanted_at (j := 41) (d := 54) rfl rfl rfl g54) ?_ rfl
      go_simp
    · intro cx wc hB hp hs
      have g54 : cx.tmps[54]? = some (.bool true) := by obtain ⟨_, g, hv⟩ := Reg.pred hp 41 54 (by kernel_rfl) rfl rfl; exact g.trans (congrArg some hv)
      refine Reg.ok_value Reg.Old.refl (v := .agg #[.int .i64 0, .int .u64 0]) (Reg.wanted_at (j := 41) (d := 54) rfl rfl rfl g54) ?_ rfl
      go_simp
    · intro cx wc hB hp hs
      have g58 : cx.tmps[58]? = some (sv a) := by obtain ⟨_, g, hv⟩ := Reg.pred hp 45 58 (by kernel_rfl) rfl rfl; exact g.trans (congrArg some hv)
      have g59 : cx.tmps[59]? = some (.agg #[.int .i64 0, .int .u64 0]) := by obtain ⟨_, g, hv⟩ := Reg.pred hp 46 59 (by kernel_rfl) rfl rfl; exact g.trans (congrArg some hv)
      have g54 : cx.tmps[54]? = some (.bool true) := by obtain ⟨_, g, hv⟩ := Reg.pred hp 41 54 (by kernel_rfl) rfl rfl; exact g.trans (congrArg some hv)
      refine Reg.ok_value Reg.Old.refl (v := .bool z) (Reg.wanted_at (j := 41) (d := 54) rfl rfl rfl g54) ?_ rfl
      go_simp
      by_cases h0 : shi a = 0 <;> by_cases h1 : slo a = 0 <;> simp [h0, h1]
    · intro cx wc hB hp hs
      have g57 : cx.tmps[57]? = some (.bool z) := by obtain ⟨_, g, hv⟩ := Reg.pred hp 44 57 (by kernel_rfl) rfl rfl; exact g.trans (congrArg some hv)
      have g60 : cx.tmps[60]? = some (.bool z) := by obtain ⟨_, g, hv⟩ := Reg.pred hp 47 60 (by kernel_rfl) rfl rfl; exact g.trans (congrArg some hv)
      have g54 : cx.tmps[54]? = some (.bool true) := by obtain ⟨_, g, hv⟩ := Reg.pred hp 41 54 (by kernel_rfl) rfl rfl; exact g.trans (congrArg some hv)
      refine Reg.ok_value Reg.Old.refl (v := .bool true) (Reg.wanted_at (j := 41) (d := 54) rfl rfl rfl g54) ?_ rfl
      go_simp
    · intro cx wc hB hp hs
      have g54 : cx.tmps[54]? = some (.bool true) := by obtain ⟨_, g, hv⟩ := Reg.pred hp 41 54 (by kernel_rfl) rfl rfl; exact g.trans (congrArg some hv)
      have g61 : cx.tmps[61]? = some (.bool true) := by obtain ⟨_, g, hv⟩ := Reg.pred hp 48 61 (by kernel_rfl) rfl rfl; exact g.trans (congrArg some hv)
      refine Reg.ok_value Reg.Old.refl (v := .bool true) (Reg.wanted_none rfl) ?_ rfl
      go_simp
    · intro cx wc hB hp hs
      have g62 : cx.tmps[62]? = some (.bool true) := by obtain ⟨_, g, hv⟩ := Reg.pred hp 49 62 (by kernel_rfl) rfl rfl; exact g.trans (congrArg some hv)
      refine Reg.ok_value Reg.Old.refl (v := .bool true) (Reg.wanted_none rfl) ?_ rfl
      go_simp
  · intro d wc hB hsz hdf hv ho
    have gr : d.tmps[8]? = some (.bool true) := by obtain ⟨_, g, hv⟩ := hv 50 _ 8 rfl rfl; exact g.trans (congrArg some hv)
    have hF := hE.trans (hB.mono hE.size)
    clear hv ho hB
    go_wp2
    refine bodyPost_ret (v := .bool true) ?_ hdf ⟨rfl, hF⟩
    simp [results, Tryd.results7, go_sem, gr]

def OrderNePhi (w : World) (a b m k g : Int) (l n z : Bool) : Nat → Value → World → Prop
  | i, v, _ => v = ([.bool true, .bool true, sv a, sv b, .bool false, .bool false, sv a, sv b, .bool l, sv b, sv a, .bool (!l), .bool true, .bool true, .bool true, .bool true, sv a, sv a, .bool false, .bool true, .bool true, .bool true, .int .i64 m, sv m, .int .i64 k, sv k, .bool (decide (m < k)), .int .i64 m, .int .i64 k, .bool (decide (m < k)), .bool true, .bool true, .bool true, sv a, .int .i64 g, .bool n, sv a, .agg #[.int .i64 0, .int .u64 0], .bool n, .bool true, .bool true, .bool true, sv a, .int .i64 g, .bool z, sv a, .agg #[.int .i64 0, .int .u64 0], .bool z, .bool true, .bool true, .bool true] : List Value).getD i undef
theorem OrderNePhi.stays {w : World} {a b m k g : Int} {l n z : Bool} : ∀ i v x y, OrderNePhi w a b m k g l n z i v x → Reg.Old x y → OrderNePhi w a b m k g l n z i v y := fun _ _ _ _ h _ => h

set_option maxRecDepth 100000 in
set_option maxHeartbeats 4000000 in
theorem order_Ne (a b m k g : Int) (l n z : Bool) (hne : shi a ≠ shi b ∨ slo a ≠ slo b) (hz : z = (decide (shi a = 0) && decide (slo a = 0))) (hn : decide (g < 0) = n) (hgz : (g == 0) = z)
    (hm1 : -9223372036854775808 ≤ m) (hm2 : m ≤ 9223372036854775807) (hk1 : -9223372036854775808 ≤ k) (hk2 : k ≤ 9223372036854775807)
    (hsg : ∀ w, Calls Tryd.prog 19 #[sv a] w fun e w' => e = .returned (.int .i64 g) ∧ Below w.heap.size w w')
    (hab : ∀ w, Calls Tryd.prog 17 #[sv a, sv b] w fun e w' => e = .returned (.bool l) ∧ Below w.heap.size w w') (hba : ∀ w, Calls Tryd.prog 17 #[sv b, sv a] w fun e w' => e = .returned (.bool !l) ∧ Below w.heap.size w w')
    (haa : ∀ w, Calls Tryd.prog 17 #[sv a, sv a] w fun e w' => e = .returned (.bool false) ∧ Below w.heap.size w w')
    (hmk : ∀ w, Calls Tryd.prog 17 #[sv m, sv k] w fun e w' => e = .returned (.bool (decide (m < k))) ∧ Below w.heap.size w w')
    (hl0 : ∀ w, Calls Tryd.prog 17 #[sv a, .agg #[.int .i64 0, .int .u64 0]] w fun e w' => e = .returned (.bool n) ∧ Below w.heap.size w w')
    (w : World) (hT : Tens w) :
    Calls Tryd.prog 7 #[sv a, sv b, .int .i64 m, .int .i64 k] w fun e w' => e = .returned (.bool true) ∧ Below w.heap.size w w' := by
  have HT := Lib.hid hT
  have HN := Lib.hid hn
  have HG := Lib.hid hgz
  have HZ := Lib.hid hz
  clear hT hn hgz hz
  rw [show sv a = .agg #[.int .i64 (shi a), .int .u64 (slo a)] from rfl, show sv b = .agg #[.int .i64 (shi b), .int .u64 (slo b)] from rfl]
  go_enter Tryd.func7, Tryd.ntmps7
  go_wp2_with fail
  have hE0 : ∀ o1 o2, Below w.heap.size w ((w.alloc o1).alloc o2) := fun o1 o2 => ((Below.refl _ _).alloc (Nat.le_refl _) _).alloc (by simp) _
  refine (examples_any _ (HT.out.below (hE0 _ _))).mono ?_
  rintro e W ⟨rfl, hBx⟩
  have hA : CellsAt w.heap.size #[.int .i64 (shi a), .int .u64 (slo a)] W := ((CellsAt.new _ _ _).past _).below hBx
  have hBb : CellsAt (w.heap.size + 1) #[.int .i64 (shi b), .int .u64 (slo b)] W := (CellsAt.newAt _ _ _ _ (by simp)).below hBx
  have hE := (hE0 _ _).trans (hBx.mono (hE0 _ _).size)
  clear hE0 hBx HT
  go_wp2_with fail
  have hn := HN.out
  have hgz := HG.out
  have hz := HZ.out
  refine Reg.wp_region_inv (n := 63) (OrderNePhi w a b m k g l n z) (by kernel_rfl) (by kernel_rfl) rfl OrderNePhi.stays ?_ ?_
  · refine ⟨?_, ?_, ?_, ?_, ?_, ?_, ?_, ?_, ?_, ?_, ?_, ?_, ?_, ?_, ?_, ?_, ?_, ?_, ?_, ?_, ?_, ?_, ?_, ?_, ?_, ?_, ?_, ?_, ?_, ?_, ?_, ?_, ?_, ?_, ?_, ?_, ?_, ?_, ?_, ?_, ?_, ?_, ?_, ?_, ?_, ?_, ?_, ?_, ?_, ?_, ?_, trivial⟩
    · intro cx wc hB hp hs
      have g9 : cx.tmps[9]? = some (.bool true) := (hs 9 (by kernel_rfl)).trans rfl
      refine Reg.ok_value Reg.Old.refl (v := .bool true) (Reg.wanted_none rfl) ?_ rfl
      go_simp
    · intro cx wc hB hp hs
      have g13 : cx.tmps[13]? = some (.bool true) := by obtain ⟨_, g, hv⟩ := Reg.pred hp 0 13 (by kernel_rfl) rfl rfl; exact g.trans (congrArg some hv)
      refine Reg.ok_value Reg.Old.refl (v := .bool true) (Reg.wanted_none rfl) ?_ rfl
      go_simp
    · intro cx wc hB hp hs
      have g4 : cx.tmps[4]? = some (.pointer (some ⟨w.heap.size, 0, none⟩)) := (hs 4 (by kernel_rfl)).trans rfl
      have g14 : cx.tmps[14]? = some (.bool true) := by obtain ⟨_, g, hv⟩ := Reg.pred hp 1 14 (by kernel_rfl) rfl rfl; exact g.trans (congrArg some hv)
      have hc := hA.drew.below hB
      have k0 := hc.cell 0 (.int .i64 (shi a)) rfl
      have k1 := hc.cell 1 (.int .u64 (slo a)) rfl
      refine Reg.ok_value Reg.Old.refl (v := sv a) (Reg.wanted_at (j := 1) (d := 14) rfl rfl rfl g14) ?_ rfl
      go_simp
    · intro cx wc hB hp hs
      have g5 : cx.tmps[5]? = some (.pointer (some ⟨(w.heap.size + 1), 0, none⟩)) := (hs 5 (by kernel_rfl)).trans rfl
      have g14 : cx.tmps[14]? = some (.bool true) := by obtain ⟨_, g, hv⟩ := Reg.pred hp 1 14 (by kernel_rfl) rfl rfl; exact g.trans (congrArg some hv)
      have hc := hBb.drew.below hB
      have k0 := hc.cell 0 (.int .i64 (shi b)) rfl
      have k1 := hc.cell 1 (.int .u64 (slo b)) rfl
      refine Reg.ok_value Reg.Old.refl (v := sv b) (Reg.wanted_at (j := 1) (d := 14) rfl rfl rfl g14) ?_ rfl
      go_simp
    · intro cx wc hB hp hs
      have g15 : cx.tmps[15]? = some (sv a) := by obtain ⟨_, g, hv⟩ := Reg.pred hp 2 15 (by kernel_rfl) rfl rfl; exact g.trans (congrArg some hv)
      have g16 : cx.tmps[16]? = some (sv b) := by obtain ⟨_, g, hv⟩ := Reg.pred hp 3 16 (by kernel_rfl) rfl rfl; exact g.trans (congrArg some hv)
      have g14 : cx.tmps[14]? = some (.bool true) := by obtain ⟨_, g, hv⟩ := Reg.pred hp 1 14 (by kernel_rfl) rfl rfl; exact g.trans (congrArg some hv)
      refine Reg.ok_value Reg.Old.refl (v := .bool false) (Reg.wanted_at (j := 1) (d := 14) rfl rfl rfl g14) ?_ rfl
      go_simp
      rcases hne with h | h
      · simp [h]
      · simp [h]
    · intro cx wc hB hp hs
      have g17 : cx.tmps[17]? = some (.bool false) := by obtain ⟨_, g, hv⟩ := Reg.pred hp 4 17 (by kernel_rfl) rfl rfl; exact g.trans (congrArg some hv)
      have g14 : cx.tmps[14]? = some (.bool true) := by obtain ⟨_, g, hv⟩ := Reg.pred hp 1 14 (by kernel_rfl) rfl rfl; exact g.trans (congrArg some hv)
      refine Reg.ok_value Reg.Old.refl (v := .bool false) (Reg.wanted_at (j := 1) (d := 14) rfl rfl rfl g14) ?_ rfl
      go_simp
    · intro cx wc hB hp hs
      have g4 : cx.tmps[4]? = some (.pointer (some ⟨w.heap.size, 0, none⟩)) := (hs 4 (by kernel_rfl)).trans rfl
      have g18 : cx.tmps[18]? = some (.bool false) := by obtain ⟨_, g, hv⟩ := Reg.pred hp 5 18 (by kernel_rfl) rfl rfl; exact g.trans (congrArg some hv)
      have hc := hA.drew.below hB
      have k0 := hc.cell 0 (.int .i64 (shi a)) rfl
      have k1 := hc.cell 1 (.int .u64 (slo a)) rfl
      refine Reg.ok_value Reg.Old.refl (v := sv a) (Reg.wanted_at (j := 5) (d := 18) rfl rfl rfl g18) ?_ rfl
      go_simp
    · intro cx wc hB hp hs
      have g5 : cx.tmps[5]? = some (.pointer (some ⟨(w.heap.size + 1), 0, none⟩)) := (hs 5 (by kernel_rfl)).trans rfl
      have g18 : cx.tmps[18]? = some (.bool false) := by obtain ⟨_, g, hv⟩ := Reg.pred hp 5 18 (by kernel_rfl) rfl rfl; exact g.trans (congrArg some hv)
      have hc := hBb.drew.below hB
      have k0 := hc.cell 0 (.int .i64 (shi b)) rfl
      have k1 := hc.cell 1 (.int .u64 (slo b)) rfl
      refine Reg.ok_value Reg.Old.refl (v := sv b) (Reg.wanted_at (j := 5) (d := 18) rfl rfl rfl g18) ?_ rfl
      go_simp
    · intro cx wc hB hp hs
      have g19 : cx.tmps[19]? = some (sv a) := by obtain ⟨_, g, hv⟩ := Reg.pred hp 6 19 (by kernel_rfl) rfl rfl; exact g.trans (congrArg some hv)
      have g20 : cx.tmps[20]? = some (sv b) := by obtain ⟨_, g, hv⟩ := Reg.pred hp 7 20 (by kernel_rfl) rfl rfl; exact g.trans (congrArg some hv)
      have g18 : cx.tmps[18]? = some (.bool false) := by obtain ⟨_, g, hv⟩ := Reg.pred hp 5 18 (by kernel_rfl) rfl rfl; exact g.trans (congrArg some hv)
      refine Reg.ok_call (f := 17) (args := #[sv a, sv b]) (Reg.wanted_at (j := 5) (d := 18) rfl rfl rfl g18) (by go_simp) ((hab wc).mono ?_)
      rintro e w' ⟨rfl, hB2⟩
      exact ⟨_, rfl, hB2, rfl⟩
    · intro cx wc hB hp hs
      have g5 : cx.tmps[5]? = some (.pointer (some ⟨(w.heap.size + 1), 0, none⟩)) := (hs 5 (by kernel_rfl)).trans rfl
      have g18 : cx.tmps[18]? = some (.bool false) := by obtain ⟨_, g, hv⟩ := Reg.pred hp 5 18 (by kernel_rfl) rfl rfl; exact g.trans (congrArg some hv)
      have hc := hBb.drew.below hB
      have k0 := hc.cell 0 (.int .i64 (shi b)) rfl
      have k1 := hc.cell 1 (.int .u64 (slo b)) rfl
      refine Reg.ok_value Reg.Old.refl (v := sv b) (Reg.wanted_at (j := 5) (d := 18) rfl rfl rfl g18) ?_ rfl
      go_simp
    · intro cx wc hB hp hs
      have g4 : cx.tmps[4]? = some (.pointer (some ⟨w.heap.size, 0, none⟩)) := (hs 4 (by kernel_rfl)).trans rfl
      have g18 : cx.tmps[18]? = some (.bool false) := by obtain ⟨_, g, hv⟩ := Reg.pred hp 5 18 (by kernel_rfl) rfl rfl; exact g.trans (congrArg some hv)
      have hc := hA.drew.below hB
      have k0 := hc.cell 0 (.int .i64 (shi a)) rfl
      have k1 := hc.cell 1 (.int .u64 (slo a)) rfl
      refine Reg.ok_value Reg.Old.refl (v := sv a) (Reg.wanted_at (j := 5) (d := 18) rfl rfl rfl g18) ?_ rfl
      go_simp
    · intro cx wc hB hp hs
      have g22 : cx.tmps[22]? = some (sv b) := by obtain ⟨_, g, hv⟩ := Reg.pred hp 9 22 (by kernel_rfl) rfl rfl; exact g.trans (congrArg some hv)
      have g23 : cx.tmps[23]? = some (sv a) := by obtain ⟨_, g, hv⟩ := Reg.pred hp 10 23 (by kernel_rfl) rfl rfl; exact g.trans (congrArg some hv)
      have g18 : cx.tmps[18]? = some (.bool false) := by obtain ⟨_, g, hv⟩ := Reg.pred hp 5 18 (by kernel_rfl) rfl rfl; exact g.trans (congrArg some hv)
      refine Reg.ok_call (f := 17) (args := #[sv b, sv a]) (Reg.wanted_at (j := 5) (d := 18) rfl rfl rfl g18) (by go_simp) ((hba wc).mono ?_)
      rintro e w' ⟨rfl, hB2⟩
      exact ⟨_, rfl, hB2, rfl⟩
    · intro cx wc hB hp hs
      have g21 : cx.tmps[21]? = some (.bool l) := by obtain ⟨_, g, hv⟩ := Reg.pred hp 8 21 (by kernel_rfl) rfl rfl; exact g.trans (congrArg some hv)
      have g24 : cx.tmps[24]? = some (.bool (!l)) := by obtain ⟨_, g, hv⟩ := Reg.pred hp 11 24 (by kernel_rfl) rfl rfl; exact g.trans (congrArg some hv)
      have g18 : cx.tmps[18]? = some (.bool false) := by obtain ⟨_, g, hv⟩ := Reg.pred hp 5 18 (by kernel_rfl) rfl rfl; exact g.trans (congrArg some hv)
      have e1 : (l != !l) = true := by cases l <;> rfl
      have e2 : (l == !l) = false := by cases l <;> rfl
      refine Reg.ok_value Reg.Old.refl (v := .bool true) (Reg.wanted_at (j := 5) (d := 18) rfl rfl rfl g18) ?_ rfl
      go_simp
    · intro cx wc hB hp hs
      have g18 : cx.tmps[18]? = some (.bool false) := by obtain ⟨_, g, hv⟩ := Reg.pred hp 5 18 (by kernel_rfl) rfl rfl; exact g.trans (congrArg some hv)
      have g25 : cx.tmps[25]? = some (.bool true) := by obtain ⟨_, g, hv⟩ := Reg.pred hp 12 25 (by kernel_rfl) rfl rfl; exact g.trans (congrArg some hv)
      have g14 : cx.tmps[14]? = some (.bool true) := by obtain ⟨_, g, hv⟩ := Reg.pred hp 1 14 (by kernel_rfl) rfl rfl; exact g.trans (congrArg some hv)
      refine Reg.ok_value Reg.Old.refl (v := .bool true) (Reg.wanted_at (j := 1) (d := 14) rfl rfl rfl g14) ?_ rfl
      go_simp
    · intro cx wc hB hp hs
      have g14 : cx.tmps[14]? = some (.bool true) := by obtain ⟨_, g, hv⟩ := Reg.pred hp 1 14 (by kernel_rfl) rfl rfl; exact g.trans (congrArg some hv)
      have g26 : cx.tmps[26]? = some (.bool true) := by obtain ⟨_, g, hv⟩ := Reg.pred hp 13 26 (by kernel_rfl) rfl rfl; exact g.trans (congrArg some hv)
      refine Reg.ok_value Reg.Old.refl (v := .bool true) (Reg.wanted_none rfl) ?_ rfl
      go_simp
    · intro cx wc hB hp hs
      have g27 : cx.tmps[27]? = some (.bool true) := by obtain ⟨_, g, hv⟩ := Reg.pred hp 14 27 (by kernel_rfl) rfl rfl; exact g.trans (congrArg some hv)
      refine Reg.ok_value Reg.Old.refl (v := .bool true) (Reg.wanted_none rfl) ?_ rfl
      go_simp
    · intro cx wc hB hp hs
      have g4 : cx.tmps[4]? = some (.pointer (some ⟨w.heap.size, 0, none⟩)) := (hs 4 (by kernel_rfl)).trans rfl
      have g28 : cx.tmps[28]? = some (.bool true) := by obtain ⟨_, g, hv⟩ := Reg.pred hp 15 28 (by kernel_rfl) rfl rfl; exact g.trans (congrArg some hv)
      have hc := hA.drew.below hB
      have k0 := hc.cell 0 (.int .i64 (shi a)) rfl
      have k1 := hc.cell 1 (.int .u64 (slo a)) rfl
      refine Reg.ok_value Reg.Old.refl (v := sv a) (Reg.wanted_at (j := 15) (d := 28) rfl rfl rfl g28) ?_ rfl
      go_simp
    · intro cx wc hB hp hs
      have g4 : cx.tmps[4]? = some (.pointer (some ⟨w.heap.size, 0, none⟩)) := (hs 4 (by kernel_rfl)).trans rfl
      have g28 : cx.tmps[28]? = some (.bool true) := by obtain ⟨_, g, hv⟩ := Reg.pred hp 15 28 (by kernel_rfl) rfl rfl; exact g.trans (congrArg some hv)
      have hc := hA.drew.below hB
      have k0 := hc.cell 0 (.int .i64 (shi a)) rfl
      have k1 := hc.cell 1 (.int .u64 (slo a)) rfl
      refine Reg.ok_value Reg.Old.refl (v := sv a) (Reg.wanted_at (j := 15) (d := 28) rfl rfl rfl g28) ?_ rfl
      go_simp
    · intro cx wc hB hp hs
      have g29 : cx.tmps[29]? = some (sv a) := by obtain ⟨_, g, hv⟩ := Reg.pred hp 16 29 (by kernel_rfl) rfl rfl; exact g.trans (congrArg some hv)
      have g30 : cx.tmps[30]? = some (sv a) := by obtain ⟨_, g, hv⟩ := Reg.pred hp 17 30 (by kernel_rfl) rfl rfl; exact g.trans (congrArg some hv)
      have g28 : cx.tmps[28]? = some (.bool true) := by obtain ⟨_, g, hv⟩ := Reg.pred hp 15 28 (by kernel_rfl) rfl rfl; exact g.trans (congrArg some hv)
      refine Reg.ok_call (f := 17) (args := #[sv a, sv a]) (Reg.wanted_at (j := 15) (d := 28) rfl rfl rfl g28) (by go_simp) ((haa wc).mono ?_)
      rintro e w' ⟨rfl, hB2⟩
      exact ⟨_, rfl, hB2, rfl⟩
    · intro cx wc hB hp hs
      have g31 : cx.tmps[31]? = some (.bool false) := by obtain ⟨_, g, hv⟩ := Reg.pred hp 18 31 (by kernel_rfl) rfl rfl; exact g.trans (congrArg some hv)
      have g28 : cx.tmps[28]? = some (.bool true) := by obtain ⟨_, g, hv⟩ := Reg.pred hp 15 28 (by kernel_rfl) rfl rfl; exact g.trans (congrArg some hv)
      refine Reg.ok_value Reg.Old.refl (v := .bool true) (Reg.wanted_at (j := 15) (d := 28) rfl rfl rfl g28) ?_ rfl
      go_simp
    · intro cx wc hB hp hs
      have g28 : cx.tmps[28]? = some (.bool true) := by obtain ⟨_, g, hv⟩ := Reg.pred hp 15 28 (by kernel_rfl) rfl rfl; exact g.trans (congrArg some hv)
      have g32 : cx.tmps[32]? = some (.bool true) := by obtain ⟨_, g, hv⟩ := Reg.pred hp 19 32 (by kernel_rfl) rfl rfl; exact g.trans (congrArg some hv)
      refine Reg.ok_value Reg.Old.refl (v := .bool true) (Reg.wanted_none rfl) ?_ rfl
      go_simp
    · intro cx wc hB hp hs
      have g33 : cx.tmps[33]? = some (.bool true) := by obtain ⟨_, g, hv⟩ := Reg.pred hp 20 33 (by kernel_rfl) rfl rfl; exact g.trans (congrArg some hv)
      refine Reg.ok_value Reg.Old.refl (v := .bool true) (Reg.wanted_none rfl) ?_ rfl
      go_simp
    · intro cx wc hB hp hs
      have g2 : cx.tmps[2]? = some (.int .i64 m) := (hs 2 (by kernel_rfl)).trans rfl
      have g34 : cx.tmps[34]? = some (.bool true) := by obtain ⟨_, g, hv⟩ := Reg.pred hp 21 34 (by kernel_rfl) rfl rfl; exact g.trans (congrArg some hv)
      refine Reg.ok_value Reg.Old.refl (v := .int .i64 m) (Reg.wanted_at (j := 21) (d := 34) rfl rfl rfl g34) ?_ rfl
      go_simp
    · intro cx wc hB hp hs
      have g35 : cx.tmps[35]? = some (.int .i64 m) := by obtain ⟨_, g, hv⟩ := Reg.pred hp 22 35 (by kernel_rfl) rfl rfl; exact g.trans (congrArg some hv)
      have g34 : cx.tmps[34]? = some (.bool true) := by obtain ⟨_, g, hv⟩ := Reg.pred hp 21 34 (by kernel_rfl) rfl rfl; exact g.trans (congrArg some hv)
      refine Reg.ok_call (f := 25) (args := #[.int .i64 m]) (Reg.wanted_at (j := 21) (d := 34) rfl rfl rfl g34) (by go_simp) ((of_any m hm1 hm2 wc).mono ?_)
      rintro e w' ⟨rfl, hB2⟩
      exact ⟨_, rfl, hB2, rfl⟩
    · intro cx wc hB hp hs
      have g3 : cx.tmps[3]? = some (.int .i64 k) := (hs 3 (by kernel_rfl)).trans rfl
      have g34 : cx.tmps[34]? = some (.bool true) := by obtain ⟨_, g, hv⟩ := Reg.pred hp 21 34 (by kernel_rfl) rfl rfl; exact g.trans (congrArg some hv)
      refine Reg.ok_value Reg.Old.refl (v := .int .i64 k) (Reg.wanted_at (j := 21) (d := 34) rfl rfl rfl g34) ?_ rfl
      go_simp
    · intro cx wc hB hp hs
      have g37 : cx.tmps[37]? = some (.int .i64 k) := by obtain ⟨_, g, hv⟩ := Reg.pred hp 24 37 (by kernel_rfl) rfl rfl; exact g.trans (congrArg some hv)
      have g34 : cx.tmps[34]? = some (.bool true) := by obtain ⟨_, g, hv⟩ := Reg.pred hp 21 34 (by kernel_rfl) rfl rfl; exact g.trans (congrArg some hv)
      refine Reg.ok_call (f := 25) (args := #[.int .i64 k]) (Reg.wanted_at (j := 21) (d := 34) rfl rfl rfl g34) (by go_simp) ((of_any k hk1 hk2 wc).mono ?_)
      rintro e w' ⟨rfl, hB2⟩
      exact ⟨_, rfl, hB2, rfl⟩
    · intro cx wc hB hp hs
      have g36 : cx.tmps[36]? = some (sv m) := by obtain ⟨_, g, hv⟩ := Reg.pred hp 23 36 (by kernel_rfl) rfl rfl; exact g.trans (congrArg some hv)
      have g38 : cx.tmps[38]? = some (sv k) := by obtain ⟨_, g, hv⟩ := Reg.pred hp 25 38 (by kernel_rfl) rfl rfl; exact g.trans (congrArg some hv)
      have g34 : cx.tmps[34]? = some (.bool true) := by obtain ⟨_, g, hv⟩ := Reg.pred hp 21 34 (by kernel_rfl) rfl rfl; exact g.trans (congrArg some hv)
      refine Reg.ok_call (f := 17) (args := #[sv m, sv k]) (Reg.wanted_at (j := 21) (d := 34) rfl rfl rfl g34) (by go_simp) ((hmk wc).mono ?_)
      rintro e w' ⟨rfl, hB2⟩
      exact ⟨_, rfl, hB2, rfl⟩
    · intro cx wc hB hp hs
      have g2 : cx.tmps[2]? = some (.int .i64 m) := (hs 2 (by kernel_rfl)).trans rfl
      have g34 : cx.tmps[34]? = some (.bool true) := by obtain ⟨_, g, hv⟩ := Reg.pred hp 21 34 (by kernel_rfl) rfl rfl; exact g.trans (congrArg some hv)
      refine Reg.ok_value Reg.Old.refl (v := .int .i64 m) (Reg.wanted_at (j := 21) (d := 34) rfl rfl rfl g34) ?_ rfl
      go_simp
    · intro cx wc hB hp hs
      have g3 : cx.tmps[3]? = some (.int .i64 k) := (hs 3 (by kernel_rfl)).trans rfl
      have g34 : cx.tmps[34]? = some (.bool true) := by obtain ⟨_, g, hv⟩ := Reg.pred hp 21 34 (by kernel_rfl) rfl rfl; exact g.trans (congrArg some hv)
      refine Reg.ok_value Reg.Old.refl (v := .int .i64 k) (Reg.wanted_at (j := 21) (d := 34) rfl rfl rfl g34) ?_ rfl
      go_simp
    · intro cx wc hB hp hs
      have g40 : cx.tmps[40]? = some (.int .i64 m) := by obtain ⟨_, g, hv⟩ := Reg.pred hp 27 40 (by kernel_rfl) rfl rfl; exact g.trans (congrArg some hv)
      have g41 : cx.tmps[41]? = some (.int .i64 k) := by obtain ⟨_, g, hv⟩ := Reg.pred hp 28 41 (by kernel_rfl) rfl rfl; exact g.trans (congrArg some hv)
      have g34 : cx.tmps[34]? = some (.bool true) := by obtain ⟨_, g, hv⟩ := Reg.pred hp 21 34 (by kernel_rfl) rfl rfl; exact g.trans (congrArg some hv)
      refine Reg.ok_value Reg.Old.refl (v := .bool (decide (m < k))) (Reg.wanted_at (j := 21) (d := 34) rfl rfl rfl g34) ?_ rfl
      go_simp
    · intro cx wc hB hp hs
      have g39 : cx.tmps[39]? = some (.bool (decide (m < k))) := by obtain ⟨_, g, hv⟩ := Reg.pred hp 26 39 (by kernel_rfl) rfl rfl; exact g.trans (congrArg some hv)
      have g42 : cx.tmps[42]? = some (.bool (decide (m < k))) := by obtain ⟨_, g, hv⟩ := Reg.pred hp 29 42 (by kernel_rfl) rfl rfl; exact g.trans (congrArg some hv)
      have g34 : cx.tmps[34]? = some (.bool true) := by obtain ⟨_, g, hv⟩ := Reg.pred hp 21 34 (by kernel_rfl) rfl rfl; exact g.trans (congrArg some hv)
      refine Reg.ok_value Reg.Old.refl (v := .bool true) (Reg.wanted_at (j := 21) (d := 34) rfl rfl rfl g34) ?_ rfl
      go_simp
    · intro cx wc hB hp hs
      have g34 : cx.tmps[34]? = some (.bool true) := by obtain ⟨_, g, hv⟩ := Reg.pred hp 21 34 (by kernel_rfl) rfl rfl; exact g.trans (congrArg some hv)
      have g43 : cx.tmps[43]? = some (.bool true) := by obtain ⟨_, g, hv⟩ := Reg.pred hp 30 43 (by kernel_rfl) rfl rfl; exact g.trans (congrArg some hv)
      refine Reg.ok_value Reg.Old.refl (v := .bool true) (Reg.wanted_none rfl) ?_ rfl
      go_simp
    · intro cx wc hB hp hs
      have g44 : cx.tmps[44]? = some (.bool true) := by obtain ⟨_, g, hv⟩ := Reg.pred hp 31 44 (by kernel_rfl) rfl rfl; exact g.trans (congrArg some hv)
      refine Reg.ok_value Reg.Old.refl (v := .bool true) (Reg.wanted_none rfl) ?_ rfl
      go_simp
    · intro cx wc hB hp hs
      have g4 : cx.tmps[4]? = some (.pointer (some ⟨w.heap.size, 0, none⟩)) := (hs 4 (by kernel_rfl)).trans rfl
      have g45 : cx.tmps[45]? = some (.bool true) := by obtain ⟨_, g, hv⟩ := Reg.pred hp 32 45 (by kernel_rfl) rfl rfl; exact g.trans (congrArg some hv)
      have hc := hA.drew.below hB
      have k0 := hc.cell 0 (.int .i64 (shi a)) rfl
      have k1 := hc.cell 1 (.int .u64 (slo a)) rfl
      refine Reg.ok_value Reg.Old.refl (v := sv a) (Reg.wanted_at (j := 32) (d := 45) rfl rfl rfl g45) ?_ rfl
      go_simp
    · intro cx wc hB hp hs
      have g46 : cx.tmps[46]? = some (sv a) := by obtain ⟨_, g, hv⟩ := Reg.pred hp 33 46 (by kernel_rfl) rfl rfl; exact g.trans (congrArg some hv)
      have g45 : cx.tmps[45]? = some (.bool true) := by obtain ⟨_, g, hv⟩ := Reg.pred hp 32 45 (by kernel_rfl) rfl rfl; exact g.trans (congrArg some hv)
      refine Reg.ok_call (f := 19) (args := #[sv a]) (Reg.wanted_at (j := 32) (d := 45) rfl rfl rfl g45) (by go_simp) ((hsg wc).mono ?_)
      rintro e w' ⟨rfl, hB2⟩
      exact ⟨_, rfl, hB2, rfl⟩
    · intro cx wc hB hp hs
      have g47 : cx.tmps[47]? = some (.int .i64 g) := by obtain ⟨_, g, hv⟩ := Reg.pred hp 34 47 (by kernel_rfl) rfl rfl; exact g.trans (congrArg some hv)
      have g45 : cx.tmps[45]? = some (.bool true) := by obtain ⟨_, g, hv⟩ := Reg.pred hp 32 45 (by kernel_rfl) rfl rfl; exact g.trans (congrArg some hv)
      refine Reg.ok_value Reg.Old.refl (v := .bool n) (Reg.wanted_at (j := 32) (d := 45) rfl rfl rfl g45) ?_ rfl
      go_simp
    · intro cx wc hB hp hs
      have g4 : cx.tmps[4]? = some (.pointer (some ⟨w.heap.size, 0, none⟩)) := (hs 4 (by kernel_rfl)).trans rfl
      have g45 : cx.tmps[45]? = some (.bool true) := by obtain ⟨_, g, hv⟩ := Reg.pred hp 32 45 (by kernel_rfl) rfl rfl; exact g.trans (congrArg some hv)
      have hc := hA.drew.below hB
      have k0 := hc.cell 0 (.int .i64 (shi a)) rfl
      have k1 := hc.cell 1 (.int .u64 (slo a)) rfl
      refine Reg.ok_value Reg.Old.refl (v := sv a) (Reg.wanted_at (j := 32) (d := 45) rfl rfl rfl g45) ?_ rfl
      go_simp
    · intro cx wc hB hp hs
      have g45 : cx.tmps[45]? = some (.bool true) := by obtain ⟨_, g, hv⟩ := Reg.pred hp 32 45 (by kernel_rfl) rfl rfl; exact g.trans (congrArg some hv)
      refine Reg.ok_value Reg.Old.refl (v := .agg #[.int .i64 0, .int .u64 0]) (Reg.wanted_at (j := 32) (d := 45) rfl rfl rfl g45) ?_ rfl
      go_simp
    · intro cx wc hB hp hs
      have g49 : cx.tmps[49]? = some (sv a) := by obtain ⟨_, g, hv⟩ := Reg.pred hp 36 49 (by kernel_rfl) rfl rfl; exact g.trans (congrArg some hv)
      have g50 : cx.tmps[50]? = some (.agg #[.int .i64 0, .int .u64 0]) := by obtain ⟨_, g, hv⟩ := Reg.pred hp 37 50 (by kernel_rfl) rfl rfl; exact g.trans (congrArg some hv)
      have g45 : cx.tmps[45]? = some (.bool true) := by obtain ⟨_, g, hv⟩ := Reg.pred hp 32 45 (by kernel_rfl) rfl rfl; exact g.trans (congrArg some hv)
      refine Reg.ok_call (f := 17) (args := #[sv a, .agg #[.int .i64 0, .int .u64 0]]) (Reg.wanted_at (j := 32) (d := 45) rfl rfl rfl g45) (by go_simp) ((hl0 wc).mono ?_)
      rintro e w' ⟨rfl, hB2⟩
      exact ⟨_, rfl, hB2, rfl⟩
    · intro cx wc hB hp hs
      have g48 : cx.tmps[48]? = some (.bool n) := by obtain ⟨_, g, hv⟩ := Reg.pred hp 35 48 (by kernel_rfl) rfl rfl; exact g.trans (congrArg some hv)
      have g51 : cx.tmps[51]? = some (.bool n) := by obtain ⟨_, g, hv⟩ := Reg.pred hp 38 51 (by kernel_rfl) rfl rfl; exact g.trans (congrArg some hv)
      have g45 : cx.tmps[45]? = some (.bool true) := by obtain ⟨_, g, hv⟩ := Reg.pred hp 32 45 (by kernel_rfl) rfl rfl; exact g.trans (congrArg some hv)
      refine Reg.ok_value Reg.Old.refl (v := .bool true) (Reg.wanted_at (j := 32) (d := 45) rfl rfl rfl g45) ?_ rfl
      go_simp
    · intro cx wc hB hp hs
      have g45 : cx.tmps[45]? = some (.bool true) := by obtain ⟨_, g, hv⟩ := Reg.pred hp 32 45 (by kernel_rfl) rfl rfl; exact g.trans (congrArg some hv)
      have g52 : cx.tmps[52]? = some (.bool true) := by obtain ⟨_, g, hv⟩ := Reg.pred hp 39 52 (by kernel_rfl) rfl rfl; exact g.trans (congrArg some hv)
      refine Reg.ok_value Reg.Old.refl (v := .bool true) (Reg.wanted_none rfl) ?_ rfl
      go_simp
    · intro cx wc hB hp hs
      have g53 : cx.tmps[53]? = some (.bool true) := by obtain ⟨_, g, hv⟩ := Reg.pred hp 40 53 (by kernel_rfl) rfl rfl; exact g.trans (congrArg some hv)
      refine Reg.ok_value Reg.Old.refl (v := .bool true) (Reg.wanted_none rfl) ?_ rfl
      go_simp
    · intro cx wc hB hp hs
      have g4 : cx.tmps[4]? = some (.pointer (some ⟨w.heap.size, 0, none⟩)) := (hs 4 (by kernel_rfl)).trans rfl
      have g54 : cx.tmps[54]? = some (.bool true) := by obtain ⟨_, g, hv⟩ := Reg.pred hp 41 54 (by kernel_rfl) rfl rfl; exact g.trans (congrArg some hv)
      have hc := hA.drew.below hB
      have k0 := hc.cell 0 (.int .i64 (shi a)) rfl
      have k1 := hc.cell 1 (.int .u64 (slo a)) rfl
      refine Reg.ok_value Reg.Old.refl (v := sv a) (Reg.wanted_at (j := 41) (d := 54) rfl rfl rfl g54) ?_ rfl
      go_simp
    · intro cx wc hB hp hs
      have g55 : cx.tmps[55]? = some (sv a) := by obtain ⟨_, g, hv⟩ := Reg.pred hp 42 55 (by kernel_rfl) rfl rfl; exact g.trans (congrArg some hv)
      have g54 : cx.tmps[54]? = some (.bool true) := by obtain ⟨_, g, hv⟩ := Reg.pred hp 41 54 (by kernel_rfl) rfl rfl; exact g.trans (congrArg some hv)
      refine Reg.ok_call (f := 19) (args := #[sv a]) (Reg.wanted_at (j := 41) (d := 54) rfl rfl rfl g54) (by go_simp) ((hsg wc).mono ?_)
      rintro e w' ⟨rfl, hB2⟩
      exact ⟨_, rfl, hB2, rfl⟩
    · intro cx wc hB hp hs
      have g56 : cx.tmps[56]? = some (.int .i64 g) := by obtain ⟨_, g, hv⟩ := Reg.pred hp 43 56 (by kernel_rfl) rfl rfl; exact g.trans (congrArg some hv)
      have g54 : cx.tmps[54]? = some (.bool true) := by obtain ⟨_, g, hv⟩ := Reg.pred hp 41 54 (by kernel_rfl) rfl rfl; exact g.trans (congrArg some hv)
      refine Reg.ok_value Reg.Old.refl (v := .bool z) (Reg.wanted_at (j := 41) (d := 54) rfl rfl rfl g54) ?_ rfl
      go_simp
    · intro cx wc hB hp hs
      have g4 : cx.tmps[4]? = some (.pointer (some ⟨w.heap.size, 0, none⟩)) := (hs 4 (by kernel_rfl)).trans rfl
      have g54 : cx.tmps[54]? = some (.bool true) := by obtain ⟨_, g, hv⟩ := Reg.pred hp 41 54 (by kernel_rfl) rfl rfl; exact g.trans (congrArg some hv)
      have hc := hA.drew.below hB
      have k0 := hc.cell 0 (.int .i64 (shi a)) rfl
      have k1 := hc.cell 1 (.int .u64 (slo a)) rfl
      refine Reg.ok_value Reg.Old.refl (v := sv a) (Reg.wanted_at (j := 41) (d := 54) rfl rfl rfl g54) ?_ rfl
      go_simp
    · intro cx wc hB hp hs
      have g54 : cx.tmps[54]? = some (.bool true) := by obtain ⟨_, g, hv⟩ := Reg.pred hp 41 54 (by kernel_rfl) rfl rfl; exact g.trans (congrArg some hv)
      refine Reg.ok_value Reg.Old.refl (v := .agg #[.int .i64 0, .int .u64 0]) (Reg.wanted_at (j := 41) (d := 54) rfl rfl rfl g54) ?_ rfl
      go_simp
    · intro cx wc hB hp hs
      have g58 : cx.tmps[58]? = some (sv a) := by obtain ⟨_, g, hv⟩ := Reg.pred hp 45 58 (by kernel_rfl) rfl rfl; exact g.trans (congrArg some hv)
      have g59 : cx.tmps[59]? = some (.agg #[.int .i64 0, .int .u64 0]) := by obtain ⟨_, g, hv⟩ := Reg.pred hp 46 59 (by kernel_rfl) rfl rfl; exact g.trans (congrArg some hv)
      have g54 : cx.tmps[54]? = some (.bool true) := by obtain ⟨_, g, hv⟩ := Reg.pred hp 41 54 (by kernel_rfl) rfl rfl; exact g.trans (congrArg some hv)
      refine Reg.ok_value Reg.Old.refl (v := .bool z) (Reg.wanted_at (j := 41) (d := 54) rfl rfl rfl g54) ?_ rfl
      go_simp
      by_cases h0 : shi a = 0 <;> by_cases h1 : slo a = 0 <;> simp [h0, h1]
    · intro cx wc hB hp hs
      have g57 : cx.tmps[57]? = some (.bool z) := by obtain ⟨_, g, hv⟩ := Reg.pred hp 44 57 (by kernel_rfl) rfl rfl; exact g.trans (congrArg some hv)
      have g60 : cx.tmps[60]? = some (.bool z) := by obtain ⟨_, g, hv⟩ := Reg.pred hp 47 60 (by kernel_rfl) rfl rfl; exact g.trans (congrArg some hv)
      have g54 : cx.tmps[54]? = some (.bool true) := by obtain ⟨_, g, hv⟩ := Reg.pred hp 41 54 (by kernel_rfl) rfl rfl; exact g.trans (congrArg some hv)
      refine Reg.ok_value Reg.Old.refl (v := .bool true) (Reg.wanted_at (j := 41) (d := 54) rfl rfl rfl g54) ?_ rfl
      go_simp
    · intro cx wc hB hp hs
      have g54 : cx.tmps[54]? = some (.bool true) := by obtain ⟨_, g, hv⟩ := Reg.pred hp 41 54 (by kernel_rfl) rfl rfl; exact g.trans (congrArg some hv)
      have g61 : cx.tmps[61]? = some (.bool true) := by obtain ⟨_, g, hv⟩ := Reg.pred hp 48 61 (by kernel_rfl) rfl rfl; exact g.trans (congrArg some hv)
      refine Reg.ok_value Reg.Old.refl (v := .bool true) (Reg.wanted_none rfl) ?_ rfl
      go_simp
    · intro cx wc hB hp hs
      have g62 : cx.tmps[62]? = some (.bool true) := by obtain ⟨_, g, hv⟩ := Reg.pred hp 49 62 (by kernel_rfl) rfl rfl; exact g.trans (congrArg some hv)
      refine Reg.ok_value Reg.Old.refl (v := .bool true) (Reg.wanted_none rfl) ?_ rfl
      go_simp
  · intro d wc hB hsz hdf hv ho
    have gr : d.tmps[8]? = some (.bool true) := by obtain ⟨_, g, hv⟩ := hv 50 _ 8 rfl rfl; exact g.trans (congrArg some hv)
    have hF := hE.trans (hB.mono hE.size)
    clear hv ho hB
    go_wp2
    refine bodyPost_ret (v := .bool true) ?_ hdf ⟨rfl, hF⟩
    simp [results, Tryd.results7, go_sem, gr]


theorem WideOrder_walk (a : Int) (ha : InS a) (b : Int) (hb : InS b) (m : Int) (hm : (Lit.int .i64 m).wf = true) (k : Int) (hk : (Lit.int .i64 k).wf = true) (w : World) (hT : Tens w) :
    Calls Tryd.prog 7 #[sv a, sv b, .int .i64 m, .int .i64 k] w fun e w' => e = .returned (.bool true) ∧ Below w.heap.size w w' := by
  have hm' : -9223372036854775808 ≤ m ∧ m ≤ 9223372036854775807 := by simpa [Lit.wf, IntKind.min, IntKind.max, IntKind.signed, IntKind.bits] using hm
  have hk' : -9223372036854775808 ≤ k ∧ k ≤ 9223372036854775807 := by simpa [Lit.wf, IntKind.min, IntKind.max, IntKind.signed, IntKind.bits] using hk
  have hz : decide (a = 0) = (decide (shi a = 0) && decide (slo a = 0)) := by
    rw [Bool.eq_iff_iff]; simp; unfold shi slo; unfold InS at ha; omega
  have hn : decide (ssgn a < 0) = decide (a < 0) := by
    rw [Bool.eq_iff_iff]; simp; unfold ssgn; split
    · simp_all
    · split <;> simp_all
  have hgz : (ssgn a == 0) = decide (a = 0) := by
    rw [Bool.eq_iff_iff]; simp; unfold ssgn; split
    · simp; omega
    · split <;> simp_all
  have haa := fun w => less_any a a ha ha w
  rw [show decide (a < a) = false by simp] at haa
  have hl0 := fun w => less_any a 0 ha (InS.small (by decide) (by decide)) w
  rw [sv_0] at hl0
  have hmk := fun w => less_any m k (InS.small hm'.1 hm'.2) (InS.small hk'.1 hk'.2) w
  have hsg := fun w => sign_any a ha w
  by_cases h : a = b
  · subst h
    exact order_Eq a m k (ssgn a) true _ _ hz hn hgz hm'.1 hm'.2 hk'.1 hk'.2 hsg haa hmk hl0 w hT
  · have hne : shi a ≠ shi b ∨ slo a ≠ slo b := by
      by_cases h1 : shi a = shi b
      · exact Or.inr fun h2 => h (parts_inj h1 h2)
      · exact Or.inl h1
    have hab := fun w => less_any a b ha hb w
    have hba := fun w => less_any b a hb ha w
    rw [show decide (b < a) = !decide (a < b) by rw [Bool.eq_iff_iff]; simp; omega] at hba
    exact order_Ne a b m k (ssgn a) _ _ _ hne hz hn hgz hm'.1 hm'.2 hk'.1 hk'.2 hsg hab hba haa hmk hl0 w hT
end Go.Proofs.YthddnhnhlgnlhaaDoor
