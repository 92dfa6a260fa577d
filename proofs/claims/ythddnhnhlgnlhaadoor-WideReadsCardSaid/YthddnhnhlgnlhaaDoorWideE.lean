/- The chapter's examples, walked. -/
import Derived.Test.YthddnhnhlgnlhaaDoorWideQ
namespace Go.Proofs.YthddnhnhlgnlhaaDoor
open Go Go.RowKit

theorem Tens.drew {w : World} (h : Tens w) : Tens w.drew := h
theorem tx_m1 : tx (Lib.itoa (-1)) = ⟨#[45, 49]⟩ := by
  rw [itoa_neg' (by decide), show (-(-1 : Int)).toNat = 1 from rfl, Lib.decDigits_one (by decide)]; rfl
theorem tx_0 : tx (Lib.itoa 0) = ⟨#[48]⟩ := by
  rw [itoa_pos' (by decide), show (0 : Int).toNat = 0 from rfl, Lib.decDigits_one (by decide)]; rfl
theorem sv_0 : sv 0 = .agg #[.int .i64 0, .int .u64 0] := by unfold sv; rw [show shi 0 = 0 by decide, show slo 0 = 0 by decide]
theorem text_m1 (w : World) (hT : Tens w) :
    Calls Tryd.prog 21 #[sv (-1)] w fun e w' => e = .returned (.string ⟨#[45, 49]⟩) ∧ Below w.heap.size w w' := by
  rw [← tx_m1]; exact text_any (-1) (InS.small (by decide) (by decide)) w hT
theorem text_0 (w : World) (hT : Tens w) :
    Calls Tryd.prog 21 #[.agg #[.int .i64 0, .int .u64 0]] w fun e w' => e = .returned (.string ⟨#[48]⟩) ∧ Below w.heap.size w w' := by
  rw [← tx_0, ← sv_0]; exact text_any 0 (InS.small (by decide) (by decide)) w hT
theorem neg_1 (w : World) :
    Calls Tryd.prog 15 #[sv 1] w fun e w' => e = .returned (sv (-1)) ∧ Below w.heap.size w w' := by
  have h := neg_any 1 (InS.small (by decide) (by decide)) w
  rwa [show w128 (-1) = -1 by decide] at h
theorem less_ex (w : World) :
    Calls Tryd.prog 17 #[sv (-2), sv 1] w fun e w' => e = .returned (.bool true) ∧ Below w.heap.size w w' :=
  less_any (-2) 1 (InS.small (by decide) (by decide)) (InS.small (by decide) (by decide)) w
theorem sign_5 (w : World) :
    Calls Tryd.prog 19 #[sv 5] w fun e w' => e = .returned (.int .i64 1) ∧ Below w.heap.size w w' :=
  sign_any 5 (InS.small (by decide) (by decide)) w
theorem read_m1 (w : World) (hT : Tens w) :
    Calls Tryd.prog 28 #[.string ⟨#[45, 49]⟩] w fun e w' => e = .returned (.tuple #[sv (-1), .bool true]) ∧ Below w.heap.size w w' := by
  rw [← tx_m1]; exact read_yes (-1) (InS.small (by decide) (by decide)) w hT
/-- A text that is not that of what stands in it is none. -/
theorem read_bad (s : ByteArray) (hs : s.size ≤ maxLen) (h : Lib.itoa (cand s.data.toList) ≠ s.data.toList) (w : World) (hT : Tens w) :
    Calls Tryd.prog 28 #[.string s] w fun e w' => e = .returned (.tuple #[sv 0, .bool false]) ∧ Below w.heap.size w w' := by
  have h' := read_any s hs w hT
  rwa [if_neg h] at h'
theorem read_01 (w : World) (hT : Tens w) :
    Calls Tryd.prog 28 #[.string ⟨#[48, 49]⟩] w fun e w' => e = .returned (.tuple #[sv 0, .bool false]) ∧ Below w.heap.size w w' := by
  refine read_bad _ (by show 2 ≤ maxLen; unfold maxLen; omega) ?_ w hT
  have e : cand (⟨#[48, 49]⟩ : ByteArray).data.toList = 1 := by decide +kernel
  rw [e, itoa_pos' (by decide), show (1 : Int).toNat = 1 from rfl, Lib.decDigits_one (by decide)]
  decide

def ExPhi (b : Nat) : Nat → Value → World → Prop
  | i, v, _ => v = ([sv (-1), .string (⟨#[45, 49]⟩), .bool true, .bool true, .agg #[.int .i64 0, .int .u64 0], .string (⟨#[48]⟩), .bool true, .bool true, .bool true, .bool true, .bool true, .bool true, sv (-1), sv (-1), .bool true, .bool true, .bool true, .bool false, .bool true, .bool true, .bool true, sv 1, sv (-1), sv (-1), .bool true, .bool true, .bool true, sv (-2), sv 1, .bool true, .bool true, .bool true, sv 5, .int .i64 1, .bool true, .bool true, .bool true, sv 5, .string (tx (sput 5)), .int .i64 16, .bool true, .bool true, .bool true] : List Value).getD i undef
theorem ExPhi.stays {b : Nat} : ∀ i v x y, ExPhi b i v x → Reg.Old x y → ExPhi b i v y := fun _ _ _ _ h _ => h

set_option maxRecDepth 100000 in
set_option maxHeartbeats 4000000 in
theorem examples_any (w : World) (hT : Tens w) :
    Calls Tryd.prog 11 #[] w fun e w' => e = .returned (.bool true) ∧ Below w.heap.size w w' := by
  have HT := Lib.hid hT
  clear hT
  go_enter Tryd.func11, Tryd.ntmps11
  go_wp2_with fail
  refine (read_m1 _ HT.out).mono ?_
  rintro e w1 ⟨rfl, hB1⟩
  have hA1 : CellsAt w1.heap.size #[.int .i64 (shi (-1)), .int .u64 (slo (-1))] (w1.alloc (.cells #[.int .i64 (shi (-1)), .int .u64 (slo (-1))] 24)) := CellsAt.new _ _ _
  have hE1 : Below w.heap.size w (w1.alloc (.cells #[.int .i64 (shi (-1)), .int .u64 (slo (-1))] 24)) := hB1.alloc hB1.size _
  go_wp2_with fail
  refine (read_01 _ (HT.out.below hE1)).mono ?_
  rintro e w2 ⟨rfl, hB2⟩
  have hA2 := hA1.below hB2
  have hE2 := hE1.trans (hB2.mono hE1.size)
  generalize w1.heap.size = b at *
  clear hA1 hE1 hB2
  go_wp2_with fail
  refine wp_gen (fun W => CellsAt b #[.int .i64 (shi (-1)), .int .u64 (slo (-1))] W ∧ Below w.heap.size w W) ?_ ?_
  · exact ⟨hA2.past _, hE2.alloc hE2.size _⟩
  intro W ⟨hA, hB0⟩
  have HTw := Lib.hid (HT.out.below hB0)
  clear HT hA2 hE2 hB1
  have HT := HTw
  clear HTw
  refine Reg.wp_region_inv (n := 55) (ExPhi b) (by kernel_rfl) (by kernel_rfl) rfl ExPhi.stays ?_ ?_
  · refine ⟨?_, ?_, ?_, ?_, ?_, ?_, ?_, ?_, ?_, ?_, ?_, ?_, ?_, ?_, ?_, ?_, ?_, ?_, ?_, ?_, ?_, ?_, ?_, ?_, ?_, ?_, ?_, ?_, ?_, ?_, ?_, ?_, ?_, ?_, ?_, ?_, ?_, ?_, ?_, ?_, ?_, ?_, ?_, trivial⟩
    · intro c wc hB hp hs
      refine Reg.ok_call (f := 25) (args := #[.int .i64 (-1)]) (Reg.wanted_none rfl) (by go_simp) ((of_any (-1) (by decide) (by decide) wc).mono ?_)
      rintro e w' ⟨rfl, hB2⟩
      exact ⟨_, rfl, hB2, rfl⟩
    · intro c wc hB hp hs
      have g13 : c.tmps[13]? = some (sv (-1)) := by obtain ⟨_, g, hv⟩ := Reg.pred hp 0 13 (by kernel_rfl) rfl rfl; exact g.trans (congrArg some hv)
      refine Reg.ok_call (f := 21) (args := #[sv (-1)]) (Reg.wanted_none rfl) (by go_simp) ((text_m1 wc (HT.out.drew.below hB)).mono ?_)
      rintro e w' ⟨rfl, hB2⟩
      exact ⟨_, rfl, hB2, rfl⟩
    · intro c wc hB hp hs
      have g14 : c.tmps[14]? = some (.string (⟨#[45, 49]⟩)) := by obtain ⟨_, g, hv⟩ := Reg.pred hp 1 14 (by kernel_rfl) rfl rfl; exact g.trans (congrArg some hv)
      refine Reg.ok_value Reg.Old.refl (v := .bool true) (Reg.wanted_none rfl) ?_ rfl
      go_simp
    · intro c wc hB hp hs
      have g15 : c.tmps[15]? = some (.bool true) := by obtain ⟨_, g, hv⟩ := Reg.pred hp 2 15 (by kernel_rfl) rfl rfl; exact g.trans (congrArg some hv)
      refine Reg.ok_value Reg.Old.refl (v := .bool true) (Reg.wanted_none rfl) ?_ rfl
      go_simp
    · intro c wc hB hp hs
      have g16 : c.tmps[16]? = some (.bool true) := by obtain ⟨_, g, hv⟩ := Reg.pred hp 3 16 (by kernel_rfl) rfl rfl; exact g.trans (congrArg some hv)
      refine Reg.ok_value Reg.Old.refl (v := .agg #[.int .i64 0, .int .u64 0]) (Reg.wanted_at (j := 3) (d := 16) rfl rfl rfl g16) ?_ rfl
      go_simp
    · intro c wc hB hp hs
      have g17 : c.tmps[17]? = some (.agg #[.int .i64 0, .int .u64 0]) := by obtain ⟨_, g, hv⟩ := Reg.pred hp 4 17 (by kernel_rfl) rfl rfl; exact g.trans (congrArg some hv)
      have g16 : c.tmps[16]? = some (.bool true) := by obtain ⟨_, g, hv⟩ := Reg.pred hp 3 16 (by kernel_rfl) rfl rfl; exact g.trans (congrArg some hv)
      refine Reg.ok_call (f := 21) (args := #[.agg #[.int .i64 0, .int .u64 0]]) (Reg.wanted_at (j := 3) (d := 16) rfl rfl rfl g16) (by go_simp) ((text_0 wc (HT.out.drew.below hB)).mono ?_)
      rintro e w' ⟨rfl, hB2⟩
      exact ⟨_, rfl, hB2, rfl⟩
    · intro c wc hB hp hs
      have g18 : c.tmps[18]? = some (.string (⟨#[48]⟩)) := by obtain ⟨_, g, hv⟩ := Reg.pred hp 5 18 (by kernel_rfl) rfl rfl; exact g.trans (congrArg some hv)
      have g16 : c.tmps[16]? = some (.bool true) := by obtain ⟨_, g, hv⟩ := Reg.pred hp 3 16 (by kernel_rfl) rfl rfl; exact g.trans (congrArg some hv)
      refine Reg.ok_value Reg.Old.refl (v := .bool true) (Reg.wanted_at (j := 3) (d := 16) rfl rfl rfl g16) ?_ rfl
      go_simp
    · intro c wc hB hp hs
      have g16 : c.tmps[16]? = some (.bool true) := by obtain ⟨_, g, hv⟩ := Reg.pred hp 3 16 (by kernel_rfl) rfl rfl; exact g.trans (congrArg some hv)
      have g19 : c.tmps[19]? = some (.bool true) := by obtain ⟨_, g, hv⟩ := Reg.pred hp 6 19 (by kernel_rfl) rfl rfl; exact g.trans (congrArg some hv)
      refine Reg.ok_value Reg.Old.refl (v := .bool true) (Reg.wanted_none rfl) ?_ rfl
      go_simp
    · intro c wc hB hp hs
      have g20 : c.tmps[20]? = some (.bool true) := by obtain ⟨_, g, hv⟩ := Reg.pred hp 7 20 (by kernel_rfl) rfl rfl; exact g.trans (congrArg some hv)
      refine Reg.ok_value Reg.Old.refl (v := .bool true) (Reg.wanted_none rfl) ?_ rfl
      go_simp
    · intro c wc hB hp hs
      have g2 : c.tmps[2]? = some (.bool true) := (hs 2 (by kernel_rfl)).trans rfl
      have g21 : c.tmps[21]? = some (.bool true) := by obtain ⟨_, g, hv⟩ := Reg.pred hp 8 21 (by kernel_rfl) rfl rfl; exact g.trans (congrArg some hv)
      refine Reg.ok_value Reg.Old.refl (v := .bool true) (Reg.wanted_at (j := 8) (d := 21) rfl rfl rfl g21) ?_ rfl
      go_simp
    · intro c wc hB hp hs
      have g21 : c.tmps[21]? = some (.bool true) := by obtain ⟨_, g, hv⟩ := Reg.pred hp 8 21 (by kernel_rfl) rfl rfl; exact g.trans (congrArg some hv)
      have g22 : c.tmps[22]? = some (.bool true) := by obtain ⟨_, g, hv⟩ := Reg.pred hp 9 22 (by kernel_rfl) rfl rfl; exact g.trans (congrArg some hv)
      refine Reg.ok_value Reg.Old.refl (v := .bool true) (Reg.wanted_none rfl) ?_ rfl
      go_simp
    · intro c wc hB hp hs
      have g23 : c.tmps[23]? = some (.bool true) := by obtain ⟨_, g, hv⟩ := Reg.pred hp 10 23 (by kernel_rfl) rfl rfl; exact g.trans (congrArg some hv)
      refine Reg.ok_value Reg.Old.refl (v := .bool true) (Reg.wanted_none rfl) ?_ rfl
      go_simp
    · intro c wc hB hp hs
      have g1 : c.tmps[1]? = some (.pointer (some ⟨b, 0, none⟩)) := (hs 1 (by kernel_rfl)).trans rfl
      have g24 : c.tmps[24]? = some (.bool true) := by obtain ⟨_, g, hv⟩ := Reg.pred hp 11 24 (by kernel_rfl) rfl rfl; exact g.trans (congrArg some hv)
      have hc := hA.drew.below hB
      have k0 := hc.cell 0 (.int .i64 (shi (-1))) rfl
      have k1 := hc.cell 1 (.int .u64 (slo (-1))) rfl
      refine Reg.ok_value Reg.Old.refl (v := sv (-1)) (Reg.wanted_at (j := 11) (d := 24) rfl rfl rfl g24) ?_ rfl
      go_simp
    · intro c wc hB hp hs
      have g24 : c.tmps[24]? = some (.bool true) := by obtain ⟨_, g, hv⟩ := Reg.pred hp 11 24 (by kernel_rfl) rfl rfl; exact g.trans (congrArg some hv)
      refine Reg.ok_call (f := 25) (args := #[.int .i64 (-1)]) (Reg.wanted_at (j := 11) (d := 24) rfl rfl rfl g24) (by go_simp) ((of_any (-1) (by decide) (by decide) wc).mono ?_)
      rintro e w' ⟨rfl, hB2⟩
      exact ⟨_, rfl, hB2, rfl⟩
    · intro c wc hB hp hs
      have g25 : c.tmps[25]? = some (sv (-1)) := by obtain ⟨_, g, hv⟩ := Reg.pred hp 12 25 (by kernel_rfl) rfl rfl; exact g.trans (congrArg some hv)
      have g26 : c.tmps[26]? = some (sv (-1)) := by obtain ⟨_, g, hv⟩ := Reg.pred hp 13 26 (by kernel_rfl) rfl rfl; exact g.trans (congrArg some hv)
      have g24 : c.tmps[24]? = some (.bool true) := by obtain ⟨_, g, hv⟩ := Reg.pred hp 11 24 (by kernel_rfl) rfl rfl; exact g.trans (congrArg some hv)
      refine Reg.ok_value Reg.Old.refl (v := .bool true) (Reg.wanted_at (j := 11) (d := 24) rfl rfl rfl g24) ?_ rfl
      go_simp
    · intro c wc hB hp hs
      have g24 : c.tmps[24]? = some (.bool true) := by obtain ⟨_, g, hv⟩ := Reg.pred hp 11 24 (by kernel_rfl) rfl rfl; exact g.trans (congrArg some hv)
      have g27 : c.tmps[27]? = some (.bool true) := by obtain ⟨_, g, hv⟩ := Reg.pred hp 14 27 (by kernel_rfl) rfl rfl; exact g.trans (congrArg some hv)
      refine Reg.ok_value Reg.Old.refl (v := .bool true) (Reg.wanted_none rfl) ?_ rfl
      go_simp
    · intro c wc hB hp hs
      have g28 : c.tmps[28]? = some (.bool true) := by obtain ⟨_, g, hv⟩ := Reg.pred hp 15 28 (by kernel_rfl) rfl rfl; exact g.trans (congrArg some hv)
      refine Reg.ok_value Reg.Old.refl (v := .bool true) (Reg.wanted_none rfl) ?_ rfl
      go_simp
    · intro c wc hB hp hs
      have g4 : c.tmps[4]? = some (.bool false) := (hs 4 (by kernel_rfl)).trans rfl
      have g29 : c.tmps[29]? = some (.bool true) := by obtain ⟨_, g, hv⟩ := Reg.pred hp 16 29 (by kernel_rfl) rfl rfl; exact g.trans (congrArg some hv)
      refine Reg.ok_value Reg.Old.refl (v := .bool false) (Reg.wanted_at (j := 16) (d := 29) rfl rfl rfl g29) ?_ rfl
      go_simp
    · intro c wc hB hp hs
      have g30 : c.tmps[30]? = some (.bool false) := by obtain ⟨_, g, hv⟩ := Reg.pred hp 17 30 (by kernel_rfl) rfl rfl; exact g.trans (congrArg some hv)
      have g29 : c.tmps[29]? = some (.bool true) := by obtain ⟨_, g, hv⟩ := Reg.pred hp 16 29 (by kernel_rfl) rfl rfl; exact g.trans (congrArg some hv)
      refine Reg.ok_value Reg.Old.refl (v := .bool true) (Reg.wanted_at (j := 16) (d := 29) rfl rfl rfl g29) ?_ rfl
      go_simp
    · intro c wc hB hp hs
      have g29 : c.tmps[29]? = some (.bool true) := by obtain ⟨_, g, hv⟩ := Reg.pred hp 16 29 (by kernel_rfl) rfl rfl; exact g.trans (congrArg some hv)
      have g31 : c.tmps[31]? = some (.bool true) := by obtain ⟨_, g, hv⟩ := Reg.pred hp 18 31 (by kernel_rfl) rfl rfl; exact g.trans (congrArg some hv)
      refine Reg.ok_value Reg.Old.refl (v := .bool true) (Reg.wanted_none rfl) ?_ rfl
      go_simp
    · intro c wc hB hp hs
      have g32 : c.tmps[32]? = some (.bool true) := by obtain ⟨_, g, hv⟩ := Reg.pred hp 19 32 (by kernel_rfl) rfl rfl; exact g.trans (congrArg some hv)
      refine Reg.ok_value Reg.Old.refl (v := .bool true) (Reg.wanted_none rfl) ?_ rfl
      go_simp
    · intro c wc hB hp hs
      have g33 : c.tmps[33]? = some (.bool true) := by obtain ⟨_, g, hv⟩ := Reg.pred hp 20 33 (by kernel_rfl) rfl rfl; exact g.trans (congrArg some hv)
      refine Reg.ok_call (f := 25) (args := #[.int .i64 1]) (Reg.wanted_at (j := 20) (d := 33) rfl rfl rfl g33) (by go_simp) ((of_any (1) (by decide) (by decide) wc).mono ?_)
      rintro e w' ⟨rfl, hB2⟩
      exact ⟨_, rfl, hB2, rfl⟩
    · intro c wc hB hp hs
      have g34 : c.tmps[34]? = some (sv 1) := by obtain ⟨_, g, hv⟩ := Reg.pred hp 21 34 (by kernel_rfl) rfl rfl; exact g.trans (congrArg some hv)
      have g33 : c.tmps[33]? = some (.bool true) := by obtain ⟨_, g, hv⟩ := Reg.pred hp 20 33 (by kernel_rfl) rfl rfl; exact g.trans (congrArg some hv)
      refine Reg.ok_call (f := 15) (args := #[sv 1]) (Reg.wanted_at (j := 20) (d := 33) rfl rfl rfl g33) (by go_simp) ((neg_1 wc).mono ?_)
      rintro e w' ⟨rfl, hB2⟩
      exact ⟨_, rfl, hB2, rfl⟩
    · intro c wc hB hp hs
      have g33 : c.tmps[33]? = some (.bool true) := by obtain ⟨_, g, hv⟩ := Reg.pred hp 20 33 (by kernel_rfl) rfl rfl; exact g.trans (congrArg some hv)
      refine Reg.ok_call (f := 25) (args := #[.int .i64 (-1)]) (Reg.wanted_at (j := 20) (d := 33) rfl rfl rfl g33) (by go_simp) ((of_any (-1) (by decide) (by decide) wc).mono ?_)
      rintro e w' ⟨rfl, hB2⟩
      exact ⟨_, rfl, hB2, rfl⟩
    · intro c wc hB hp hs
      have g35 : c.tmps[35]? = some (sv (-1)) := by obtain ⟨_, g, hv⟩ := Reg.pred hp 22 35 (by kernel_rfl) rfl rfl; exact g.trans (congrArg some hv)
      have g36 : c.tmps[36]? = some (sv (-1)) := by obtain ⟨_, g, hv⟩ := Reg.pred hp 23 36 (by kernel_rfl) rfl rfl; exact g.trans (congrArg some hv)
      have g33 : c.tmps[33]? = some (.bool true) := by obtain ⟨_, g, hv⟩ := Reg.pred hp 20 33 (by kernel_rfl) rfl rfl; exact g.trans (congrArg some hv)
      refine Reg.ok_value Reg.Old.refl (v := .bool true) (Reg.wanted_at (j := 20) (d := 33) rfl rfl rfl g33) ?_ rfl
      go_simp
    · intro c wc hB hp hs
      have g33 : c.tmps[33]? = some (.bool true) := by obtain ⟨_, g, hv⟩ := Reg.pred hp 20 33 (by kernel_rfl) rfl rfl; exact g.trans (congrArg some hv)
      have g37 : c.tmps[37]? = some (.bool true) := by obtain ⟨_, g, hv⟩ := Reg.pred hp 24 37 (by kernel_rfl) rfl rfl; exact g.trans (congrArg some hv)
      refine Reg.ok_value Reg.Old.refl (v := .bool true) (Reg.wanted_none rfl) ?_ rfl
      go_simp
    · intro c wc hB hp hs
      have g38 : c.tmps[38]? = some (.bool true) := by obtain ⟨_, g, hv⟩ := Reg.pred hp 25 38 (by kernel_rfl) rfl rfl; exact g.trans (congrArg some hv)
      refine Reg.ok_value Reg.Old.refl (v := .bool true) (Reg.wanted_none rfl) ?_ rfl
      go_simp
    · intro c wc hB hp hs
      have g39 : c.tmps[39]? = some (.bool true) := by obtain ⟨_, g, hv⟩ := Reg.pred hp 26 39 (by kernel_rfl) rfl rfl; exact g.trans (congrArg some hv)
      refine Reg.ok_call (f := 25) (args := #[.int .i64 (-2)]) (Reg.wanted_at (j := 26) (d := 39) rfl rfl rfl g39) (by go_simp) ((of_any (-2) (by decide) (by decide) wc).mono ?_)
      rintro e w' ⟨rfl, hB2⟩
      exact ⟨_, rfl, hB2, rfl⟩
    · intro c wc hB hp hs
      have g39 : c.tmps[39]? = some (.bool true) := by obtain ⟨_, g, hv⟩ := Reg.pred hp 26 39 (by kernel_rfl) rfl rfl; exact g.trans (congrArg some hv)
      refine Reg.ok_call (f := 25) (args := #[.int .i64 1]) (Reg.wanted_at (j := 26) (d := 39) rfl rfl rfl g39) (by go_simp) ((of_any (1) (by decide) (by decide) wc).mono ?_)
      rintro e w' ⟨rfl, hB2⟩
      exact ⟨_, rfl, hB2, rfl⟩
    · intro c wc hB hp hs
      have g40 : c.tmps[40]? = some (sv (-2)) := by obtain ⟨_, g, hv⟩ := Reg.pred hp 27 40 (by kernel_rfl) rfl rfl; exact g.trans (congrArg some hv)
      have g41 : c.tmps[41]? = some (sv 1) := by obtain ⟨_, g, hv⟩ := Reg.pred hp 28 41 (by kernel_rfl) rfl rfl; exact g.trans (congrArg some hv)
      have g39 : c.tmps[39]? = some (.bool true) := by obtain ⟨_, g, hv⟩ := Reg.pred hp 26 39 (by kernel_rfl) rfl rfl; exact g.trans (congrArg some hv)
      refine Reg.ok_call (f := 17) (args := #[sv (-2), sv 1]) (Reg.wanted_at (j := 26) (d := 39) rfl rfl rfl g39) (by go_simp) ((less_ex wc).mono ?_)
      rintro e w' ⟨rfl, hB2⟩
      exact ⟨_, rfl, hB2, rfl⟩
    · intro c wc hB hp hs
      have g39 : c.tmps[39]? = some (.bool true) := by obtain ⟨_, g, hv⟩ := Reg.pred hp 26 39 (by kernel_rfl) rfl rfl; exact g.trans (congrArg some hv)
      have g42 : c.tmps[42]? = some (.bool true) := by obtain ⟨_, g, hv⟩ := Reg.pred hp 29 42 (by kernel_rfl) rfl rfl; exact g.trans (congrArg some hv)
      refine Reg.ok_value Reg.Old.refl (v := .bool true) (Reg.wanted_none rfl) ?_ rfl
      go_simp
    · intro c wc hB hp hs
      have g43 : c.tmps[43]? = some (.bool true) := by obtain ⟨_, g, hv⟩ := Reg.pred hp 30 43 (by kernel_rfl) rfl rfl; exact g.trans (congrArg some hv)
      refine Reg.ok_value Reg.Old.refl (v := .bool true) (Reg.wanted_none rfl) ?_ rfl
      go_simp
    · intro c wc hB hp hs
      have g44 : c.tmps[44]? = some (.bool true) := by obtain ⟨_, g, hv⟩ := Reg.pred hp 31 44 (by kernel_rfl) rfl rfl; exact g.trans (congrArg some hv)
      refine Reg.ok_call (f := 25) (args := #[.int .i64 5]) (Reg.wanted_at (j := 31) (d := 44) rfl rfl rfl g44) (by go_simp) ((of_any (5) (by decide) (by decide) wc).mono ?_)
      rintro e w' ⟨rfl, hB2⟩
      exact ⟨_, rfl, hB2, rfl⟩
    · intro c wc hB hp hs
      have g45 : c.tmps[45]? = some (sv 5) := by obtain ⟨_, g, hv⟩ := Reg.pred hp 32 45 (by kernel_rfl) rfl rfl; exact g.trans (congrArg some hv)
      have g44 : c.tmps[44]? = some (.bool true) := by obtain ⟨_, g, hv⟩ := Reg.pred hp 31 44 (by kernel_rfl) rfl rfl; exact g.trans (congrArg some hv)
      refine Reg.ok_call (f := 19) (args := #[sv 5]) (Reg.wanted_at (j := 31) (d := 44) rfl rfl rfl g44) (by go_simp) ((sign_5 wc).mono ?_)
      rintro e w' ⟨rfl, hB2⟩
      exact ⟨_, rfl, hB2, rfl⟩
    · intro c wc hB hp hs
      have g46 : c.tmps[46]? = some (.int .i64 1) := by obtain ⟨_, g, hv⟩ := Reg.pred hp 33 46 (by kernel_rfl) rfl rfl; exact g.trans (congrArg some hv)
      have g44 : c.tmps[44]? = some (.bool true) := by obtain ⟨_, g, hv⟩ := Reg.pred hp 31 44 (by kernel_rfl) rfl rfl; exact g.trans (congrArg some hv)
      refine Reg.ok_value Reg.Old.refl (v := .bool true) (Reg.wanted_at (j := 31) (d := 44) rfl rfl rfl g44) ?_ rfl
      go_simp
    · intro c wc hB hp hs
      have g44 : c.tmps[44]? = some (.bool true) := by obtain ⟨_, g, hv⟩ := Reg.pred hp 31 44 (by kernel_rfl) rfl rfl; exact g.trans (congrArg some hv)
      have g47 : c.tmps[47]? = some (.bool true) := by obtain ⟨_, g, hv⟩ := Reg.pred hp 34 47 (by kernel_rfl) rfl rfl; exact g.trans (congrArg some hv)
      refine Reg.ok_value Reg.Old.refl (v := .bool true) (Reg.wanted_none rfl) ?_ rfl
      go_simp
    · intro c wc hB hp hs
      have g48 : c.tmps[48]? = some (.bool true) := by obtain ⟨_, g, hv⟩ := Reg.pred hp 35 48 (by kernel_rfl) rfl rfl; exact g.trans (congrArg some hv)
      refine Reg.ok_value Reg.Old.refl (v := .bool true) (Reg.wanted_none rfl) ?_ rfl
      go_simp
    · intro c wc hB hp hs
      have g49 : c.tmps[49]? = some (.bool true) := by obtain ⟨_, g, hv⟩ := Reg.pred hp 36 49 (by kernel_rfl) rfl rfl; exact g.trans (congrArg some hv)
      refine Reg.ok_call (f := 25) (args := #[.int .i64 5]) (Reg.wanted_at (j := 36) (d := 49) rfl rfl rfl g49) (by go_simp) ((of_any (5) (by decide) (by decide) wc).mono ?_)
      rintro e w' ⟨rfl, hB2⟩
      exact ⟨_, rfl, hB2, rfl⟩
    · intro c wc hB hp hs
      have g50 : c.tmps[50]? = some (sv 5) := by obtain ⟨_, g, hv⟩ := Reg.pred hp 37 50 (by kernel_rfl) rfl rfl; exact g.trans (congrArg some hv)
      have g49 : c.tmps[49]? = some (.bool true) := by obtain ⟨_, g, hv⟩ := Reg.pred hp 36 49 (by kernel_rfl) rfl rfl; exact g.trans (congrArg some hv)
      refine Reg.ok_call (f := 23) (args := #[sv 5]) (Reg.wanted_at (j := 36) (d := 49) rfl rfl rfl g49) (by go_simp) ((put_any 5 (InS.small (by decide) (by decide)) wc).mono ?_)
      rintro e w' ⟨rfl, hB2⟩
      exact ⟨_, rfl, hB2, rfl⟩
    · intro c wc hB hp hs
      have g51 : c.tmps[51]? = some (.string (tx (sput 5))) := by obtain ⟨_, g, hv⟩ := Reg.pred hp 38 51 (by kernel_rfl) rfl rfl; exact g.trans (congrArg some hv)
      have g49 : c.tmps[49]? = some (.bool true) := by obtain ⟨_, g, hv⟩ := Reg.pred hp 36 49 (by kernel_rfl) rfl rfl; exact g.trans (congrArg some hv)
      have hz : (tx (sput 5)).size = 16 := by rw [tx_size, sput_length]
      refine Reg.ok_value Reg.Old.refl (v := .int .i64 16) (Reg.wanted_at (j := 36) (d := 49) rfl rfl rfl g49) ?_ rfl
      go_simp
    · intro c wc hB hp hs
      have g52 : c.tmps[52]? = some (.int .i64 16) := by obtain ⟨_, g, hv⟩ := Reg.pred hp 39 52 (by kernel_rfl) rfl rfl; exact g.trans (congrArg some hv)
      have g49 : c.tmps[49]? = some (.bool true) := by obtain ⟨_, g, hv⟩ := Reg.pred hp 36 49 (by kernel_rfl) rfl rfl; exact g.trans (congrArg some hv)
      refine Reg.ok_value Reg.Old.refl (v := .bool true) (Reg.wanted_at (j := 36) (d := 49) rfl rfl rfl g49) ?_ rfl
      go_simp
    · intro c wc hB hp hs
      have g49 : c.tmps[49]? = some (.bool true) := by obtain ⟨_, g, hv⟩ := Reg.pred hp 36 49 (by kernel_rfl) rfl rfl; exact g.trans (congrArg some hv)
      have g53 : c.tmps[53]? = some (.bool true) := by obtain ⟨_, g, hv⟩ := Reg.pred hp 40 53 (by kernel_rfl) rfl rfl; exact g.trans (congrArg some hv)
      refine Reg.ok_value Reg.Old.refl (v := .bool true) (Reg.wanted_none rfl) ?_ rfl
      go_simp
    · intro c wc hB hp hs
      have g54 : c.tmps[54]? = some (.bool true) := by obtain ⟨_, g, hv⟩ := Reg.pred hp 41 54 (by kernel_rfl) rfl rfl; exact g.trans (congrArg some hv)
      refine Reg.ok_value Reg.Old.refl (v := .bool true) (Reg.wanted_none rfl) ?_ rfl
      go_simp
  · intro c wc hB hsz hdf hv ho
    have g0 : c.tmps[0]? = some (.bool true) := by obtain ⟨_, g, hv⟩ := hv 42 _ 0 rfl rfl; exact g.trans (congrArg some hv)
    have hE := hB0.trans (hB.mono hB0.size)
    clear hv ho hB
    go_wp2
    refine bodyPost_ret (v := .bool true) ?_ hdf ⟨rfl, hE⟩
    simp [results, Tryd.results11, go_sem, g0]
end Go.Proofs.YthddnhnhlgnlhaaDoor
