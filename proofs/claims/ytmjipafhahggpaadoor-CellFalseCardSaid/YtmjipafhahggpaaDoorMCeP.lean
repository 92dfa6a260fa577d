/- A cell as bytes; two cells held against one another. -/
import Derived.Test.YtmjipafhahggpaaDoorMCeA
import Derived.Test.YtmjipafhahggpaaDoorMCeN
import Derived.Test.YtmjipafhahggpaaDoorMcG
import Derived.Test.YtmjipafhahggpaaDoorMReg
namespace Go.Proofs.YtmjipafhahggpaaDoor.Ce
open Go Go.RowKit Hi

theorem tx_append (a b : List UInt8) : tx a ++ tx b = tx (a ++ b) := by
  simp [tx, ByteArray.ext_iff]
def PutPhi (C B : Nat) (c : Cel) (S1 S2 S3 S4 S5 : ByteArray) : Nat → Value → World → Prop
  | i, v, _ => v = ([.pointer (some ⟨C, 0, none⟩), .pointer (some ⟨C, 0, none⟩), .pointer (some ⟨C, 1, none⟩), .int .i64 c.frm, .string S1, .pointer (some ⟨C, 0, none⟩), .pointer (some ⟨C, 0, none⟩), .pointer (some ⟨C, 2, none⟩), Wi.sv c.sum, .string S2, .string (S1 ++ S2), .int .i64 c.lowT, .string S3, .string (S1 ++ S2 ++ S3), .int .i64 c.topT, .string S4, .string (S1 ++ S2 ++ S3 ++ S4), .pointer (some ⟨C, 0, none⟩), .pointer (some ⟨C, 0, none⟩), .pointer (some ⟨C, 0, none⟩), .pointer (some ⟨B, 0, none⟩), .string S5, .string (S1 ++ S2 ++ S3 ++ S4 ++ S5), .string (S1 ++ S2 ++ S3 ++ S4 ++ S5)] : List Value).getD i undef
theorem PutPhi.stays {C B : Nat} {c : Cel} {S1 S2 S3 S4 S5 : ByteArray} : ∀ i v wx wy, PutPhi C B c S1 S2 S3 S4 S5 i v wx → Reg.Old wx wy → PutPhi C B c S1 S2 S3 S4 S5 i v wy := fun _ _ _ _ h _ => h

set_option maxRecDepth 100000 in
set_option maxHeartbeats 4000000 in
theorem put_any {S : Nat → Prop} {C : Nat} {c : Cel} {w : World} (h : At S C c w) :
    Calls Tryd.prog 17 #[.pointer (some ⟨C, 0, none⟩)] w fun e w' => e = .returned (.string (tx c.put)) ∧ Below w.heap.size w w' := by
  have hb := bounds_any h
  obtain ⟨B, v, rfl, h⟩ := h
  obtain ⟨S1, hS1⟩ : ∃ S, tx (n8 c.frm) = S := ⟨_, rfl⟩
  obtain ⟨S2, hS2⟩ : ∃ S, tx (Wi.sput c.sum) = S := ⟨_, rfl⟩
  obtain ⟨S3, hS3⟩ : ∃ S, tx (n8 c.lowT) = S := ⟨_, rfl⟩
  obtain ⟨S4, hS4⟩ : ∃ S, tx (n8 c.topT) = S := ⟨_, rfl⟩
  obtain ⟨S5, hS5⟩ : ∃ S, tx (putH c.k c.its) = S := ⟨_, rfl⟩
  have hp : tx c.put = S1 ++ S2 ++ S3 ++ S4 ++ S5 := by
    rw [← hS1, ← hS2, ← hS3, ← hS4, ← hS5, tx_append, tx_append, tx_append, tx_append]
    rfl
  rw [hp]
  have l1 : S1.size = 8 := by rw [← hS1, tx_size, n8_length]
  have l2 : S2.size = 16 := by rw [← hS2, tx_size, Wi.sput_length]
  have l3 : S3.size = 8 := by rw [← hS3, tx_size, n8_length]
  have l4 : S4.size = 8 := by rw [← hS4, tx_size, n8_length]
  have l5 : S5.size ≤ 20100 := by
    have := h.ok.len
    rw [Cel.put_length] at this
    rw [← hS5, tx_size]
    omega
  have z1 : (9223372036854775807 < S1.size + S2.size) = False := eq_false (by omega)
  have z2 : (9223372036854775807 < S1.size + S2.size + S3.size) = False := eq_false (by omega)
  have z3 : (9223372036854775807 < S1.size + S2.size + S3.size + S4.size) = False := eq_false (by omega)
  have z4 : (9223372036854775807 < S1.size + S2.size + S3.size + S4.size + S5.size) = False := eq_false (by omega)
  have HP1 : Hid (∀ W, Calls Tryd.prog 30 #[.int .i64 c.frm] W fun e w' => e = .returned (.string S1) ∧ Below W.heap.size W w') := Lib.hid fun W => by rw [← hS1]; exact putnumber_any _ h.ok.frm W
  have HP3 : Hid (∀ W, Calls Tryd.prog 30 #[.int .i64 c.lowT] W fun e w' => e = .returned (.string S3) ∧ Below W.heap.size W w') := Lib.hid fun W => by rw [← hS3]; exact putnumber_any _ h.ok.lowT W
  have HP4 : Hid (∀ W, Calls Tryd.prog 30 #[.int .i64 c.topT] W fun e w' => e = .returned (.string S4) ∧ Below W.heap.size W w') := Lib.hid fun W => by rw [← hS4]; exact putnumber_any _ h.ok.topT W
  have HP2 : Hid (∀ W, Calls Tryd.prog 23 #[Wi.sv c.sum] W fun e w' => e = .returned (.string S2) ∧ Below W.heap.size W w') := Lib.hid fun W => by rw [← hS2]; exact Wi.put_any _ h.ok.insum W
  have HH := Lib.hid h
  have HS5 := Lib.hid hS5
  clear h hS1 hS2 hS3 hS4 hS5 hp l1 l2 l3 l4 l5
  go_enter Tryd.func17, Tryd.ntmps17
  go_wp2_with fail
  refine hb.mono ?_
  rintro e W ⟨rfl, hBW⟩
  have HX := Lib.hid (HH.out.below hBW).cells
  have HB := Lib.hid hBW
  have HP5 : Hid (∀ wc, Below W.drew.heap.size W.drew wc → Calls Tryd.prog 31 #[.pointer (some ⟨B, 0, none⟩)] wc fun e w' => e = .returned (.string S5) ∧ Below wc.heap.size wc w') := Lib.hid fun wc hw => by rw [← HS5.out]; exact Hi.put_any ((HH.out.below hBW).hs.drew.below hw)
  clear hb hBW HH
  go_wp2_with fail
  refine Reg.wp_region_inv (n := 35) (PutPhi C B c S1 S2 S3 S4 S5) (by kernel_rfl) (by kernel_rfl) rfl PutPhi.stays ?_ ?_
  · refine ⟨?_, ?_, ?_, ?_, ?_, ?_, ?_, ?_, ?_, ?_, ?_, ?_, ?_, ?_, ?_, ?_, ?_, ?_, ?_, ?_, ?_, ?_, ?_, ?_, trivial⟩
    · intro cx wc hB hp hs
      have g0 : cx.tmps[0]? = some (.pointer (some ⟨C, 0, none⟩)) := (hs 0 (by kernel_rfl)).trans rfl
      refine Reg.ok_value Reg.Old.refl (v := .pointer (some ⟨C, 0, none⟩)) (Reg.wanted_none rfl) ?_ rfl
      go_simp
    · intro cx wc hB hp hs
      have g12 : cx.tmps[12]? = some (.pointer (some ⟨C, 0, none⟩)) := by obtain ⟨_, g, hv⟩ := Reg.pred hp 0 12 (by kernel_rfl) rfl rfl; exact g.trans (congrArg some hv)
      refine Reg.ok_value Reg.Old.refl (v := .pointer (some ⟨C, 0, none⟩)) (Reg.wanted_none rfl) ?_ rfl
      go_simp
    · intro cx wc hB hp hs
      have g13 : cx.tmps[13]? = some (.pointer (some ⟨C, 0, none⟩)) := by obtain ⟨_, g, hv⟩ := Reg.pred hp 1 13 (by kernel_rfl) rfl rfl; exact g.trans (congrArg some hv)
      refine Reg.ok_value Reg.Old.refl (v := .pointer (some ⟨C, 1, none⟩)) (Reg.wanted_none rfl) ?_ rfl
      go_simp
    · intro cx wc hB hp hs
      have g14 : cx.tmps[14]? = some (.pointer (some ⟨C, 1, none⟩)) := by obtain ⟨_, g, hv⟩ := Reg.pred hp 2 14 (by kernel_rfl) rfl rfl; exact g.trans (congrArg some hv)
      have hc := HX.out.drew.below hB
      have k1 := hc.cell 1 (.int .i64 c.frm) rfl
      refine Reg.ok_value Reg.Old.refl (v := .int .i64 c.frm) (Reg.wanted_none rfl) ?_ rfl
      go_simp
    · intro cx wc hB hp hs
      have g15 : cx.tmps[15]? = some (.int .i64 c.frm) := by obtain ⟨_, g, hv⟩ := Reg.pred hp 3 15 (by kernel_rfl) rfl rfl; exact g.trans (congrArg some hv)
      refine Reg.ok_call (f := 30) (args := #[.int .i64 c.frm]) (Reg.wanted_none rfl) (by go_simp) ((HP1.out wc).mono ?_)
      rintro e w' ⟨rfl, hB2⟩
      exact ⟨_, rfl, hB2, rfl⟩
    · intro cx wc hB hp hs
      have g0 : cx.tmps[0]? = some (.pointer (some ⟨C, 0, none⟩)) := (hs 0 (by kernel_rfl)).trans rfl
      refine Reg.ok_value Reg.Old.refl (v := .pointer (some ⟨C, 0, none⟩)) (Reg.wanted_none rfl) ?_ rfl
      go_simp
    · intro cx wc hB hp hs
      have g17 : cx.tmps[17]? = some (.pointer (some ⟨C, 0, none⟩)) := by obtain ⟨_, g, hv⟩ := Reg.pred hp 5 17 (by kernel_rfl) rfl rfl; exact g.trans (congrArg some hv)
      refine Reg.ok_value Reg.Old.refl (v := .pointer (some ⟨C, 0, none⟩)) (Reg.wanted_none rfl) ?_ rfl
      go_simp
    · intro cx wc hB hp hs
      have g18 : cx.tmps[18]? = some (.pointer (some ⟨C, 0, none⟩)) := by obtain ⟨_, g, hv⟩ := Reg.pred hp 6 18 (by kernel_rfl) rfl rfl; exact g.trans (congrArg some hv)
      refine Reg.ok_value Reg.Old.refl (v := .pointer (some ⟨C, 2, none⟩)) (Reg.wanted_none rfl) ?_ rfl
      go_simp
    · intro cx wc hB hp hs
      have g19 : cx.tmps[19]? = some (.pointer (some ⟨C, 2, none⟩)) := by obtain ⟨_, g, hv⟩ := Reg.pred hp 7 19 (by kernel_rfl) rfl rfl; exact g.trans (congrArg some hv)
      have hc := HX.out.drew.below hB
      have k2 := hc.cell 2 (.int .i64 (Wi.shi c.sum)) rfl
      have k3 := hc.cell 3 (.int .u64 (Wi.slo c.sum)) rfl
      refine Reg.ok_value Reg.Old.refl (v := Wi.sv c.sum) (Reg.wanted_none rfl) ?_ rfl
      go_simp
    · intro cx wc hB hp hs
      have g20 : cx.tmps[20]? = some (Wi.sv c.sum) := by obtain ⟨_, g, hv⟩ := Reg.pred hp 8 20 (by kernel_rfl) rfl rfl; exact g.trans (congrArg some hv)
      refine Reg.ok_call (f := 23) (args := #[Wi.sv c.sum]) (Reg.wanted_none rfl) (by go_simp) ((HP2.out wc).mono ?_)
      rintro e w' ⟨rfl, hB2⟩
      exact ⟨_, rfl, hB2, rfl⟩
    · intro cx wc hB hp hs
      have g16 : cx.tmps[16]? = some (.string S1) := by obtain ⟨_, g, hv⟩ := Reg.pred hp 4 16 (by kernel_rfl) rfl rfl; exact g.trans (congrArg some hv)
      have g21 : cx.tmps[21]? = some (.string S2) := by obtain ⟨_, g, hv⟩ := Reg.pred hp 9 21 (by kernel_rfl) rfl rfl; exact g.trans (congrArg some hv)
      refine Reg.ok_value Reg.Old.refl (v := .string (S1 ++ S2)) (Reg.wanted_none rfl) ?_ rfl
      go_simp
    · intro cx wc hB hp hs
      have g3 : cx.tmps[3]? = some (.int .i64 c.lowT) := (hs 3 (by kernel_rfl)).trans rfl
      refine Reg.ok_value Reg.Old.refl (v := .int .i64 c.lowT) (Reg.wanted_none rfl) ?_ rfl
      go_simp
    · intro cx wc hB hp hs
      have g23 : cx.tmps[23]? = some (.int .i64 c.lowT) := by obtain ⟨_, g, hv⟩ := Reg.pred hp 11 23 (by kernel_rfl) rfl rfl; exact g.trans (congrArg some hv)
      refine Reg.ok_call (f := 30) (args := #[.int .i64 c.lowT]) (Reg.wanted_none rfl) (by go_simp) ((HP3.out wc).mono ?_)
      rintro e w' ⟨rfl, hB2⟩
      exact ⟨_, rfl, hB2, rfl⟩
    · intro cx wc hB hp hs
      have g22 : cx.tmps[22]? = some (.string (S1 ++ S2)) := by obtain ⟨_, g, hv⟩ := Reg.pred hp 10 22 (by kernel_rfl) rfl rfl; exact g.trans (congrArg some hv)
      have g24 : cx.tmps[24]? = some (.string S3) := by obtain ⟨_, g, hv⟩ := Reg.pred hp 12 24 (by kernel_rfl) rfl rfl; exact g.trans (congrArg some hv)
      refine Reg.ok_value Reg.Old.refl (v := .string (S1 ++ S2 ++ S3)) (Reg.wanted_none rfl) ?_ rfl
      go_simp
    · intro cx wc hB hp hs
      have g4 : cx.tmps[4]? = some (.int .i64 c.topT) := (hs 4 (by kernel_rfl)).trans rfl
      refine Reg.ok_value Reg.Old.refl (v := .int .i64 c.topT) (Reg.wanted_none rfl) ?_ rfl
      go_simp
    · intro cx wc hB hp hs
      have g26 : cx.tmps[26]? = some (.int .i64 c.topT) := by obtain ⟨_, g, hv⟩ := Reg.pred hp 14 26 (by kernel_rfl) rfl rfl; exact g.trans (congrArg some hv)
      refine Reg.ok_call (f := 30) (args := #[.int .i64 c.topT]) (Reg.wanted_none rfl) (by go_simp) ((HP4.out wc).mono ?_)
      rintro e w' ⟨rfl, hB2⟩
      exact ⟨_, rfl, hB2, rfl⟩
    · intro cx wc hB hp hs
      have g25 : cx.tmps[25]? = some (.string (S1 ++ S2 ++ S3)) := by obtain ⟨_, g, hv⟩ := Reg.pred hp 13 25 (by kernel_rfl) rfl rfl; exact g.trans (congrArg some hv)
      have g27 : cx.tmps[27]? = some (.string S4) := by obtain ⟨_, g, hv⟩ := Reg.pred hp 15 27 (by kernel_rfl) rfl rfl; exact g.trans (congrArg some hv)
      refine Reg.ok_value Reg.Old.refl (v := .string (S1 ++ S2 ++ S3 ++ S4)) (Reg.wanted_none rfl) ?_ rfl
      go_simp
    · intro cx wc hB hp hs
      have g0 : cx.tmps[0]? = some (.pointer (some ⟨C, 0, none⟩)) := (hs 0 (by kernel_rfl)).trans rfl
      refine Reg.ok_value Reg.Old.refl (v := .pointer (some ⟨C, 0, none⟩)) (Reg.wanted_none rfl) ?_ rfl
      go_simp
    · intro cx wc hB hp hs
      have g29 : cx.tmps[29]? = some (.pointer (some ⟨C, 0, none⟩)) := by obtain ⟨_, g, hv⟩ := Reg.pred hp 17 29 (by kernel_rfl) rfl rfl; exact g.trans (congrArg some hv)
      refine Reg.ok_value Reg.Old.refl (v := .pointer (some ⟨C, 0, none⟩)) (Reg.wanted_none rfl) ?_ rfl
      go_simp
    · intro cx wc hB hp hs
      have g30 : cx.tmps[30]? = some (.pointer (some ⟨C, 0, none⟩)) := by obtain ⟨_, g, hv⟩ := Reg.pred hp 18 30 (by kernel_rfl) rfl rfl; exact g.trans (congrArg some hv)
      refine Reg.ok_value Reg.Old.refl (v := .pointer (some ⟨C, 0, none⟩)) (Reg.wanted_none rfl) ?_ rfl
      go_simp
    · intro cx wc hB hp hs
      have g31 : cx.tmps[31]? = some (.pointer (some ⟨C, 0, none⟩)) := by obtain ⟨_, g, hv⟩ := Reg.pred hp 19 31 (by kernel_rfl) rfl rfl; exact g.trans (congrArg some hv)
      have hc := HX.out.drew.below hB
      have k0 := hc.cell 0 (.pointer (some ⟨B, 0, none⟩)) rfl
      refine Reg.ok_value Reg.Old.refl (v := .pointer (some ⟨B, 0, none⟩)) (Reg.wanted_none rfl) ?_ rfl
      go_simp
    · intro cx wc hB hp hs
      have g32 : cx.tmps[32]? = some (.pointer (some ⟨B, 0, none⟩)) := by obtain ⟨_, g, hv⟩ := Reg.pred hp 20 32 (by kernel_rfl) rfl rfl; exact g.trans (congrArg some hv)
      refine Reg.ok_call (f := 31) (args := #[.pointer (some ⟨B, 0, none⟩)]) (Reg.wanted_none rfl) (by go_simp) ((HP5.out wc hB).mono ?_)
      rintro e w' ⟨rfl, hB2⟩
      exact ⟨_, rfl, hB2, rfl⟩
    · intro cx wc hB hp hs
      have g28 : cx.tmps[28]? = some (.string (S1 ++ S2 ++ S3 ++ S4)) := by obtain ⟨_, g, hv⟩ := Reg.pred hp 16 28 (by kernel_rfl) rfl rfl; exact g.trans (congrArg some hv)
      have g33 : cx.tmps[33]? = some (.string S5) := by obtain ⟨_, g, hv⟩ := Reg.pred hp 21 33 (by kernel_rfl) rfl rfl; exact g.trans (congrArg some hv)
      refine Reg.ok_value Reg.Old.refl (v := .string (S1 ++ S2 ++ S3 ++ S4 ++ S5)) (Reg.wanted_none rfl) ?_ rfl
      go_simp
    · intro cx wc hB hp hs
      have g34 : cx.tmps[34]? = some (.string (S1 ++ S2 ++ S3 ++ S4 ++ S5)) := by obtain ⟨_, g, hv⟩ := Reg.pred hp 22 34 (by kernel_rfl) rfl rfl; exact g.trans (congrArg some hv)
      refine Reg.ok_value Reg.Old.refl (v := .string (S1 ++ S2 ++ S3 ++ S4 ++ S5)) (Reg.wanted_none rfl) ?_ rfl
      go_simp
  · intro d wc hB hsz hdf hv ho
    have gr : d.tmps[2]? = some (.string (S1 ++ S2 ++ S3 ++ S4 ++ S5)) := by obtain ⟨_, g, hv⟩ := hv 23 _ 2 rfl rfl; exact g.trans (congrArg some hv)
    have hF : Below w.heap.size w wc := HB.out.trans (hB.mono HB.out.size)
    clear hv ho hB
    go_wp2
    refine bodyPost_ret (v := .string (S1 ++ S2 ++ S3 ++ S4 ++ S5)) ?_ hdf ⟨rfl, hF⟩
    simp [results, Tryd.results17, go_sem, gr]
theorem size_list (s : ByteArray) : s.data.toList.length = s.size := rfl
theorem tx_list (s : ByteArray) : tx s.data.toList = s := by cases s; rfl
theorem list_tx (l : List UInt8) : (tx l).data.toList = l := rfl
set_option maxRecDepth 100000 in
set_option maxHeartbeats 4000000 in
theorem same_any {S T : Nat → Prop} {C D : Nat} {c d : Cel} {w : World} (h : At S C c w) (g : At T D d w) :
    Calls Tryd.prog 13 #[.pointer (some ⟨C, 0, none⟩), .pointer (some ⟨D, 0, none⟩)] w fun e w' => e = .returned (.bool (decide (c.put = d.put))) ∧ Below w.heap.size w w' := by
  have hp := put_any h
  have HG : Hid (∀ W, Below w.heap.size w W → Calls Tryd.prog 17 #[.pointer (some ⟨D, 0, none⟩)] W fun e w' => e = .returned (.string (tx d.put)) ∧ Below W.heap.size W w') := Lib.hid fun W hW => put_any (g.below hW)
  obtain ⟨b, hb⟩ : ∃ b, decide (c.put = d.put) = b := ⟨_, rfl⟩
  have hq : ((tx c.put).toList == (tx d.put).toList) = b := by
    rw [← hb]
    by_cases e : c.put = d.put <;> simp [tx, e]
  rw [hb]
  generalize tx c.put = P at *
  generalize tx d.put = Q at *
  clear h g hb
  go_enter Tryd.func13, Tryd.ntmps13
  go_wp2_with fail
  refine hp.mono ?_
  rintro e w1 ⟨rfl, hB1⟩
  have hg := HG.out _ hB1
  have HB1 := Lib.hid hB1
  clear hp HG hB1
  go_wp2_with fail
  refine hg.mono ?_
  rintro e w2 ⟨rfl, hB2⟩
  have HB2 : Hid (Below w.heap.size w w2) := Lib.hid (HB1.out.trans (hB2.mono HB1.out.size))
  clear hg hB2 HB1
  go_wp2
  go_ret
  exact ⟨rfl, HB2.out⟩
end Go.Proofs.YtmjipafhahggpaaDoor.Ce

