/- WideReads, walked. -/
import Derived.Test.YthddnhnhlgnlhaaDoorWRefN
import Derived.Test.YthddnhnhlgnlhaaDoorWRefP
import Derived.Test.YthddnhnhlgnlhaaDoorWRefG
import Derived.Test.YthddnhnhlgnlhaaDoorWBend
namespace Go.Proofs.YthddnhnhlgnlhaaDoor
open Go Go.RowKit

def ReadsPhi (R1 R2 R3 R4 : Nat) (u x : Int) (ok gd : Bool) : Nat → Value → World → Prop
  | i, v, _ => v = ([.bool true, .bool true, sv u, sv u, sv u, .bool true, .bool true, .bool true, .bool ok, .bool ok, .bool true, .bool true, .bool true, sv x, sv x, sv x, .bool true, .bool true, .bool true, .bool gd, .bool gd, .bool true, .bool true, .bool true] : List Value).getD i undef
theorem ReadsPhi.stays {R1 R2 R3 R4 : Nat} {u x : Int} {ok gd : Bool} : ∀ i v wx wy, ReadsPhi R1 R2 R3 R4 u x ok gd i v wx → Reg.Old wx wy → ReadsPhi R1 R2 R3 R4 u x ok gd i v wy := fun _ _ _ _ h _ => h

theorem read_both (t : ByteArray) (ht : t.size ≤ maxLen) : ∃ (v : Int) (ok : Bool), InS v ∧
    (∀ w, Tens w → Calls Tryd.prog 28 #[.string t] w fun e w' => e = .returned (.tuple #[sv v, .bool ok]) ∧ Below w.heap.size w w') ∧
    (∀ w, Calls Tryd.prog 29 #[.string t] w fun e w' => e = .returned (.tuple #[sv v, .bool ok]) ∧ Below w.heap.size w w') := by
  by_cases h : Lib.itoa (cand t.data.toList) = t.data.toList
  · have hr : rcand t.data.toList = cand t.data.toList := by
      have := rcand_itoa (cand_in t.data.toList)
      rwa [h] at this
    refine ⟨cand t.data.toList, true, cand_in _, fun w hT => ?_, fun w => ?_⟩
    · have h1 := read_any t ht w hT
      rwa [if_pos h] at h1
    · have h1 := refRead_yes t ht (by rw [hr]; exact h) w
      rwa [hr] at h1
  · have hr : Lib.itoa (rcand t.data.toList) ≠ t.data.toList := fun h1 => h (by
      have := cand_itoa (rcand_in t.data.toList)
      rw [h1] at this
      rw [this]; exact h1)
    exact ⟨0, false, InS.small (by decide) (by decide), fun w hT => read_bad t ht h w hT, fun w => refRead_no t ht hr w⟩
theorem get_both (p : ByteArray) (_hp : p.size ≤ maxLen) : ∃ (v : Int) (ok : Bool), InS v ∧
    (∀ w, Calls Tryd.prog 30 #[.string p] w fun e w' => e = .returned (.tuple #[sv v, .bool ok]) ∧ Below w.heap.size w w') ∧
    (∀ w, Calls Tryd.prog 31 #[.string p] w fun e w' => e = .returned (.tuple #[sv v, .bool ok]) ∧ Below w.heap.size w w') := by
  by_cases h : p.size = 16
  · exact ⟨_, true, (getS_parts p.data.toList).1, fun w => get_full p h w, fun w => refGet_full p h w⟩
  · exact ⟨0, false, InS.small (by decide) (by decide), fun w => get_short p h w, fun w => refGet_short p h w⟩

set_option maxRecDepth 100000 in
set_option maxHeartbeats 8000000 in
theorem WideReads_walk (a : Int) (ha : InS a) (s : ByteArray) (hs : s.size ≤ maxLen) (own : Bool) (q : Int) (hq : (Lit.int .i64 q).wf = true) (z : Int) (hz : (Lit.int .u8 z).wf = true) (w : World) (hT : Tens w) :
    Calls Tryd.prog 4 #[sv a, .string s, .bool own, .int .i64 q, .int .u8 z] w fun e w' => e = .returned (.bool true) ∧ Below w.heap.size w w' := by
  have hq' : -9223372036854775808 ≤ q ∧ q ≤ 9223372036854775807 := by simpa [Lit.wf, IntKind.min, IntKind.max, IntKind.signed, IntKind.bits] using hq
  have hz' : 0 ≤ z ∧ z ≤ 255 := by simpa [Lit.wf, IntKind.min, IntKind.max, IntKind.signed, IntKind.bits] using hz
  obtain ⟨q1, q2⟩ := hq'
  obtain ⟨z1, z2⟩ := hz'
  have hlen := itoa_len ha
  obtain ⟨d, hd⟩ : ∃ d, tx (Lib.itoa a) = d := ⟨_, rfl⟩
  obtain ⟨p, hp⟩ : ∃ p, tx (sput a) = p := ⟨_, rfl⟩
  have hds : d.size ≤ 9223372036854775807 := by rw [← hd, tx_size]; omega
  have hps : p.size ≤ 9223372036854775807 := by rw [← hp, tx_size, sput_length]; decide
  have HT := Lib.hid hT
  have HA := Lib.hid ha
  have hreft : ∀ w, Calls Tryd.prog 22 #[sv a] w fun e w' => e = .returned (.string d) ∧ Below w.heap.size w w' := fun w => by rw [← hd]; exact refText_any a HA.out w
  have hrefp : ∀ w, Calls Tryd.prog 24 #[sv a] w fun e w' => e = .returned (.string p) ∧ Below w.heap.size w w' := fun w => by rw [← hp]; exact refPut_any a HA.out w
  have hbt := fun w => bend_any d hds q z q1 q2 z1 (by omega) w
  have hbp := fun w => bend_any p hps q z q1 q2 z1 (by omega) w
  clear hT ha hq hz hlen hd hp
  rw [show sv a = .agg #[.int .i64 (shi a), .int .u64 (slo a)] from rfl]
  go_enter Tryd.func4, Tryd.ntmps4
  go_wp2_with fail
  have hE0 : ∀ o1, Below w.heap.size w (w.alloc o1) := fun o1 => (Below.refl _ _).alloc (Nat.le_refl _) _
  refine (examples_any _ (HT.out.below (hE0 _))).mono ?_
  rintro e W ⟨rfl, hBx⟩
  have hA : CellsAt w.heap.size #[.int .i64 (shi a), .int .u64 (slo a)] W := (CellsAt.new _ _ _).below hBx
  have hE := (hE0 _).trans (hBx.mono (hE0 _).size)
  clear hE0 hBx
  cases own with
  | false =>
    clear hreft hrefp hbt hbp
    obtain ⟨u, ok, hvi, hr1, hr2⟩ := read_both s hs
    obtain ⟨x, gd, hxi, hg1, hg2⟩ := get_both s hs
    have HV := Lib.hid hvi
    have HX := Lib.hid hxi
    clear hvi hxi
    rw [show sv u = .agg #[.int .i64 (shi u), .int .u64 (slo u)] from rfl] at hr1 hr2
    rw [show sv x = .agg #[.int .i64 (shi x), .int .u64 (slo x)] from rfl] at hg1 hg2
    go_wp2_with fail
    refine (hr1 _ (HT.out.below hE)).mono ?_
    rintro e W1 ⟨rfl, hB1⟩
    have hE1 := hE.trans (hB1.mono hE.size)
    clear hB1 hE hr1
    go_wp2_with fail
    have h1 : CellsAt W1.heap.size #[.int .i64 (shi u), .int .u64 (slo u)] (W1.alloc (.cells #[.int .i64 (shi u), .int .u64 (slo u)] 24)) := CellsAt.new _ _ _
    have hE2 := hE1.alloc hE1.size (.cells #[.int .i64 (shi u), .int .u64 (slo u)] 24)
    refine (hr2 _).mono ?_
    rintro e W2 ⟨rfl, hB2⟩
    have h1 := h1.below hB2
    have hE3 := hE2.trans (hB2.mono hE2.size)
    clear hB2 hE2 hE1 hr2
    generalize W1.heap.size = R1 at *
    go_wp2_with fail
    have h2 : CellsAt W2.heap.size #[.int .i64 (shi u), .int .u64 (slo u)] (W2.alloc (.cells #[.int .i64 (shi u), .int .u64 (slo u)] 26)) := CellsAt.new _ _ _
    have h1 := h1.past (.cells #[.int .i64 (shi u), .int .u64 (slo u)] 26)
    have hE4 := hE3.alloc hE3.size (.cells #[.int .i64 (shi u), .int .u64 (slo u)] 26)
    refine (hg1 _).mono ?_
    rintro e W3 ⟨rfl, hB3⟩
    have h1 := h1.below hB3
    have h2 := h2.below hB3
    have hE5 := hE4.trans (hB3.mono hE4.size)
    clear hB3 hE4 hE3 hg1
    generalize W2.heap.size = R2 at *
    go_wp2_with fail
    have h3 : CellsAt W3.heap.size #[.int .i64 (shi x), .int .u64 (slo x)] (W3.alloc (.cells #[.int .i64 (shi x), .int .u64 (slo x)] 24)) := CellsAt.new _ _ _
    have h1 := h1.past (.cells #[.int .i64 (shi x), .int .u64 (slo x)] 24)
    have h2 := h2.past (.cells #[.int .i64 (shi x), .int .u64 (slo x)] 24)
    have hE6 := hE5.alloc hE5.size (.cells #[.int .i64 (shi x), .int .u64 (slo x)] 24)
    refine (hg2 _).mono ?_
    rintro e W4 ⟨rfl, hB4⟩
    have h1 := h1.below hB4
    have h2 := h2.below hB4
    have h3 := h3.below hB4
    have hE7 := hE6.trans (hB4.mono hE6.size)
    clear hB4 hE6 hE5 hg2
    generalize W3.heap.size = R3 at *
    go_wp2_with fail
    refine wp_gen (fun W => CellsAt R1 #[.int .i64 (shi u), .int .u64 (slo u)] W ∧ CellsAt R2 #[.int .i64 (shi u), .int .u64 (slo u)] W ∧ CellsAt R3 #[.int .i64 (shi x), .int .u64 (slo x)] W ∧ CellsAt W4.heap.size #[.int .i64 (shi x), .int .u64 (slo x)] W ∧ Below w.heap.size w W) ?_ ?_
    · exact ⟨h1.past _, h2.past _, h3.past _, CellsAt.new _ _ _, hE7.alloc hE7.size _⟩
    clear h1 h2 h3 hE7
    generalize W4.heap.size = R4 at *
    intro W5 ⟨h1, h2, h3, h4, hE⟩
    refine Reg.wp_region_inv (n := 81) (ReadsPhi R1 R2 R3 R4 u x ok gd) (by kernel_rfl) (by kernel_rfl) rfl ReadsPhi.stays ?_ ?_
    · refine ⟨?_, ?_, ?_, ?_, ?_, ?_, ?_, ?_, ?_, ?_, ?_, ?_, ?_, ?_, ?_, ?_, ?_, ?_, ?_, ?_, ?_, ?_, ?_, ?_, trivial⟩
      · intro cx wc hB hp hs
        have g11 : cx.tmps[11]? = some (.bool true) := (hs 11 (by kernel_rfl)).trans rfl
        refine Reg.ok_value Reg.Old.refl (v := .bool true) (Reg.wanted_none rfl) ?_ rfl
        go_simp
      · intro cx wc hB hp hs
        have g58 : cx.tmps[58]? = some (.bool true) := by obtain ⟨_, g, hv⟩ := Reg.pred hp 0 58 (by kernel_rfl) rfl rfl; exact g.trans (congrArg some hv)
        refine Reg.ok_value Reg.Old.refl (v := .bool true) (Reg.wanted_none rfl) ?_ rfl
        go_simp
      · intro cx wc hB hp hs
        have g13 : cx.tmps[13]? = some (.pointer (some ⟨R1, 0, none⟩)) := (hs 13 (by kernel_rfl)).trans rfl
        have g59 : cx.tmps[59]? = some (.bool true) := by obtain ⟨_, g, hv⟩ := Reg.pred hp 1 59 (by kernel_rfl) rfl rfl; exact g.trans (congrArg some hv)
        have hc := h1.drew.below hB
        have k0 := hc.cell 0 (.int .i64 (shi u)) rfl
        have k1 := hc.cell 1 (.int .u64 (slo u)) rfl
        refine Reg.ok_value Reg.Old.refl (v := sv u) (Reg.wanted_at (j := 1) (d := 59) rfl rfl rfl g59) ?_ rfl
        go_simp
      · intro cx wc hB hp hs
        have g60 : cx.tmps[60]? = some (sv u) := by obtain ⟨_, g, hv⟩ := Reg.pred hp 2 60 (by kernel_rfl) rfl rfl; exact g.trans (congrArg some hv)
        have g59 : cx.tmps[59]? = some (.bool true) := by obtain ⟨_, g, hv⟩ := Reg.pred hp 1 59 (by kernel_rfl) rfl rfl; exact g.trans (congrArg some hv)
        refine Reg.ok_call (f := 12) (args := #[sv u]) (Reg.wanted_at (j := 1) (d := 59) rfl rfl rfl g59) (by go_simp) ((ref_any u (HV.out) wc).mono ?_)
        rintro e w' ⟨rfl, hB2⟩
        exact ⟨_, rfl, hB2, rfl⟩
      · intro cx wc hB hp hs
        have g15 : cx.tmps[15]? = some (.pointer (some ⟨R2, 0, none⟩)) := (hs 15 (by kernel_rfl)).trans rfl
        have g59 : cx.tmps[59]? = some (.bool true) := by obtain ⟨_, g, hv⟩ := Reg.pred hp 1 59 (by kernel_rfl) rfl rfl; exact g.trans (congrArg some hv)
        have hc := h2.drew.below hB
        have k0 := hc.cell 0 (.int .i64 (shi u)) rfl
        have k1 := hc.cell 1 (.int .u64 (slo u)) rfl
        refine Reg.ok_value Reg.Old.refl (v := sv u) (Reg.wanted_at (j := 1) (d := 59) rfl rfl rfl g59) ?_ rfl
        go_simp
      · intro cx wc hB hp hs
        have g61 : cx.tmps[61]? = some (sv u) := by obtain ⟨_, g, hv⟩ := Reg.pred hp 3 61 (by kernel_rfl) rfl rfl; exact g.trans (congrArg some hv)
        have g62 : cx.tmps[62]? = some (sv u) := by obtain ⟨_, g, hv⟩ := Reg.pred hp 4 62 (by kernel_rfl) rfl rfl; exact g.trans (congrArg some hv)
        have g59 : cx.tmps[59]? = some (.bool true) := by obtain ⟨_, g, hv⟩ := Reg.pred hp 1 59 (by kernel_rfl) rfl rfl; exact g.trans (congrArg some hv)
        refine Reg.ok_value Reg.Old.refl (v := .bool true) (Reg.wanted_at (j := 1) (d := 59) rfl rfl rfl g59) ?_ rfl
        go_simp
      · intro cx wc hB hp hs
        have g59 : cx.tmps[59]? = some (.bool true) := by obtain ⟨_, g, hv⟩ := Reg.pred hp 1 59 (by kernel_rfl) rfl rfl; exact g.trans (congrArg some hv)
        have g63 : cx.tmps[63]? = some (.bool true) := by obtain ⟨_, g, hv⟩ := Reg.pred hp 5 63 (by kernel_rfl) rfl rfl; exact g.trans (congrArg some hv)
        refine Reg.ok_value Reg.Old.refl (v := .bool true) (Reg.wanted_none rfl) ?_ rfl
        go_simp
      · intro cx wc hB hp hs
        have g64 : cx.tmps[64]? = some (.bool true) := by obtain ⟨_, g, hv⟩ := Reg.pred hp 6 64 (by kernel_rfl) rfl rfl; exact g.trans (congrArg some hv)
        refine Reg.ok_value Reg.Old.refl (v := .bool true) (Reg.wanted_none rfl) ?_ rfl
        go_simp
      · intro cx wc hB hp hs
        have g14 : cx.tmps[14]? = some (.bool ok) := (hs 14 (by kernel_rfl)).trans rfl
        have g65 : cx.tmps[65]? = some (.bool true) := by obtain ⟨_, g, hv⟩ := Reg.pred hp 7 65 (by kernel_rfl) rfl rfl; exact g.trans (congrArg some hv)
        refine Reg.ok_value Reg.Old.refl (v := .bool ok) (Reg.wanted_at (j := 7) (d := 65) rfl rfl rfl g65) ?_ rfl
        go_simp
      · intro cx wc hB hp hs
        have g16 : cx.tmps[16]? = some (.bool ok) := (hs 16 (by kernel_rfl)).trans rfl
        have g65 : cx.tmps[65]? = some (.bool true) := by obtain ⟨_, g, hv⟩ := Reg.pred hp 7 65 (by kernel_rfl) rfl rfl; exact g.trans (congrArg some hv)
        refine Reg.ok_value Reg.Old.refl (v := .bool ok) (Reg.wanted_at (j := 7) (d := 65) rfl rfl rfl g65) ?_ rfl
        go_simp
      · intro cx wc hB hp hs
        have g66 : cx.tmps[66]? = some (.bool ok) := by obtain ⟨_, g, hv⟩ := Reg.pred hp 8 66 (by kernel_rfl) rfl rfl; exact g.trans (congrArg some hv)
        have g67 : cx.tmps[67]? = some (.bool ok) := by obtain ⟨_, g, hv⟩ := Reg.pred hp 9 67 (by kernel_rfl) rfl rfl; exact g.trans (congrArg some hv)
        have g65 : cx.tmps[65]? = some (.bool true) := by obtain ⟨_, g, hv⟩ := Reg.pred hp 7 65 (by kernel_rfl) rfl rfl; exact g.trans (congrArg some hv)
        refine Reg.ok_value Reg.Old.refl (v := .bool true) (Reg.wanted_at (j := 7) (d := 65) rfl rfl rfl g65) ?_ rfl
        go_simp
      · intro cx wc hB hp hs
        have g65 : cx.tmps[65]? = some (.bool true) := by obtain ⟨_, g, hv⟩ := Reg.pred hp 7 65 (by kernel_rfl) rfl rfl; exact g.trans (congrArg some hv)
        have g68 : cx.tmps[68]? = some (.bool true) := by obtain ⟨_, g, hv⟩ := Reg.pred hp 10 68 (by kernel_rfl) rfl rfl; exact g.trans (congrArg some hv)
        refine Reg.ok_value Reg.Old.refl (v := .bool true) (Reg.wanted_none rfl) ?_ rfl
        go_simp
      · intro cx wc hB hp hs
        have g69 : cx.tmps[69]? = some (.bool true) := by obtain ⟨_, g, hv⟩ := Reg.pred hp 11 69 (by kernel_rfl) rfl rfl; exact g.trans (congrArg some hv)
        refine Reg.ok_value Reg.Old.refl (v := .bool true) (Reg.wanted_none rfl) ?_ rfl
        go_simp
      · intro cx wc hB hp hs
        have g17 : cx.tmps[17]? = some (.pointer (some ⟨R3, 0, none⟩)) := (hs 17 (by kernel_rfl)).trans rfl
        have g70 : cx.tmps[70]? = some (.bool true) := by obtain ⟨_, g, hv⟩ := Reg.pred hp 12 70 (by kernel_rfl) rfl rfl; exact g.trans (congrArg some hv)
        have hc := h3.drew.below hB
        have k0 := hc.cell 0 (.int .i64 (shi x)) rfl
        have k1 := hc.cell 1 (.int .u64 (slo x)) rfl
        refine Reg.ok_value Reg.Old.refl (v := sv x) (Reg.wanted_at (j := 12) (d := 70) rfl rfl rfl g70) ?_ rfl
        go_simp
      · intro cx wc hB hp hs
        have g71 : cx.tmps[71]? = some (sv x) := by obtain ⟨_, g, hv⟩ := Reg.pred hp 13 71 (by kernel_rfl) rfl rfl; exact g.trans (congrArg some hv)
        have g70 : cx.tmps[70]? = some (.bool true) := by obtain ⟨_, g, hv⟩ := Reg.pred hp 12 70 (by kernel_rfl) rfl rfl; exact g.trans (congrArg some hv)
        refine Reg.ok_call (f := 12) (args := #[sv x]) (Reg.wanted_at (j := 12) (d := 70) rfl rfl rfl g70) (by go_simp) ((ref_any x (HX.out) wc).mono ?_)
        rintro e w' ⟨rfl, hB2⟩
        exact ⟨_, rfl, hB2, rfl⟩
      · intro cx wc hB hp hs
        have g19 : cx.tmps[19]? = some (.pointer (some ⟨R4, 0, none⟩)) := (hs 19 (by kernel_rfl)).trans rfl
        have g70 : cx.tmps[70]? = some (.bool true) := by obtain ⟨_, g, hv⟩ := Reg.pred hp 12 70 (by kernel_rfl) rfl rfl; exact g.trans (congrArg some hv)
        have hc := h4.drew.below hB
        have k0 := hc.cell 0 (.int .i64 (shi x)) rfl
        have k1 := hc.cell 1 (.int .u64 (slo x)) rfl
        refine Reg.ok_value Reg.Old.refl (v := sv x) (Reg.wanted_at (j := 12) (d := 70) rfl rfl rfl g70) ?_ rfl
        go_simp
      · intro cx wc hB hp hs
        have g72 : cx.tmps[72]? = some (sv x) := by obtain ⟨_, g, hv⟩ := Reg.pred hp 14 72 (by kernel_rfl) rfl rfl; exact g.trans (congrArg some hv)
        have g73 : cx.tmps[73]? = some (sv x) := by obtain ⟨_, g, hv⟩ := Reg.pred hp 15 73 (by kernel_rfl) rfl rfl; exact g.trans (congrArg some hv)
        have g70 : cx.tmps[70]? = some (.bool true) := by obtain ⟨_, g, hv⟩ := Reg.pred hp 12 70 (by kernel_rfl) rfl rfl; exact g.trans (congrArg some hv)
        refine Reg.ok_value Reg.Old.refl (v := .bool true) (Reg.wanted_at (j := 12) (d := 70) rfl rfl rfl g70) ?_ rfl
        go_simp
      · intro cx wc hB hp hs
        have g70 : cx.tmps[70]? = some (.bool true) := by obtain ⟨_, g, hv⟩ := Reg.pred hp 12 70 (by kernel_rfl) rfl rfl; exact g.trans (congrArg some hv)
        have g74 : cx.tmps[74]? = some (.bool true) := by obtain ⟨_, g, hv⟩ := Reg.pred hp 16 74 (by kernel_rfl) rfl rfl; exact g.trans (congrArg some hv)
        refine Reg.ok_value Reg.Old.refl (v := .bool true) (Reg.wanted_none rfl) ?_ rfl
        go_simp
      · intro cx wc hB hp hs
        have g75 : cx.tmps[75]? = some (.bool true) := by obtain ⟨_, g, hv⟩ := Reg.pred hp 17 75 (by kernel_rfl) rfl rfl; exact g.trans (congrArg some hv)
        refine Reg.ok_value Reg.Old.refl (v := .bool true) (Reg.wanted_none rfl) ?_ rfl
        go_simp
      · intro cx wc hB hp hs
        have g18 : cx.tmps[18]? = some (.bool gd) := (hs 18 (by kernel_rfl)).trans rfl
        have g76 : cx.tmps[76]? = some (.bool true) := by obtain ⟨_, g, hv⟩ := Reg.pred hp 18 76 (by kernel_rfl) rfl rfl; exact g.trans (congrArg some hv)
        refine Reg.ok_value Reg.Old.refl (v := .bool gd) (Reg.wanted_at (j := 18) (d := 76) rfl rfl rfl g76) ?_ rfl
        go_simp
      · intro cx wc hB hp hs
        have g20 : cx.tmps[20]? = some (.bool gd) := (hs 20 (by kernel_rfl)).trans rfl
        have g76 : cx.tmps[76]? = some (.bool true) := by obtain ⟨_, g, hv⟩ := Reg.pred hp 18 76 (by kernel_rfl) rfl rfl; exact g.trans (congrArg some hv)
        refine Reg.ok_value Reg.Old.refl (v := .bool gd) (Reg.wanted_at (j := 18) (d := 76) rfl rfl rfl g76) ?_ rfl
        go_simp
      · intro cx wc hB hp hs
        have g77 : cx.tmps[77]? = some (.bool gd) := by obtain ⟨_, g, hv⟩ := Reg.pred hp 19 77 (by kernel_rfl) rfl rfl; exact g.trans (congrArg some hv)
        have g78 : cx.tmps[78]? = some (.bool gd) := by obtain ⟨_, g, hv⟩ := Reg.pred hp 20 78 (by kernel_rfl) rfl rfl; exact g.trans (congrArg some hv)
        have g76 : cx.tmps[76]? = some (.bool true) := by obtain ⟨_, g, hv⟩ := Reg.pred hp 18 76 (by kernel_rfl) rfl rfl; exact g.trans (congrArg some hv)
        refine Reg.ok_value Reg.Old.refl (v := .bool true) (Reg.wanted_at (j := 18) (d := 76) rfl rfl rfl g76) ?_ rfl
        go_simp
      · intro cx wc hB hp hs
        have g76 : cx.tmps[76]? = some (.bool true) := by obtain ⟨_, g, hv⟩ := Reg.pred hp 18 76 (by kernel_rfl) rfl rfl; exact g.trans (congrArg some hv)
        have g79 : cx.tmps[79]? = some (.bool true) := by obtain ⟨_, g, hv⟩ := Reg.pred hp 21 79 (by kernel_rfl) rfl rfl; exact g.trans (congrArg some hv)
        refine Reg.ok_value Reg.Old.refl (v := .bool true) (Reg.wanted_none rfl) ?_ rfl
        go_simp
      · intro cx wc hB hp hs
        have g80 : cx.tmps[80]? = some (.bool true) := by obtain ⟨_, g, hv⟩ := Reg.pred hp 22 80 (by kernel_rfl) rfl rfl; exact g.trans (congrArg some hv)
        refine Reg.ok_value Reg.Old.refl (v := .bool true) (Reg.wanted_none rfl) ?_ rfl
        go_simp
    · intro d wc hB hsz hdf hv ho
      have gr : d.tmps[10]? = some (.bool true) := by obtain ⟨_, g, hv⟩ := hv 23 _ 10 rfl rfl; exact g.trans (congrArg some hv)
      have hF := hE.trans (hB.mono hE.size)
      clear hv ho hB
      go_wp2
      refine bodyPost_ret (v := .bool true) ?_ hdf ⟨rfl, hF⟩
      simp [results, Tryd.results4, go_sem, gr]
  | true =>
    have a0 := hA.cell 0 (.int .i64 (shi a)) rfl
    have a1 := hA.cell 1 (.int .u64 (slo a)) rfl
    go_wp2_with fail
    refine (ref_any a HA.out _).mono ?_
    rintro e w1 ⟨rfl, hB1⟩
    have hA := hA.below hB1
    have hE := hE.trans (hB1.mono hE.size)
    clear a0 a1 hB1
    go_wp2_with fail
    refine (hreft _).mono ?_
    rintro e w2 ⟨rfl, hB2⟩
    have hA := hA.below hB2
    have hE := hE.trans (hB2.mono hE.size)
    clear hB2
    go_wp2_with fail
    refine (hbt _).mono ?_
    rintro e w3 ⟨t, rfl, hts, hB3⟩
    have hA := hA.below hB3
    have hE := hE.trans (hB3.mono hE.size)
    have a0 := hA.cell 0 (.int .i64 (shi a)) rfl
    have a1 := hA.cell 1 (.int .u64 (slo a)) rfl
    have htl : t.size ≤ maxLen := by rw [hts]; exact hds
    clear hB3 hreft hbt hts hds
    go_wp2_with fail
    refine (ref_any a HA.out _).mono ?_
    rintro e w4 ⟨rfl, hB4⟩
    have hE := hE.trans (hB4.mono hE.size)
    clear hB4 hA a0 a1
    go_wp2_with fail
    refine (hrefp _).mono ?_
    rintro e w5 ⟨rfl, hB5⟩
    have hE := hE.trans (hB5.mono hE.size)
    clear hB5
    go_wp2_with fail
    refine (hbp _).mono ?_
    rintro e w6 ⟨o, rfl, hos, hB6⟩
    have hE := hE.trans (hB6.mono hE.size)
    have hol : o.size ≤ maxLen := by rw [hos]; exact hps
    clear hB6 hrefp hbp hos hps
    obtain ⟨u, ok, hvi, hr1, hr2⟩ := read_both t htl
    obtain ⟨x, gd, hxi, hg1, hg2⟩ := get_both o hol
    have HV := Lib.hid hvi
    have HX := Lib.hid hxi
    clear hvi hxi
    rw [show sv u = .agg #[.int .i64 (shi u), .int .u64 (slo u)] from rfl] at hr1 hr2
    rw [show sv x = .agg #[.int .i64 (shi x), .int .u64 (slo x)] from rfl] at hg1 hg2
    go_wp2_with fail
    refine (hr1 _ (HT.out.below hE)).mono ?_
    rintro e W1 ⟨rfl, hB1⟩
    have hE1 := hE.trans (hB1.mono hE.size)
    clear hB1 hE hr1
    go_wp2_with fail
    have h1 : CellsAt W1.heap.size #[.int .i64 (shi u), .int .u64 (slo u)] (W1.alloc (.cells #[.int .i64 (shi u), .int .u64 (slo u)] 24)) := CellsAt.new _ _ _
    have hE2 := hE1.alloc hE1.size (.cells #[.int .i64 (shi u), .int .u64 (slo u)] 24)
    refine (hr2 _).mono ?_
    rintro e W2 ⟨rfl, hB2⟩
    have h1 := h1.below hB2
    have hE3 := hE2.trans (hB2.mono hE2.size)
    clear hB2 hE2 hE1 hr2
    generalize W1.heap.size = R1 at *
    go_wp2_with fail
    have h2 : CellsAt W2.heap.size #[.int .i64 (shi u), .int .u64 (slo u)] (W2.alloc (.cells #[.int .i64 (shi u), .int .u64 (slo u)] 26)) := CellsAt.new _ _ _
    have h1 := h1.past (.cells #[.int .i64 (shi u), .int .u64 (slo u)] 26)
    have hE4 := hE3.alloc hE3.size (.cells #[.int .i64 (shi u), .int .u64 (slo u)] 26)
    refine (hg1 _).mono ?_
    rintro e W3 ⟨rfl, hB3⟩
    have h1 := h1.below hB3
    have h2 := h2.below hB3
    have hE5 := hE4.trans (hB3.mono hE4.size)
    clear hB3 hE4 hE3 hg1
    generalize W2.heap.size = R2 at *
    go_wp2_with fail
    have h3 : CellsAt W3.heap.size #[.int .i64 (shi x), .int .u64 (slo x)] (W3.alloc (.cells #[.int .i64 (shi x), .int .u64 (slo x)] 24)) := CellsAt.new _ _ _
    have h1 := h1.past (.cells #[.int .i64 (shi x), .int .u64 (slo x)] 24)
    have h2 := h2.past (.cells #[.int .i64 (shi x), .int .u64 (slo x)] 24)
    have hE6 := hE5.alloc hE5.size (.cells #[.int .i64 (shi x), .int .u64 (slo x)] 24)
    refine (hg2 _).mono ?_
    rintro e W4 ⟨rfl, hB4⟩
    have h1 := h1.below hB4
    have h2 := h2.below hB4
    have h3 := h3.below hB4
    have hE7 := hE6.trans (hB4.mono hE6.size)
    clear hB4 hE6 hE5 hg2
    generalize W3.heap.size = R3 at *
    go_wp2_with fail
    refine wp_gen (fun W => CellsAt R1 #[.int .i64 (shi u), .int .u64 (slo u)] W ∧ CellsAt R2 #[.int .i64 (shi u), .int .u64 (slo u)] W ∧ CellsAt R3 #[.int .i64 (shi x), .int .u64 (slo x)] W ∧ CellsAt W4.heap.size #[.int .i64 (shi x), .int .u64 (slo x)] W ∧ Below w.heap.size w W) ?_ ?_
    · exact ⟨h1.past _, h2.past _, h3.past _, CellsAt.new _ _ _, hE7.alloc hE7.size _⟩
    clear h1 h2 h3 hE7
    generalize W4.heap.size = R4 at *
    intro W5 ⟨h1, h2, h3, h4, hE⟩
    refine Reg.wp_region_inv (n := 81) (ReadsPhi R1 R2 R3 R4 u x ok gd) (by kernel_rfl) (by kernel_rfl) rfl ReadsPhi.stays ?_ ?_
    · refine ⟨?_, ?_, ?_, ?_, ?_, ?_, ?_, ?_, ?_, ?_, ?_, ?_, ?_, ?_, ?_, ?_, ?_, ?_, ?_, ?_, ?_, ?_, ?_, ?_, trivial⟩
      · intro cx wc hB hp hs
        have g11 : cx.tmps[11]? = some (.bool true) := (hs 11 (by kernel_rfl)).trans rfl
        refine Reg.ok_value Reg.Old.refl (v := .bool true) (Reg.wanted_none rfl) ?_ rfl
        go_simp
      · intro cx wc hB hp hs
        have g58 : cx.tmps[58]? = some (.bool true) := by obtain ⟨_, g, hv⟩ := Reg.pred hp 0 58 (by kernel_rfl) rfl rfl; exact g.trans (congrArg some hv)
        refine Reg.ok_value Reg.Old.refl (v := .bool true) (Reg.wanted_none rfl) ?_ rfl
        go_simp
      · intro cx wc hB hp hs
        have g13 : cx.tmps[13]? = some (.pointer (some ⟨R1, 0, none⟩)) := (hs 13 (by kernel_rfl)).trans rfl
        have g59 : cx.tmps[59]? = some (.bool true) := by obtain ⟨_, g, hv⟩ := Reg.pred hp 1 59 (by kernel_rfl) rfl rfl; exact g.trans (congrArg some hv)
        have hc := h1.drew.below hB
        have k0 := hc.cell 0 (.int .i64 (shi u)) rfl
        have k1 := hc.cell 1 (.int .u64 (slo u)) rfl
        refine Reg.ok_value Reg.Old.refl (v := sv u) (Reg.wanted_at (j := 1) (d := 59) rfl rfl rfl g59) ?_ rfl
        go_simp
      · intro cx wc hB hp hs
        have g60 : cx.tmps[60]? = some (sv u) := by obtain ⟨_, g, hv⟩ := Reg.pred hp 2 60 (by kernel_rfl) rfl rfl; exact g.trans (congrArg some hv)
        have g59 : cx.tmps[59]? = some (.bool true) := by obtain ⟨_, g, hv⟩ := Reg.pred hp 1 59 (by kernel_rfl) rfl rfl; exact g.trans (congrArg some hv)
        refine Reg.ok_call (f := 12) (args := #[sv u]) (Reg.wanted_at (j := 1) (d := 59) rfl rfl rfl g59) (by go_simp) ((ref_any u (HV.out) wc).mono ?_)
        rintro e w' ⟨rfl, hB2⟩
        exact ⟨_, rfl, hB2, rfl⟩
      · intro cx wc hB hp hs
        have g15 : cx.tmps[15]? = some (.pointer (some ⟨R2, 0, none⟩)) := (hs 15 (by kernel_rfl)).trans rfl
        have g59 : cx.tmps[59]? = some (.bool true) := by obtain ⟨_, g, hv⟩ := Reg.pred hp 1 59 (by kernel_rfl) rfl rfl; exact g.trans (congrArg some hv)
        have hc := h2.drew.below hB
        have k0 := hc.cell 0 (.int .i64 (shi u)) rfl
        have k1 := hc.cell 1 (.int .u64 (slo u)) rfl
        refine Reg.ok_value Reg.Old.refl (v := sv u) (Reg.wanted_at (j := 1) (d := 59) rfl rfl rfl g59) ?_ rfl
        go_simp
      · intro cx wc hB hp hs
        have g61 : cx.tmps[61]? = some (sv u) := by obtain ⟨_, g, hv⟩ := Reg.pred hp 3 61 (by kernel_rfl) rfl rfl; exact g.trans (congrArg some hv)
        have g62 : cx.tmps[62]? = some (sv u) := by obtain ⟨_, g, hv⟩ := Reg.pred hp 4 62 (by kernel_rfl) rfl rfl; exact g.trans (congrArg some hv)
        have g59 : cx.tmps[59]? = some (.bool true) := by obtain ⟨_, g, hv⟩ := Reg.pred hp 1 59 (by kernel_rfl) rfl rfl; exact g.trans (congrArg some hv)
        refine Reg.ok_value Reg.Old.refl (v := .bool true) (Reg.wanted_at (j := 1) (d := 59) rfl rfl rfl g59) ?_ rfl
        go_simp
      · intro cx wc hB hp hs
        have g59 : cx.tmps[59]? = some (.bool true) := by obtain ⟨_, g, hv⟩ := Reg.pred hp 1 59 (by kernel_rfl) rfl rfl; exact g.trans (congrArg some hv)
        have g63 : cx.tmps[63]? = some (.bool true) := by obtain ⟨_, g, hv⟩ := Reg.pred hp 5 63 (by kernel_rfl) rfl rfl; exact g.trans (congrArg some hv)
        refine Reg.ok_value Reg.Old.refl (v := .bool true) (Reg.wanted_none rfl) ?_ rfl
        go_simp
      · intro cx wc hB hp hs
        have g64 : cx.tmps[64]? = some (.bool true) := by obtain ⟨_, g, hv⟩ := Reg.pred hp 6 64 (by kernel_rfl) rfl rfl; exact g.trans (congrArg some hv)
        refine Reg.ok_value Reg.Old.refl (v := .bool true) (Reg.wanted_none rfl) ?_ rfl
        go_simp
      · intro cx wc hB hp hs
        have g14 : cx.tmps[14]? = some (.bool ok) := (hs 14 (by kernel_rfl)).trans rfl
        have g65 : cx.tmps[65]? = some (.bool true) := by obtain ⟨_, g, hv⟩ := Reg.pred hp 7 65 (by kernel_rfl) rfl rfl; exact g.trans (congrArg some hv)
        refine Reg.ok_value Reg.Old.refl (v := .bool ok) (Reg.wanted_at (j := 7) (d := 65) rfl rfl rfl g65) ?_ rfl
        go_simp
      · intro cx wc hB hp hs
        have g16 : cx.tmps[16]? = some (.bool ok) := (hs 16 (by kernel_rfl)).trans rfl
        have g65 : cx.tmps[65]? = some (.bool true) := by obtain ⟨_, g, hv⟩ := Reg.pred hp 7 65 (by kernel_rfl) rfl rfl; exact g.trans (congrArg some hv)
        refine Reg.ok_value Reg.Old.refl (v := .bool ok) (Reg.wanted_at (j := 7) (d := 65) rfl rfl rfl g65) ?_ rfl
        go_simp
      · intro cx wc hB hp hs
        have g66 : cx.tmps[66]? = some (.bool ok) := by obtain ⟨_, g, hv⟩ := Reg.pred hp 8 66 (by kernel_rfl) rfl rfl; exact g.trans (congrArg some hv)
        have g67 : cx.tmps[67]? = some (.bool ok) := by obtain ⟨_, g, hv⟩ := Reg.pred hp 9 67 (by kernel_rfl) rfl rfl; exact g.trans (congrArg some hv)
        have g65 : cx.tmps[65]? = some (.bool true) := by obtain ⟨_, g, hv⟩ := Reg.pred hp 7 65 (by kernel_rfl) rfl rfl; exact g.trans (congrArg some hv)
        refine Reg.ok_value Reg.Old.refl (v := .bool true) (Reg.wanted_at (j := 7) (d := 65) rfl rfl rfl g65) ?_ rfl
        go_simp
      · intro cx wc hB hp hs
        have g65 : cx.tmps[65]? = some (.bool true) := by obtain ⟨_, g, hv⟩ := Reg.pred hp 7 65 (by kernel_rfl) rfl rfl; exact g.trans (congrArg some hv)
        have g68 : cx.tmps[68]? = some (.bool true) := by obtain ⟨_, g, hv⟩ := Reg.pred hp 10 68 (by kernel_rfl) rfl rfl; exact g.trans (congrArg some hv)
        refine Reg.ok_value Reg.Old.refl (v := .bool true) (Reg.wanted_none rfl) ?_ rfl
        go_simp
      · intro cx wc hB hp hs
        have g69 : cx.tmps[69]? = some (.bool true) := by obtain ⟨_, g, hv⟩ := Reg.pred hp 11 69 (by kernel_rfl) rfl rfl; exact g.trans (congrArg some hv)
        refine Reg.ok_value Reg.Old.refl (v := .bool true) (Reg.wanted_none rfl) ?_ rfl
        go_simp
      · intro cx wc hB hp hs
        have g17 : cx.tmps[17]? = some (.pointer (some ⟨R3, 0, none⟩)) := (hs 17 (by kernel_rfl)).trans rfl
        have g70 : cx.tmps[70]? = some (.bool true) := by obtain ⟨_, g, hv⟩ := Reg.pred hp 12 70 (by kernel_rfl) rfl rfl; exact g.trans (congrArg some hv)
        have hc := h3.drew.below hB
        have k0 := hc.cell 0 (.int .i64 (shi x)) rfl
        have k1 := hc.cell 1 (.int .u64 (slo x)) rfl
        refine Reg.ok_value Reg.Old.refl (v := sv x) (Reg.wanted_at (j := 12) (d := 70) rfl rfl rfl g70) ?_ rfl
        go_simp
      · intro cx wc hB hp hs
        have g71 : cx.tmps[71]? = some (sv x) := by obtain ⟨_, g, hv⟩ := Reg.pred hp 13 71 (by kernel_rfl) rfl rfl; exact g.trans (congrArg some hv)
        have g70 : cx.tmps[70]? = some (.bool true) := by obtain ⟨_, g, hv⟩ := Reg.pred hp 12 70 (by kernel_rfl) rfl rfl; exact g.trans (congrArg some hv)
        refine Reg.ok_call (f := 12) (args := #[sv x]) (Reg.wanted_at (j := 12) (d := 70) rfl rfl rfl g70) (by go_simp) ((ref_any x (HX.out) wc).mono ?_)
        rintro e w' ⟨rfl, hB2⟩
        exact ⟨_, rfl, hB2, rfl⟩
      · intro cx wc hB hp hs
        have g19 : cx.tmps[19]? = some (.pointer (some ⟨R4, 0, none⟩)) := (hs 19 (by kernel_rfl)).trans rfl
        have g70 : cx.tmps[70]? = some (.bool true) := by obtain ⟨_, g, hv⟩ := Reg.pred hp 12 70 (by kernel_rfl) rfl rfl; exact g.trans (congrArg some hv)
        have hc := h4.drew.below hB
        have k0 := hc.cell 0 (.int .i64 (shi x)) rfl
        have k1 := hc.cell 1 (.int .u64 (slo x)) rfl
        refine Reg.ok_value Reg.Old.refl (v := sv x) (Reg.wanted_at (j := 12) (d := 70) rfl rfl rfl g70) ?_ rfl
        go_simp
      · intro cx wc hB hp hs
        have g72 : cx.tmps[72]? = some (sv x) := by obtain ⟨_, g, hv⟩ := Reg.pred hp 14 72 (by kernel_rfl) rfl rfl; exact g.trans (congrArg some hv)
        have g73 : cx.tmps[73]? = some (sv x) := by obtain ⟨_, g, hv⟩ := Reg.pred hp 15 73 (by kernel_rfl) rfl rfl; exact g.trans (congrArg some hv)
        have g70 : cx.tmps[70]? = some (.bool true) := by obtain ⟨_, g, hv⟩ := Reg.pred hp 12 70 (by kernel_rfl) rfl rfl; exact g.trans (congrArg some hv)
        refine Reg.ok_value Reg.Old.refl (v := .bool true) (Reg.wanted_at (j := 12) (d := 70) rfl rfl rfl g70) ?_ rfl
        go_simp
      · intro cx wc hB hp hs
        have g70 : cx.tmps[70]? = some (.bool true) := by obtain ⟨_, g, hv⟩ := Reg.pred hp 12 70 (by kernel_rfl) rfl rfl; exact g.trans (congrArg some hv)
        have g74 : cx.tmps[74]? = some (.bool true) := by obtain ⟨_, g, hv⟩ := Reg.pred hp 16 74 (by kernel_rfl) rfl rfl; exact g.trans (congrArg some hv)
        refine Reg.ok_value Reg.Old.refl (v := .bool true) (Reg.wanted_none rfl) ?_ rfl
        go_simp
      · intro cx wc hB hp hs
        have g75 : cx.tmps[75]? = some (.bool true) := by obtain ⟨_, g, hv⟩ := Reg.pred hp 17 75 (by kernel_rfl) rfl rfl; exact g.trans (congrArg some hv)
        refine Reg.ok_value Reg.Old.refl (v := .bool true) (Reg.wanted_none rfl) ?_ rfl
        go_simp
      · intro cx wc hB hp hs
        have g18 : cx.tmps[18]? = some (.bool gd) := (hs 18 (by kernel_rfl)).trans rfl
        have g76 : cx.tmps[76]? = some (.bool true) := by obtain ⟨_, g, hv⟩ := Reg.pred hp 18 76 (by kernel_rfl) rfl rfl; exact g.trans (congrArg some hv)
        refine Reg.ok_value Reg.Old.refl (v := .bool gd) (Reg.wanted_at (j := 18) (d := 76) rfl rfl rfl g76) ?_ rfl
        go_simp
      · intro cx wc hB hp hs
        have g20 : cx.tmps[20]? = some (.bool gd) := (hs 20 (by kernel_rfl)).trans rfl
        have g76 : cx.tmps[76]? = some (.bool true) := by obtain ⟨_, g, hv⟩ := Reg.pred hp 18 76 (by kernel_rfl) rfl rfl; exact g.trans (congrArg some hv)
        refine Reg.ok_value Reg.Old.refl (v := .bool gd) (Reg.wanted_at (j := 18) (d := 76) rfl rfl rfl g76) ?_ rfl
        go_simp
      · intro cx wc hB hp hs
        have g77 : cx.tmps[77]? = some (.bool gd) := by obtain ⟨_, g, hv⟩ := Reg.pred hp 19 77 (by kernel_rfl) rfl rfl; exact g.trans (congrArg some hv)
        have g78 : cx.tmps[78]? = some (.bool gd) := by obtain ⟨_, g, hv⟩ := Reg.pred hp 20 78 (by kernel_rfl) rfl rfl; exact g.trans (congrArg some hv)
        have g76 : cx.tmps[76]? = some (.bool true) := by obtain ⟨_, g, hv⟩ := Reg.pred hp 18 76 (by kernel_rfl) rfl rfl; exact g.trans (congrArg some hv)
        refine Reg.ok_value Reg.Old.refl (v := .bool true) (Reg.wanted_at (j := 18) (d := 76) rfl rfl rfl g76) ?_ rfl
        go_simp
      · intro cx wc hB hp hs
        have g76 : cx.tmps[76]? = some (.bool true) := by obtain ⟨_, g, hv⟩ := Reg.pred hp 18 76 (by kernel_rfl) rfl rfl; exact g.trans (congrArg some hv)
        have g79 : cx.tmps[79]? = some (.bool true) := by obtain ⟨_, g, hv⟩ := Reg.pred hp 21 79 (by kernel_rfl) rfl rfl; exact g.trans (congrArg some hv)
        refine Reg.ok_value Reg.Old.refl (v := .bool true) (Reg.wanted_none rfl) ?_ rfl
        go_simp
      · intro cx wc hB hp hs
        have g80 : cx.tmps[80]? = some (.bool true) := by obtain ⟨_, g, hv⟩ := Reg.pred hp 22 80 (by kernel_rfl) rfl rfl; exact g.trans (congrArg some hv)
        refine Reg.ok_value Reg.Old.refl (v := .bool true) (Reg.wanted_none rfl) ?_ rfl
        go_simp
    · intro d wc hB hsz hdf hv ho
      have gr : d.tmps[10]? = some (.bool true) := by obtain ⟨_, g, hv⟩ := hv 23 _ 10 rfl rfl; exact g.trans (congrArg some hv)
      have hF := hE.trans (hB.mono hE.size)
      clear hv ho hB
      go_wp2
      refine bodyPost_ret (v := .bool true) ?_ hdf ⟨rfl, hF⟩
      simp [results, Tryd.results4, go_sem, gr]
end Go.Proofs.YthddnhnhlgnlhaaDoor
