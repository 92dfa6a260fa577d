/- WideMany, walked. -/
import Derived.Test.YthddnhnhlgnlhaaDoorWideE
namespace Go.Proofs.YthddnhnhlgnlhaaDoor
open Go Go.RowKit

def ManyPhi (R b off len cap k : Nat) (z x y : Int) : Nat → Value → World → Prop
  | i, v, _ => v = ([sv z, .slice (some ⟨b, off, none⟩) len cap, .int .i64 k, .pointer (some ⟨b, off + k, none⟩), .int .i32 x, .int .i64 x, sv x, sv y, undef] : List Value).getD i undef
theorem ManyPhi.stays {R b off len cap k : Nat} {z x y : Int} : ∀ i v wx wy, ManyPhi R b off len cap k z x y i v wx → Reg.Old wx wy → ManyPhi R b off len cap k z x y i v wy := fun _ _ _ _ h _ => h
def ManyEndPhi (R : Nat) (z : Int) (t : ByteArray) : Nat → Value → World → Prop
  | i, v, _ => v = ([.bool true, .bool true, sv z, .int .i64 z, sv z, .bool true, .bool true, .bool true, sv z, .string t, .int .i64 z, sv z, .string t, .bool true, .bool true, .bool true] : List Value).getD i undef
theorem ManyEndPhi.stays {R : Nat} {z : Int} {t : ByteArray} : ∀ i v wx wy, ManyEndPhi R z t i v wx → Reg.Old wx wy → ManyEndPhi R z t i v wy := fun _ _ _ _ h _ => h

theorem wf_small {x : Int} (h : (Lit.int .i32 x).wf = true) : -2147483648 ≤ x ∧ x ≤ 2147483647 := by
  simpa [Lit.wf, IntKind.min, IntKind.max, IntKind.signed, IntKind.bits] using h

set_option maxRecDepth 100000 in
set_option maxHeartbeats 8000000 in
theorem many_some (b off len cap : Nat) (zs : List Int) (hlen : len ≤ 9223372036854775807) (h0 : 0 < len) (w : World) (hT : Tens w) (hb : b < w.heap.size)
    (hc : ∀ k, k < len → w.cell? ⟨b, off + k, none⟩ = some (.int .i32 (zs.getD k 0)) ∧ (Lit.int .i32 (zs.getD k 0)).wf = true) :
    Calls Tryd.prog 8 #[.slice (some ⟨b, off, none⟩) len cap] w fun e w' => e = .returned (.bool true) ∧ Below w.heap.size w w' := by
  have HT := Lib.hid hT
  have HC := Lib.hid hc
  clear hT hc
  go_enter Tryd.func8, Tryd.ntmps8
  go_wp2_with fail
  refine (examples_any _ HT.out).mono ?_
  rintro e W ⟨rfl, hE⟩
  go_wp2_with fail
  have hR0 : CellsAt W.heap.size #[.int .i64 (shi 0), .int .u64 (slo 0)] (W.alloc (.cells #[.int .i64 0, .int .u64 0] 24)) := by
    rw [show shi 0 = 0 by decide, show slo 0 = 0 by decide]
    exact CellsAt.new _ _ _
  have hE0 := hE.alloc hE.size (.cells #[.int .i64 0, .int .u64 0] 24)
  have hRw : w.heap.size ≤ W.heap.size := hE.size
  generalize W.heap.size = R at *
  go_loopg [5, 6] (min len 40) (fun g s5 s6 wx => ∃ (k : Nat) (z : Int), k + g = min len 40 ∧ s6 = .int .i64 k ∧ s5 = .int .i64 z ∧ -(k * 2147483648 : Int) ≤ z ∧ z ≤ k * 2147483648 ∧ CellsAt R #[.int .i64 (shi z), .int .u64 (slo z)] wx ∧ Below w.heap.size w wx)
  case atStart => exact ⟨0, 0, by omega, rfl, rfl, by omega, by omega, hR0, hE0⟩
  case round =>
    obtain ⟨k, z, hkg, rfl, rfl, hz1, hz2, hR, hBw⟩ := hrel
    clear hR0 hE0 hE
    have hk40 : k ≤ 40 := by omega
    cases gk with
    | zero =>
      by_cases hl : len ≤ 40
      · have hkl : ¬ ((k : Int) < (len : Int)) := by omega
        clear hkg
        go_wp2_with fail
        obtain ⟨t, ht⟩ : ∃ t, tx (Lib.itoa z) = t := ⟨_, rfl⟩
        have htext : ∀ w, Tens w → Calls Tryd.prog 21 #[sv z] w fun e w' => e = .returned (.string t) ∧ Below w.heap.size w w' := fun w h => by rw [← ht]; exact text_any z (InS.small (by omega) (by omega)) w h
        have hofz := fun w => of_any z (by omega) (by omega) w
        clear ht
        have HTW := Lib.hid (HT.out.below hBw)
        refine Reg.wp_region_inv (n := 51) (ManyEndPhi R z t) (by kernel_rfl) (by kernel_rfl) rfl ManyEndPhi.stays ?_ ?_
        · refine ⟨?_, ?_, ?_, ?_, ?_, ?_, ?_, ?_, ?_, ?_, ?_, ?_, ?_, ?_, ?_, ?_, trivial⟩
          · intro cx wc hB hp hs
            have g3 : cx.tmps[3]? = some (.bool true) := (hs 3 (by kernel_rfl)).trans rfl
            refine Reg.ok_value Reg.Old.refl (v := .bool true) (Reg.wanted_none rfl) ?_ rfl
            go_simp
          · intro cx wc hB hp hs
            have g36 : cx.tmps[36]? = some (.bool true) := by obtain ⟨_, g, hv⟩ := Reg.pred hp 0 36 (by kernel_rfl) rfl rfl; exact g.trans (congrArg some hv)
            refine Reg.ok_value Reg.Old.refl (v := .bool true) (Reg.wanted_none rfl) ?_ rfl
            go_simp
          · intro cx wc hB hp hs
            have g4 : cx.tmps[4]? = some (.pointer (some ⟨R, 0, none⟩)) := (hs 4 (by kernel_rfl)).trans rfl
            have g37 : cx.tmps[37]? = some (.bool true) := by obtain ⟨_, g, hv⟩ := Reg.pred hp 1 37 (by kernel_rfl) rfl rfl; exact g.trans (congrArg some hv)
            have hc := hR.drew.below hB
            have k0 := hc.cell 0 (.int .i64 (shi z)) rfl
            have k1 := hc.cell 1 (.int .u64 (slo z)) rfl
            refine Reg.ok_value Reg.Old.refl (v := sv z) (Reg.wanted_at (j := 1) (d := 37) rfl rfl rfl g37) ?_ rfl
            go_simp
          · intro cx wc hB hp hs
            have g5 : cx.tmps[5]? = some (.int .i64 z) := (hs 5 (by kernel_rfl)).trans rfl
            have g37 : cx.tmps[37]? = some (.bool true) := by obtain ⟨_, g, hv⟩ := Reg.pred hp 1 37 (by kernel_rfl) rfl rfl; exact g.trans (congrArg some hv)
            refine Reg.ok_value Reg.Old.refl (v := .int .i64 z) (Reg.wanted_at (j := 1) (d := 37) rfl rfl rfl g37) ?_ rfl
            go_simp
          · intro cx wc hB hp hs
            have g39 : cx.tmps[39]? = some (.int .i64 z) := by obtain ⟨_, g, hv⟩ := Reg.pred hp 3 39 (by kernel_rfl) rfl rfl; exact g.trans (congrArg some hv)
            have g37 : cx.tmps[37]? = some (.bool true) := by obtain ⟨_, g, hv⟩ := Reg.pred hp 1 37 (by kernel_rfl) rfl rfl; exact g.trans (congrArg some hv)
            refine Reg.ok_call (f := 25) (args := #[.int .i64 z]) (Reg.wanted_at (j := 1) (d := 37) rfl rfl rfl g37) (by go_simp) ((hofz wc).mono ?_)
            rintro e w' ⟨rfl, hB2⟩
            exact ⟨_, rfl, hB2, rfl⟩
          · intro cx wc hB hp hs
            have g38 : cx.tmps[38]? = some (sv z) := by obtain ⟨_, g, hv⟩ := Reg.pred hp 2 38 (by kernel_rfl) rfl rfl; exact g.trans (congrArg some hv)
            have g40 : cx.tmps[40]? = some (sv z) := by obtain ⟨_, g, hv⟩ := Reg.pred hp 4 40 (by kernel_rfl) rfl rfl; exact g.trans (congrArg some hv)
            have g37 : cx.tmps[37]? = some (.bool true) := by obtain ⟨_, g, hv⟩ := Reg.pred hp 1 37 (by kernel_rfl) rfl rfl; exact g.trans (congrArg some hv)
            refine Reg.ok_value Reg.Old.refl (v := .bool true) (Reg.wanted_at (j := 1) (d := 37) rfl rfl rfl g37) ?_ rfl
            go_simp
          · intro cx wc hB hp hs
            have g37 : cx.tmps[37]? = some (.bool true) := by obtain ⟨_, g, hv⟩ := Reg.pred hp 1 37 (by kernel_rfl) rfl rfl; exact g.trans (congrArg some hv)
            have g41 : cx.tmps[41]? = some (.bool true) := by obtain ⟨_, g, hv⟩ := Reg.pred hp 5 41 (by kernel_rfl) rfl rfl; exact g.trans (congrArg some hv)
            refine Reg.ok_value Reg.Old.refl (v := .bool true) (Reg.wanted_none rfl) ?_ rfl
            go_simp
          · intro cx wc hB hp hs
            have g42 : cx.tmps[42]? = some (.bool true) := by obtain ⟨_, g, hv⟩ := Reg.pred hp 6 42 (by kernel_rfl) rfl rfl; exact g.trans (congrArg some hv)
            refine Reg.ok_value Reg.Old.refl (v := .bool true) (Reg.wanted_none rfl) ?_ rfl
            go_simp
          · intro cx wc hB hp hs
            have g4 : cx.tmps[4]? = some (.pointer (some ⟨R, 0, none⟩)) := (hs 4 (by kernel_rfl)).trans rfl
            have g43 : cx.tmps[43]? = some (.bool true) := by obtain ⟨_, g, hv⟩ := Reg.pred hp 7 43 (by kernel_rfl) rfl rfl; exact g.trans (congrArg some hv)
            have hc := hR.drew.below hB
            have k0 := hc.cell 0 (.int .i64 (shi z)) rfl
            have k1 := hc.cell 1 (.int .u64 (slo z)) rfl
            refine Reg.ok_value Reg.Old.refl (v := sv z) (Reg.wanted_at (j := 7) (d := 43) rfl rfl rfl g43) ?_ rfl
            go_simp
          · intro cx wc hB hp hs
            have g44 : cx.tmps[44]? = some (sv z) := by obtain ⟨_, g, hv⟩ := Reg.pred hp 8 44 (by kernel_rfl) rfl rfl; exact g.trans (congrArg some hv)
            have g43 : cx.tmps[43]? = some (.bool true) := by obtain ⟨_, g, hv⟩ := Reg.pred hp 7 43 (by kernel_rfl) rfl rfl; exact g.trans (congrArg some hv)
            refine Reg.ok_call (f := 21) (args := #[sv z]) (Reg.wanted_at (j := 7) (d := 43) rfl rfl rfl g43) (by go_simp) ((htext wc (HTW.out.drew.below hB)).mono ?_)
            rintro e w' ⟨rfl, hB2⟩
            exact ⟨_, rfl, hB2, rfl⟩
          · intro cx wc hB hp hs
            have g5 : cx.tmps[5]? = some (.int .i64 z) := (hs 5 (by kernel_rfl)).trans rfl
            have g43 : cx.tmps[43]? = some (.bool true) := by obtain ⟨_, g, hv⟩ := Reg.pred hp 7 43 (by kernel_rfl) rfl rfl; exact g.trans (congrArg some hv)
            refine Reg.ok_value Reg.Old.refl (v := .int .i64 z) (Reg.wanted_at (j := 7) (d := 43) rfl rfl rfl g43) ?_ rfl
            go_simp
          · intro cx wc hB hp hs
            have g46 : cx.tmps[46]? = some (.int .i64 z) := by obtain ⟨_, g, hv⟩ := Reg.pred hp 10 46 (by kernel_rfl) rfl rfl; exact g.trans (congrArg some hv)
            have g43 : cx.tmps[43]? = some (.bool true) := by obtain ⟨_, g, hv⟩ := Reg.pred hp 7 43 (by kernel_rfl) rfl rfl; exact g.trans (congrArg some hv)
            refine Reg.ok_call (f := 25) (args := #[.int .i64 z]) (Reg.wanted_at (j := 7) (d := 43) rfl rfl rfl g43) (by go_simp) ((hofz wc).mono ?_)
            rintro e w' ⟨rfl, hB2⟩
            exact ⟨_, rfl, hB2, rfl⟩
          · intro cx wc hB hp hs
            have g47 : cx.tmps[47]? = some (sv z) := by obtain ⟨_, g, hv⟩ := Reg.pred hp 11 47 (by kernel_rfl) rfl rfl; exact g.trans (congrArg some hv)
            have g43 : cx.tmps[43]? = some (.bool true) := by obtain ⟨_, g, hv⟩ := Reg.pred hp 7 43 (by kernel_rfl) rfl rfl; exact g.trans (congrArg some hv)
            refine Reg.ok_call (f := 21) (args := #[sv z]) (Reg.wanted_at (j := 7) (d := 43) rfl rfl rfl g43) (by go_simp) ((htext wc (HTW.out.drew.below hB)).mono ?_)
            rintro e w' ⟨rfl, hB2⟩
            exact ⟨_, rfl, hB2, rfl⟩
          · intro cx wc hB hp hs
            have g45 : cx.tmps[45]? = some (.string t) := by obtain ⟨_, g, hv⟩ := Reg.pred hp 9 45 (by kernel_rfl) rfl rfl; exact g.trans (congrArg some hv)
            have g48 : cx.tmps[48]? = some (.string t) := by obtain ⟨_, g, hv⟩ := Reg.pred hp 12 48 (by kernel_rfl) rfl rfl; exact g.trans (congrArg some hv)
            have g43 : cx.tmps[43]? = some (.bool true) := by obtain ⟨_, g, hv⟩ := Reg.pred hp 7 43 (by kernel_rfl) rfl rfl; exact g.trans (congrArg some hv)
            refine Reg.ok_value Reg.Old.refl (v := .bool true) (Reg.wanted_at (j := 7) (d := 43) rfl rfl rfl g43) ?_ rfl
            go_simp
          · intro cx wc hB hp hs
            have g43 : cx.tmps[43]? = some (.bool true) := by obtain ⟨_, g, hv⟩ := Reg.pred hp 7 43 (by kernel_rfl) rfl rfl; exact g.trans (congrArg some hv)
            have g49 : cx.tmps[49]? = some (.bool true) := by obtain ⟨_, g, hv⟩ := Reg.pred hp 13 49 (by kernel_rfl) rfl rfl; exact g.trans (congrArg some hv)
            refine Reg.ok_value Reg.Old.refl (v := .bool true) (Reg.wanted_none rfl) ?_ rfl
            go_simp
          · intro cx wc hB hp hs
            have g50 : cx.tmps[50]? = some (.bool true) := by obtain ⟨_, g, hv⟩ := Reg.pred hp 14 50 (by kernel_rfl) rfl rfl; exact g.trans (congrArg some hv)
            refine Reg.ok_value Reg.Old.refl (v := .bool true) (Reg.wanted_none rfl) ?_ rfl
            go_simp
        · intro d wc hB hsz hdf hv ho
          have gr : d.tmps[2]? = some (.bool true) := by obtain ⟨_, g, hv⟩ := hv 15 _ 2 rfl rfl; exact g.trans (congrArg some hv)
          have hF := hBw.trans (hB.mono hBw.size)
          clear hv ho hB
          go_wp2
          refine bodyPost_ret (v := .bool true) ?_ hdf ⟨rfl, hF⟩
          simp [results, Tryd.results8, go_sem, gr]

      · have hkl : (k : Int) < (len : Int) := by omega
        have hk4 : ¬ ((k : Int) < 40) := by omega
        clear hkg
        go_wp2_with fail
        obtain ⟨t, ht⟩ : ∃ t, tx (Lib.itoa z) = t := ⟨_, rfl⟩
        have htext : ∀ w, Tens w → Calls Tryd.prog 21 #[sv z] w fun e w' => e = .returned (.string t) ∧ Below w.heap.size w w' := fun w h => by rw [← ht]; exact text_any z (InS.small (by omega) (by omega)) w h
        have hofz := fun w => of_any z (by omega) (by omega) w
        clear ht
        have HTW := Lib.hid (HT.out.below hBw)
        refine Reg.wp_region_inv (n := 51) (ManyEndPhi R z t) (by kernel_rfl) (by kernel_rfl) rfl ManyEndPhi.stays ?_ ?_
        · refine ⟨?_, ?_, ?_, ?_, ?_, ?_, ?_, ?_, ?_, ?_, ?_, ?_, ?_, ?_, ?_, ?_, trivial⟩
          · intro cx wc hB hp hs
            have g3 : cx.tmps[3]? = some (.bool true) := (hs 3 (by kernel_rfl)).trans rfl
            refine Reg.ok_value Reg.Old.refl (v := .bool true) (Reg.wanted_none rfl) ?_ rfl
            go_simp
          · intro cx wc hB hp hs
            have g36 : cx.tmps[36]? = some (.bool true) := by obtain ⟨_, g, hv⟩ := Reg.pred hp 0 36 (by kernel_rfl) rfl rfl; exact g.trans (congrArg some hv)
            refine Reg.ok_value Reg.Old.refl (v := .bool true) (Reg.wanted_none rfl) ?_ rfl
            go_simp
          · intro cx wc hB hp hs
            have g4 : cx.tmps[4]? = some (.pointer (some ⟨R, 0, none⟩)) := (hs 4 (by kernel_rfl)).trans rfl
            have g37 : cx.tmps[37]? = some (.bool true) := by obtain ⟨_, g, hv⟩ := Reg.pred hp 1 37 (by kernel_rfl) rfl rfl; exact g.trans (congrArg some hv)
            have hc := hR.drew.below hB
            have k0 := hc.cell 0 (.int .i64 (shi z)) rfl
            have k1 := hc.cell 1 (.int .u64 (slo z)) rfl
            refine Reg.ok_value Reg.Old.refl (v := sv z) (Reg.wanted_at (j := 1) (d := 37) rfl rfl rfl g37) ?_ rfl
            go_simp
          · intro cx wc hB hp hs
            have g5 : cx.tmps[5]? = some (.int .i64 z) := (hs 5 (by kernel_rfl)).trans rfl
            have g37 : cx.tmps[37]? = some (.bool true) := by obtain ⟨_, g, hv⟩ := Reg.pred hp 1 37 (by kernel_rfl) rfl rfl; exact g.trans (congrArg some hv)
            refine Reg.ok_value Reg.Old.refl (v := .int .i64 z) (Reg.wanted_at (j := 1) (d := 37) rfl rfl rfl g37) ?_ rfl
            go_simp
          · intro cx wc hB hp hs
            have g39 : cx.tmps[39]? = some (.int .i64 z) := by obtain ⟨_, g, hv⟩ := Reg.pred hp 3 39 (by kernel_rfl) rfl rfl; exact g.trans (congrArg some hv)
            have g37 : cx.tmps[37]? = some (.bool true) := by obtain ⟨_, g, hv⟩ := Reg.pred hp 1 37 (by kernel_rfl) rfl rfl; exact g.trans (congrArg some hv)
            refine Reg.ok_call (f := 25) (args := #[.int .i64 z]) (Reg.wanted_at (j := 1) (d := 37) rfl rfl rfl g37) (by go_simp) ((hofz wc).mono ?_)
            rintro e w' ⟨rfl, hB2⟩
            exact ⟨_, rfl, hB2, rfl⟩
          · intro cx wc hB hp hs
            have g38 : cx.tmps[38]? = some (sv z) := by obtain ⟨_, g, hv⟩ := Reg.pred hp 2 38 (by kernel_rfl) rfl rfl; exact g.trans (congrArg some hv)
            have g40 : cx.tmps[40]? = some (sv z) := by obtain ⟨_, g, hv⟩ := Reg.pred hp 4 40 (by kernel_rfl) rfl rfl; exact g.trans (congrArg some hv)
            have g37 : cx.tmps[37]? = some (.bool true) := by obtain ⟨_, g, hv⟩ := Reg.pred hp 1 37 (by kernel_rfl) rfl rfl; exact g.trans (congrArg some hv)
            refine Reg.ok_value Reg.Old.refl (v := .bool true) (Reg.wanted_at (j := 1) (d := 37) rfl rfl rfl g37) ?_ rfl
            go_simp
          · intro cx wc hB hp hs
            have g37 : cx.tmps[37]? = some (.bool true) := by obtain ⟨_, g, hv⟩ := Reg.pred hp 1 37 (by kernel_rfl) rfl rfl; exact g.trans (congrArg some hv)
            have g41 : cx.tmps[41]? = some (.bool true) := by obtain ⟨_, g, hv⟩ := Reg.pred hp 5 41 (by kernel_rfl) rfl rfl; exact g.trans (congrArg some hv)
            refine Reg.ok_value Reg.Old.refl (v := .bool true) (Reg.wanted_none rfl) ?_ rfl
            go_simp
          · intro cx wc hB hp hs
            have g42 : cx.tmps[42]? = some (.bool true) := by obtain ⟨_, g, hv⟩ := Reg.pred hp 6 42 (by kernel_rfl) rfl rfl; exact g.trans (congrArg some hv)
            refine Reg.ok_value Reg.Old.refl (v := .bool true) (Reg.wanted_none rfl) ?_ rfl
            go_simp
          · intro cx wc hB hp hs
            have g4 : cx.tmps[4]? = some (.pointer (some ⟨R, 0, none⟩)) := (hs 4 (by kernel_rfl)).trans rfl
            have g43 : cx.tmps[43]? = some (.bool true) := by obtain ⟨_, g, hv⟩ := Reg.pred hp 7 43 (by kernel_rfl) rfl rfl; exact g.trans (congrArg some hv)
            have hc := hR.drew.below hB
            have k0 := hc.cell 0 (.int .i64 (shi z)) rfl
            have k1 := hc.cell 1 (.int .u64 (slo z)) rfl
            refine Reg.ok_value Reg.Old.refl (v := sv z) (Reg.wanted_at (j := 7) (d := 43) rfl rfl rfl g43) ?_ rfl
            go_simp
          · intro cx wc hB hp hs
            have g44 : cx.tmps[44]? = some (sv z) := by obtain ⟨_, g, hv⟩ := Reg.pred hp 8 44 (by kernel_rfl) rfl rfl; exact g.trans (congrArg some hv)
            have g43 : cx.tmps[43]? = some (.bool true) := by obtain ⟨_, g, hv⟩ := Reg.pred hp 7 43 (by kernel_rfl) rfl rfl; exact g.trans (congrArg some hv)
            refine Reg.ok_call (f := 21) (args := #[sv z]) (Reg.wanted_at (j := 7) (d := 43) rfl rfl rfl g43) (by go_simp) ((htext wc (HTW.out.drew.below hB)).mono ?_)
            rintro e w' ⟨rfl, hB2⟩
            exact ⟨_, rfl, hB2, rfl⟩
          · intro cx wc hB hp hs
            have g5 : cx.tmps[5]? = some (.int .i64 z) := (hs 5 (by kernel_rfl)).trans rfl
            have g43 : cx.tmps[43]? = some (.bool true) := by obtain ⟨_, g, hv⟩ := Reg.pred hp 7 43 (by kernel_rfl) rfl rfl; exact g.trans (congrArg some hv)
            refine Reg.ok_value Reg.Old.refl (v := .int .i64 z) (Reg.wanted_at (j := 7) (d := 43) rfl rfl rfl g43) ?_ rfl
            go_simp
          · intro cx wc hB hp hs
            have g46 : cx.tmps[46]? = some (.int .i64 z) := by obtain ⟨_, g, hv⟩ := Reg.pred hp 10 46 (by kernel_rfl) rfl rfl; exact g.trans (congrArg some hv)
            have g43 : cx.tmps[43]? = some (.bool true) := by obtain ⟨_, g, hv⟩ := Reg.pred hp 7 43 (by kernel_rfl) rfl rfl; exact g.trans (congrArg some hv)
            refine Reg.ok_call (f := 25) (args := #[.int .i64 z]) (Reg.wanted_at (j := 7) (d := 43) rfl rfl rfl g43) (by go_simp) ((hofz wc).mono ?_)
            rintro e w' ⟨rfl, hB2⟩
            exact ⟨_, rfl, hB2, rfl⟩
          · intro cx wc hB hp hs
            have g47 : cx.tmps[47]? = some (sv z) := by obtain ⟨_, g, hv⟩ := Reg.pred hp 11 47 (by kernel_rfl) rfl rfl; exact g.trans (congrArg some hv)
            have g43 : cx.tmps[43]? = some (.bool true) := by obtain ⟨_, g, hv⟩ := Reg.pred hp 7 43 (by kernel_rfl) rfl rfl; exact g.trans (congrArg some hv)
            refine Reg.ok_call (f := 21) (args := #[sv z]) (Reg.wanted_at (j := 7) (d := 43) rfl rfl rfl g43) (by go_simp) ((htext wc (HTW.out.drew.below hB)).mono ?_)
            rintro e w' ⟨rfl, hB2⟩
            exact ⟨_, rfl, hB2, rfl⟩
          · intro cx wc hB hp hs
            have g45 : cx.tmps[45]? = some (.string t) := by obtain ⟨_, g, hv⟩ := Reg.pred hp 9 45 (by kernel_rfl) rfl rfl; exact g.trans (congrArg some hv)
            have g48 : cx.tmps[48]? = some (.string t) := by obtain ⟨_, g, hv⟩ := Reg.pred hp 12 48 (by kernel_rfl) rfl rfl; exact g.trans (congrArg some hv)
            have g43 : cx.tmps[43]? = some (.bool true) := by obtain ⟨_, g, hv⟩ := Reg.pred hp 7 43 (by kernel_rfl) rfl rfl; exact g.trans (congrArg some hv)
            refine Reg.ok_value Reg.Old.refl (v := .bool true) (Reg.wanted_at (j := 7) (d := 43) rfl rfl rfl g43) ?_ rfl
            go_simp
          · intro cx wc hB hp hs
            have g43 : cx.tmps[43]? = some (.bool true) := by obtain ⟨_, g, hv⟩ := Reg.pred hp 7 43 (by kernel_rfl) rfl rfl; exact g.trans (congrArg some hv)
            have g49 : cx.tmps[49]? = some (.bool true) := by obtain ⟨_, g, hv⟩ := Reg.pred hp 13 49 (by kernel_rfl) rfl rfl; exact g.trans (congrArg some hv)
            refine Reg.ok_value Reg.Old.refl (v := .bool true) (Reg.wanted_none rfl) ?_ rfl
            go_simp
          · intro cx wc hB hp hs
            have g50 : cx.tmps[50]? = some (.bool true) := by obtain ⟨_, g, hv⟩ := Reg.pred hp 14 50 (by kernel_rfl) rfl rfl; exact g.trans (congrArg some hv)
            refine Reg.ok_value Reg.Old.refl (v := .bool true) (Reg.wanted_none rfl) ?_ rfl
            go_simp
        · intro d wc hB hsz hdf hv ho
          have gr : d.tmps[2]? = some (.bool true) := by obtain ⟨_, g, hv⟩ := hv 15 _ 2 rfl rfl; exact g.trans (congrArg some hv)
          have hF := hBw.trans (hB.mono hBw.size)
          clear hv ho hB
          go_wp2
          refine bodyPost_ret (v := .bool true) ?_ hdf ⟨rfl, hF⟩
          simp [results, Tryd.results8, go_sem, gr]

    | succ g =>
      have hkl : (k : Int) < (len : Int) := by omega
      have hk4 : (k : Int) < 40 := by omega
      have hkn : k < len := by omega
      obtain ⟨hcell0, hwf⟩ := HC.out k hkn
      obtain ⟨x, hx⟩ : ∃ x, zs.getD k 0 = x := ⟨_, rfl⟩
      rw [hx] at hcell0 hwf
      obtain ⟨x1, x2⟩ := wf_small hwf
      have hcell1 : wr.cell? ⟨b, off + k, none⟩ = some (.int .i32 x) := (hBw.cell (p := ⟨b, off + k, none⟩) hb).trans hcell0
      have hbk : b < wr.heap.size := Nat.lt_of_lt_of_le hb hBw.size
      have hcell : wr.drew.cell? ⟨b, off + k, none⟩ = some (.int .i32 x) := hcell1
      obtain ⟨y, hy⟩ : ∃ y, z + x = y := ⟨_, rfl⟩
      have hyb : -9223372036854775808 ≤ y ∧ y ≤ 9223372036854775807 := by omega
      have hof := fun w => of_any x (by omega) (by omega) w
      have hadd := fun w => add_any z x (InS.small (by omega) (by omega)) (InS.small (by omega) (by omega)) w
      rw [hy, w128_of (InS.small hyb.1 hyb.2)] at hadd
      clear hx hwf hcell0
      go_wp2_with fail
      refine Reg.wp_region_last (n := 51) 8 (ManyPhi R b off len cap k z x y) (by kernel_rfl) rfl (by kernel_rfl) (by kernel_rfl) rfl ManyPhi.stays ?_ ?_
      · refine ⟨?_, ?_, ?_, ?_, ?_, ?_, ?_, ?_, ?_, trivial⟩
        · intro _ cx wc hB hp hs
          have g4 : cx.tmps[4]? = some (.pointer (some ⟨R, 0, none⟩)) := (hs 4 (by kernel_rfl)).trans rfl
          have hc := hR.drew.below hB
          have k0 := hc.cell 0 (.int .i64 (shi z)) rfl
          have k1 := hc.cell 1 (.int .u64 (slo z)) rfl
          refine Reg.ok_value Reg.Old.refl (v := sv z) (Reg.wanted_none rfl) ?_ rfl
          go_simp
        · intro _ cx wc hB hp hs
          have g0 : cx.tmps[0]? = some (.slice (some ⟨b, off, none⟩) len cap) := (hs 0 (by kernel_rfl)).trans rfl
          refine Reg.ok_value Reg.Old.refl (v := .slice (some ⟨b, off, none⟩) len cap) (Reg.wanted_none rfl) ?_ rfl
          go_simp
        · intro _ cx wc hB hp hs
          have g6 : cx.tmps[6]? = some (.int .i64 k) := (hs 6 (by kernel_rfl)).trans rfl
          refine Reg.ok_value Reg.Old.refl (v := .int .i64 k) (Reg.wanted_none rfl) ?_ rfl
          go_simp
        · intro _ cx wc hB hp hs
          have g22 : cx.tmps[22]? = some (.slice (some ⟨b, off, none⟩) len cap) := by obtain ⟨_, g, hv⟩ := Reg.pred hp 1 22 (by kernel_rfl) rfl rfl; exact g.trans (congrArg some hv)
          have g23 : cx.tmps[23]? = some (.int .i64 k) := by obtain ⟨_, g, hv⟩ := Reg.pred hp 2 23 (by kernel_rfl) rfl rfl; exact g.trans (congrArg some hv)
          have i0 : (0 : Int) ≤ (k : Int) := by omega
          have i1 : (k : Int) < (len : Int) := by omega
          refine Reg.ok_value Reg.Old.refl (v := .pointer (some ⟨b, off + k, none⟩)) (Reg.wanted_none rfl) ?_ rfl
          go_simp
        · intro _ cx wc hB hp hs
          have g24 : cx.tmps[24]? = some (.pointer (some ⟨b, off + k, none⟩)) := by obtain ⟨_, g, hv⟩ := Reg.pred hp 3 24 (by kernel_rfl) rfl rfl; exact g.trans (congrArg some hv)
          have kx : wc.cell? ⟨b, off + k, none⟩ = some (.int .i32 x) := (Below.cell (p := ⟨b, off + k, none⟩) hB hbk).trans hcell
          refine Reg.ok_value Reg.Old.refl (v := .int .i32 x) (Reg.wanted_none rfl) ?_ rfl
          go_simp
        · intro _ cx wc hB hp hs
          have g25 : cx.tmps[25]? = some (.int .i32 x) := by obtain ⟨_, g, hv⟩ := Reg.pred hp 4 25 (by kernel_rfl) rfl rfl; exact g.trans (congrArg some hv)
          refine Reg.ok_value Reg.Old.refl (v := .int .i64 x) (Reg.wanted_none rfl) ?_ rfl
          go_simp
          rw [wrap_i64_eq]
          unfold wrap64
          omega
        · intro _ cx wc hB hp hs
          have g26 : cx.tmps[26]? = some (.int .i64 x) := by obtain ⟨_, g, hv⟩ := Reg.pred hp 5 26 (by kernel_rfl) rfl rfl; exact g.trans (congrArg some hv)
          refine Reg.ok_call (f := 25) (args := #[.int .i64 x]) (Reg.wanted_none rfl) (by go_simp) ((hof wc).mono ?_)
          rintro e w' ⟨rfl, hB2⟩
          exact ⟨_, rfl, hB2, rfl⟩
        · intro _ cx wc hB hp hs
          have g21 : cx.tmps[21]? = some (sv z) := by obtain ⟨_, g, hv⟩ := Reg.pred hp 0 21 (by kernel_rfl) rfl rfl; exact g.trans (congrArg some hv)
          have g27 : cx.tmps[27]? = some (sv x) := by obtain ⟨_, g, hv⟩ := Reg.pred hp 6 27 (by kernel_rfl) rfl rfl; exact g.trans (congrArg some hv)
          refine Reg.ok_call (f := 13) (args := #[sv z, sv x]) (Reg.wanted_none rfl) (by go_simp) ((hadd wc).mono ?_)
          rintro e w' ⟨rfl, hB2⟩
          exact ⟨_, rfl, hB2, rfl⟩
        · exact fun h => absurd rfl h
      · intro c wc hB hsz hdf hv ho
        have hfr := Reg.frame_eq [_, _, _, _, _, _, _, _, _, _, _, _, _, _, _, _, _, _, _, _, _, sv z, .slice (some ⟨b, off, none⟩) len cap, .int .i64 k, .pointer (some ⟨b, off + k, none⟩), .int .i32 x, .int .i64 x, sv x, sv y, _, _, _, _, _, _, _, _, _, _, _, _, _, _, _, _, _, _, _, _, _, _] (by simpa using hsz) hdf ⟨((Reg.kept_but ho 0 (by kernel_rfl)).trans rfl), ((Reg.kept_but ho 1 (by kernel_rfl)).trans rfl), ((Reg.kept_but ho 2 (by kernel_rfl)).trans rfl), ((Reg.kept_but ho 3 (by kernel_rfl)).trans rfl), ((Reg.kept_but ho 4 (by kernel_rfl)).trans rfl), ((Reg.kept_but ho 5 (by kernel_rfl)).trans rfl), ((Reg.kept_but ho 6 (by kernel_rfl)).trans rfl), ((Reg.kept_but ho 7 (by kernel_rfl)).trans rfl), ((Reg.kept_but ho 8 (by kernel_rfl)).trans rfl), ((Reg.kept_but ho 9 (by kernel_rfl)).trans rfl), ((Reg.kept_but ho 10 (by kernel_rfl)).trans rfl), ((Reg.kept_but ho 11 (by kernel_rfl)).trans rfl), ((Reg.kept_but ho 12 (by kernel_rfl)).trans rfl), ((Reg.kept_but ho 13 (by kernel_rfl)).trans rfl), ((Reg.kept_but ho 14 (by kernel_rfl)).trans rfl), ((Reg.kept_but ho 15 (by kernel_rfl)).trans rfl), ((Reg.kept_but ho 16 (by kernel_rfl)).trans rfl), ((Reg.kept_but ho 17 (by kernel_rfl)).trans rfl), ((Reg.kept_but ho 18 (by kernel_rfl)).trans rfl), ((Reg.kept_but ho 19 (by kernel_rfl)).trans rfl), ((Reg.kept_but ho 20 (by kernel_rfl)).trans rfl), (by obtain ⟨_, g, hx⟩ := hv 0 _ 21 (by decide) rfl rfl; exact g.trans (congrArg some hx)), (by obtain ⟨_, g, hx⟩ := hv 1 _ 22 (by decide) rfl rfl; exact g.trans (congrArg some hx)), (by obtain ⟨_, g, hx⟩ := hv 2 _ 23 (by decide) rfl rfl; exact g.trans (congrArg some hx)), (by obtain ⟨_, g, hx⟩ := hv 3 _ 24 (by decide) rfl rfl; exact g.trans (congrArg some hx)), (by obtain ⟨_, g, hx⟩ := hv 4 _ 25 (by decide) rfl rfl; exact g.trans (congrArg some hx)), (by obtain ⟨_, g, hx⟩ := hv 5 _ 26 (by decide) rfl rfl; exact g.trans (congrArg some hx)), (by obtain ⟨_, g, hx⟩ := hv 6 _ 27 (by decide) rfl rfl; exact g.trans (congrArg some hx)), (by obtain ⟨_, g, hx⟩ := hv 7 _ 28 (by decide) rfl rfl; exact g.trans (congrArg some hx)), ((Reg.kept_but ho 29 (by kernel_rfl)).trans rfl), ((Reg.kept_but ho 30 (by kernel_rfl)).trans rfl), ((Reg.kept_but ho 31 (by kernel_rfl)).trans rfl), ((Reg.kept_but ho 32 (by kernel_rfl)).trans rfl), ((Reg.kept_but ho 33 (by kernel_rfl)).trans rfl), ((Reg.kept_but ho 34 (by kernel_rfl)).trans rfl), ((Reg.kept_but ho 35 (by kernel_rfl)).trans rfl), ((Reg.kept_but ho 36 (by kernel_rfl)).trans rfl), ((Reg.kept_but ho 37 (by kernel_rfl)).trans rfl), ((Reg.kept_but ho 38 (by kernel_rfl)).trans rfl), ((Reg.kept_but ho 39 (by kernel_rfl)).trans rfl), ((Reg.kept_but ho 40 (by kernel_rfl)).trans rfl), ((Reg.kept_but ho 41 (by kernel_rfl)).trans rfl), ((Reg.kept_but ho 42 (by kernel_rfl)).trans rfl), ((Reg.kept_but ho 43 (by kernel_rfl)).trans rfl), ((Reg.kept_but ho 44 (by kernel_rfl)).trans rfl), ((Reg.kept_but ho 45 (by kernel_rfl)).trans rfl), ((Reg.kept_but ho 46 (by kernel_rfl)).trans rfl), ((Reg.kept_but ho 47 (by kernel_rfl)).trans rfl), ((Reg.kept_but ho 48 (by kernel_rfl)).trans rfl), ((Reg.kept_but ho 49 (by kernel_rfl)).trans rfl), ((Reg.kept_but ho 50 (by kernel_rfl)).trans rfl), trivial⟩
        subst hfr
        have hR2 := hR.drew.below hB
        have hBw2 := hBw.drew.trans (Below.mono hB hBw.drew.size)
        have kx : wc.cell? ⟨b, off + k, none⟩ = some (.int .i32 x) := (Below.cell (p := ⟨b, off + k, none⟩) hB hbk).trans hcell
        have k0 := hR2.cell 0 (.int .i64 (shi z)) rfl
        have k1 := hR2.cell 1 (.int .u64 (slo z)) rfl
        have f0 := hR2.fro 0 (.int .i64 (shi z)) rfl
        have f1 := hR2.fro 1 (.int .u64 (slo z)) rfl
        refine Reg.store_then (w2 := (wc.setCell ⟨R, 0, none⟩ (.int .i64 (shi y))).setCell ⟨R, 1, none⟩ (.int .u64 (slo y))) ?_ rfl ?_
        · go_simp
        have hne : b ≠ R := by omega
        have kx2 : ((wc.setCell ⟨R, 0, none⟩ (.int .i64 (shi y))).setCell ⟨R, 1, none⟩ (.int .u64 (slo y))).cell? ⟨b, off + k, none⟩ = some (.int .i32 x) := by
          rw [World.cell?_setCell_other (h := by intro e; exact hne (congrArg Addr.block e).symm), World.cell?_setCell_other (h := by intro e; exact hne (congrArg Addr.block e).symm)]; exact kx
        have hR3 : CellsAt R #[.int .i64 (shi y), .int .u64 (slo y)] ((wc.setCell ⟨R, 0, none⟩ (.int .i64 (shi y))).setCell ⟨R, 1, none⟩ (.int .u64 (slo y))) := (hR2.set 0 (.int .i64 (shi y)) (by simp)).set 1 (.int .u64 (slo y)) (by simp)
        have hBw3 : Below w.heap.size w ((wc.setCell ⟨R, 0, none⟩ (.int .i64 (shi y))).setCell ⟨R, 1, none⟩ (.int .u64 (slo y))) := (hBw2.setCell hRw _).setCell hRw _
        clear k0 k1 f0 f1 kx hv ho hB hcell hcell1
        generalize (wc.setCell ⟨R, 0, none⟩ (.int .i64 (shi y))).setCell ⟨R, 1, none⟩ (.int .u64 (slo y)) = wd at *
        go_wp2
        go_roundg g
        case measure => omega
        case rel => exact ⟨k + 1, y, by omega, by go_num, rfl, by omega, by omega, hR3, hBw3⟩

set_option maxRecDepth 100000 in
set_option maxHeartbeats 4000000 in
theorem many_none (p : Option Addr) (cap : Nat) (w : World) (hT : Tens w) :
    Calls Tryd.prog 8 #[.slice p 0 cap] w fun e w' => e = .returned (.bool true) ∧ Below w.heap.size w w' := by
  have HT := Lib.hid hT
  clear hT
  go_enter Tryd.func8, Tryd.ntmps8
  go_wp2_with fail
  refine (examples_any _ HT.out).mono ?_
  rintro e W ⟨rfl, hE⟩
  go_wp2_with fail
  have hR : CellsAt W.heap.size #[.int .i64 (shi 0), .int .u64 (slo 0)] (W.alloc (.cells #[.int .i64 0, .int .u64 0] 24)) := by
    rw [show shi 0 = 0 by decide, show slo 0 = 0 by decide]
    exact CellsAt.new _ _ _
  have hBw := hE.alloc hE.size (.cells #[.int .i64 0, .int .u64 0] 24)
  generalize W.heap.size = R at *
  go_loopg [5, 6] 0 (fun g s5 s6 wx => s6 = .int .i64 ((0 : Nat) : Int) ∧ s5 = .int .i64 0 ∧ CellsAt R #[.int .i64 (shi 0), .int .u64 (slo 0)] wx ∧ Below w.heap.size w wx)
  case atStart => exact ⟨rfl, rfl, hR, hBw⟩
  case round =>
    obtain ⟨rfl, rfl, hR, hBw⟩ := hrel
    have hz1 : (-9223372036854775808 : Int) ≤ 0 := by decide
    have hz2 : (0 : Int) ≤ 9223372036854775807 := by decide
    have e0 : sv 0 = .agg #[.int .i64 (shi 0), .int .u64 (slo 0)] := rfl
    go_wp2_with fail
    obtain ⟨t, ht⟩ : ∃ t, tx (Lib.itoa 0) = t := ⟨_, rfl⟩
    have htext : ∀ w, Tens w → Calls Tryd.prog 21 #[sv 0] w fun e w' => e = .returned (.string t) ∧ Below w.heap.size w w' := fun w h => by rw [← ht]; exact text_any 0 (InS.small (by omega) (by omega)) w h
    have hofz := fun w => of_any 0 (by omega) (by omega) w
    clear ht
    have HTW := Lib.hid (HT.out.below hBw)
    refine Reg.wp_region_inv (n := 51) (ManyEndPhi R 0 t) (by kernel_rfl) (by kernel_rfl) rfl ManyEndPhi.stays ?_ ?_
    · refine ⟨?_, ?_, ?_, ?_, ?_, ?_, ?_, ?_, ?_, ?_, ?_, ?_, ?_, ?_, ?_, ?_, trivial⟩
      · intro cx wc hB hp hs
        have g3 : cx.tmps[3]? = some (.bool true) := (hs 3 (by kernel_rfl)).trans rfl
        refine Reg.ok_value Reg.Old.refl (v := .bool true) (Reg.wanted_none rfl) ?_ rfl
        go_simp
      · intro cx wc hB hp hs
        have g36 : cx.tmps[36]? = some (.bool true) := by obtain ⟨_, g, hv⟩ := Reg.pred hp 0 36 (by kernel_rfl) rfl rfl; exact g.trans (congrArg some hv)
        refine Reg.ok_value Reg.Old.refl (v := .bool true) (Reg.wanted_none rfl) ?_ rfl
        go_simp
      · intro cx wc hB hp hs
        have g4 : cx.tmps[4]? = some (.pointer (some ⟨R, 0, none⟩)) := (hs 4 (by kernel_rfl)).trans rfl
        have g37 : cx.tmps[37]? = some (.bool true) := by obtain ⟨_, g, hv⟩ := Reg.pred hp 1 37 (by kernel_rfl) rfl rfl; exact g.trans (congrArg some hv)
        have hc := hR.drew.below hB
        have k0 := hc.cell 0 (.int .i64 (shi 0)) rfl
        have k1 := hc.cell 1 (.int .u64 (slo 0)) rfl
        refine Reg.ok_value Reg.Old.refl (v := sv 0) (Reg.wanted_at (j := 1) (d := 37) rfl rfl rfl g37) ?_ rfl
        go_simp
      · intro cx wc hB hp hs
        have g5 : cx.tmps[5]? = some (.int .i64 0) := (hs 5 (by kernel_rfl)).trans rfl
        have g37 : cx.tmps[37]? = some (.bool true) := by obtain ⟨_, g, hv⟩ := Reg.pred hp 1 37 (by kernel_rfl) rfl rfl; exact g.trans (congrArg some hv)
        refine Reg.ok_value Reg.Old.refl (v := .int .i64 0) (Reg.wanted_at (j := 1) (d := 37) rfl rfl rfl g37) ?_ rfl
        go_simp
      · intro cx wc hB hp hs
        have g39 : cx.tmps[39]? = some (.int .i64 0) := by obtain ⟨_, g, hv⟩ := Reg.pred hp 3 39 (by kernel_rfl) rfl rfl; exact g.trans (congrArg some hv)
        have g37 : cx.tmps[37]? = some (.bool true) := by obtain ⟨_, g, hv⟩ := Reg.pred hp 1 37 (by kernel_rfl) rfl rfl; exact g.trans (congrArg some hv)
        refine Reg.ok_call (f := 25) (args := #[.int .i64 0]) (Reg.wanted_at (j := 1) (d := 37) rfl rfl rfl g37) (by go_simp) ((hofz wc).mono ?_)
        rintro e w' ⟨rfl, hB2⟩
        exact ⟨_, rfl, hB2, rfl⟩
      · intro cx wc hB hp hs
        have g38 : cx.tmps[38]? = some (sv 0) := by obtain ⟨_, g, hv⟩ := Reg.pred hp 2 38 (by kernel_rfl) rfl rfl; exact g.trans (congrArg some hv)
        have g40 : cx.tmps[40]? = some (sv 0) := by obtain ⟨_, g, hv⟩ := Reg.pred hp 4 40 (by kernel_rfl) rfl rfl; exact g.trans (congrArg some hv)
        have g37 : cx.tmps[37]? = some (.bool true) := by obtain ⟨_, g, hv⟩ := Reg.pred hp 1 37 (by kernel_rfl) rfl rfl; exact g.trans (congrArg some hv)
        refine Reg.ok_value Reg.Old.refl (v := .bool true) (Reg.wanted_at (j := 1) (d := 37) rfl rfl rfl g37) ?_ rfl
        go_simp
      · intro cx wc hB hp hs
        have g37 : cx.tmps[37]? = some (.bool true) := by obtain ⟨_, g, hv⟩ := Reg.pred hp 1 37 (by kernel_rfl) rfl rfl; exact g.trans (congrArg some hv)
        have g41 : cx.tmps[41]? = some (.bool true) := by obtain ⟨_, g, hv⟩ := Reg.pred hp 5 41 (by kernel_rfl) rfl rfl; exact g.trans (congrArg some hv)
        refine Reg.ok_value Reg.Old.refl (v := .bool true) (Reg.wanted_none rfl) ?_ rfl
        go_simp
      · intro cx wc hB hp hs
        have g42 : cx.tmps[42]? = some (.bool true) := by obtain ⟨_, g, hv⟩ := Reg.pred hp 6 42 (by kernel_rfl) rfl rfl; exact g.trans (congrArg some hv)
        refine Reg.ok_value Reg.Old.refl (v := .bool true) (Reg.wanted_none rfl) ?_ rfl
        go_simp
      · intro cx wc hB hp hs
        have g4 : cx.tmps[4]? = some (.pointer (some ⟨R, 0, none⟩)) := (hs 4 (by kernel_rfl)).trans rfl
        have g43 : cx.tmps[43]? = some (.bool true) := by obtain ⟨_, g, hv⟩ := Reg.pred hp 7 43 (by kernel_rfl) rfl rfl; exact g.trans (congrArg some hv)
        have hc := hR.drew.below hB
        have k0 := hc.cell 0 (.int .i64 (shi 0)) rfl
        have k1 := hc.cell 1 (.int .u64 (slo 0)) rfl
        refine Reg.ok_value Reg.Old.refl (v := sv 0) (Reg.wanted_at (j := 7) (d := 43) rfl rfl rfl g43) ?_ rfl
        go_simp
      · intro cx wc hB hp hs
        have g44 : cx.tmps[44]? = some (sv 0) := by obtain ⟨_, g, hv⟩ := Reg.pred hp 8 44 (by kernel_rfl) rfl rfl; exact g.trans (congrArg some hv)
        have g43 : cx.tmps[43]? = some (.bool true) := by obtain ⟨_, g, hv⟩ := Reg.pred hp 7 43 (by kernel_rfl) rfl rfl; exact g.trans (congrArg some hv)
        refine Reg.ok_call (f := 21) (args := #[sv 0]) (Reg.wanted_at (j := 7) (d := 43) rfl rfl rfl g43) (by go_simp) ((htext wc (HTW.out.drew.below hB)).mono ?_)
        rintro e w' ⟨rfl, hB2⟩
        exact ⟨_, rfl, hB2, rfl⟩
      · intro cx wc hB hp hs
        have g5 : cx.tmps[5]? = some (.int .i64 0) := (hs 5 (by kernel_rfl)).trans rfl
        have g43 : cx.tmps[43]? = some (.bool true) := by obtain ⟨_, g, hv⟩ := Reg.pred hp 7 43 (by kernel_rfl) rfl rfl; exact g.trans (congrArg some hv)
        refine Reg.ok_value Reg.Old.refl (v := .int .i64 0) (Reg.wanted_at (j := 7) (d := 43) rfl rfl rfl g43) ?_ rfl
        go_simp
      · intro cx wc hB hp hs
        have g46 : cx.tmps[46]? = some (.int .i64 0) := by obtain ⟨_, g, hv⟩ := Reg.pred hp 10 46 (by kernel_rfl) rfl rfl; exact g.trans (congrArg some hv)
        have g43 : cx.tmps[43]? = some (.bool true) := by obtain ⟨_, g, hv⟩ := Reg.pred hp 7 43 (by kernel_rfl) rfl rfl; exact g.trans (congrArg some hv)
        refine Reg.ok_call (f := 25) (args := #[.int .i64 0]) (Reg.wanted_at (j := 7) (d := 43) rfl rfl rfl g43) (by go_simp) ((hofz wc).mono ?_)
        rintro e w' ⟨rfl, hB2⟩
        exact ⟨_, rfl, hB2, rfl⟩
      · intro cx wc hB hp hs
        have g47 : cx.tmps[47]? = some (sv 0) := by obtain ⟨_, g, hv⟩ := Reg.pred hp 11 47 (by kernel_rfl) rfl rfl; exact g.trans (congrArg some hv)
        have g43 : cx.tmps[43]? = some (.bool true) := by obtain ⟨_, g, hv⟩ := Reg.pred hp 7 43 (by kernel_rfl) rfl rfl; exact g.trans (congrArg some hv)
        refine Reg.ok_call (f := 21) (args := #[sv 0]) (Reg.wanted_at (j := 7) (d := 43) rfl rfl rfl g43) (by go_simp) ((htext wc (HTW.out.drew.below hB)).mono ?_)
        rintro e w' ⟨rfl, hB2⟩
        exact ⟨_, rfl, hB2, rfl⟩
      · intro cx wc hB hp hs
        have g45 : cx.tmps[45]? = some (.string t) := by obtain ⟨_, g, hv⟩ := Reg.pred hp 9 45 (by kernel_rfl) rfl rfl; exact g.trans (congrArg some hv)
        have g48 : cx.tmps[48]? = some (.string t) := by obtain ⟨_, g, hv⟩ := Reg.pred hp 12 48 (by kernel_rfl) rfl rfl; exact g.trans (congrArg some hv)
        have g43 : cx.tmps[43]? = some (.bool true) := by obtain ⟨_, g, hv⟩ := Reg.pred hp 7 43 (by kernel_rfl) rfl rfl; exact g.trans (congrArg some hv)
        refine Reg.ok_value Reg.Old.refl (v := .bool true) (Reg.wanted_at (j := 7) (d := 43) rfl rfl rfl g43) ?_ rfl
        go_simp
      · intro cx wc hB hp hs
        have g43 : cx.tmps[43]? = some (.bool true) := by obtain ⟨_, g, hv⟩ := Reg.pred hp 7 43 (by kernel_rfl) rfl rfl; exact g.trans (congrArg some hv)
        have g49 : cx.tmps[49]? = some (.bool true) := by obtain ⟨_, g, hv⟩ := Reg.pred hp 13 49 (by kernel_rfl) rfl rfl; exact g.trans (congrArg some hv)
        refine Reg.ok_value Reg.Old.refl (v := .bool true) (Reg.wanted_none rfl) ?_ rfl
        go_simp
      · intro cx wc hB hp hs
        have g50 : cx.tmps[50]? = some (.bool true) := by obtain ⟨_, g, hv⟩ := Reg.pred hp 14 50 (by kernel_rfl) rfl rfl; exact g.trans (congrArg some hv)
        refine Reg.ok_value Reg.Old.refl (v := .bool true) (Reg.wanted_none rfl) ?_ rfl
        go_simp
    · intro d wc hB hsz hdf hv ho
      have gr : d.tmps[2]? = some (.bool true) := by obtain ⟨_, g, hv⟩ := hv 15 _ 2 rfl rfl; exact g.trans (congrArg some hv)
      have hF := hBw.trans (hB.mono hBw.size)
      clear hv ho hB
      go_wp2
      refine bodyPost_ret (v := .bool true) ?_ hdf ⟨rfl, hF⟩
      simp [results, Tryd.results8, go_sem, gr]

theorem WideMany_walk (p : Option Addr) (len cap : Nat) (zs : List Int) (hlen : len ≤ maxLen) (w : World) (hT : Tens w)
    (hc : ∀ k, k < len → ∃ b off, p = some ⟨b, off, none⟩ ∧ b < w.heap.size ∧ w.cell? ⟨b, off + k, none⟩ = some (.int .i32 (zs.getD k 0)) ∧ (Lit.int .i32 (zs.getD k 0)).wf = true) :
    Calls Tryd.prog 8 #[.slice p len cap] w fun e w' => e = .returned (.bool true) ∧ Below w.heap.size w w' := by
  by_cases h0 : len = 0
  · subst h0
    exact many_none p cap w hT
  · obtain ⟨b, off, rfl, hb, _, _⟩ := hc 0 (by omega)
    refine many_some b off len cap zs (by unfold maxLen at hlen; omega) (by omega) w hT hb fun k hk => ?_
    obtain ⟨b', off', he, _, h1, h2⟩ := hc k hk
    cases he
    exact ⟨h1, h2⟩
end Go.Proofs.YthddnhnhlgnlhaaDoor
