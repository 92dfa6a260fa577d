/- WideEnds, walked. -/
import Derived.Test.YthddnhnhlgnlhaaDoorWBack
namespace Go.Proofs.YthddnhnhlgnlhaaDoor
open Go Go.RowKit


/-- A number of 39 digits. -/
def dig39 (u : Nat) : List UInt8 := (List.range 39).map fun t => Lib.dg u (39 - 1 - t)
theorem dec39 (u : Nat) (h1 : 10 ^ 38 ≤ u) (h2 : u < 10 ^ 39) : Lib.decDigits u = dig39 u := by
  rw [Lib.decDigits_eq, Lib.nDigits_unique 38 u h1 h2]; rfl
theorem tx_most (z : Int) (hz : z = 170141183460469231731687303715884105727) : tx (Lib.itoa z) = ⟨#[49, 55, 48, 49, 52, 49, 49, 56, 51, 52, 54, 48, 52, 54, 57, 50, 51, 49, 55, 51, 49, 54, 56, 55, 51, 48, 51, 55, 49, 53, 56, 56, 52, 49, 48, 53, 55, 50, 55]⟩ := by
  have hu : z.toNat = 170141183460469231731687303715884105727 := by rw [hz]; rfl
  rw [itoa_pos' (by omega), hu, dec39 _ (by decide +kernel) (by decide +kernel)]
  have e : dig39 170141183460469231731687303715884105727 = [49, 55, 48, 49, 52, 49, 49, 56, 51, 52, 54, 48, 52, 54, 57, 50, 51, 49, 55, 51, 49, 54, 56, 55, 51, 48, 51, 55, 49, 53, 56, 56, 52, 49, 48, 53, 55, 50, 55] := by decide +kernel
  rw [e]
theorem tx_least (z : Int) (hz : z = -170141183460469231731687303715884105728) : tx (Lib.itoa z) = ⟨#[45, 49, 55, 48, 49, 52, 49, 49, 56, 51, 52, 54, 48, 52, 54, 57, 50, 51, 49, 55, 51, 49, 54, 56, 55, 51, 48, 51, 55, 49, 53, 56, 56, 52, 49, 48, 53, 55, 50, 56]⟩ := by
  have hu : (-z).toNat = 170141183460469231731687303715884105728 := by rw [hz]; rfl
  rw [itoa_neg' (by omega), hu, dec39 _ (by decide +kernel) (by decide +kernel)]
  have e : dig39 170141183460469231731687303715884105728 = [49, 55, 48, 49, 52, 49, 49, 56, 51, 52, 54, 48, 52, 54, 57, 50, 51, 49, 55, 51, 49, 54, 56, 55, 51, 48, 51, 55, 49, 53, 56, 56, 52, 49, 48, 53, 55, 50, 56] := by decide +kernel
  rw [e]
theorem read_over (w : World) (hT : Tens w) :
    Calls Tryd.prog 28 #[.string ⟨#[49, 55, 48, 49, 52, 49, 49, 56, 51, 52, 54, 48, 52, 54, 57, 50, 51, 49, 55, 51, 49, 54, 56, 55, 51, 48, 51, 55, 49, 53, 56, 56, 52, 49, 48, 53, 55, 50, 56]⟩] w fun e w' => e = .returned (.tuple #[.agg #[.int .i64 0, .int .u64 0], .bool false]) ∧ Below w.heap.size w w' := by
  have h := read_bad ⟨#[49, 55, 48, 49, 52, 49, 49, 56, 51, 52, 54, 48, 52, 54, 57, 50, 51, 49, 55, 51, 49, 54, 56, 55, 51, 48, 51, 55, 49, 53, 56, 56, 52, 49, 48, 53, 55, 50, 56]⟩ (by show 39 ≤ maxLen; unfold maxLen; omega) (by
    show Lib.itoa (cand [49, 55, 48, 49, 52, 49, 49, 56, 51, 52, 54, 48, 52, 54, 57, 50, 51, 49, 55, 51, 49, 54, 56, 55, 51, 48, 51, 55, 49, 53, 56, 56, 52, 49, 48, 53, 55, 50, 56]) ≠ [49, 55, 48, 49, 52, 49, 49, 56, 51, 52, 54, 48, 52, 54, 57, 50, 51, 49, 55, 51, 49, 54, 56, 55, 51, 48, 51, 55, 49, 53, 56, 56, 52, 49, 48, 53, 55, 50, 56]
    have e : decide (cand [49, 55, 48, 49, 52, 49, 49, 56, 51, 52, 54, 48, 52, 54, 57, 50, 51, 49, 55, 51, 49, 54, 56, 55, 51, 48, 51, 55, 49, 53, 56, 56, 52, 49, 48, 53, 55, 50, 56] < 0) = true := by decide +kernel
    have e := of_decide_eq_true e
    rw [itoa_neg' e]
    intro h
    exact absurd (List.cons.inj h).1 (by decide)) w hT
  rw [sv_0] at h
  exact h

def EndsPhi (b4 b5 b7 b9 : Nat) (mo le k nk zm zl : Int) : Nat → Value → World → Prop
  | i, v, _ => v = ([.bool true, .bool true, .bool true, .bool true, .bool true, sv mo, sv mo, .bool true, .bool true, .bool true, .bool true, .bool true, .bool true, sv le, sv le, .bool true, .bool true, .bool true, .bool false, .bool true, .bool true, .bool true, sv mo, sv 1, sv le, sv le, .bool true, .bool true, .bool true, sv le, sv le, sv le, .bool true, .bool true, .bool true, sv mo, .int .i64 k, sv k, sv zm, .agg #[.int .i64 0, .int .u64 0], .bool true, .bool true, .bool true, sv le, .int .i64 k, .int .i64 nk, sv nk, sv zl, .int .i64 1, .bool true, .bool true, .bool true] : List Value).getD i undef
theorem EndsPhi.stays {b4 b5 b7 b9 : Nat} {mo le k nk zm zl : Int} : ∀ i v x y, EndsPhi b4 b5 b7 b9 mo le k nk zm zl i v x → Reg.Old x y → EndsPhi b4 b5 b7 b9 mo le k nk zm zl i v y := fun _ _ _ _ h _ => h


set_option maxRecDepth 100000 in
set_option maxHeartbeats 4000000 in
theorem ends_core (n : Int) (hn0 : 0 ≤ n) (hn1 : n ≤ 4294967295) (mo le k nk zm zl : Int)
    (m1 : shi mo = 9223372036854775807) (m2 : slo mo = 18446744073709551615) (l1 : shi le = -9223372036854775808) (l2 : slo le = 0) (hk : n + 1 = k) (hk2 : -k = nk)
    (hr1 : ∀ w, Tens w → Calls Tryd.prog 28 #[.string ⟨#[49, 55, 48, 49, 52, 49, 49, 56, 51, 52, 54, 48, 52, 54, 57, 50, 51, 49, 55, 51, 49, 54, 56, 55, 51, 48, 51, 55, 49, 53, 56, 56, 52, 49, 48, 53, 55, 50, 55]⟩] w fun e w' => e = .returned (.tuple #[sv mo, .bool true]) ∧ Below w.heap.size w w')
    (hr2 : ∀ w, Tens w → Calls Tryd.prog 28 #[.string ⟨#[45, 49, 55, 48, 49, 52, 49, 49, 56, 51, 52, 54, 48, 52, 54, 57, 50, 51, 49, 55, 51, 49, 54, 56, 55, 51, 48, 51, 55, 49, 53, 56, 56, 52, 49, 48, 53, 55, 50, 56]⟩] w fun e w' => e = .returned (.tuple #[sv le, .bool true]) ∧ Below w.heap.size w w')
    (hadd1 : ∀ w, Calls Tryd.prog 13 #[sv mo, sv 1] w fun e w' => e = .returned (sv le) ∧ Below w.heap.size w w')
    (haddk : ∀ w, Calls Tryd.prog 13 #[sv mo, sv k] w fun e w' => e = .returned (sv zm) ∧ Below w.heap.size w w')
    (haddl : ∀ w, Calls Tryd.prog 13 #[sv le, sv nk] w fun e w' => e = .returned (sv zl) ∧ Below w.heap.size w w')
    (hofk : ∀ w, Calls Tryd.prog 25 #[.int .i64 k] w fun e w' => e = .returned (sv k) ∧ Below w.heap.size w w')
    (hofn : ∀ w, Calls Tryd.prog 25 #[.int .i64 nk] w fun e w' => e = .returned (sv nk) ∧ Below w.heap.size w w')
    (hneg : ∀ w, Calls Tryd.prog 15 #[sv le] w fun e w' => e = .returned (sv le) ∧ Below w.heap.size w w')
    (hless : ∀ w, Calls Tryd.prog 17 #[sv zm, .agg #[.int .i64 0, .int .u64 0]] w fun e w' => e = .returned (.bool true) ∧ Below w.heap.size w w')
    (hsign : ∀ w, Calls Tryd.prog 19 #[sv zl] w fun e w' => e = .returned (.int .i64 1) ∧ Below w.heap.size w w')
    (w : World) (hT : Tens w) :
    Calls Tryd.prog 9 #[.int .u32 n] w fun e w' => e = .returned (.bool true) ∧ Below w.heap.size w w' := by
  have HT := Lib.hid hT
  have em : (.agg #[.int .i64 9223372036854775807, .int .u64 18446744073709551615] : Value) = .agg #[.int .i64 (shi mo), .int .u64 (slo mo)] := by rw [m1, m2]
  have el : (.agg #[.int .i64 (-9223372036854775808), .int .u64 0] : Value) = .agg #[.int .i64 (shi le), .int .u64 (slo le)] := by rw [l1, l2]
  have M1 := Lib.hid m1
  have M2 := Lib.hid m2
  have L1 := Lib.hid l1
  have L2 := Lib.hid l2
  have hkb : 1 ≤ k ∧ k ≤ 4294967296 := by omega
  have hkw : 1 + n = k := by omega
  clear hT m1 m2 l1 l2
  go_enter Tryd.func9, Tryd.ntmps9
  go_wp2_with fail
  refine (examples_any _ HT.out).mono ?_
  rintro e W ⟨rfl, hE⟩
  go_wp2_with fail
  have k4 : CellsAt W.heap.size #[.int .i64 (shi mo), .int .u64 (slo mo)] ((W.alloc (.cells #[.int .i64 (shi mo), .int .u64 (slo mo)] 24)).alloc (.cells #[.int .i64 (shi le), .int .u64 (slo le)] 24)) := (CellsAt.new _ _ _).past _
  have k5 : CellsAt (W.heap.size + 1) #[.int .i64 (shi le), .int .u64 (slo le)] ((W.alloc (.cells #[.int .i64 (shi mo), .int .u64 (slo mo)] 24)).alloc (.cells #[.int .i64 (shi le), .int .u64 (slo le)] 24)) := CellsAt.newAt _ _ _ _ (by simp)
  have hE1 : Below w.heap.size w ((W.alloc (.cells #[.int .i64 (shi mo), .int .u64 (slo mo)] 24)).alloc (.cells #[.int .i64 (shi le), .int .u64 (slo le)] 24)) := (hE.alloc hE.size _).alloc (Nat.le_trans hE.size (by simp)) _
  refine (hr1 _ (HT.out.below hE1)).mono ?_
  rintro e w1 ⟨rfl, hB1⟩
  have k4 := (k4.below hB1).past (.cells #[.int .i64 (shi mo), .int .u64 (slo mo)] 24)
  have k5 := (k5.below hB1).past (.cells #[.int .i64 (shi mo), .int .u64 (slo mo)] 24)
  have k7 : CellsAt w1.heap.size #[.int .i64 (shi mo), .int .u64 (slo mo)] (w1.alloc (.cells #[.int .i64 (shi mo), .int .u64 (slo mo)] 24)) := CellsAt.new _ _ _
  have hE2 := (hE1.trans (hB1.mono hE1.size))
  have hE2 := hE2.alloc hE2.size (.cells #[.int .i64 (shi mo), .int .u64 (slo mo)] 24)
  clear hr1 hB1 hE1 hE
  go_wp2_with fail
  refine (hr2 _ (HT.out.below hE2)).mono ?_
  rintro e w2 ⟨rfl, hB2⟩
  have k4 := (k4.below hB2).past (.cells #[.int .i64 (shi le), .int .u64 (slo le)] 24)
  have k5 := (k5.below hB2).past (.cells #[.int .i64 (shi le), .int .u64 (slo le)] 24)
  have k7 := (k7.below hB2).past (.cells #[.int .i64 (shi le), .int .u64 (slo le)] 24)
  have k9 : CellsAt w2.heap.size #[.int .i64 (shi le), .int .u64 (slo le)] (w2.alloc (.cells #[.int .i64 (shi le), .int .u64 (slo le)] 24)) := CellsAt.new _ _ _
  have hE3 := (hE2.trans (hB2.mono hE2.size))
  have hE3 := hE3.alloc hE3.size (.cells #[.int .i64 (shi le), .int .u64 (slo le)] 24)
  clear hr2 hB2 hE2
  go_wp2_with fail
  refine (read_over _ (HT.out.below hE3)).mono ?_
  rintro e w3 ⟨rfl, hB3⟩
  have k4 := (k4.below hB3).past (.cells #[.int .i64 0, .int .u64 0] 24)
  have k5 := (k5.below hB3).past (.cells #[.int .i64 0, .int .u64 0] 24)
  have k7 := (k7.below hB3).past (.cells #[.int .i64 0, .int .u64 0] 24)
  have k9 := (k9.below hB3).past (.cells #[.int .i64 0, .int .u64 0] 24)
  have hE4 := (hE3.trans (hB3.mono hE3.size))
  have hE4 := hE4.alloc hE4.size (.cells #[.int .i64 0, .int .u64 0] 24)
  clear hB3 hE3
  generalize w2.heap.size = b9 at *
  generalize w1.heap.size = b7 at *
  generalize W.heap.size + 1 = b5 at *
  generalize W.heap.size = b4 at *
  go_wp2_with fail
  refine wp_gen (fun V => CellsAt b4 #[.int .i64 (shi mo), .int .u64 (slo mo)] V ∧ CellsAt b5 #[.int .i64 (shi le), .int .u64 (slo le)] V ∧ CellsAt b7 #[.int .i64 (shi mo), .int .u64 (slo mo)] V ∧ CellsAt b9 #[.int .i64 (shi le), .int .u64 (slo le)] V ∧ Below w.heap.size w V) ⟨k4, k5, k7, k9, hE4⟩ ?_
  intro V ⟨h4, h5, h7, h9, hE⟩
  clear k4 k5 k7 k9 hE4 em el
  refine Reg.wp_region_inv (n := 84) (EndsPhi b4 b5 b7 b9 mo le k nk zm zl) (by kernel_rfl) (by kernel_rfl) rfl EndsPhi.stays ?_ ?_
  · refine ⟨?_, ?_, ?_, ?_, ?_, ?_, ?_, ?_, ?_, ?_, ?_, ?_, ?_, ?_, ?_, ?_, ?_, ?_, ?_, ?_, ?_, ?_, ?_, ?_, ?_, ?_, ?_, ?_, ?_, ?_, ?_, ?_, ?_, ?_, ?_, ?_, ?_, ?_, ?_, ?_, ?_, ?_, ?_, ?_, ?_, ?_, ?_, ?_, ?_, ?_, ?_, ?_, trivial⟩
    · intro cx wc hB hp hs
      have g3 : cx.tmps[3]? = some (.bool true) := (hs 3 (by kernel_rfl)).trans rfl
      refine Reg.ok_value Reg.Old.refl (v := .bool true) (Reg.wanted_none rfl) ?_ rfl
      go_simp
    · intro cx wc hB hp hs
      have g33 : cx.tmps[33]? = some (.bool true) := by obtain ⟨_, g, hv⟩ := Reg.pred hp 0 33 (by kernel_rfl) rfl rfl; exact g.trans (congrArg some hv)
      refine Reg.ok_value Reg.Old.refl (v := .bool true) (Reg.wanted_none rfl) ?_ rfl
      go_simp
    · intro cx wc hB hp hs
      have g8 : cx.tmps[8]? = some (.bool true) := (hs 8 (by kernel_rfl)).trans rfl
      have g34 : cx.tmps[34]? = some (.bool true) := by obtain ⟨_, g, hv⟩ := Reg.pred hp 1 34 (by kernel_rfl) rfl rfl; exact g.trans (congrArg some hv)
      refine Reg.ok_value Reg.Old.refl (v := .bool true) (Reg.wanted_at (j := 1) (d := 34) rfl rfl rfl g34) ?_ rfl
      go_simp
    · intro cx wc hB hp hs
      have g34 : cx.tmps[34]? = some (.bool true) := by obtain ⟨_, g, hv⟩ := Reg.pred hp 1 34 (by kernel_rfl) rfl rfl; exact g.trans (congrArg some hv)
      have g35 : cx.tmps[35]? = some (.bool true) := by obtain ⟨_, g, hv⟩ := Reg.pred hp 2 35 (by kernel_rfl) rfl rfl; exact g.trans (congrArg some hv)
      refine Reg.ok_value Reg.Old.refl (v := .bool true) (Reg.wanted_none rfl) ?_ rfl
      go_simp
    · intro cx wc hB hp hs
      have g36 : cx.tmps[36]? = some (.bool true) := by obtain ⟨_, g, hv⟩ := Reg.pred hp 3 36 (by kernel_rfl) rfl rfl; exact g.trans (congrArg some hv)
      refine Reg.ok_value Reg.Old.refl (v := .bool true) (Reg.wanted_none rfl) ?_ rfl
      go_simp
    · intro cx wc hB hp hs
      have g7 : cx.tmps[7]? = some (.pointer (some ⟨b7, 0, none⟩)) := (hs 7 (by kernel_rfl)).trans rfl
      have g37 : cx.tmps[37]? = some (.bool true) := by obtain ⟨_, g, hv⟩ := Reg.pred hp 4 37 (by kernel_rfl) rfl rfl; exact g.trans (congrArg some hv)
      have hc := h7.drew.below hB
      have k0 := hc.cell 0 (.int .i64 (shi mo)) rfl
      have k1 := hc.cell 1 (.int .u64 (slo mo)) rfl
      refine Reg.ok_value Reg.Old.refl (v := sv mo) (Reg.wanted_at (j := 4) (d := 37) rfl rfl rfl g37) ?_ rfl
      go_simp
    · intro cx wc hB hp hs
      have g4 : cx.tmps[4]? = some (.pointer (some ⟨b4, 0, none⟩)) := (hs 4 (by kernel_rfl)).trans rfl
      have g37 : cx.tmps[37]? = some (.bool true) := by obtain ⟨_, g, hv⟩ := Reg.pred hp 4 37 (by kernel_rfl) rfl rfl; exact g.trans (congrArg some hv)
      have hc := h4.drew.below hB
      have k0 := hc.cell 0 (.int .i64 (shi mo)) rfl
      have k1 := hc.cell 1 (.int .u64 (slo mo)) rfl
      refine Reg.ok_value Reg.Old.refl (v := sv mo) (Reg.wanted_at (j := 4) (d := 37) rfl rfl rfl g37) ?_ rfl
      go_simp
    · intro cx wc hB hp hs
      have g38 : cx.tmps[38]? = some (sv mo) := by obtain ⟨_, g, hv⟩ := Reg.pred hp 5 38 (by kernel_rfl) rfl rfl; exact g.trans (congrArg some hv)
      have g39 : cx.tmps[39]? = some (sv mo) := by obtain ⟨_, g, hv⟩ := Reg.pred hp 6 39 (by kernel_rfl) rfl rfl; exact g.trans (congrArg some hv)
      have g37 : cx.tmps[37]? = some (.bool true) := by obtain ⟨_, g, hv⟩ := Reg.pred hp 4 37 (by kernel_rfl) rfl rfl; exact g.trans (congrArg some hv)
      refine Reg.ok_value Reg.Old.refl (v := .bool true) (Reg.wanted_at (j := 4) (d := 37) rfl rfl rfl g37) ?_ rfl
      go_simp
    · intro cx wc hB hp hs
      have g37 : cx.tmps[37]? = some (.bool true) := by obtain ⟨_, g, hv⟩ := Reg.pred hp 4 37 (by kernel_rfl) rfl rfl; exact g.trans (congrArg some hv)
      have g40 : cx.tmps[40]? = some (.bool true) := by obtain ⟨_, g, hv⟩ := Reg.pred hp 7 40 (by kernel_rfl) rfl rfl; exact g.trans (congrArg some hv)
      refine Reg.ok_value Reg.Old.refl (v := .bool true) (Reg.wanted_none rfl) ?_ rfl
      go_simp
    · intro cx wc hB hp hs
      have g41 : cx.tmps[41]? = some (.bool true) := by obtain ⟨_, g, hv⟩ := Reg.pred hp 8 41 (by kernel_rfl) rfl rfl; exact g.trans (congrArg some hv)
      refine Reg.ok_value Reg.Old.refl (v := .bool true) (Reg.wanted_none rfl) ?_ rfl
      go_simp
    · intro cx wc hB hp hs
      have g10 : cx.tmps[10]? = some (.bool true) := (hs 10 (by kernel_rfl)).trans rfl
      have g42 : cx.tmps[42]? = some (.bool true) := by obtain ⟨_, g, hv⟩ := Reg.pred hp 9 42 (by kernel_rfl) rfl rfl; exact g.trans (congrArg some hv)
      refine Reg.ok_value Reg.Old.refl (v := .bool true) (Reg.wanted_at (j := 9) (d := 42) rfl rfl rfl g42) ?_ rfl
      go_simp
    · intro cx wc hB hp hs
      have g42 : cx.tmps[42]? = some (.bool true) := by obtain ⟨_, g, hv⟩ := Reg.pred hp 9 42 (by kernel_rfl) rfl rfl; exact g.trans (congrArg some hv)
      have g43 : cx.tmps[43]? = some (.bool true) := by obtain ⟨_, g, hv⟩ := Reg.pred hp 10 43 (by kernel_rfl) rfl rfl; exact g.trans (congrArg some hv)
      refine Reg.ok_value Reg.Old.refl (v := .bool true) (Reg.wanted_none rfl) ?_ rfl
      go_simp
    · intro cx wc hB hp hs
      have g44 : cx.tmps[44]? = some (.bool true) := by obtain ⟨_, g, hv⟩ := Reg.pred hp 11 44 (by kernel_rfl) rfl rfl; exact g.trans (congrArg some hv)
      refine Reg.ok_value Reg.Old.refl (v := .bool true) (Reg.wanted_none rfl) ?_ rfl
      go_simp
    · intro cx wc hB hp hs
      have g9 : cx.tmps[9]? = some (.pointer (some ⟨b9, 0, none⟩)) := (hs 9 (by kernel_rfl)).trans rfl
      have g45 : cx.tmps[45]? = some (.bool true) := by obtain ⟨_, g, hv⟩ := Reg.pred hp 12 45 (by kernel_rfl) rfl rfl; exact g.trans (congrArg some hv)
      have hc := h9.drew.below hB
      have k0 := hc.cell 0 (.int .i64 (shi le)) rfl
      have k1 := hc.cell 1 (.int .u64 (slo le)) rfl
      refine Reg.ok_value Reg.Old.refl (v := sv le) (Reg.wanted_at (j := 12) (d := 45) rfl rfl rfl g45) ?_ rfl
      go_simp
    · intro cx wc hB hp hs
      have g5 : cx.tmps[5]? = some (.pointer (some ⟨b5, 0, none⟩)) := (hs 5 (by kernel_rfl)).trans rfl
      have g45 : cx.tmps[45]? = some (.bool true) := by obtain ⟨_, g, hv⟩ := Reg.pred hp 12 45 (by kernel_rfl) rfl rfl; exact g.trans (congrArg some hv)
      have hc := h5.drew.below hB
      have k0 := hc.cell 0 (.int .i64 (shi le)) rfl
      have k1 := hc.cell 1 (.int .u64 (slo le)) rfl
      refine Reg.ok_value Reg.Old.refl (v := sv le) (Reg.wanted_at (j := 12) (d := 45) rfl rfl rfl g45) ?_ rfl
      go_simp
    · intro cx wc hB hp hs
      have g46 : cx.tmps[46]? = some (sv le) := by obtain ⟨_, g, hv⟩ := Reg.pred hp 13 46 (by kernel_rfl) rfl rfl; exact g.trans (congrArg some hv)
      have g47 : cx.tmps[47]? = some (sv le) := by obtain ⟨_, g, hv⟩ := Reg.pred hp 14 47 (by kernel_rfl) rfl rfl; exact g.trans (congrArg some hv)
      have g45 : cx.tmps[45]? = some (.bool true) := by obtain ⟨_, g, hv⟩ := Reg.pred hp 12 45 (by kernel_rfl) rfl rfl; exact g.trans (congrArg some hv)
      refine Reg.ok_value Reg.Old.refl (v := .bool true) (Reg.wanted_at (j := 12) (d := 45) rfl rfl rfl g45) ?_ rfl
      go_simp
    · intro cx wc hB hp hs
      have g45 : cx.tmps[45]? = some (.bool true) := by obtain ⟨_, g, hv⟩ := Reg.pred hp 12 45 (by kernel_rfl) rfl rfl; exact g.trans (congrArg some hv)
      have g48 : cx.tmps[48]? = some (.bool true) := by obtain ⟨_, g, hv⟩ := Reg.pred hp 15 48 (by kernel_rfl) rfl rfl; exact g.trans (congrArg some hv)
      refine Reg.ok_value Reg.Old.refl (v := .bool true) (Reg.wanted_none rfl) ?_ rfl
      go_simp
    · intro cx wc hB hp hs
      have g49 : cx.tmps[49]? = some (.bool true) := by obtain ⟨_, g, hv⟩ := Reg.pred hp 16 49 (by kernel_rfl) rfl rfl; exact g.trans (congrArg some hv)
      refine Reg.ok_value Reg.Old.refl (v := .bool true) (Reg.wanted_none rfl) ?_ rfl
      go_simp
    · intro cx wc hB hp hs
      have g12 : cx.tmps[12]? = some (.bool false) := (hs 12 (by kernel_rfl)).trans rfl
      have g50 : cx.tmps[50]? = some (.bool true) := by obtain ⟨_, g, hv⟩ := Reg.pred hp 17 50 (by kernel_rfl) rfl rfl; exact g.trans (congrArg some hv)
      refine Reg.ok_value Reg.Old.refl (v := .bool false) (Reg.wanted_at (j := 17) (d := 50) rfl rfl rfl g50) ?_ rfl
      go_simp
    · intro cx wc hB hp hs
      have g51 : cx.tmps[51]? = some (.bool false) := by obtain ⟨_, g, hv⟩ := Reg.pred hp 18 51 (by kernel_rfl) rfl rfl; exact g.trans (congrArg some hv)
      have g50 : cx.tmps[50]? = some (.bool true) := by obtain ⟨_, g, hv⟩ := Reg.pred hp 17 50 (by kernel_rfl) rfl rfl; exact g.trans (congrArg some hv)
      refine Reg.ok_value Reg.Old.refl (v := .bool true) (Reg.wanted_at (j := 17) (d := 50) rfl rfl rfl g50) ?_ rfl
      go_simp
    · intro cx wc hB hp hs
      have g50 : cx.tmps[50]? = some (.bool true) := by obtain ⟨_, g, hv⟩ := Reg.pred hp 17 50 (by kernel_rfl) rfl rfl; exact g.trans (congrArg some hv)
      have g52 : cx.tmps[52]? = some (.bool true) := by obtain ⟨_, g, hv⟩ := Reg.pred hp 19 52 (by kernel_rfl) rfl rfl; exact g.trans (congrArg some hv)
      refine Reg.ok_value Reg.Old.refl (v := .bool true) (Reg.wanted_none rfl) ?_ rfl
      go_simp
    · intro cx wc hB hp hs
      have g53 : cx.tmps[53]? = some (.bool true) := by obtain ⟨_, g, hv⟩ := Reg.pred hp 20 53 (by kernel_rfl) rfl rfl; exact g.trans (congrArg some hv)
      refine Reg.ok_value Reg.Old.refl (v := .bool true) (Reg.wanted_none rfl) ?_ rfl
      go_simp
    · intro cx wc hB hp hs
      have g4 : cx.tmps[4]? = some (.pointer (some ⟨b4, 0, none⟩)) := (hs 4 (by kernel_rfl)).trans rfl
      have g54 : cx.tmps[54]? = some (.bool true) := by obtain ⟨_, g, hv⟩ := Reg.pred hp 21 54 (by kernel_rfl) rfl rfl; exact g.trans (congrArg some hv)
      have hc := h4.drew.below hB
      have k0 := hc.cell 0 (.int .i64 (shi mo)) rfl
      have k1 := hc.cell 1 (.int .u64 (slo mo)) rfl
      refine Reg.ok_value Reg.Old.refl (v := sv mo) (Reg.wanted_at (j := 21) (d := 54) rfl rfl rfl g54) ?_ rfl
      go_simp
    · intro cx wc hB hp hs
      have g54 : cx.tmps[54]? = some (.bool true) := by obtain ⟨_, g, hv⟩ := Reg.pred hp 21 54 (by kernel_rfl) rfl rfl; exact g.trans (congrArg some hv)
      refine Reg.ok_call (f := 25) (args := #[.int .i64 1]) (Reg.wanted_at (j := 21) (d := 54) rfl rfl rfl g54) (by go_simp) ((of_any 1 (by decide) (by decide) wc).mono ?_)
      rintro e w' ⟨rfl, hB2⟩
      exact ⟨_, rfl, hB2, rfl⟩
    · intro cx wc hB hp hs
      have g55 : cx.tmps[55]? = some (sv mo) := by obtain ⟨_, g, hv⟩ := Reg.pred hp 22 55 (by kernel_rfl) rfl rfl; exact g.trans (congrArg some hv)
      have g56 : cx.tmps[56]? = some (sv 1) := by obtain ⟨_, g, hv⟩ := Reg.pred hp 23 56 (by kernel_rfl) rfl rfl; exact g.trans (congrArg some hv)
      have g54 : cx.tmps[54]? = some (.bool true) := by obtain ⟨_, g, hv⟩ := Reg.pred hp 21 54 (by kernel_rfl) rfl rfl; exact g.trans (congrArg some hv)
      refine Reg.ok_call (f := 13) (args := #[sv mo, sv 1]) (Reg.wanted_at (j := 21) (d := 54) rfl rfl rfl g54) (by go_simp) ((hadd1 wc).mono ?_)
      rintro e w' ⟨rfl, hB2⟩
      exact ⟨_, rfl, hB2, rfl⟩
    · intro cx wc hB hp hs
      have g5 : cx.tmps[5]? = some (.pointer (some ⟨b5, 0, none⟩)) := (hs 5 (by kernel_rfl)).trans rfl
      have g54 : cx.tmps[54]? = some (.bool true) := by obtain ⟨_, g, hv⟩ := Reg.pred hp 21 54 (by kernel_rfl) rfl rfl; exact g.trans (congrArg some hv)
      have hc := h5.drew.below hB
      have k0 := hc.cell 0 (.int .i64 (shi le)) rfl
      have k1 := hc.cell 1 (.int .u64 (slo le)) rfl
      refine Reg.ok_value Reg.Old.refl (v := sv le) (Reg.wanted_at (j := 21) (d := 54) rfl rfl rfl g54) ?_ rfl
      go_simp
    · intro cx wc hB hp hs
      have g57 : cx.tmps[57]? = some (sv le) := by obtain ⟨_, g, hv⟩ := Reg.pred hp 24 57 (by kernel_rfl) rfl rfl; exact g.trans (congrArg some hv)
      have g58 : cx.tmps[58]? = some (sv le) := by obtain ⟨_, g, hv⟩ := Reg.pred hp 25 58 (by kernel_rfl) rfl rfl; exact g.trans (congrArg some hv)
      have g54 : cx.tmps[54]? = some (.bool true) := by obtain ⟨_, g, hv⟩ := Reg.pred hp 21 54 (by kernel_rfl) rfl rfl; exact g.trans (congrArg some hv)
      refine Reg.ok_value Reg.Old.refl (v := .bool true) (Reg.wanted_at (j := 21) (d := 54) rfl rfl rfl g54) ?_ rfl
      go_simp
    · intro cx wc hB hp hs
      have g54 : cx.tmps[54]? = some (.bool true) := by obtain ⟨_, g, hv⟩ := Reg.pred hp 21 54 (by kernel_rfl) rfl rfl; exact g.trans (congrArg some hv)
      have g59 : cx.tmps[59]? = some (.bool true) := by obtain ⟨_, g, hv⟩ := Reg.pred hp 26 59 (by kernel_rfl) rfl rfl; exact g.trans (congrArg some hv)
      refine Reg.ok_value Reg.Old.refl (v := .bool true) (Reg.wanted_none rfl) ?_ rfl
      go_simp
    · intro cx wc hB hp hs
      have g60 : cx.tmps[60]? = some (.bool true) := by obtain ⟨_, g, hv⟩ := Reg.pred hp 27 60 (by kernel_rfl) rfl rfl; exact g.trans (congrArg some hv)
      refine Reg.ok_value Reg.Old.refl (v := .bool true) (Reg.wanted_none rfl) ?_ rfl
      go_simp
    · intro cx wc hB hp hs
      have g5 : cx.tmps[5]? = some (.pointer (some ⟨b5, 0, none⟩)) := (hs 5 (by kernel_rfl)).trans rfl
      have g61 : cx.tmps[61]? = some (.bool true) := by obtain ⟨_, g, hv⟩ := Reg.pred hp 28 61 (by kernel_rfl) rfl rfl; exact g.trans (congrArg some hv)
      have hc := h5.drew.below hB
      have k0 := hc.cell 0 (.int .i64 (shi le)) rfl
      have k1 := hc.cell 1 (.int .u64 (slo le)) rfl
      refine Reg.ok_value Reg.Old.refl (v := sv le) (Reg.wanted_at (j := 28) (d := 61) rfl rfl rfl g61) ?_ rfl
      go_simp
    · intro cx wc hB hp hs
      have g62 : cx.tmps[62]? = some (sv le) := by obtain ⟨_, g, hv⟩ := Reg.pred hp 29 62 (by kernel_rfl) rfl rfl; exact g.trans (congrArg some hv)
      have g61 : cx.tmps[61]? = some (.bool true) := by obtain ⟨_, g, hv⟩ := Reg.pred hp 28 61 (by kernel_rfl) rfl rfl; exact g.trans (congrArg some hv)
      refine Reg.ok_call (f := 15) (args := #[sv le]) (Reg.wanted_at (j := 28) (d := 61) rfl rfl rfl g61) (by go_simp) ((hneg wc).mono ?_)
      rintro e w' ⟨rfl, hB2⟩
      exact ⟨_, rfl, hB2, rfl⟩
    · intro cx wc hB hp hs
      have g5 : cx.tmps[5]? = some (.pointer (some ⟨b5, 0, none⟩)) := (hs 5 (by kernel_rfl)).trans rfl
      have g61 : cx.tmps[61]? = some (.bool true) := by obtain ⟨_, g, hv⟩ := Reg.pred hp 28 61 (by kernel_rfl) rfl rfl; exact g.trans (congrArg some hv)
      have hc := h5.drew.below hB
      have k0 := hc.cell 0 (.int .i64 (shi le)) rfl
      have k1 := hc.cell 1 (.int .u64 (slo le)) rfl
      refine Reg.ok_value Reg.Old.refl (v := sv le) (Reg.wanted_at (j := 28) (d := 61) rfl rfl rfl g61) ?_ rfl
      go_simp
    · intro cx wc hB hp hs
      have g63 : cx.tmps[63]? = some (sv le) := by obtain ⟨_, g, hv⟩ := Reg.pred hp 30 63 (by kernel_rfl) rfl rfl; exact g.trans (congrArg some hv)
      have g64 : cx.tmps[64]? = some (sv le) := by obtain ⟨_, g, hv⟩ := Reg.pred hp 31 64 (by kernel_rfl) rfl rfl; exact g.trans (congrArg some hv)
      have g61 : cx.tmps[61]? = some (.bool true) := by obtain ⟨_, g, hv⟩ := Reg.pred hp 28 61 (by kernel_rfl) rfl rfl; exact g.trans (congrArg some hv)
      refine Reg.ok_value Reg.Old.refl (v := .bool true) (Reg.wanted_at (j := 28) (d := 61) rfl rfl rfl g61) ?_ rfl
      go_simp
    · intro cx wc hB hp hs
      have g61 : cx.tmps[61]? = some (.bool true) := by obtain ⟨_, g, hv⟩ := Reg.pred hp 28 61 (by kernel_rfl) rfl rfl; exact g.trans (congrArg some hv)
      have g65 : cx.tmps[65]? = some (.bool true) := by obtain ⟨_, g, hv⟩ := Reg.pred hp 32 65 (by kernel_rfl) rfl rfl; exact g.trans (congrArg some hv)
      refine Reg.ok_value Reg.Old.refl (v := .bool true) (Reg.wanted_none rfl) ?_ rfl
      go_simp
    · intro cx wc hB hp hs
      have g66 : cx.tmps[66]? = some (.bool true) := by obtain ⟨_, g, hv⟩ := Reg.pred hp 33 66 (by kernel_rfl) rfl rfl; exact g.trans (congrArg some hv)
      refine Reg.ok_value Reg.Old.refl (v := .bool true) (Reg.wanted_none rfl) ?_ rfl
      go_simp
    · intro cx wc hB hp hs
      have g4 : cx.tmps[4]? = some (.pointer (some ⟨b4, 0, none⟩)) := (hs 4 (by kernel_rfl)).trans rfl
      have g67 : cx.tmps[67]? = some (.bool true) := by obtain ⟨_, g, hv⟩ := Reg.pred hp 34 67 (by kernel_rfl) rfl rfl; exact g.trans (congrArg some hv)
      have hc := h4.drew.below hB
      have k0 := hc.cell 0 (.int .i64 (shi mo)) rfl
      have k1 := hc.cell 1 (.int .u64 (slo mo)) rfl
      refine Reg.ok_value Reg.Old.refl (v := sv mo) (Reg.wanted_at (j := 34) (d := 67) rfl rfl rfl g67) ?_ rfl
      go_simp
    · intro cx wc hB hp hs
      have g6 : cx.tmps[6]? = some (.int .i64 k) := (hs 6 (by kernel_rfl)).trans rfl
      have g67 : cx.tmps[67]? = some (.bool true) := by obtain ⟨_, g, hv⟩ := Reg.pred hp 34 67 (by kernel_rfl) rfl rfl; exact g.trans (congrArg some hv)
      refine Reg.ok_value Reg.Old.refl (v := .int .i64 k) (Reg.wanted_at (j := 34) (d := 67) rfl rfl rfl g67) ?_ rfl
      go_simp
    · intro cx wc hB hp hs
      have g69 : cx.tmps[69]? = some (.int .i64 k) := by obtain ⟨_, g, hv⟩ := Reg.pred hp 36 69 (by kernel_rfl) rfl rfl; exact g.trans (congrArg some hv)
      have g67 : cx.tmps[67]? = some (.bool true) := by obtain ⟨_, g, hv⟩ := Reg.pred hp 34 67 (by kernel_rfl) rfl rfl; exact g.trans (congrArg some hv)
      refine Reg.ok_call (f := 25) (args := #[.int .i64 k]) (Reg.wanted_at (j := 34) (d := 67) rfl rfl rfl g67) (by go_simp) ((hofk wc).mono ?_)
      rintro e w' ⟨rfl, hB2⟩
      exact ⟨_, rfl, hB2, rfl⟩
    · intro cx wc hB hp hs
      have g68 : cx.tmps[68]? = some (sv mo) := by obtain ⟨_, g, hv⟩ := Reg.pred hp 35 68 (by kernel_rfl) rfl rfl; exact g.trans (congrArg some hv)
      have g70 : cx.tmps[70]? = some (sv k) := by obtain ⟨_, g, hv⟩ := Reg.pred hp 37 70 (by kernel_rfl) rfl rfl; exact g.trans (congrArg some hv)
      have g67 : cx.tmps[67]? = some (.bool true) := by obtain ⟨_, g, hv⟩ := Reg.pred hp 34 67 (by kernel_rfl) rfl rfl; exact g.trans (congrArg some hv)
      refine Reg.ok_call (f := 13) (args := #[sv mo, sv k]) (Reg.wanted_at (j := 34) (d := 67) rfl rfl rfl g67) (by go_simp) ((haddk wc).mono ?_)
      rintro e w' ⟨rfl, hB2⟩
      exact ⟨_, rfl, hB2, rfl⟩
    · intro cx wc hB hp hs
      have g67 : cx.tmps[67]? = some (.bool true) := by obtain ⟨_, g, hv⟩ := Reg.pred hp 34 67 (by kernel_rfl) rfl rfl; exact g.trans (congrArg some hv)
      refine Reg.ok_value Reg.Old.refl (v := .agg #[.int .i64 0, .int .u64 0]) (Reg.wanted_at (j := 34) (d := 67) rfl rfl rfl g67) ?_ rfl
      go_simp
    · intro cx wc hB hp hs
      have g71 : cx.tmps[71]? = some (sv zm) := by obtain ⟨_, g, hv⟩ := Reg.pred hp 38 71 (by kernel_rfl) rfl rfl; exact g.trans (congrArg some hv)
      have g72 : cx.tmps[72]? = some (.agg #[.int .i64 0, .int .u64 0]) := by obtain ⟨_, g, hv⟩ := Reg.pred hp 39 72 (by kernel_rfl) rfl rfl; exact g.trans (congrArg some hv)
      have g67 : cx.tmps[67]? = some (.bool true) := by obtain ⟨_, g, hv⟩ := Reg.pred hp 34 67 (by kernel_rfl) rfl rfl; exact g.trans (congrArg some hv)
      refine Reg.ok_call (f := 17) (args := #[sv zm, .agg #[.int .i64 0, .int .u64 0]]) (Reg.wanted_at (j := 34) (d := 67) rfl rfl rfl g67) (by go_simp) ((hless wc).mono ?_)
      rintro e w' ⟨rfl, hB2⟩
      exact ⟨_, rfl, hB2, rfl⟩
    · intro cx wc hB hp hs
      have g67 : cx.tmps[67]? = some (.bool true) := by obtain ⟨_, g, hv⟩ := Reg.pred hp 34 67 (by kernel_rfl) rfl rfl; exact g.trans (congrArg some hv)
      have g73 : cx.tmps[73]? = some (.bool true) := by obtain ⟨_, g, hv⟩ := Reg.pred hp 40 73 (by kernel_rfl) rfl rfl; exact g.trans (congrArg some hv)
      refine Reg.ok_value Reg.Old.refl (v := .bool true) (Reg.wanted_none rfl) ?_ rfl
      go_simp
    · intro cx wc hB hp hs
      have g74 : cx.tmps[74]? = some (.bool true) := by obtain ⟨_, g, hv⟩ := Reg.pred hp 41 74 (by kernel_rfl) rfl rfl; exact g.trans (congrArg some hv)
      refine Reg.ok_value Reg.Old.refl (v := .bool true) (Reg.wanted_none rfl) ?_ rfl
      go_simp
    · intro cx wc hB hp hs
      have g5 : cx.tmps[5]? = some (.pointer (some ⟨b5, 0, none⟩)) := (hs 5 (by kernel_rfl)).trans rfl
      have g75 : cx.tmps[75]? = some (.bool true) := by obtain ⟨_, g, hv⟩ := Reg.pred hp 42 75 (by kernel_rfl) rfl rfl; exact g.trans (congrArg some hv)
      have hc := h5.drew.below hB
      have k0 := hc.cell 0 (.int .i64 (shi le)) rfl
      have k1 := hc.cell 1 (.int .u64 (slo le)) rfl
      refine Reg.ok_value Reg.Old.refl (v := sv le) (Reg.wanted_at (j := 42) (d := 75) rfl rfl rfl g75) ?_ rfl
      go_simp
    · intro cx wc hB hp hs
      have g6 : cx.tmps[6]? = some (.int .i64 k) := (hs 6 (by kernel_rfl)).trans rfl
      have g75 : cx.tmps[75]? = some (.bool true) := by obtain ⟨_, g, hv⟩ := Reg.pred hp 42 75 (by kernel_rfl) rfl rfl; exact g.trans (congrArg some hv)
      refine Reg.ok_value Reg.Old.refl (v := .int .i64 k) (Reg.wanted_at (j := 42) (d := 75) rfl rfl rfl g75) ?_ rfl
      go_simp
    · intro cx wc hB hp hs
      have g77 : cx.tmps[77]? = some (.int .i64 k) := by obtain ⟨_, g, hv⟩ := Reg.pred hp 44 77 (by kernel_rfl) rfl rfl; exact g.trans (congrArg some hv)
      have g75 : cx.tmps[75]? = some (.bool true) := by obtain ⟨_, g, hv⟩ := Reg.pred hp 42 75 (by kernel_rfl) rfl rfl; exact g.trans (congrArg some hv)
      refine Reg.ok_value Reg.Old.refl (v := .int .i64 nk) (Reg.wanted_at (j := 42) (d := 75) rfl rfl rfl g75) ?_ rfl
      go_simp
      rw [wrap_i64_eq]
      unfold wrap64
      omega
    · intro cx wc hB hp hs
      have g78 : cx.tmps[78]? = some (.int .i64 nk) := by obtain ⟨_, g, hv⟩ := Reg.pred hp 45 78 (by kernel_rfl) rfl rfl; exact g.trans (congrArg some hv)
      have g75 : cx.tmps[75]? = some (.bool true) := by obtain ⟨_, g, hv⟩ := Reg.pred hp 42 75 (by kernel_rfl) rfl rfl; exact g.trans (congrArg some hv)
      refine Reg.ok_call (f := 25) (args := #[.int .i64 nk]) (Reg.wanted_at (j := 42) (d := 75) rfl rfl rfl g75) (by go_simp) ((hofn wc).mono ?_)
      rintro e w' ⟨rfl, hB2⟩
      exact ⟨_, rfl, hB2, rfl⟩
    · intro cx wc hB hp hs
      have g76 : cx.tmps[76]? = some (sv le) := by obtain ⟨_, g, hv⟩ := Reg.pred hp 43 76 (by kernel_rfl) rfl rfl; exact g.trans (congrArg some hv)
      have g79 : cx.tmps[79]? = some (sv nk) := by obtain ⟨_, g, hv⟩ := Reg.pred hp 46 79 (by kernel_rfl) rfl rfl; exact g.trans (congrArg some hv)
      have g75 : cx.tmps[75]? = some (.bool true) := by obtain ⟨_, g, hv⟩ := Reg.pred hp 42 75 (by kernel_rfl) rfl rfl; exact g.trans (congrArg some hv)
      refine Reg.ok_call (f := 13) (args := #[sv le, sv nk]) (Reg.wanted_at (j := 42) (d := 75) rfl rfl rfl g75) (by go_simp) ((haddl wc).mono ?_)
      rintro e w' ⟨rfl, hB2⟩
      exact ⟨_, rfl, hB2, rfl⟩
    · intro cx wc hB hp hs
      have g80 : cx.tmps[80]? = some (sv zl) := by obtain ⟨_, g, hv⟩ := Reg.pred hp 47 80 (by kernel_rfl) rfl rfl; exact g.trans (congrArg some hv)
      have g75 : cx.tmps[75]? = some (.bool true) := by obtain ⟨_, g, hv⟩ := Reg.pred hp 42 75 (by kernel_rfl) rfl rfl; exact g.trans (congrArg some hv)
      refine Reg.ok_call (f := 19) (args := #[sv zl]) (Reg.wanted_at (j := 42) (d := 75) rfl rfl rfl g75) (by go_simp) ((hsign wc).mono ?_)
      rintro e w' ⟨rfl, hB2⟩
      exact ⟨_, rfl, hB2, rfl⟩
    · intro cx wc hB hp hs
      have g81 : cx.tmps[81]? = some (.int .i64 1) := by obtain ⟨_, g, hv⟩ := Reg.pred hp 48 81 (by kernel_rfl) rfl rfl; exact g.trans (congrArg some hv)
      have g75 : cx.tmps[75]? = some (.bool true) := by obtain ⟨_, g, hv⟩ := Reg.pred hp 42 75 (by kernel_rfl) rfl rfl; exact g.trans (congrArg some hv)
      refine Reg.ok_value Reg.Old.refl (v := .bool true) (Reg.wanted_at (j := 42) (d := 75) rfl rfl rfl g75) ?_ rfl
      go_simp
    · intro cx wc hB hp hs
      have g75 : cx.tmps[75]? = some (.bool true) := by obtain ⟨_, g, hv⟩ := Reg.pred hp 42 75 (by kernel_rfl) rfl rfl; exact g.trans (congrArg some hv)
      have g82 : cx.tmps[82]? = some (.bool true) := by obtain ⟨_, g, hv⟩ := Reg.pred hp 49 82 (by kernel_rfl) rfl rfl; exact g.trans (congrArg some hv)
      refine Reg.ok_value Reg.Old.refl (v := .bool true) (Reg.wanted_none rfl) ?_ rfl
      go_simp
    · intro cx wc hB hp hs
      have g83 : cx.tmps[83]? = some (.bool true) := by obtain ⟨_, g, hv⟩ := Reg.pred hp 50 83 (by kernel_rfl) rfl rfl; exact g.trans (congrArg some hv)
      refine Reg.ok_value Reg.Old.refl (v := .bool true) (Reg.wanted_none rfl) ?_ rfl
      go_simp
  · intro d wc hB hsz hdf hv ho
    have gr : d.tmps[2]? = some (.bool true) := by obtain ⟨_, g, hv⟩ := hv 51 _ 2 rfl rfl; exact g.trans (congrArg some hv)
    have hF := hE.trans (hB.mono hE.size)
    clear hv ho hB
    go_wp2
    refine bodyPost_ret (v := .bool true) ?_ hdf ⟨rfl, hF⟩
    simp [results, Tryd.results9, go_sem, gr]

theorem WideEnds_walk (n : Int) (hn : (Lit.int .u32 n).wf = true) (w : World) (hT : Tens w) :
    Calls Tryd.prog 9 #[.int .u32 n] w fun e w' => e = .returned (.bool true) ∧ Below w.heap.size w w' := by
  have hb : 0 ≤ n ∧ n ≤ 4294967295 := by simpa [Lit.wf, IntKind.min, IntKind.max, IntKind.signed, IntKind.bits] using hn
  obtain ⟨mo, hmo⟩ : ∃ mo : Int, mo = 170141183460469231731687303715884105727 := ⟨_, rfl⟩
  obtain ⟨le, hle⟩ : ∃ le : Int, le = -170141183460469231731687303715884105728 := ⟨_, rfl⟩
  have im : InS mo := by unfold InS; omega
  have il : InS le := by unfold InS; omega
  have ik : InS (n + 1) := by unfold InS; omega
  have ink : InS (-(n + 1)) := by unfold InS; omega
  have e1 : w128 (mo + 1) = le := by unfold w128; omega
  have e2 : w128 (-le) = le := by unfold w128; omega
  have e3 : decide (w128 (mo + (n + 1)) < 0) = true := decide_eq_true (by unfold w128; omega)
  have e4 : ssgn (w128 (le + -(n + 1))) = 1 := by
    unfold ssgn
    rw [if_neg (by unfold w128; omega), if_neg (by unfold w128; omega)]
  have hr1 := fun w h => read_yes mo im w h
  rw [tx_most mo hmo] at hr1
  have hr2 := fun w h => read_yes le il w h
  rw [tx_least le hle] at hr2
  have ha1 := fun w => add_any mo 1 im (InS.small (by decide) (by decide)) w
  rw [e1] at ha1
  have hne := fun w => neg_any le il w
  rw [e2] at hne
  have hle0 := fun w => less_any (w128 (mo + (n + 1))) 0 (w128_in _) (InS.small (by decide) (by decide)) w
  rw [e3, sv_0] at hle0
  have hsi := fun w => sign_any (w128 (le + -(n + 1))) (w128_in _) w
  rw [e4] at hsi
  refine ends_core n hb.1 hb.2 mo le (n + 1) (-(n + 1)) _ _ ?_ ?_ ?_ ?_ rfl rfl hr1 hr2 ha1 (fun w => add_any mo (n + 1) im ik w) (fun w => add_any le (-(n + 1)) il ink w) (fun w => of_any (n + 1) (by omega) (by omega) w) (fun w => of_any (-(n + 1)) (by omega) (by omega) w) hne hle0 hsi w hT
  · unfold shi; omega
  · unfold slo; omega
  · unfold shi; omega
  · unfold slo; omega
end Go.Proofs.YthddnhnhlgnlhaaDoor
