/- The order in which items are told, as the program reckons it. The order in which two items are told. Whether an item goes ahead of the one found so far: the closure. A top's small calls: a new one, its room, whether there is room, how many came. The place of the one that goes first; how often one that is not there may have come. How often one that is not there may have come. -/
import Derived.Test.YtcgkgdhbipbnfaaGreatDoorMtA
import Derived.Deep.LoopGhost
import Derived.Sort.Grow
import Derived.Sort.Row
import Derived.IntWalk
import Derived.Test.YtcgkgdhbipbnfaaGreatDoorReg
import Derived.RegionTactic
import Derived.ChangeAlike
import Derived.BigRegion
import Derived.Deep.QuietTactic
import Derived.BigQuiet
import Derived.WalkMore
namespace Go.Proofs.YtcgkgdhbipbnfaaGreatDoor.Tq
open Go Go.RowKit

theorem nan_u64 (x : Int) (w : World) : Calls Tryz.prog 125 #[.int .u64 x] w fun e w' => e = .returned (.bool false) ∧ w = w' := by
  go_enter Tryz.func125, Tryz.ntmps125
  go_wp2
  go_ret
  exact ⟨by simp, rfl⟩
theorem nan_str (x : ByteArray) (w : World) : Calls Tryz.prog 126 #[.string x] w fun e w' => e = .returned (.bool false) ∧ w = w' := by
  go_enter Tryz.func126, Tryz.ntmps126
  go_wp2
  go_ret
  exact ⟨by simp, rfl⟩
/-- -1, 0, 1. -/
def cmpI (x y : Int) : Int := if x < y then -1 else if y < x then 1 else 0
def cmpS (x y : ByteArray) : Int := if lessN x y = true then -1 else if lessN y x = true then 1 else 0
theorem cmp_u64 (x y : Int) (w : World) : Calls Tryz.prog 106 #[.int .u64 x, .int .u64 y] w fun e w' => e = .returned (.int .i64 (cmpI x y)) ∧ w = w' := by
  unfold cmpI
  by_cases h1 : x < y
  · rw [if_pos h1]
    go_enter Tryz.func106, Tryz.ntmps106
    go_wp2_with (go_at_call 125; refine (nan_u64 _ _).mono ?_; rintro e w' ⟨rfl, rfl⟩)
    go_ret
    exact ⟨rfl, rfl⟩
  · by_cases h2 : y < x
    · rw [if_neg h1, if_pos h2]
      go_enter Tryz.func106, Tryz.ntmps106
      go_wp2_with (go_at_call 125; refine (nan_u64 _ _).mono ?_; rintro e w' ⟨rfl, rfl⟩)
      go_ret
      exact ⟨rfl, rfl⟩
    · rw [if_neg h1, if_neg h2]
      go_enter Tryz.func106, Tryz.ntmps106
      go_wp2_with (go_at_call 125; refine (nan_u64 _ _).mono ?_; rintro e w' ⟨rfl, rfl⟩)
      go_ret
      exact ⟨rfl, rfl⟩
@[go_sem] theorem binOp_string_gtr_t (t : TypeId) (a b : ByteArray) : binOp .gtr t (.string a) (.string b) = pure (.bool (Op.bytesLess b.toList a.toList)) := by
  have h : (!(Op.bytesLess a.toList b.toList || a.toList == b.toList)) = Op.bytesLess b.toList a.toList := by
    cases h1 : Op.bytesLess a.toList b.toList with
    | true =>
      have h2 : Op.bytesLess b.toList a.toList = false := lessN_asymm (a := a) (b := b) h1
      rw [h2]; rfl
    | false =>
      cases h2 : Op.bytesLess b.toList a.toList with
      | true =>
        have : a ≠ b := by
          intro e
          subst e
          have := lessN_irrefl a
          unfold lessN at this
          rw [h2] at this
          cases this
        rw [eqN]
        simp [this]
      | false =>
        obtain rfl := lessN_tri (a := a) (b := b) h1 h2
        simp
  rw [← h]
  simp [binOp, Op.stringOp]
theorem cmp_str (x y : ByteArray) (w : World) : Calls Tryz.prog 107 #[.string x, .string y] w fun e w' => e = .returned (.int .i64 (cmpS x y)) ∧ w = w' := by
  unfold cmpS lessN
  cases h1 : Op.bytesLess x.toList y.toList with
  | true =>
    rw [if_pos rfl]
    go_enter Tryz.func107, Tryz.ntmps107
    go_wp2_with (go_at_call 126; refine (nan_str _ _).mono ?_; rintro e w' ⟨rfl, rfl⟩)
    go_ret
    exact ⟨rfl, rfl⟩
  | false =>
    cases h2 : Op.bytesLess y.toList x.toList with
    | true =>
      rw [if_neg (by decide), if_pos rfl]
      go_enter Tryz.func107, Tryz.ntmps107
      go_wp2_with (go_at_call 126; refine (nan_str _ _).mono ?_; rintro e w' ⟨rfl, rfl⟩)
      go_ret
      exact ⟨rfl, rfl⟩
    | false =>
      rw [if_neg (by decide), if_neg (by decide)]
      go_enter Tryz.func107, Tryz.ntmps107
      go_wp2_with (go_at_call 126; refine (nan_str _ _).mono ?_; rintro e w' ⟨rfl, rfl⟩)
      go_ret
      exact ⟨rfl, rfl⟩
/-- The first of two that is not 0. -/
theorem or_two (g : Nat) (x y : Int) (w : World) (c0 : w.cell? ⟨g, 0, none⟩ = some (.int .i64 x)) (c1 : w.cell? ⟨g, 1, none⟩ = some (.int .i64 y)) :
    Calls Tryz.prog 105 #[.slice (some ⟨g, 0, none⟩) 2 2] w fun e w' => e = .returned (.int .i64 (if x = 0 then y else x)) ∧ w = w' := by
  by_cases hx : x = 0
  · subst hx
    rw [if_pos rfl]
    by_cases hy : y = 0
    · subst hy
      go_enter Tryz.func105, Tryz.ntmps105
      go_wp2
      refine wp_loop_rounds 3 ?_
      rw [rounds_succ]
      go_wp2
      rw [rounds_succ]
      go_wp2
      rw [rounds_succ]
      go_wp2
      go_ret
      exact ⟨rfl, rfl⟩
    · go_enter Tryz.func105, Tryz.ntmps105
      go_wp2
      refine wp_loop_rounds 2 ?_
      rw [rounds_succ]
      go_wp2
      rw [rounds_succ]
      go_wp2
      go_ret
      exact ⟨rfl, rfl⟩
  · rw [if_neg hx]
    go_enter Tryz.func105, Tryz.ntmps105
    go_wp2
    refine wp_loop_rounds 1 ?_
    rw [rounds_succ]
    go_wp2
    go_ret
    exact ⟨rfl, rfl⟩
end Go.Proofs.YtcgkgdhbipbnfaaGreatDoor.Tq

namespace Go.Proofs.YtcgkgdhbipbnfaaGreatDoor.Tq
open Go Go.RowKit

/-- Draws, and new blocks behind what was there. -/
def Grown (w w' : World) : Prop := ∃ q os, w' = Sort.grow (w.drewN q) os
theorem Grown.refl (w : World) : Grown w w := ⟨0, #[], by rw [Sort.grow_empty]; rfl⟩
theorem Grown.trans {a b c : World} (h : Grown a b) (k : Grown b c) : Grown a c := by
  obtain ⟨q, os, rfl⟩ := h
  obtain ⟨q', os', rfl⟩ := k
  exact ⟨q + q', os ++ os', by rw [← World.drewN_drewN, ← Sort.grow_grow]; rfl⟩
theorem Grown.alloc (w : World) (o : Obj) : Grown w (w.alloc o) := ⟨0, #[o], Sort.alloc_eq_grow w o⟩
theorem Grown.drew (w : World) : Grown w w.drew := ⟨1, #[], by rw [Sort.grow_empty]; rfl⟩
theorem Grown.below {w w' : World} (h : Grown w w') : Below w.heap.size w w' := by
  obtain ⟨q, os, rfl⟩ := h
  refine ⟨rfl, rfl, rfl, by simp [Sort.grow, World.drewN], fun k hk => ?_⟩
  show (w.heap ++ os)[k]? = w.heap[k]?
  exact Array.getElem?_append_left hk
/-- cmp.Or of the two comparisons. -/
def cmpT (x y : Itm) : Int := if cmpI y.many x.many = 0 then cmpS x.name y.name else cmpI y.many x.many
theorem cmpI_lt {x y : Int} (h : x < y) : cmpI x y = -1 := by unfold cmpI; rw [if_pos h]
theorem cmpI_gt {x y : Int} (h : y < x) : cmpI x y = 1 := by unfold cmpI; rw [if_neg (by omega), if_pos h]
theorem cmpI_eq {x y : Int} (h : x = y) : cmpI x y = 0 := by unfold cmpI; rw [if_neg (by omega), if_neg (by omega)]
theorem cmpS_lt (x y : ByteArray) : decide (cmpS x y < 0) = lessN x y := by
  unfold cmpS
  cases h4 : lessN x y with
  | true => simp
  | false => cases h5 : lessN y x <;> simp
theorem cmpT_lt (x y : Itm) : decide (cmpT x y < 0) = tells x y := by
  unfold cmpT tells
  by_cases h1 : y.many < x.many
  · rw [cmpI_lt (by omega)]; simp [h1]
  · by_cases h2 : x.many < y.many
    · rw [cmpI_gt (by omega)]
      have h3 : ¬ x.many = y.many := by omega
      simp [h1, h3]
    · rw [cmpI_eq (by omega), if_pos rfl, cmpS_lt]
      have h3 : x.many = y.many := by omega
      simp [h3]
def OrdPhi (X Y : Nat) (x y : Itm) : Nat → Value → World → Prop
  | 10, v, w => ∃ g, v = .slice (some ⟨g, 0, none⟩) 2 2 ∧ CellsAt g #[.int .i64 (cmpI y.many x.many), .int .i64 (cmpS x.name y.name)] w
  | i, v, _ => v = ([.pointer (some ⟨Y, 1, none⟩), .int .u64 y.many, .pointer (some ⟨X, 1, none⟩), .int .u64 x.many, .int .i64 (cmpI y.many x.many), .pointer (some ⟨X, 0, none⟩), .string x.name, .pointer (some ⟨Y, 0, none⟩), .string y.name, .int .i64 (cmpS x.name y.name), undef, .int .i64 (cmpT x y), .int .i64 (cmpT x y)] : List Value).getD i undef
theorem OrdPhi.stays {X Y : Nat} {x y : Itm} (i : Nat) (v : Value) (wx wy : World) (h : OrdPhi X Y x y i v wx) (k : Grown wx wy) : OrdPhi X Y x y i v wy := by
  unfold OrdPhi at *
  split
  · simp only at h
    obtain ⟨g, h1, h2⟩ := h
    exact ⟨g, h1, h2.below k.below⟩
  · rename_i hi
    split at h
    · exact absurd rfl hi
    · exact h
set_option maxRecDepth 100000 in
set_option maxHeartbeats 4000000 in
theorem inorder_any (x y : Itm) (w : World) :
    Calls Tryz.prog 84 #[.agg (encI x).toArray, .agg (encI y).toArray] w fun e w' => e = .returned (.int .i64 (cmpT x y)) ∧ Grown w w' := by
  show Calls _ _ #[.agg #[.string x.name, .int .u64 x.many, .int .u64 x.over], .agg #[.string y.name, .int .u64 y.many, .int .u64 y.over]] _ _
  have hX := (CellsAt.new #[.string x.name, .int .u64 x.many, .int .u64 x.over] 79 w).past (.cells #[.string y.name, .int .u64 y.many, .int .u64 y.over] 79)
  have hY := CellsAt.newAt #[.string y.name, .int .u64 y.many, .int .u64 y.over] 79 (w.alloc (.cells #[.string x.name, .int .u64 x.many, .int .u64 x.over] 79)) (w.heap.size + 1) (by simp)
  have hGr := (Grown.alloc w (.cells #[.string x.name, .int .u64 x.many, .int .u64 x.over] 79)).trans (Grown.alloc _ (.cells #[.string y.name, .int .u64 y.many, .int .u64 y.over] 79))
  go_enter Tryz.func84, Tryz.ntmps84
  go_wp2
  generalize w.heap.size + 1 = Y at *
  generalize w.heap.size = X at *
  generalize (w.alloc (.cells #[.string x.name, .int .u64 x.many, .int .u64 x.over] 79)).alloc (.cells #[.string y.name, .int .u64 y.many, .int .u64 y.over] 79) = W at *
  refine Reg.wp_region_invG (n := 17) Grown (OrdPhi X Y x y) (by kernel_rfl) (by kernel_rfl) rfl Grown.refl (fun _ _ _ => Grown.trans) OrdPhi.stays ?_ ?_
  · refine ⟨?_, ?_, ?_, ?_, ?_, ?_, ?_, ?_, ?_, ?_, ?_, ?_, ?_, trivial⟩
    · intro cx wc hB hp hs
      have g3 : cx.tmps[3]? = some (.pointer (some ⟨Y, 0, none⟩)) := (hs 3 (by kernel_rfl)).trans rfl
      refine Reg.ok_value Grown.refl (v := .pointer (some ⟨Y, 1, none⟩)) (Reg.wanted_none rfl) ?_ rfl
      go_simp
    · intro cx wc hB hp hs
      have g5 : cx.tmps[5]? = some (.pointer (some ⟨Y, 1, none⟩)) := by obtain ⟨_, g, hv⟩ := Reg.pred hp 0 5 (by kernel_rfl) rfl rfl; exact g.trans (congrArg some hv)
      have hc := hY.drew.below hB.below
      have k1 := hc.cell 1 (.int .u64 y.many) rfl
      refine Reg.ok_value Grown.refl (v := .int .u64 y.many) (Reg.wanted_none rfl) ?_ rfl
      go_simp
    · intro cx wc hB hp hs
      have g2 : cx.tmps[2]? = some (.pointer (some ⟨X, 0, none⟩)) := (hs 2 (by kernel_rfl)).trans rfl
      refine Reg.ok_value Grown.refl (v := .pointer (some ⟨X, 1, none⟩)) (Reg.wanted_none rfl) ?_ rfl
      go_simp
    · intro cx wc hB hp hs
      have g7 : cx.tmps[7]? = some (.pointer (some ⟨X, 1, none⟩)) := by obtain ⟨_, g, hv⟩ := Reg.pred hp 2 7 (by kernel_rfl) rfl rfl; exact g.trans (congrArg some hv)
      have hc := hX.drew.below hB.below
      have k1 := hc.cell 1 (.int .u64 x.many) rfl
      refine Reg.ok_value Grown.refl (v := .int .u64 x.many) (Reg.wanted_none rfl) ?_ rfl
      go_simp
    · intro cx wc hB hp hs
      have g6 : cx.tmps[6]? = some (.int .u64 y.many) := by obtain ⟨_, g, hv⟩ := Reg.pred hp 1 6 (by kernel_rfl) rfl rfl; exact g.trans (congrArg some hv)
      have g8 : cx.tmps[8]? = some (.int .u64 x.many) := by obtain ⟨_, g, hv⟩ := Reg.pred hp 3 8 (by kernel_rfl) rfl rfl; exact g.trans (congrArg some hv)
      refine Reg.ok_call (f := 106) (args := #[.int .u64 y.many, .int .u64 x.many]) (Reg.wanted_none rfl) (by go_simp) ((cmp_u64 _ _ _).mono ?_)
      rintro e w' ⟨rfl, rfl⟩
      exact ⟨_, rfl, Grown.refl _, rfl⟩
    · intro cx wc hB hp hs
      have g2 : cx.tmps[2]? = some (.pointer (some ⟨X, 0, none⟩)) := (hs 2 (by kernel_rfl)).trans rfl
      refine Reg.ok_value Grown.refl (v := .pointer (some ⟨X, 0, none⟩)) (Reg.wanted_none rfl) ?_ rfl
      go_simp
    · intro cx wc hB hp hs
      have g10 : cx.tmps[10]? = some (.pointer (some ⟨X, 0, none⟩)) := by obtain ⟨_, g, hv⟩ := Reg.pred hp 5 10 (by kernel_rfl) rfl rfl; exact g.trans (congrArg some hv)
      have hc := hX.drew.below hB.below
      have k0 := hc.cell 0 (.string x.name) rfl
      refine Reg.ok_value Grown.refl (v := .string x.name) (Reg.wanted_none rfl) ?_ rfl
      go_simp
    · intro cx wc hB hp hs
      have g3 : cx.tmps[3]? = some (.pointer (some ⟨Y, 0, none⟩)) := (hs 3 (by kernel_rfl)).trans rfl
      refine Reg.ok_value Grown.refl (v := .pointer (some ⟨Y, 0, none⟩)) (Reg.wanted_none rfl) ?_ rfl
      go_simp
    · intro cx wc hB hp hs
      have g12 : cx.tmps[12]? = some (.pointer (some ⟨Y, 0, none⟩)) := by obtain ⟨_, g, hv⟩ := Reg.pred hp 7 12 (by kernel_rfl) rfl rfl; exact g.trans (congrArg some hv)
      have hc := hY.drew.below hB.below
      have k0 := hc.cell 0 (.string y.name) rfl
      refine Reg.ok_value Grown.refl (v := .string y.name) (Reg.wanted_none rfl) ?_ rfl
      go_simp
    · intro cx wc hB hp hs
      have g11 : cx.tmps[11]? = some (.string x.name) := by obtain ⟨_, g, hv⟩ := Reg.pred hp 6 11 (by kernel_rfl) rfl rfl; exact g.trans (congrArg some hv)
      have g13 : cx.tmps[13]? = some (.string y.name) := by obtain ⟨_, g, hv⟩ := Reg.pred hp 8 13 (by kernel_rfl) rfl rfl; exact g.trans (congrArg some hv)
      refine Reg.ok_call (f := 107) (args := #[.string x.name, .string y.name]) (Reg.wanted_none rfl) (by go_simp) ((cmp_str _ _ _).mono ?_)
      rintro e w' ⟨rfl, rfl⟩
      exact ⟨_, rfl, Grown.refl _, rfl⟩
    · intro cx wc hB hp hs
      have g9 : cx.tmps[9]? = some (.int .i64 (cmpI y.many x.many)) := by obtain ⟨_, g, hv⟩ := Reg.pred hp 4 9 (by kernel_rfl) rfl rfl; exact g.trans (congrArg some hv)
      have g14 : cx.tmps[14]? = some (.int .i64 (cmpS x.name y.name)) := by obtain ⟨_, g, hv⟩ := Reg.pred hp 9 14 (by kernel_rfl) rfl rfl; exact g.trans (congrArg some hv)
      refine Reg.ok_made (v := .slice (some ⟨wc.heap.size, 0, none⟩) 2 2) (w2 := wc.alloc (.cells #[.int .i64 (cmpI y.many x.many), .int .i64 (cmpS x.name y.name)] 3)) (Reg.wanted_none rfl) ?_ (Grown.alloc _ _) ⟨_, rfl, CellsAt.new _ _ _⟩
      go_simp
    · intro cx wc hB hp hs
      obtain ⟨_, g15, gg, rfl, hG⟩ := Reg.pred hp 10 15 (by kernel_rfl) rfl rfl
      have k0 := hG.cell 0 _ rfl
      have k1 := hG.cell 1 _ rfl
      refine Reg.ok_call (f := 105) (args := #[.slice (some ⟨gg, 0, none⟩) 2 2]) (Reg.wanted_none rfl) (by go_simp) ((or_two _ _ _ _ k0 k1).mono ?_)
      rintro e w' ⟨rfl, rfl⟩
      exact ⟨_, rfl, Grown.refl _, rfl⟩
    · intro cx wc hB hp hs
      have g16 : cx.tmps[16]? = some (.int .i64 (cmpT x y)) := by obtain ⟨_, g, hv⟩ := Reg.pred hp 11 16 (by kernel_rfl) rfl rfl; exact g.trans (congrArg some hv)
      refine Reg.ok_value Grown.refl (v := .int .i64 (cmpT x y)) (Reg.wanted_none rfl) ?_ rfl
      go_simp
  · intro d wc hB hsz hdf hv hno ho
    have gr : d.tmps[4]? = some (.int .i64 (cmpT x y)) := by obtain ⟨_, g, hv⟩ := hv 12 _ 4 rfl rfl; exact g.trans (congrArg some hv)
    have hF := hGr.trans ((Grown.drew _).trans hB)
    clear hv ho hB hno
    go_wp2
    refine bodyPost_ret (v := .int .i64 (cmpT x y)) ?_ hdf ⟨rfl, hF⟩
    simp [results, Tryz.results84, go_sem, gr]
end Go.Proofs.YtcgkgdhbipbnfaaGreatDoor.Tq

namespace Go.Proofs.YtcgkgdhbipbnfaaGreatDoor.Tq
open Go Go.RowKit

set_option maxRecDepth 100000 in
set_option maxHeartbeats 4000000 in
theorem goes_ahead (xn yn : ByteArray) (xm xo ym yo m n cap T L B g : Nat) (hm : m < n) (_ : n ≤ 16) (w : World) (hT : T < w.heap.size) (hL : L < w.heap.size) (hB : B < w.heap.size) (hg : g < w.heap.size)
    (c0 : w.cell? ⟨T, 0, none⟩ = some (.pointer (some ⟨B, 0, none⟩))) (c1 : w.cell? ⟨B, 1, none⟩ = some (.slice (some ⟨g, 0, none⟩) n cap)) (c2 : w.cell? ⟨L, 0, none⟩ = some (.int .i64 m))
    (d0 : w.cell? ⟨g, m * 3, none⟩ = some (.string yn)) (d1 : w.cell? ⟨g, m * 3 + 1, none⟩ = some (.int .u64 ym)) (d2 : w.cell? ⟨g, m * 3 + 2, none⟩ = some (.int .u64 yo)) :
    Calls Tryz.prog 128 #[.agg #[.string xn, .int .u64 xm, .int .u64 xo], .pointer (some ⟨T, 0, none⟩), .pointer (some ⟨L, 0, none⟩)] w fun e w' => e = .returned (.bool (goes ⟨xn, xm, xo⟩ ⟨yn, ym, yo⟩)) ∧ Below w.heap.size w w' := by
  by_cases h1 : xm < ym
  · rw [show goes ⟨xn, xm, xo⟩ ⟨yn, ym, yo⟩ = true from goes_iff.2 (.inl h1)]
    go_enter Tryz.func128, Tryz.ntmps128
    go_wp2
    go_region
    all_goals
      go_wp2
      go_ret
      exact ⟨rfl, by first | exact (((Below.refl _ _).alloc (Nat.le_refl _) _).alloc (by simp) _).drew | exact ((((Below.refl _ _).alloc (Nat.le_refl _) _).alloc (by simp) _).setCell (by simp) _).drew⟩
  · by_cases h2 : xm = ym
    · rw [show goes ⟨xn, xm, xo⟩ ⟨yn, ym, yo⟩ = Op.bytesLess xn.toList yn.toList by unfold goes lessN; simp [h2]]
      subst h2
      clear h1
      go_enter Tryz.func128, Tryz.ntmps128
      go_wp2
      go_region
      all_goals
        go_wp2
        go_ret
        exact ⟨rfl, by first | exact (((Below.refl _ _).alloc (Nat.le_refl _) _).alloc (by simp) _).drew | exact ((((Below.refl _ _).alloc (Nat.le_refl _) _).alloc (by simp) _).setCell (by simp) _).drew⟩
    · rw [show goes ⟨xn, xm, xo⟩ ⟨yn, ym, yo⟩ = false from goes_not.2 (.inl (by show ym < xm; omega))]
      have h3 : ¬ ((xm : Int) = (ym : Int)) := by omega
      go_enter Tryz.func128, Tryz.ntmps128
      go_wp2
      go_region
      all_goals
        go_wp2
        go_ret
        exact ⟨rfl, by first | exact (((Below.refl _ _).alloc (Nat.le_refl _) _).alloc (by simp) _).drew | exact ((((Below.refl _ _).alloc (Nat.le_refl _) _).alloc (by simp) _).setCell (by simp) _).drew⟩
end Go.Proofs.YtcgkgdhbipbnfaaGreatDoor.Tq

namespace Go.Proofs.YtcgkgdhbipbnfaaGreatDoor.Tq
open Go Go.RowKit

theorem new_out (x : Int) (h : x < 1 ∨ 16 < x) (w : World) :
    Calls Tryz.prog 73 #[.int .i64 x] w fun e w' => e = .returned (.tuple #[.pointer none, .int .i64 1]) ∧ w = w' := by
  by_cases h4 : x < 1
  · clear h
    go_enter Tryz.func73, Tryz.ntmps73
    go_wp2
    go_ret2
    exact ⟨rfl, rfl⟩
  · have h10 : 16 < x := by omega
    clear h
    go_enter Tryz.func73, Tryz.ntmps73
    go_wp2
    go_ret2
    exact ⟨rfl, rfl⟩
theorem new_in (x : Int) (h1 : 1 ≤ x) (h16 : x ≤ 16) (w : World) :
    Calls Tryz.prog 73 #[.int .i64 x] w fun e w' => e = .returned (.tuple #[.pointer (some ⟨w.heap.size, 0, none⟩), .int .i64 0]) ∧ w.alloc (.cells #[.int .i64 x, .slice none 0 0] 150) = w' := by
  go_enter Tryz.func73, Tryz.ntmps73
  go_wp2
  go_ret2
  exact ⟨rfl, rfl⟩
/-- A new top. -/
theorem new_any (room : Nat) (h1 : 1 ≤ room) (h16 : room ≤ 16) (w : World) :
    Calls Tryz.prog 73 #[.int .i64 room] w fun e w' => e = .returned (.tuple #[.pointer (some ⟨w.heap.size, 0, none⟩), .int .i64 0]) ∧ Below w.heap.size w w' ∧ Tp w.heap.size w.heap.size room (.slice none 0 0) [] w' := by
  refine (new_in room (by omega) (by omega) w).mono ?_
  rintro e w' ⟨rfl, rfl⟩
  have hC := CellsAt.new #[.int .i64 room, .slice none 0 0] 150 w
  exact ⟨rfl, (Below.refl _ _).alloc (Nat.le_refl _) _, ⟨hC.lt, Nat.le_refl _, inv_nil h1 h16, hC.cell 0 _ rfl, hC.cell 1 _ rfl, hC.fro 1 _ rfl, Its.nil _ _ _, by simp [Value.ownBlock]⟩⟩

theorem hasroom_any {base B room : Nat} {v : Value} {l : List Itm} {w : World} (h : Tp base B room v l w) :
    Calls Tryz.prog 111 #[.pointer (some ⟨B, 0, none⟩)] w fun e w' => e = .returned (.bool (decide (l.length < room))) ∧ ∃ n, w' = w.drewN n := by
  obtain ⟨p, cap, rfl, hcap, hmax⟩ := h.row.cap
  have c0 := h.c0
  have c1 := h.c1
  have hl := h.inv.len
  have hh := h.inv.hi
  clear h
  generalize l.length = n at *
  go_enter Tryz.func111, Tryz.ntmps111
  go_wp2
  go_quiet (fail)
  go_wp2
  go_ret
  exact ⟨by simp, _, rfl⟩

/-- What comes: the rows of the loop over the items. -/
theorem seen_walk {base B room : Nat} {v : Value} {l : List Itm} {w : World} (h : Tp base B room v l w) :
    Calls Tryz.prog 52 #[.pointer (some ⟨B, 0, none⟩)] w fun e w' => e = .returned (.int .u64 (seen l)) ∧ Below w.heap.size w w' := by
  have c1 := h.c1
  have HL := Lib.hid h.row.form
  have hl := h.inv.len
  have hh := h.inv.hi
  have hsum := h.inv.sum
  obtain ⟨p, cap, hv, hcap, hmax⟩ := h.row.cap
  subst hv
  clear h
  obtain ⟨n, hn⟩ : ∃ n, l.length = n := ⟨_, rfl⟩
  have HN := Lib.hid hn
  rw [hn] at hl hcap c1
  clear hn
  go_enter Tryz.func52, Tryz.ntmps52
  go_wp2
  go_loopg [3, 11] (n) (fun g s i wx => ∃ k : Nat, k + g = n ∧ i = .int .i64 k ∧ s = .int .u64 (seen (l.take k)) ∧ Below w.heap.size w wx)
  case atStart => exact ⟨0, by omega, rfl, rfl, Below.refl _ _⟩
  case round =>
    obtain ⟨k, hkg, rfl, rfl, hB⟩ := hrel
    cases gk with
    | zero =>
      obtain rfl : k = n := by omega
      have HE : Hid (seen (l.take k) = seen l) := Lib.hid (by rw [List.take_of_length_le (by rw [HN.out]; exact Nat.le_refl _)])
      go_wp2
      go_ret
      exact ⟨by rw [HE.out]; rfl, hB⟩
    | succ g =>
      have hk : k < n := by omega
      rcases HL.out with ⟨_, h0⟩ | ⟨gg, cap', e, _, hg, _, _, hc, _⟩
      · rw [← HN.out, h0] at hk; cases hk
      · simp only [Value.slice.injEq] at e
        obtain ⟨rfl, _, rfl⟩ := e
        obtain ⟨c10, c11, c12⟩ := hc k (by rw [HN.out]; exact hk)
        have d0 := (hB.cell (p := ⟨gg, k * 3, none⟩) hg).trans c10
        have d1 := (hB.cell (p := ⟨gg, k * 3 + 1, none⟩) hg).trans c11
        have d2 := (hB.cell (p := ⟨gg, k * 3 + 2, none⟩) hg).trans c12
        have hs := seen_snoc l k (by rw [HN.out]; exact hk)
        have hle := seen_take_le l (k + 1)
        have HS := Lib.hid hs
        generalize l[k]!.name = nm at *
        generalize l[k]!.many = m at *
        generalize l[k]!.over = ov at *
        have hsm : seen (l.take k) + m ≤ 4611686018427387904 := by omega
        clear c10 c11 c12 hc hs hle
        generalize seen (l.take k) = q at *
        go_wp2
        go_roundg g
        case measure => omega
        case rel => exact ⟨k + 1, by omega, by go_num, by rw [HS.out]; go_num, hB.trans ((Below.refl _ _).alloc hB.size _)⟩
end Go.Proofs.YtcgkgdhbipbnfaaGreatDoor.Tq

namespace Go.Proofs.YtcgkgdhbipbnfaaGreatDoor.Tq
open Go Go.RowKit

/-- What holds while it is searched: the top's address, and the place found so far, in their boxes. -/
structure LRel (B T L m : Nat) (w wx : World) : Prop where
  below : Below w.heap.size w wx
  ht : w.heap.size ≤ T
  hl : w.heap.size ≤ L
  hne : T ≠ L
  lt : T < wx.heap.size
  ll : L < wx.heap.size
  c0 : wx.cell? ⟨T, 0, none⟩ = some (.pointer (some ⟨B, 0, none⟩))
  c2 : wx.cell? ⟨L, 0, none⟩ = some (.int .i64 m)
  f2 : wx.frozen? ⟨L, 0, none⟩ = false
theorem LRel.on {B T L m : Nat} {w wx wy : World} (h : LRel B T L m w wx) (hB : Below wx.heap.size wx wy) : LRel B T L m w wy :=
  ⟨h.below.trans (hB.mono h.below.size), h.ht, h.hl, h.hne, Nat.lt_of_lt_of_le h.lt hB.size, Nat.lt_of_lt_of_le h.ll hB.size, (hB.cell (p := ⟨T, 0, none⟩) h.lt).trans h.c0, (hB.cell (p := ⟨L, 0, none⟩) h.ll).trans h.c2, (hB.frozen (p := ⟨L, 0, none⟩) h.ll).trans h.f2⟩
theorem LRel.set {B T L m : Nat} {w wx : World} (h : LRel B T L m w wx) (k : Nat) : LRel B T L k w (wx.setCell ⟨L, 0, none⟩ (.int .i64 k)) :=
  ⟨h.below.setCell h.hl _, h.ht, h.hl, h.hne, by have := h.lt; simpa using this, by have := h.ll; simpa using this,
    by rw [World.cell?_setCell_other (h := by simp [h.hne.symm])]; exact h.c0, World.cell?_setCell_same wx ⟨L, 0, none⟩ _ h.c2, by rw [World.frozen?_setCell]; exact h.f2⟩
set_option maxRecDepth 100000 in
set_option maxHeartbeats 4000000 in
theorem least_place {base B room : Nat} {v : Value} {l : List Itm} {w : World} (h : Tp base B room v l w) (hpos : 0 < l.length) :
    Calls Tryz.prog 112 #[.pointer (some ⟨B, 0, none⟩)] w fun e w' => e = .returned (.int .i64 (worst l)) ∧ Below w.heap.size w w' := by
  obtain ⟨g, cap, rfl, hbg, hg, hcap, hmax, hcell, _⟩ := h.row.form_pos hpos
  have hl := h.inv.len
  have hh := h.inv.hi
  have c1 := h.c1
  have hB := h.lt
  have HC := Lib.hid hcell
  have hs0 : worst l = scanW l (l.length - 1) 0 1 := rfl
  clear h hcell hbg
  obtain ⟨n, hn⟩ : ∃ n, l.length = n := ⟨_, rfl⟩
  have HN := Lib.hid hn
  rw [hn] at hl hcap c1 hs0 hpos
  clear hn
  have HS0 := Lib.hid hs0
  clear hs0
  have hr0 : LRel B w.heap.size (w.heap.size + 1) 0 w ((w.alloc (.cells #[.pointer (some ⟨B, 0, none⟩)] 89)).alloc (.cells #[.int .i64 0] 3)) :=
    have hX := (CellsAt.new #[.pointer (some ⟨B, 0, none⟩)] 89 w).past (.cells #[.int .i64 0] 3)
    have hY := CellsAt.newAt #[.int .i64 0] 3 (w.alloc (.cells #[.pointer (some ⟨B, 0, none⟩)] 89)) (w.heap.size + 1) (by simp)
    ⟨((Below.refl _ _).alloc (Nat.le_refl _) _).alloc (by simp) _, Nat.le_refl _, by omega, by omega, hX.lt, hY.lt, hX.cell 0 _ rfl, hY.cell 0 _ rfl, hY.fro 0 _ rfl⟩
  go_enter Tryz.func112, Tryz.ntmps112
  go_wp2
  go_step3
  go_wp2
  generalize hWW : (w.alloc (.cells #[.pointer (some ⟨B, 0, none⟩)] 89)).alloc (.cells #[.int .i64 0] 3) = W at *
  clear hWW
  generalize w.heap.size + 1 = L at *
  obtain ⟨T, hT⟩ : ∃ T, w.heap.size = T := ⟨_, rfl⟩
  have HT := Lib.hid hT
  rw [hT]
  clear hT
  go_step3
  go_wp2
  go_loopg [5] (n) (fun g5 _ wx => ∃ m : Nat, m + g5 = n ∧ m < n ∧ scanW l (n - (m + 1)) m (m + 1) = worst l ∧ LRel B T L m w wx)
  case atStart => exact ⟨0, by omega, hpos, HS0.out.symm, HT.out ▸ hr0⟩
  case round =>
    obtain ⟨m, hmg, hmn, hsc, hR⟩ := hrel
    clear hr0
    have HSC := Lib.hid hsc
    clear hsc
    have c2 := hR.c2
    go_wp2
    go_loopg [5] (n - (m + 1)) (fun gi i5 wx => ∃ i : Nat, i + gi = n ∧ m < i ∧ i5 = .int .i64 i ∧ Hid (scanW l (n - i) m i = worst l) ∧ LRel B T L m w wx)
    case atStart => exact ⟨m + 1, by omega, by omega, by go_num, HSC, hR⟩
    case round =>
      obtain ⟨i, hig, hmi, rfl, HS, hRi⟩ := hrel
      clear hR c2
      have k0 := hRi.c0
      have k1 := (hRi.below.cell (p := ⟨B, 1, none⟩) hB).trans c1
      have k2 := hRi.c2
      cases gk with
      | zero =>
        obtain rfl : i = n := by omega
        have HE : Hid (m = worst l) := Lib.hid (by have := HS.out; rw [show i - i = 0 by omega] at this; exact this)
        go_wp2
        rw [Exit.noGoto_ret]
        go_ret
        exact ⟨by rw [← HE.out]; rfl, hRi.below⟩
      | succ gi =>
        have hin : i < n := by omega
        obtain ⟨e0, e1, e2⟩ := HC.out i (by rw [HN.out]; exact hin)
        obtain ⟨d0, d1, d2⟩ := HC.out m (by rw [HN.out]; exact hmn)
        have hst := scanW_step l m i (by rw [HN.out]; exact hin)
        rw [HN.out, HS.out] at hst
        have HST := Lib.hid hst
        clear hst
        have hlook : ∀ (j : Nat) (u : Value), w.cell? ⟨g, j, none⟩ = some u → wr.cell? ⟨g, j, none⟩ = some u := fun j u hu => (hRi.below.cell (p := ⟨g, j, none⟩) hg).trans hu
        have a0 := hlook _ _ e0
        have a1 := hlook _ _ e1
        have a2 := hlook _ _ e2
        have hga := goes_ahead l[i]!.name l[m]!.name l[i]!.many l[i]!.over l[m]!.many l[m]!.over m n cap T L B g hmn (by omega) wr hRi.lt hRi.ll (Nat.lt_of_lt_of_le hB hRi.below.size) (Nat.lt_of_lt_of_le hg hRi.below.size) k0 k1 k2 (hlook _ _ d0) (hlook _ _ d1) (hlook _ _ d2)
        clear hlook e0 e1 e2 d0 d1 d2 k2
        cases hq : goes ⟨l[i]!.name, l[i]!.many, l[i]!.over⟩ ⟨l[m]!.name, l[m]!.many, l[m]!.over⟩ with
        | true =>
          rw [hq] at hga
          have HQ := Lib.hid hq
          clear hq
          generalize l[i]!.name = xn at a0 hga
          generalize l[i]!.many = xm at a1 hga
          generalize l[i]!.over = xo at a2 hga
          go_wp2_with fail
          refine hga.mono ?_
          rintro e w2 ⟨rfl, hB2⟩
          have hR2 := (hRi.on hB2)
          have f2 := hR2.f2
          have HR3 := Lib.hid (hR2.set i)
          have z2 := hR2.c2
          have z0 := hR2.c0
          clear hga hB2 hR2 a0 a1 a2 k0 k1
          go_wp2
          go_roundg (n - i)
          case measure => omega
          case rel =>
            refine ⟨i, by omega, hin, ?_, HR3.out⟩
            have := HST.out
            rw [if_pos (show goes l[i]! l[m]! = true from HQ.out)] at this
            exact this.symm
        | false =>
          rw [hq] at hga
          have HQ := Lib.hid hq
          clear hq
          generalize l[i]!.name = xn at a0 hga
          generalize l[i]!.many = xm at a1 hga
          generalize l[i]!.over = xo at a2 hga
          go_wp2_with fail
          refine hga.mono ?_
          rintro e w2 ⟨rfl, hB2⟩
          have hR2 := (hRi.on hB2)
          clear hga hB2 a0 a1 a2 k0 k1
          go_wp2
          go_roundg gi
          case measure => omega
          case rel =>
            refine ⟨i + 1, by omega, by omega, by go_num, Lib.hid ?_, hR2⟩
            have := HST.out
            rw [if_neg (show ¬ goes l[i]! l[m]! = true by rw [show goes l[i]! l[m]! = false from HQ.out]; decide)] at this
            exact this.symm
end Go.Proofs.YtcgkgdhbipbnfaaGreatDoor.Tq

namespace Go.Proofs.YtcgkgdhbipbnfaaGreatDoor.Tq
open Go Go.RowKit

def LstPhi (B g n cap m y : Nat) : Nat → Value → World → Prop
  | i, v, _ => v = ([.pointer (some ⟨B, 0, none⟩), .pointer (some ⟨B, 0, none⟩), .pointer (some ⟨B, 1, none⟩), .slice (some ⟨g, 0, none⟩) n cap, .pointer (some ⟨B, 0, none⟩), .int .i64 ((m : Nat)), .pointer (some ⟨g, m * 3, none⟩), .pointer (some ⟨g, m * 3 + 1, none⟩), .int .u64 y, .int .u64 y] : List Value).getD i undef
theorem LstPhi.stays {B g n cap m y : Nat} : ∀ i v wx wy, LstPhi B g n cap m y i v wx → Reg.Old wx wy → LstPhi B g n cap m y i v wy := fun _ _ _ _ h _ => h

set_option maxRecDepth 100000 in
set_option maxHeartbeats 4000000 in
theorem least_any {base B room : Nat} {v : Value} {l : List Itm} {w : World} (h : Tp base B room v l w) :
    Calls Tryz.prog 86 #[.pointer (some ⟨B, 0, none⟩)] w fun e w' => e = .returned (.int .u64 (leastL room l)) ∧ Below w.heap.size w w' := by
  have hlen := h.inv.len
  have hlo := h.inv.lo
  have hroom := hasroom_any h
  by_cases hr : l.length < room
  · rw [show decide (l.length < room) = true from decide_eq_true hr] at hroom
    rw [show leastL room l = 0 by unfold leastL; rw [if_pos hr]]
    clear h hlen hlo hr
    go_enter Tryz.func86, Tryz.ntmps86
    go_wp2_with fail
    refine hroom.mono ?_
    rintro e w1 ⟨rfl, nq, rfl⟩
    go_wp2
    go_ret
    exact ⟨rfl, below_drewN (Below.refl _ _) nq⟩
  · rw [show decide (l.length < room) = false from decide_eq_false hr] at hroom
    have hpos : 0 < l.length := by omega
    have hlp0 := fun (W : World) (hB : Below w.heap.size w W) => least_place (h.belowOn hB) hpos
    obtain ⟨g, cap, rfl, hbg, hg, hcap, hmax, hcell, _⟩ := h.row.form_pos hpos
    obtain ⟨_, d1, _⟩ := hcell (worst l) (worst_lt hpos)
    have hw := worst_lt hpos
    rw [show leastL room l = l[worst l]!.many by unfold leastL; rw [if_neg hr]]
    have c1 := h.c1
    have hBL := h.lt
    have hgL := hg
    have hi := h.inv.hi
    clear h hbg hg hcap hcell hr
    generalize l[worst l]!.many = y at *
    generalize worst l = m at *
    generalize l.length = n at *
    go_enter Tryz.func86, Tryz.ntmps86
    go_wp2_with fail
    refine hroom.mono ?_
    rintro e w1 ⟨rfl, nq, rfl⟩
    have hE := below_drewN (Below.refl w.heap.size w) nq
    have hlp := fun (W : World) (hB : Below w.heap.size (w.drewN nq).drew W) => hlp0 W (hE.drew.trans hB)
    have k1 : (w.drewN nq).cell? ⟨B, 1, none⟩ = some (.slice (some ⟨g, 0, none⟩) n cap) := c1
    have k2 : (w.drewN nq).cell? ⟨g, m * 3 + 1, none⟩ = some (.int .u64 y) := d1
    clear hroom hlp0 c1 d1
    replace hBL : B < (w.drewN nq).heap.size := hBL
    replace hgL : g < (w.drewN nq).heap.size := hgL
    have hlp' : ∀ W : World, Below (w.drewN nq).heap.size (w.drewN nq).drew W → Calls Tryz.prog 112 #[.pointer (some ⟨B, 0, none⟩)] W fun e w' => e = .returned (.int .i64 m) ∧ Below W.heap.size W w' := hlp
    clear hlp
    have hlp := hlp'
    replace hE : Below w.heap.size w (w.drewN nq) := hE
    clear hlp'
    have c1 := k1
    have d1 := k2
    clear k1 k2
    have HW : (w.drewN nq).heap.size = w.heap.size := rfl
    generalize w.drewN nq = W at *
    go_wp2
    refine Reg.wp_region_inv (n := 14) (LstPhi B g n cap m y) (by kernel_rfl) (by kernel_rfl) rfl LstPhi.stays ?_ ?_
    · refine ⟨?_, ?_, ?_, ?_, ?_, ?_, ?_, ?_, ?_, ?_, trivial⟩
      · intro cx wc hB hp hs
        have g0 : cx.tmps[0]? = some (.pointer (some ⟨B, 0, none⟩)) := (hs 0 (by kernel_rfl)).trans rfl
        refine Reg.ok_value Reg.Old.refl (v := .pointer (some ⟨B, 0, none⟩)) (Reg.wanted_none rfl) ?_ rfl
        go_simp
      · intro cx wc hB hp hs
        have g5 : cx.tmps[5]? = some (.pointer (some ⟨B, 0, none⟩)) := by obtain ⟨_, g, hv⟩ := Reg.pred hp 0 5 (by kernel_rfl) rfl rfl; exact g.trans (congrArg some hv)
        refine Reg.ok_value Reg.Old.refl (v := .pointer (some ⟨B, 0, none⟩)) (Reg.wanted_none rfl) ?_ rfl
        go_simp
      · intro cx wc hB hp hs
        have g6 : cx.tmps[6]? = some (.pointer (some ⟨B, 0, none⟩)) := by obtain ⟨_, g, hv⟩ := Reg.pred hp 1 6 (by kernel_rfl) rfl rfl; exact g.trans (congrArg some hv)
        refine Reg.ok_value Reg.Old.refl (v := .pointer (some ⟨B, 1, none⟩)) (Reg.wanted_none rfl) ?_ rfl
        go_simp
      · intro cx wc hB hp hs
        have g7 : cx.tmps[7]? = some (.pointer (some ⟨B, 1, none⟩)) := by obtain ⟨_, g, hv⟩ := Reg.pred hp 2 7 (by kernel_rfl) rfl rfl; exact g.trans (congrArg some hv)
        have kx : wc.cell? ⟨B, 1, none⟩ = some (.slice (some ⟨g, 0, none⟩) n cap) := (Below.cell (p := ⟨B, 1, none⟩) hB hBL).trans c1
        refine Reg.ok_value Reg.Old.refl (v := .slice (some ⟨g, 0, none⟩) n cap) (Reg.wanted_none rfl) ?_ rfl
        go_simp
      · intro cx wc hB hp hs
        have g0 : cx.tmps[0]? = some (.pointer (some ⟨B, 0, none⟩)) := (hs 0 (by kernel_rfl)).trans rfl
        refine Reg.ok_value Reg.Old.refl (v := .pointer (some ⟨B, 0, none⟩)) (Reg.wanted_none rfl) ?_ rfl
        go_simp
      · intro cx wc hB hp hs
        have g9 : cx.tmps[9]? = some (.pointer (some ⟨B, 0, none⟩)) := by obtain ⟨_, g, hv⟩ := Reg.pred hp 4 9 (by kernel_rfl) rfl rfl; exact g.trans (congrArg some hv)
        refine Reg.ok_call (f := 112) (args := #[.pointer (some ⟨B, 0, none⟩)]) (Reg.wanted_none rfl) (by go_simp) ((hlp wc hB).mono ?_)
        rintro e w' ⟨rfl, hB2⟩
        exact ⟨_, rfl, hB2, rfl⟩
      · intro cx wc hB hp hs
        have g8 : cx.tmps[8]? = some (.slice (some ⟨g, 0, none⟩) n cap) := by obtain ⟨_, g, hv⟩ := Reg.pred hp 3 8 (by kernel_rfl) rfl rfl; exact g.trans (congrArg some hv)
        have g10 : cx.tmps[10]? = some (.int .i64 ((m : Nat))) := by obtain ⟨_, g, hv⟩ := Reg.pred hp 5 10 (by kernel_rfl) rfl rfl; exact g.trans (congrArg some hv)
        refine Reg.ok_value Reg.Old.refl (v := .pointer (some ⟨g, m * 3, none⟩)) (Reg.wanted_none rfl) ?_ rfl
        go_simp
      · intro cx wc hB hp hs
        have g11 : cx.tmps[11]? = some (.pointer (some ⟨g, m * 3, none⟩)) := by obtain ⟨_, g, hv⟩ := Reg.pred hp 6 11 (by kernel_rfl) rfl rfl; exact g.trans (congrArg some hv)
        refine Reg.ok_value Reg.Old.refl (v := .pointer (some ⟨g, m * 3 + 1, none⟩)) (Reg.wanted_none rfl) ?_ rfl
        go_simp
      · intro cx wc hB hp hs
        have g12 : cx.tmps[12]? = some (.pointer (some ⟨g, m * 3 + 1, none⟩)) := by obtain ⟨_, g, hv⟩ := Reg.pred hp 7 12 (by kernel_rfl) rfl rfl; exact g.trans (congrArg some hv)
        have kx : wc.cell? ⟨g, m * 3 + 1, none⟩ = some (.int .u64 y) := (Below.cell (p := ⟨g, m * 3 + 1, none⟩) hB hgL).trans d1
        refine Reg.ok_value Reg.Old.refl (v := .int .u64 y) (Reg.wanted_none rfl) ?_ rfl
        go_simp
      · intro cx wc hB hp hs
        have g13 : cx.tmps[13]? = some (.int .u64 y) := by obtain ⟨_, g, hv⟩ := Reg.pred hp 8 13 (by kernel_rfl) rfl rfl; exact g.trans (congrArg some hv)
        refine Reg.ok_value Reg.Old.refl (v := .int .u64 y) (Reg.wanted_none rfl) ?_ rfl
        go_simp
    · intro d wc hB hsz hdf hv ho
      have gr : d.tmps[2]? = some (.int .u64 y) := by obtain ⟨_, g, hv⟩ := hv 9 _ 2 rfl rfl; exact g.trans (congrArg some hv)
      have hF := hE.trans (hB.mono hE.size)
      clear hv ho hB
      go_wp2
      refine bodyPost_ret (v := .int .u64 y) ?_ hdf ⟨rfl, hF⟩
      simp [results, Tryz.results86, go_sem, gr]
end Go.Proofs.YtcgkgdhbipbnfaaGreatDoor.Tq

