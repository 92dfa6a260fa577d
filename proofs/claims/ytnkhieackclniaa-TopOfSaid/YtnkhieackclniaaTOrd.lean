/- The order in which two items are told. -/
import Derived.Test.YtnkhieackclniaaTCmp
import Derived.Test.YtnkhieackclniaaReg
namespace Go.Proofs.Ytnkhieackclniaa
open Go Go.RowKit

/-- Draws, and new blocks behind what was there. -/
def Grown (w w' : World) : Prop := ∃ q os, w' = Sort.grow (w.drewN q) os
theorem Grown.refl (w : World) : Grown w w := ⟨0, #[], by rw [Sort.grow_empty]; rfl⟩
theorem Grown.trans {a b c : World} (h : Grown a b) (k : Grown b c) : Grown a c := by
  obtain ⟨q, os, rfl⟩ := h
  obtain ⟨q', os', rfl⟩ := k
  exact ⟨q + q', os ++ os', by rw [← World.drewN_drewN, ← Sort.grow_grow]; rfl⟩
theorem Grown.alloc (w : World) (o : Obj) : Grown w (w.alloc o) := ⟨0, #[o], Sort.alloc_eq_grow w o⟩
theorem Grown.drew (w : World) : Grown w w.drew := ⟨1, #[], by rw [Sort.grow_empty]; rfl⟩
theorem Grown.below {w w' : World} (h : Grown w w') : Below w.heap.size w w' := by
  obtain ⟨q, os, rfl⟩ := h
  refine ⟨rfl, rfl, rfl, by simp [Sort.grow, World.drewN], fun k hk => ?_⟩
  show (w.heap ++ os)[k]? = w.heap[k]?
  exact Array.getElem?_append_left hk
/-- cmp.Or of the two comparisons. -/
def cmpT (x y : Itm) : Int := if cmpI y.many x.many = 0 then cmpS x.name y.name else cmpI y.many x.many
theorem cmpI_lt {x y : Int} (h : x < y) : cmpI x y = -1 := by unfold cmpI; rw [if_pos h]
theorem cmpI_gt {x y : Int} (h : y < x) : cmpI x y = 1 := by unfold cmpI; rw [if_neg (by omega), if_pos h]
theorem cmpI_eq {x y : Int} (h : x = y) : cmpI x y = 0 := by unfold cmpI; rw [if_neg (by omega), if_neg (by omega)]
theorem cmpS_lt (x y : ByteArray) : decide (cmpS x y < 0) = lessN x y := by
  unfold cmpS
  cases h4 : lessN x y with
  | true => simp
  | false => cases h5 : lessN y x <;> simp
theorem cmpT_lt (x y : Itm) : decide (cmpT x y < 0) = tells x y := by
  unfold cmpT tells
  by_cases h1 : y.many < x.many
  · rw [cmpI_lt (by omega)]; simp [h1]
  · by_cases h2 : x.many < y.many
    · rw [cmpI_gt (by omega)]
      have h3 : ¬ x.many = y.many := by omega
      simp [h1, h3]
    · rw [cmpI_eq (by omega), if_pos rfl, cmpS_lt]
      have h3 : x.many = y.many := by omega
      simp [h3]
def OrdPhi (X Y : Nat) (x y : Itm) : Nat → Value → World → Prop
  | 10, v, w => ∃ g, v = .slice (some ⟨g, 0, none⟩) 2 2 ∧ CellsAt g #[.int .i64 (cmpI y.many x.many), .int .i64 (cmpS x.name y.name)] w
  | i, v, _ => v = ([.pointer (some ⟨Y, 1, none⟩), .int .u64 y.many, .pointer (some ⟨X, 1, none⟩), .int .u64 x.many, .int .i64 (cmpI y.many x.many), .pointer (some ⟨X, 0, none⟩), .string x.name, .pointer (some ⟨Y, 0, none⟩), .string y.name, .int .i64 (cmpS x.name y.name), undef, .int .i64 (cmpT x y), .int .i64 (cmpT x y)] : List Value).getD i undef
theorem OrdPhi.stays {X Y : Nat} {x y : Itm} (i : Nat) (v : Value) (wx wy : World) (h : OrdPhi X Y x y i v wx) (k : Grown wx wy) : OrdPhi X Y x y i v wy := by
  unfold OrdPhi at *
  split
  · simp only at h
    obtain ⟨g, h1, h2⟩ := h
    exact ⟨g, h1, h2.below k.below⟩
  · rename_i hi
    split at h
    · exact absurd rfl hi
    · exact h
set_option maxRecDepth 100000 in
set_option maxHeartbeats 4000000 in
theorem inorder_any (x y : Itm) (w : World) :
    Calls Try.prog 35 #[.agg (encI x).toArray, .agg (encI y).toArray] w fun e w' => e = .returned (.int .i64 (cmpT x y)) ∧ Grown w w' := by
  show Calls _ _ #[.agg #[.string x.name, .int .u64 x.many, .int .u64 x.over], .agg #[.string y.name, .int .u64 y.many, .int .u64 y.over]] _ _
  have hX := (CellsAt.new #[.string x.name, .int .u64 x.many, .int .u64 x.over] 51 w).past (.cells #[.string y.name, .int .u64 y.many, .int .u64 y.over] 51)
  have hY := CellsAt.newAt #[.string y.name, .int .u64 y.many, .int .u64 y.over] 51 (w.alloc (.cells #[.string x.name, .int .u64 x.many, .int .u64 x.over] 51)) (w.heap.size + 1) (by simp)
  have hGr := (Grown.alloc w (.cells #[.string x.name, .int .u64 x.many, .int .u64 x.over] 51)).trans (Grown.alloc _ (.cells #[.string y.name, .int .u64 y.many, .int .u64 y.over] 51))
  go_enter Try.func35, Try.ntmps35
  go_wp2
  generalize w.heap.size + 1 = Y at *
  generalize w.heap.size = X at *
  generalize (w.alloc (.cells #[.string x.name, .int .u64 x.many, .int .u64 x.over] 51)).alloc (.cells #[.string y.name, .int .u64 y.many, .int .u64 y.over] 51) = W at *
  refine Reg.wp_region_invG (n := 17) Grown (OrdPhi X Y x y) (by kernel_rfl) (by kernel_rfl) rfl Grown.refl (fun _ _ _ => Grown.trans) OrdPhi.stays ?_ ?_
  · refine ⟨?_, ?_, ?_, ?_, ?_, ?_, ?_, ?_, ?_, ?_, ?_, ?_, ?_, trivial⟩
    · intro cx wc hB hp hs
      have g3 : cx.tmps[3]? = some (.pointer (some ⟨Y, 0, none⟩)) := (hs 3 (by kernel_rfl)).trans rfl
      refine Reg.ok_value Grown.refl (v := .pointer (some ⟨Y, 1, none⟩)) (Reg.wanted_none rfl) ?_ rfl
      go_simp
    · intro cx wc hB hp hs
      have g5 : cx.tmps[5]? = some (.pointer (some ⟨Y, 1, none⟩)) := by obtain ⟨_, g, hv⟩ := Reg.pred hp 0 5 (by kernel_rfl) rfl rfl; exact g.trans (congrArg some hv)
      have hc := hY.drew.below hB.below
      have k1 := hc.cell 1 (.int .u64 y.many) rfl
      refine Reg.ok_value Grown.refl (v := .int .u64 y.many) (Reg.wanted_none rfl) ?_ rfl
      go_simp
    · intro cx wc hB hp hs
      have g2 : cx.tmps[2]? = some (.pointer (some ⟨X, 0, none⟩)) := (hs 2 (by kernel_rfl)).trans rfl
      refine Reg.ok_value Grown.refl (v := .pointer (some ⟨X, 1, none⟩)) (Reg.wanted_none rfl) ?_ rfl
      go_simp
    · intro cx wc hB hp hs
      have g7 : cx.tmps[7]? = some (.pointer (some ⟨X, 1, none⟩)) := by obtain ⟨_, g, hv⟩ := Reg.pred hp 2 7 (by kernel_rfl) rfl rfl; exact g.trans (congrArg some hv)
      have hc := hX.drew.below hB.below
      have k1 := hc.cell 1 (.int .u64 x.many) rfl
      refine Reg.ok_value Grown.refl (v := .int .u64 x.many) (Reg.wanted_none rfl) ?_ rfl
      go_simp
    · intro cx wc hB hp hs
      have g6 : cx.tmps[6]? = some (.int .u64 y.many) := by obtain ⟨_, g, hv⟩ := Reg.pred hp 1 6 (by kernel_rfl) rfl rfl; exact g.trans (congrArg some hv)
      have g8 : cx.tmps[8]? = some (.int .u64 x.many) := by obtain ⟨_, g, hv⟩ := Reg.pred hp 3 8 (by kernel_rfl) rfl rfl; exact g.trans (congrArg some hv)
      refine Reg.ok_call (f := 43) (args := #[.int .u64 y.many, .int .u64 x.many]) (Reg.wanted_none rfl) (by go_simp) ((cmp_u64 _ _ _).mono ?_)
      rintro e w' ⟨rfl, rfl⟩
      exact ⟨_, rfl, Grown.refl _, rfl⟩
    · intro cx wc hB hp hs
      have g2 : cx.tmps[2]? = some (.pointer (some ⟨X, 0, none⟩)) := (hs 2 (by kernel_rfl)).trans rfl
      refine Reg.ok_value Grown.refl (v := .pointer (some ⟨X, 0, none⟩)) (Reg.wanted_none rfl) ?_ rfl
      go_simp
    · intro cx wc hB hp hs
      have g10 : cx.tmps[10]? = some (.pointer (some ⟨X, 0, none⟩)) := by obtain ⟨_, g, hv⟩ := Reg.pred hp 5 10 (by kernel_rfl) rfl rfl; exact g.trans (congrArg some hv)
      have hc := hX.drew.below hB.below
      have k0 := hc.cell 0 (.string x.name) rfl
      refine Reg.ok_value Grown.refl (v := .string x.name) (Reg.wanted_none rfl) ?_ rfl
      go_simp
    · intro cx wc hB hp hs
      have g3 : cx.tmps[3]? = some (.pointer (some ⟨Y, 0, none⟩)) := (hs 3 (by kernel_rfl)).trans rfl
      refine Reg.ok_value Grown.refl (v := .pointer (some ⟨Y, 0, none⟩)) (Reg.wanted_none rfl) ?_ rfl
      go_simp
    · intro cx wc hB hp hs
      have g12 : cx.tmps[12]? = some (.pointer (some ⟨Y, 0, none⟩)) := by obtain ⟨_, g, hv⟩ := Reg.pred hp 7 12 (by kernel_rfl) rfl rfl; exact g.trans (congrArg some hv)
      have hc := hY.drew.below hB.below
      have k0 := hc.cell 0 (.string y.name) rfl
      refine Reg.ok_value Grown.refl (v := .string y.name) (Reg.wanted_none rfl) ?_ rfl
      go_simp
    · intro cx wc hB hp hs
      have g11 : cx.tmps[11]? = some (.string x.name) := by obtain ⟨_, g, hv⟩ := Reg.pred hp 6 11 (by kernel_rfl) rfl rfl; exact g.trans (congrArg some hv)
      have g13 : cx.tmps[13]? = some (.string y.name) := by obtain ⟨_, g, hv⟩ := Reg.pred hp 8 13 (by kernel_rfl) rfl rfl; exact g.trans (congrArg some hv)
      refine Reg.ok_call (f := 44) (args := #[.string x.name, .string y.name]) (Reg.wanted_none rfl) (by go_simp) ((cmp_str _ _ _).mono ?_)
      rintro e w' ⟨rfl, rfl⟩
      exact ⟨_, rfl, Grown.refl _, rfl⟩
    · intro cx wc hB hp hs
      have g9 : cx.tmps[9]? = some (.int .i64 (cmpI y.many x.many)) := by obtain ⟨_, g, hv⟩ := Reg.pred hp 4 9 (by kernel_rfl) rfl rfl; exact g.trans (congrArg some hv)
      have g14 : cx.tmps[14]? = some (.int .i64 (cmpS x.name y.name)) := by obtain ⟨_, g, hv⟩ := Reg.pred hp 9 14 (by kernel_rfl) rfl rfl; exact g.trans (congrArg some hv)
      refine Reg.ok_made (v := .slice (some ⟨wc.heap.size, 0, none⟩) 2 2) (w2 := wc.alloc (.cells #[.int .i64 (cmpI y.many x.many), .int .i64 (cmpS x.name y.name)] 3)) (Reg.wanted_none rfl) ?_ (Grown.alloc _ _) ⟨_, rfl, CellsAt.new _ _ _⟩
      go_simp
    · intro cx wc hB hp hs
      obtain ⟨_, g15, gg, rfl, hG⟩ := Reg.pred hp 10 15 (by kernel_rfl) rfl rfl
      have k0 := hG.cell 0 _ rfl
      have k1 := hG.cell 1 _ rfl
      refine Reg.ok_call (f := 42) (args := #[.slice (some ⟨gg, 0, none⟩) 2 2]) (Reg.wanted_none rfl) (by go_simp) ((or_two _ _ _ _ k0 k1).mono ?_)
      rintro e w' ⟨rfl, rfl⟩
      exact ⟨_, rfl, Grown.refl _, rfl⟩
    · intro cx wc hB hp hs
      have g16 : cx.tmps[16]? = some (.int .i64 (cmpT x y)) := by obtain ⟨_, g, hv⟩ := Reg.pred hp 11 16 (by kernel_rfl) rfl rfl; exact g.trans (congrArg some hv)
      refine Reg.ok_value Grown.refl (v := .int .i64 (cmpT x y)) (Reg.wanted_none rfl) ?_ rfl
      go_simp
  · intro d wc hB hsz hdf hv hno ho
    have gr : d.tmps[4]? = some (.int .i64 (cmpT x y)) := by obtain ⟨_, g, hv⟩ := hv 12 _ 4 rfl rfl; exact g.trans (congrArg some hv)
    have hF := hGr.trans ((Grown.drew _).trans hB)
    clear hv ho hB hno
    go_wp2
    refine bodyPost_ret (v := .int .i64 (cmpT x y)) ?_ hdf ⟨rfl, hF⟩
    simp [results, Try.results35, go_sem, gr]
end Go.Proofs.Ytnkhieackclniaa
