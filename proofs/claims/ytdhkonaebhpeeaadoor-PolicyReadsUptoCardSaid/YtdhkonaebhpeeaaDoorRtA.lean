/- The chapter's own side: whether a policy is right: the last line. The chapter's own side: whether a policy is right: the last line. -/
import Derived.Test.YtdhkonaebhpeeaaDoorPoU
import Derived.Test.YtdhkonaebhpeeaaDoorPoWk
namespace Go.Proofs.YtdhkonaebhpeeaaDoor.Po
open Go Go.RowKit

theorem in_of (n low high : Int) (b : Bool) (h : inZ n low high = b) (w : World) : Calls Tryd.prog 35 #[.int .i64 n, .int .i64 low, .int .i64 high] w fun e w' => e = .returned (.bool b) ∧ w' = w := by
  subst h
  exact in_any n low high w
theorem fv {a : Act} {w : World} {vs : List Value} {k d : Nat} (h : ∃ v, a.tmps[d]? = some v ∧ WishPhi vs k v w) : a.tmps[d]? = some (vs.getD k undef) := by
  obtain ⟨v, g, hv⟩ := h
  exact g.trans (congrArg some hv)
theorem pv {l : List Oper} {o o' : Oper} {a : Act} {w : World} {vs : List Value} {v : Value} (hp : ∀ e ∈ o.after.toList, Region.binds .any e = true → ∀ o' d, l[e.on]? = some o' → o'.dst = some d → ∃ v, a.tmps[d]? = some v ∧ WishPhi vs e.on v w) (k d : Nat) (h1 : (o.after.any fun e => Region.binds .any e && (e.on == k)) = true) (h2 : l[k]? = some o') (h3 : o'.dst = some d) (h4 : vs.getD k undef = v) : a.tmps[d]? = some v := by
  obtain ⟨u, g, hv⟩ := Reg.pred hp k d h1 h2 h3
  exact g.trans (congrArg some (hv.trans h4))
theorem ov {P : Program} {l : List Oper} {Q : Exit → Act → World → Prop} {o : Oper} {a : Act} {w : World} {vs : List Value} {k : Nat} {v : Value} (hg : o.guard = none) (hrun : (execOp a.eval o).run P w = .ok (.value v) w) (hv : WishPhi vs k v w) :
    if Region.wanted o (yielded l.toArray a.tmps) then o.wp P a w (fun a' w' => ∃ v, a' = a.put o.dst v ∧ Reg.Old w w' ∧ WishPhi vs k v w') Q else WishPhi vs k undef w := Reg.ok_value Reg.Old.refl (Reg.wanted_none hg) hrun hv
theorem og {P : Program} {l : List Oper} {Q : Exit → Act → World → Prop} {o o' : Oper} {a : Act} {w : World} {vs : List Value} {k j d : Nat} {b : Bool} {v : Value} (h : o.guard = some (j, b)) (ho : l[j]? = some o') (hd : o'.dst = some d) (hb : a.tmps[d]? = some (.bool b)) (hrun : (execOp a.eval o).run P w = .ok (.value v) w) (hv : WishPhi vs k v w) :
    if Region.wanted o (yielded l.toArray a.tmps) then o.wp P a w (fun a' w' => ∃ v, a' = a.put o.dst v ∧ Reg.Old w w' ∧ WishPhi vs k v w') Q else WishPhi vs k undef w := Reg.ok_value Reg.Old.refl (Reg.wanted_at h ho hd hb) hrun hv
theorem kv {l : List Oper} {a a0 : Act} {v : Value} (ho : ∀ d, (∀ (i : Nat) (o : Oper), l[i]? = some o → o.dst ≠ some d) → a.tmps[d]? = a0.tmps[d]?) (d : Nat) (h : (l.all fun o => o.dst != some d) = true) (e : a0.tmps[d]? = some v) : a.tmps[d]? = some v := (Reg.kept ho d h).trans e
theorem kw {l : List Oper} {a a0 : Act} {v : Value} (ho : ∀ d, (∀ (i : Nat) (o : Oper), l[i]? = some o → o.dst ≠ some d) → a.tmps[d]? = a0.tmps[d]?) (d : Nat) (e : a0.tmps[d]? = some v) (h : (l.all fun o => o.dst != some d) = true := by kernel_rfl) : a.tmps[d]? = some v := (Reg.kept ho d h).trans e
theorem in_bl (n low high : Int) (b : Bool) (h : inZ n low high = b) (w : World) : Calls Tryd.prog 35 #[.int .i64 n, .int .i64 low, .int .i64 high] w fun e w' => e = .returned (.bool b) ∧ Below w.heap.size w w' := by
  subst h
  refine (in_any n low high w).mono ?_
  rintro e w' ⟨rfl, rfl⟩
  exact ⟨rfl, Below.refl _ _⟩
end Go.Proofs.YtdhkonaebhpeeaaDoor.Po

namespace Go.Proofs.YtdhkonaebhpeeaaDoor.Po
open Go Go.RowKit

set_option maxRecDepth 100000 in
set_option maxHeartbeats 16000000 in
theorem r7_lo (C0 : Code) (hC0 : Tryd.f16.body.bind (findG 7) = some C0) (Q : Exit → Act → World → Prop) (W : World) (N g : Nat) (x0 x1 x2 x3 x4 x5 x6 x7 x8 x9 : Int) (q : Option Addr) (l d : Nat) (_hl : l ≤ 9223372036854775807) (kl0 : N < W.heap.size) (k100 : W.cell? ⟨N, 10, none⟩ = some (.slice q l d)) (rl0 : g < W.heap.size) (r00 : W.cell? ⟨g, 0, none⟩ = some (.int .i64 x0)) (r10 : W.cell? ⟨g, 1, none⟩ = some (.int .i64 x1)) (r20 : W.cell? ⟨g, 2, none⟩ = some (.int .i64 x2)) (r30 : W.cell? ⟨g, 3, none⟩ = some (.int .i64 x3)) (r40 : W.cell? ⟨g, 4, none⟩ = some (.int .i64 x4)) (r50 : W.cell? ⟨g, 5, none⟩ = some (.int .i64 x5)) (r60 : W.cell? ⟨g, 6, none⟩ = some (.int .i64 x6)) (r70 : W.cell? ⟨g, 7, none⟩ = some (.int .i64 x7)) (r80 : W.cell? ⟨g, 8, none⟩ = some (.int .i64 x8)) (r90 : W.cell? ⟨g, 9, none⟩ = some (.int .i64 x9)) (h1 : ¬ (1 : Int) ≤ (l : Int)) (s0 s2 s3 s5 s6 s7 s8 s9 s10 s11 s12 s13 s14 s15 s16 s17 s18 s19 s20 s21 s22 s23 s24 s25 s26 s27 s28 s29 s30 s31 s32 s33 s34 s35 s36 s37 s38 s39 s40 s41 s42 s43 s44 s45 s46 s47 s48 s49 s50 s51 s52 s53 s54 s55 s56 s57 s58 s59 s60 s61 s62 s63 s64 s65 s66 s67 s68 s69 s70 s71 s72 s73 s74 s75 s76 s77 s78 s79 s80 s81 s82 s83 s84 s85 s86 s87 s88 s89 s90 s91 s92 s93 s94 s95 s96 s97 s98 s99 s100 s101 s102 s103 s104 s105 s106 s107 s108 s109 s110 s111 s112 s113 s114 s115 s116 s117 s118 s119 s120 s121 s122 s123 s124 s125 s126 : Value)
    (hQ : ∀ (W' : World) (z54 z55 z56 z57 z58 z59 z60 z61 z62 z63 z64 z65 z66 z67 z68 z69 z70 z71 z72 z73 z74 z75 z76 z77 z78 z79 z80 z81 z82 z83 z84 z85 z86 z87 z88 z89 z90 z91 z92 z93 z94 z95 z96 z97 z98 z99 z100 z101 z102 z103 z104 z105 z106 z107 z108 z109 z110 z111 z112 z113 z114 z115 z116 z117 z118 z119 z120 z121 z122 z123 z124 z125 z126 : Value), Below W.heap.size W W' → Q .normal { tmps := (s0 :: .pointer (some ⟨N, 0, none⟩) :: .bool false :: s3 :: .slice (some ⟨g, 0, none⟩) 10 10 :: s5 :: s6 :: s7 :: s8 :: s9 :: s10 :: s11 :: s12 :: s13 :: s14 :: s15 :: s16 :: s17 :: s18 :: s19 :: s20 :: s21 :: s22 :: s23 :: s24 :: s25 :: s26 :: s27 :: s28 :: s29 :: s30 :: s31 :: s32 :: s33 :: s34 :: s35 :: s36 :: s37 :: s38 :: s39 :: s40 :: s41 :: s42 :: s43 :: s44 :: s45 :: s46 :: s47 :: s48 :: s49 :: s50 :: s51 :: s52 :: s53 :: z54 :: z55 :: z56 :: z57 :: z58 :: z59 :: z60 :: z61 :: z62 :: z63 :: z64 :: z65 :: z66 :: z67 :: z68 :: z69 :: z70 :: z71 :: z72 :: z73 :: z74 :: z75 :: z76 :: z77 :: z78 :: z79 :: z80 :: z81 :: z82 :: z83 :: z84 :: z85 :: z86 :: z87 :: z88 :: z89 :: z90 :: z91 :: z92 :: z93 :: z94 :: z95 :: z96 :: z97 :: z98 :: z99 :: z100 :: z101 :: z102 :: z103 :: z104 :: z105 :: z106 :: z107 :: z108 :: z109 :: z110 :: z111 :: z112 :: z113 :: z114 :: z115 :: z116 :: z117 :: z118 :: z119 :: z120 :: z121 :: z122 :: z123 :: z124 :: z125 :: z126 :: []).toArray, defers := [] } W') :
    Code.wp Tryd.prog C0 Q { tmps := (s0 :: .pointer (some ⟨N, 0, none⟩) :: s2 :: s3 :: .slice (some ⟨g, 0, none⟩) 10 10 :: s5 :: s6 :: s7 :: s8 :: s9 :: s10 :: s11 :: s12 :: s13 :: s14 :: s15 :: s16 :: s17 :: s18 :: s19 :: s20 :: s21 :: s22 :: s23 :: s24 :: s25 :: s26 :: s27 :: s28 :: s29 :: s30 :: s31 :: s32 :: s33 :: s34 :: s35 :: s36 :: s37 :: s38 :: s39 :: s40 :: s41 :: s42 :: s43 :: s44 :: s45 :: s46 :: s47 :: s48 :: s49 :: s50 :: s51 :: s52 :: s53 :: s54 :: s55 :: s56 :: s57 :: s58 :: s59 :: s60 :: s61 :: s62 :: s63 :: s64 :: s65 :: s66 :: s67 :: s68 :: s69 :: s70 :: s71 :: s72 :: s73 :: s74 :: s75 :: s76 :: s77 :: s78 :: s79 :: s80 :: s81 :: s82 :: s83 :: s84 :: s85 :: s86 :: s87 :: s88 :: s89 :: s90 :: s91 :: s92 :: s93 :: s94 :: s95 :: s96 :: s97 :: s98 :: s99 :: s100 :: s101 :: s102 :: s103 :: s104 :: s105 :: s106 :: s107 :: s108 :: s109 :: s110 :: s111 :: s112 :: s113 :: s114 :: s115 :: s116 :: s117 :: s118 :: s119 :: s120 :: s121 :: s122 :: s123 :: s124 :: s125 :: s126 :: []).toArray, defers := [] } W := by
  cases hC0
  have kl : N < W.drew.heap.size := kl0
  have rl : g < W.drew.heap.size := rl0
  have k10 : W.drew.cell? ⟨N, 10, none⟩ = some (.slice q l d) := k100
  have r0 : W.drew.cell? ⟨g, 0, none⟩ = some (.int .i64 x0) := r00
  have r1 : W.drew.cell? ⟨g, 1, none⟩ = some (.int .i64 x1) := r10
  have r2 : W.drew.cell? ⟨g, 2, none⟩ = some (.int .i64 x2) := r20
  have r3 : W.drew.cell? ⟨g, 3, none⟩ = some (.int .i64 x3) := r30
  have r4 : W.drew.cell? ⟨g, 4, none⟩ = some (.int .i64 x4) := r40
  have r5 : W.drew.cell? ⟨g, 5, none⟩ = some (.int .i64 x5) := r50
  have r6 : W.drew.cell? ⟨g, 6, none⟩ = some (.int .i64 x6) := r60
  have r7 : W.drew.cell? ⟨g, 7, none⟩ = some (.int .i64 x7) := r70
  have r8 : W.drew.cell? ⟨g, 8, none⟩ = some (.int .i64 x8) := r80
  have r9 : W.drew.cell? ⟨g, 9, none⟩ = some (.int .i64 x9) := r90
  clear kl0 k100 rl0 r00 r10 r20 r30 r40 r50 r60 r70 r80 r90
  refine Reg.wp_region_inv (n := 127) (WishPhi [.pointer (some ⟨N, 10, none⟩), .slice q l d, .int .i64 ((l : Int)), .bool false, .bool false, undef, undef, undef, undef, .bool false, .bool false, undef, undef, undef, undef, .bool false, .bool false, undef, undef, undef, undef, .bool false, .bool false, undef, undef, undef, undef, undef, undef, undef, .bool false, .bool false, undef, undef, undef, undef, .bool false, .bool false, undef, undef, undef, undef, .bool false, .bool false, undef, undef, undef, undef, .bool false, .bool false, undef, undef, undef, undef, .bool false, .bool false, undef, undef, undef, undef, .bool false, .bool false, undef, undef, undef, undef, .bool false, .bool false, undef, undef, undef, undef, .bool false, .bool false]) (by kernel_rfl) (by kernel_rfl) rfl WishPhi.stays ?_ ?_
  · refine ⟨?_, ?_, ?_, ?_, ?_, ?_, ?_, ?_, ?_, ?_, ?_, ?_, ?_, ?_, ?_, ?_, ?_, ?_, ?_, ?_, ?_, ?_, ?_, ?_, ?_, ?_, ?_, ?_, ?_, ?_, ?_, ?_, ?_, ?_, ?_, ?_, ?_, ?_, ?_, ?_, ?_, ?_, ?_, ?_, ?_, ?_, ?_, ?_, ?_, ?_, ?_, ?_, ?_, ?_, ?_, ?_, ?_, ?_, ?_, ?_, ?_, ?_, ?_, ?_, ?_, ?_, ?_, ?_, ?_, ?_, ?_, ?_, ?_, ?_, trivial⟩
    · intro cx wc hB hp hq
      have g1 : cx.tmps[1]? = some (.pointer (some ⟨N, 0, none⟩)) := (hq 1 (by kernel_rfl)).trans rfl
      refine ov (v := .pointer (some ⟨N, 10, none⟩)) rfl ?_ rfl
      go_simp
    · intro cx wc hB hp hq
      have g54 := pv (v := .pointer (some ⟨N, 10, none⟩)) hp 0 54 (by kernel_rfl) rfl rfl rfl
      have c10 := (Below.cell (p := ⟨N, 10, none⟩) hB kl).trans k10
      refine ov (v := .slice q l d) rfl ?_ rfl
      go_simp
    · intro cx wc hB hp hq
      have g55 := pv (v := .slice q l d) hp 1 55 (by kernel_rfl) rfl rfl rfl
      refine ov (v := .int .i64 ((l : Int))) rfl ?_ rfl
      go_simp
    · intro cx wc hB hp hq
      have g56 := pv (v := .int .i64 ((l : Int))) hp 2 56 (by kernel_rfl) rfl rfl rfl
      have e1 := h1
      refine ov (v := .bool false) rfl ?_ rfl
      go_simp
    · intro cx wc hB hp hq
      have g57 := pv (v := .bool false) hp 3 57 (by kernel_rfl) rfl rfl rfl
      refine ov (v := .bool false) rfl ?_ rfl
      go_simp
    iterate 4 exact fun _ _ _ hp _ => Reg.ok_skip (Reg.unwanted_at (j := 4) (d := 58) rfl rfl rfl (fv (Reg.pred hp 4 58 (by kernel_rfl) rfl rfl)) rfl) rfl
    · intro cx wc hB hp hq
      have g58 := pv (v := .bool false) hp 4 58 (by kernel_rfl) rfl rfl rfl
      refine ov (v := .bool false) rfl ?_ rfl
      go_simp
    · intro cx wc hB hp hq
      have g63 := pv (v := .bool false) hp 9 63 (by kernel_rfl) rfl rfl rfl
      refine ov (v := .bool false) rfl ?_ rfl
      go_simp
    iterate 4 exact fun _ _ _ hp _ => Reg.ok_skip (Reg.unwanted_at (j := 10) (d := 64) rfl rfl rfl (fv (Reg.pred hp 10 64 (by kernel_rfl) rfl rfl)) rfl) rfl
    · intro cx wc hB hp hq
      have g64 := pv (v := .bool false) hp 10 64 (by kernel_rfl) rfl rfl rfl
      refine ov (v := .bool false) rfl ?_ rfl
      go_simp
    · intro cx wc hB hp hq
      have g69 := pv (v := .bool false) hp 15 69 (by kernel_rfl) rfl rfl rfl
      refine ov (v := .bool false) rfl ?_ rfl
      go_simp
    iterate 4 exact fun _ _ _ hp _ => Reg.ok_skip (Reg.unwanted_at (j := 16) (d := 70) rfl rfl rfl (fv (Reg.pred hp 16 70 (by kernel_rfl) rfl rfl)) rfl) rfl
    · intro cx wc hB hp hq
      have g70 := pv (v := .bool false) hp 16 70 (by kernel_rfl) rfl rfl rfl
      refine ov (v := .bool false) rfl ?_ rfl
      go_simp
    · intro cx wc hB hp hq
      have g75 := pv (v := .bool false) hp 21 75 (by kernel_rfl) rfl rfl rfl
      refine ov (v := .bool false) rfl ?_ rfl
      go_simp
    iterate 7 exact fun _ _ _ hp _ => Reg.ok_skip (Reg.unwanted_at (j := 22) (d := 76) rfl rfl rfl (fv (Reg.pred hp 22 76 (by kernel_rfl) rfl rfl)) rfl) rfl
    · intro cx wc hB hp hq
      have g76 := pv (v := .bool false) hp 22 76 (by kernel_rfl) rfl rfl rfl
      refine ov (v := .bool false) rfl ?_ rfl
      go_simp
    · intro cx wc hB hp hq
      have g84 := pv (v := .bool false) hp 30 84 (by kernel_rfl) rfl rfl rfl
      refine ov (v := .bool false) rfl ?_ rfl
      go_simp
    iterate 4 exact fun _ _ _ hp _ => Reg.ok_skip (Reg.unwanted_at (j := 31) (d := 85) rfl rfl rfl (fv (Reg.pred hp 31 85 (by kernel_rfl) rfl rfl)) rfl) rfl
    · intro cx wc hB hp hq
      have g85 := pv (v := .bool false) hp 31 85 (by kernel_rfl) rfl rfl rfl
      refine ov (v := .bool false) rfl ?_ rfl
      go_simp
    · intro cx wc hB hp hq
      have g90 := pv (v := .bool false) hp 36 90 (by kernel_rfl) rfl rfl rfl
      refine ov (v := .bool false) rfl ?_ rfl
      go_simp
    iterate 4 exact fun _ _ _ hp _ => Reg.ok_skip (Reg.unwanted_at (j := 37) (d := 91) rfl rfl rfl (fv (Reg.pred hp 37 91 (by kernel_rfl) rfl rfl)) rfl) rfl
    · intro cx wc hB hp hq
      have g91 := pv (v := .bool false) hp 37 91 (by kernel_rfl) rfl rfl rfl
      refine ov (v := .bool false) rfl ?_ rfl
      go_simp
    · intro cx wc hB hp hq
      have g96 := pv (v := .bool false) hp 42 96 (by kernel_rfl) rfl rfl rfl
      refine ov (v := .bool false) rfl ?_ rfl
      go_simp
    iterate 4 exact fun _ _ _ hp _ => Reg.ok_skip (Reg.unwanted_at (j := 43) (d := 97) rfl rfl rfl (fv (Reg.pred hp 43 97 (by kernel_rfl) rfl rfl)) rfl) rfl
    · intro cx wc hB hp hq
      have g97 := pv (v := .bool false) hp 43 97 (by kernel_rfl) rfl rfl rfl
      refine ov (v := .bool false) rfl ?_ rfl
      go_simp
    · intro cx wc hB hp hq
      have g102 := pv (v := .bool false) hp 48 102 (by kernel_rfl) rfl rfl rfl
      refine ov (v := .bool false) rfl ?_ rfl
      go_simp
    iterate 4 exact fun _ _ _ hp _ => Reg.ok_skip (Reg.unwanted_at (j := 49) (d := 103) rfl rfl rfl (fv (Reg.pred hp 49 103 (by kernel_rfl) rfl rfl)) rfl) rfl
    · intro cx wc hB hp hq
      have g103 := pv (v := .bool false) hp 49 103 (by kernel_rfl) rfl rfl rfl
      refine ov (v := .bool false) rfl ?_ rfl
      go_simp
    · intro cx wc hB hp hq
      have g108 := pv (v := .bool false) hp 54 108 (by kernel_rfl) rfl rfl rfl
      refine ov (v := .bool false) rfl ?_ rfl
      go_simp
    iterate 4 exact fun _ _ _ hp _ => Reg.ok_skip (Reg.unwanted_at (j := 55) (d := 109) rfl rfl rfl (fv (Reg.pred hp 55 109 (by kernel_rfl) rfl rfl)) rfl) rfl
    · intro cx wc hB hp hq
      have g109 := pv (v := .bool false) hp 55 109 (by kernel_rfl) rfl rfl rfl
      refine ov (v := .bool false) rfl ?_ rfl
      go_simp
    · intro cx wc hB hp hq
      have g114 := pv (v := .bool false) hp 60 114 (by kernel_rfl) rfl rfl rfl
      refine ov (v := .bool false) rfl ?_ rfl
      go_simp
    iterate 4 exact fun _ _ _ hp _ => Reg.ok_skip (Reg.unwanted_at (j := 61) (d := 115) rfl rfl rfl (fv (Reg.pred hp 61 115 (by kernel_rfl) rfl rfl)) rfl) rfl
    · intro cx wc hB hp hq
      have g115 := pv (v := .bool false) hp 61 115 (by kernel_rfl) rfl rfl rfl
      refine ov (v := .bool false) rfl ?_ rfl
      go_simp
    · intro cx wc hB hp hq
      have g120 := pv (v := .bool false) hp 66 120 (by kernel_rfl) rfl rfl rfl
      refine ov (v := .bool false) rfl ?_ rfl
      go_simp
    iterate 4 exact fun _ _ _ hp _ => Reg.ok_skip (Reg.unwanted_at (j := 67) (d := 121) rfl rfl rfl (fv (Reg.pred hp 67 121 (by kernel_rfl) rfl rfl)) rfl) rfl
    · intro cx wc hB hp hq
      have g121 := pv (v := .bool false) hp 67 121 (by kernel_rfl) rfl rfl rfl
      refine ov (v := .bool false) rfl ?_ rfl
      go_simp
    · intro cx wc hB hp hq
      have g126 := pv (v := .bool false) hp 72 126 (by kernel_rfl) rfl rfl rfl
      refine ov (v := .bool false) rfl ?_ rfl
      go_simp
  · intro cx w1 hB hsz hdf hv ho
    have hcx := Reg.frame_eq [s0, .pointer (some ⟨N, 0, none⟩), .bool false, s3, .slice (some ⟨g, 0, none⟩) 10 10, s5, s6, s7, s8, s9, s10, s11, s12, s13, s14, s15, s16, s17, s18, s19, s20, s21, s22, s23, s24, s25, s26, s27, s28, s29, s30, s31, s32, s33, s34, s35, s36, s37, s38, s39, s40, s41, s42, s43, s44, s45, s46, s47, s48, s49, s50, s51, s52, s53, .pointer (some ⟨N, 10, none⟩), .slice q l d, .int .i64 ((l : Int)), .bool false, .bool false, undef, undef, undef, undef, .bool false, .bool false, undef, undef, undef, undef, .bool false, .bool false, undef, undef, undef, undef, .bool false, .bool false, undef, undef, undef, undef, undef, undef, undef, .bool false, .bool false, undef, undef, undef, undef, .bool false, .bool false, undef, undef, undef, undef, .bool false, .bool false, undef, undef, undef, undef, .bool false, .bool false, undef, undef, undef, undef, .bool false, .bool false, undef, undef, undef, undef, .bool false, .bool false, undef, undef, undef, undef, .bool false, .bool false, undef, undef, undef, undef, .bool false] (by simpa using hsz) hdf ⟨kw ho 0 rfl, kw ho 1 rfl, fv (hv 73 _ 2 rfl rfl), kw ho 3 rfl, kw ho 4 rfl, kw ho 5 rfl, kw ho 6 rfl, kw ho 7 rfl, kw ho 8 rfl, kw ho 9 rfl, kw ho 10 rfl, kw ho 11 rfl, kw ho 12 rfl, kw ho 13 rfl, kw ho 14 rfl, kw ho 15 rfl, kw ho 16 rfl, kw ho 17 rfl, kw ho 18 rfl, kw ho 19 rfl, kw ho 20 rfl, kw ho 21 rfl, kw ho 22 rfl, kw ho 23 rfl, kw ho 24 rfl, kw ho 25 rfl, kw ho 26 rfl, kw ho 27 rfl, kw ho 28 rfl, kw ho 29 rfl, kw ho 30 rfl, kw ho 31 rfl, kw ho 32 rfl, kw ho 33 rfl, kw ho 34 rfl, kw ho 35 rfl, kw ho 36 rfl, kw ho 37 rfl, kw ho 38 rfl, kw ho 39 rfl, kw ho 40 rfl, kw ho 41 rfl, kw ho 42 rfl, kw ho 43 rfl, kw ho 44 rfl, kw ho 45 rfl, kw ho 46 rfl, kw ho 47 rfl, kw ho 48 rfl, kw ho 49 rfl, kw ho 50 rfl, kw ho 51 rfl, kw ho 52 rfl, kw ho 53 rfl, fv (hv 0 _ 54 rfl rfl), fv (hv 1 _ 55 rfl rfl), fv (hv 2 _ 56 rfl rfl), fv (hv 3 _ 57 rfl rfl), fv (hv 4 _ 58 rfl rfl), fv (hv 5 _ 59 rfl rfl), fv (hv 6 _ 60 rfl rfl), fv (hv 7 _ 61 rfl rfl), fv (hv 8 _ 62 rfl rfl), fv (hv 9 _ 63 rfl rfl), fv (hv 10 _ 64 rfl rfl), fv (hv 11 _ 65 rfl rfl), fv (hv 12 _ 66 rfl rfl), fv (hv 13 _ 67 rfl rfl), fv (hv 14 _ 68 rfl rfl), fv (hv 15 _ 69 rfl rfl), fv (hv 16 _ 70 rfl rfl), fv (hv 17 _ 71 rfl rfl), fv (hv 18 _ 72 rfl rfl), fv (hv 19 _ 73 rfl rfl), fv (hv 20 _ 74 rfl rfl), fv (hv 21 _ 75 rfl rfl), fv (hv 22 _ 76 rfl rfl), fv (hv 23 _ 77 rfl rfl), fv (hv 24 _ 78 rfl rfl), fv (hv 25 _ 79 rfl rfl), fv (hv 26 _ 80 rfl rfl), fv (hv 27 _ 81 rfl rfl), fv (hv 28 _ 82 rfl rfl), fv (hv 29 _ 83 rfl rfl), fv (hv 30 _ 84 rfl rfl), fv (hv 31 _ 85 rfl rfl), fv (hv 32 _ 86 rfl rfl), fv (hv 33 _ 87 rfl rfl), fv (hv 34 _ 88 rfl rfl), fv (hv 35 _ 89 rfl rfl), fv (hv 36 _ 90 rfl rfl), fv (hv 37 _ 91 rfl rfl), fv (hv 38 _ 92 rfl rfl), fv (hv 39 _ 93 rfl rfl), fv (hv 40 _ 94 rfl rfl), fv (hv 41 _ 95 rfl rfl), fv (hv 42 _ 96 rfl rfl), fv (hv 43 _ 97 rfl rfl), fv (hv 44 _ 98 rfl rfl), fv (hv 45 _ 99 rfl rfl), fv (hv 46 _ 100 rfl rfl), fv (hv 47 _ 101 rfl rfl), fv (hv 48 _ 102 rfl rfl), fv (hv 49 _ 103 rfl rfl), fv (hv 50 _ 104 rfl rfl), fv (hv 51 _ 105 rfl rfl), fv (hv 52 _ 106 rfl rfl), fv (hv 53 _ 107 rfl rfl), fv (hv 54 _ 108 rfl rfl), fv (hv 55 _ 109 rfl rfl), fv (hv 56 _ 110 rfl rfl), fv (hv 57 _ 111 rfl rfl), fv (hv 58 _ 112 rfl rfl), fv (hv 59 _ 113 rfl rfl), fv (hv 60 _ 114 rfl rfl), fv (hv 61 _ 115 rfl rfl), fv (hv 62 _ 116 rfl rfl), fv (hv 63 _ 117 rfl rfl), fv (hv 64 _ 118 rfl rfl), fv (hv 65 _ 119 rfl rfl), fv (hv 66 _ 120 rfl rfl), fv (hv 67 _ 121 rfl rfl), fv (hv 68 _ 122 rfl rfl), fv (hv 69 _ 123 rfl rfl), fv (hv 70 _ 124 rfl rfl), fv (hv 71 _ 125 rfl rfl), fv (hv 72 _ 126 rfl rfl), trivial⟩
    rw [hcx]
    exact hQ _ _ _ _ _ _ _ _ _ _ _ _ _ _ _ _ _ _ _ _ _ _ _ _ _ _ _ _ _ _ _ _ _ _ _ _ _ _ _ _ _ _ _ _ _ _ _ _ _ _ _ _ _ _ _ _ _ _ _ _ _ _ _ _ _ _ _ _ _ _ _ _ _ _ hB
set_option maxRecDepth 100000 in
set_option maxHeartbeats 16000000 in
theorem r7_hi (C0 : Code) (hC0 : Tryd.f16.body.bind (findG 7) = some C0) (Q : Exit → Act → World → Prop) (W : World) (N g : Nat) (x0 x1 x2 x3 x4 x5 x6 x7 x8 x9 : Int) (q : Option Addr) (l d : Nat) (_hl : l ≤ 9223372036854775807) (kl0 : N < W.heap.size) (k100 : W.cell? ⟨N, 10, none⟩ = some (.slice q l d)) (rl0 : g < W.heap.size) (r00 : W.cell? ⟨g, 0, none⟩ = some (.int .i64 x0)) (r10 : W.cell? ⟨g, 1, none⟩ = some (.int .i64 x1)) (r20 : W.cell? ⟨g, 2, none⟩ = some (.int .i64 x2)) (r30 : W.cell? ⟨g, 3, none⟩ = some (.int .i64 x3)) (r40 : W.cell? ⟨g, 4, none⟩ = some (.int .i64 x4)) (r50 : W.cell? ⟨g, 5, none⟩ = some (.int .i64 x5)) (r60 : W.cell? ⟨g, 6, none⟩ = some (.int .i64 x6)) (r70 : W.cell? ⟨g, 7, none⟩ = some (.int .i64 x7)) (r80 : W.cell? ⟨g, 8, none⟩ = some (.int .i64 x8)) (r90 : W.cell? ⟨g, 9, none⟩ = some (.int .i64 x9)) (h1 : (1 : Int) ≤ (l : Int)) (h3 : ¬ (l : Int) ≤ 3) (s0 s2 s3 s5 s6 s7 s8 s9 s10 s11 s12 s13 s14 s15 s16 s17 s18 s19 s20 s21 s22 s23 s24 s25 s26 s27 s28 s29 s30 s31 s32 s33 s34 s35 s36 s37 s38 s39 s40 s41 s42 s43 s44 s45 s46 s47 s48 s49 s50 s51 s52 s53 s54 s55 s56 s57 s58 s59 s60 s61 s62 s63 s64 s65 s66 s67 s68 s69 s70 s71 s72 s73 s74 s75 s76 s77 s78 s79 s80 s81 s82 s83 s84 s85 s86 s87 s88 s89 s90 s91 s92 s93 s94 s95 s96 s97 s98 s99 s100 s101 s102 s103 s104 s105 s106 s107 s108 s109 s110 s111 s112 s113 s114 s115 s116 s117 s118 s119 s120 s121 s122 s123 s124 s125 s126 : Value)
    (hQ : ∀ (W' : World) (z54 z55 z56 z57 z58 z59 z60 z61 z62 z63 z64 z65 z66 z67 z68 z69 z70 z71 z72 z73 z74 z75 z76 z77 z78 z79 z80 z81 z82 z83 z84 z85 z86 z87 z88 z89 z90 z91 z92 z93 z94 z95 z96 z97 z98 z99 z100 z101 z102 z103 z104 z105 z106 z107 z108 z109 z110 z111 z112 z113 z114 z115 z116 z117 z118 z119 z120 z121 z122 z123 z124 z125 z126 : Value), Below W.heap.size W W' → Q .normal { tmps := (s0 :: .pointer (some ⟨N, 0, none⟩) :: .bool false :: s3 :: .slice (some ⟨g, 0, none⟩) 10 10 :: s5 :: s6 :: s7 :: s8 :: s9 :: s10 :: s11 :: s12 :: s13 :: s14 :: s15 :: s16 :: s17 :: s18 :: s19 :: s20 :: s21 :: s22 :: s23 :: s24 :: s25 :: s26 :: s27 :: s28 :: s29 :: s30 :: s31 :: s32 :: s33 :: s34 :: s35 :: s36 :: s37 :: s38 :: s39 :: s40 :: s41 :: s42 :: s43 :: s44 :: s45 :: s46 :: s47 :: s48 :: s49 :: s50 :: s51 :: s52 :: s53 :: z54 :: z55 :: z56 :: z57 :: z58 :: z59 :: z60 :: z61 :: z62 :: z63 :: z64 :: z65 :: z66 :: z67 :: z68 :: z69 :: z70 :: z71 :: z72 :: z73 :: z74 :: z75 :: z76 :: z77 :: z78 :: z79 :: z80 :: z81 :: z82 :: z83 :: z84 :: z85 :: z86 :: z87 :: z88 :: z89 :: z90 :: z91 :: z92 :: z93 :: z94 :: z95 :: z96 :: z97 :: z98 :: z99 :: z100 :: z101 :: z102 :: z103 :: z104 :: z105 :: z106 :: z107 :: z108 :: z109 :: z110 :: z111 :: z112 :: z113 :: z114 :: z115 :: z116 :: z117 :: z118 :: z119 :: z120 :: z121 :: z122 :: z123 :: z124 :: z125 :: z126 :: []).toArray, defers := [] } W') :
    Code.wp Tryd.prog C0 Q { tmps := (s0 :: .pointer (some ⟨N, 0, none⟩) :: s2 :: s3 :: .slice (some ⟨g, 0, none⟩) 10 10 :: s5 :: s6 :: s7 :: s8 :: s9 :: s10 :: s11 :: s12 :: s13 :: s14 :: s15 :: s16 :: s17 :: s18 :: s19 :: s20 :: s21 :: s22 :: s23 :: s24 :: s25 :: s26 :: s27 :: s28 :: s29 :: s30 :: s31 :: s32 :: s33 :: s34 :: s35 :: s36 :: s37 :: s38 :: s39 :: s40 :: s41 :: s42 :: s43 :: s44 :: s45 :: s46 :: s47 :: s48 :: s49 :: s50 :: s51 :: s52 :: s53 :: s54 :: s55 :: s56 :: s57 :: s58 :: s59 :: s60 :: s61 :: s62 :: s63 :: s64 :: s65 :: s66 :: s67 :: s68 :: s69 :: s70 :: s71 :: s72 :: s73 :: s74 :: s75 :: s76 :: s77 :: s78 :: s79 :: s80 :: s81 :: s82 :: s83 :: s84 :: s85 :: s86 :: s87 :: s88 :: s89 :: s90 :: s91 :: s92 :: s93 :: s94 :: s95 :: s96 :: s97 :: s98 :: s99 :: s100 :: s101 :: s102 :: s103 :: s104 :: s105 :: s106 :: s107 :: s108 :: s109 :: s110 :: s111 :: s112 :: s113 :: s114 :: s115 :: s116 :: s117 :: s118 :: s119 :: s120 :: s121 :: s122 :: s123 :: s124 :: s125 :: s126 :: []).toArray, defers := [] } W := by
  cases hC0
  have kl : N < W.drew.heap.size := kl0
  have rl : g < W.drew.heap.size := rl0
  have k10 : W.drew.cell? ⟨N, 10, none⟩ = some (.slice q l d) := k100
  have r0 : W.drew.cell? ⟨g, 0, none⟩ = some (.int .i64 x0) := r00
  have r1 : W.drew.cell? ⟨g, 1, none⟩ = some (.int .i64 x1) := r10
  have r2 : W.drew.cell? ⟨g, 2, none⟩ = some (.int .i64 x2) := r20
  have r3 : W.drew.cell? ⟨g, 3, none⟩ = some (.int .i64 x3) := r30
  have r4 : W.drew.cell? ⟨g, 4, none⟩ = some (.int .i64 x4) := r40
  have r5 : W.drew.cell? ⟨g, 5, none⟩ = some (.int .i64 x5) := r50
  have r6 : W.drew.cell? ⟨g, 6, none⟩ = some (.int .i64 x6) := r60
  have r7 : W.drew.cell? ⟨g, 7, none⟩ = some (.int .i64 x7) := r70
  have r8 : W.drew.cell? ⟨g, 8, none⟩ = some (.int .i64 x8) := r80
  have r9 : W.drew.cell? ⟨g, 9, none⟩ = some (.int .i64 x9) := r90
  clear kl0 k100 rl0 r00 r10 r20 r30 r40 r50 r60 r70 r80 r90
  refine Reg.wp_region_inv (n := 127) (WishPhi [.pointer (some ⟨N, 10, none⟩), .slice q l d, .int .i64 ((l : Int)), .bool true, .bool true, .pointer (some ⟨N, 10, none⟩), .slice q l d, .int .i64 ((l : Int)), .bool false, .bool false, .bool false, undef, undef, undef, undef, .bool false, .bool false, undef, undef, undef, undef, .bool false, .bool false, undef, undef, undef, undef, undef, undef, undef, .bool false, .bool false, undef, undef, undef, undef, .bool false, .bool false, undef, undef, undef, undef, .bool false, .bool false, undef, undef, undef, undef, .bool false, .bool false, undef, undef, undef, undef, .bool false, .bool false, undef, undef, undef, undef, .bool false, .bool false, undef, undef, undef, undef, .bool false, .bool false, undef, undef, undef, undef, .bool false, .bool false]) (by kernel_rfl) (by kernel_rfl) rfl WishPhi.stays ?_ ?_
  · refine ⟨?_, ?_, ?_, ?_, ?_, ?_, ?_, ?_, ?_, ?_, ?_, ?_, ?_, ?_, ?_, ?_, ?_, ?_, ?_, ?_, ?_, ?_, ?_, ?_, ?_, ?_, ?_, ?_, ?_, ?_, ?_, ?_, ?_, ?_, ?_, ?_, ?_, ?_, ?_, ?_, ?_, ?_, ?_, ?_, ?_, ?_, ?_, ?_, ?_, ?_, ?_, ?_, ?_, ?_, ?_, ?_, ?_, ?_, ?_, ?_, ?_, ?_, ?_, ?_, ?_, ?_, ?_, ?_, ?_, ?_, ?_, ?_, ?_, ?_, trivial⟩
    · intro cx wc hB hp hq
      have g1 : cx.tmps[1]? = some (.pointer (some ⟨N, 0, none⟩)) := (hq 1 (by kernel_rfl)).trans rfl
      refine ov (v := .pointer (some ⟨N, 10, none⟩)) rfl ?_ rfl
      go_simp
    · intro cx wc hB hp hq
      have g54 := pv (v := .pointer (some ⟨N, 10, none⟩)) hp 0 54 (by kernel_rfl) rfl rfl rfl
      have c10 := (Below.cell (p := ⟨N, 10, none⟩) hB kl).trans k10
      refine ov (v := .slice q l d) rfl ?_ rfl
      go_simp
    · intro cx wc hB hp hq
      have g55 := pv (v := .slice q l d) hp 1 55 (by kernel_rfl) rfl rfl rfl
      refine ov (v := .int .i64 ((l : Int))) rfl ?_ rfl
      go_simp
    · intro cx wc hB hp hq
      have g56 := pv (v := .int .i64 ((l : Int))) hp 2 56 (by kernel_rfl) rfl rfl rfl
      have e1 := h1
      refine ov (v := .bool true) rfl ?_ rfl
      go_simp
    · intro cx wc hB hp hq
      have g57 := pv (v := .bool true) hp 3 57 (by kernel_rfl) rfl rfl rfl
      refine ov (v := .bool true) rfl ?_ rfl
      go_simp
    · intro cx wc hB hp hq
      have g1 : cx.tmps[1]? = some (.pointer (some ⟨N, 0, none⟩)) := (hq 1 (by kernel_rfl)).trans rfl
      have g58 := pv (v := .bool true) hp 4 58 (by kernel_rfl) rfl rfl rfl
      refine og (v := .pointer (some ⟨N, 10, none⟩)) (j := 4) (d := 58) rfl rfl rfl g58 ?_ rfl
      go_simp
    · intro cx wc hB hp hq
      have g59 := pv (v := .pointer (some ⟨N, 10, none⟩)) hp 5 59 (by kernel_rfl) rfl rfl rfl
      have g58 := pv (v := .bool true) hp 4 58 (by kernel_rfl) rfl rfl rfl
      have c10 := (Below.cell (p := ⟨N, 10, none⟩) hB kl).trans k10
      refine og (v := .slice q l d) (j := 4) (d := 58) rfl rfl rfl g58 ?_ rfl
      go_simp
    · intro cx wc hB hp hq
      have g60 := pv (v := .slice q l d) hp 6 60 (by kernel_rfl) rfl rfl rfl
      have g58 := pv (v := .bool true) hp 4 58 (by kernel_rfl) rfl rfl rfl
      refine og (v := .int .i64 ((l : Int))) (j := 4) (d := 58) rfl rfl rfl g58 ?_ rfl
      go_simp
    · intro cx wc hB hp hq
      have g61 := pv (v := .int .i64 ((l : Int))) hp 7 61 (by kernel_rfl) rfl rfl rfl
      have g58 := pv (v := .bool true) hp 4 58 (by kernel_rfl) rfl rfl rfl
      have e1 := h3
      refine og (v := .bool false) (j := 4) (d := 58) rfl rfl rfl g58 ?_ rfl
      go_simp
    · intro cx wc hB hp hq
      have g58 := pv (v := .bool true) hp 4 58 (by kernel_rfl) rfl rfl rfl
      have g62 := pv (v := .bool false) hp 8 62 (by kernel_rfl) rfl rfl rfl
      refine ov (v := .bool false) rfl ?_ rfl
      go_simp
    · intro cx wc hB hp hq
      have g63 := pv (v := .bool false) hp 9 63 (by kernel_rfl) rfl rfl rfl
      refine ov (v := .bool false) rfl ?_ rfl
      go_simp
    iterate 4 exact fun _ _ _ hp _ => Reg.ok_skip (Reg.unwanted_at (j := 10) (d := 64) rfl rfl rfl (fv (Reg.pred hp 10 64 (by kernel_rfl) rfl rfl)) rfl) rfl
    · intro cx wc hB hp hq
      have g64 := pv (v := .bool false) hp 10 64 (by kernel_rfl) rfl rfl rfl
      refine ov (v := .bool false) rfl ?_ rfl
      go_simp
    · intro cx wc hB hp hq
      have g69 := pv (v := .bool false) hp 15 69 (by kernel_rfl) rfl rfl rfl
      refine ov (v := .bool false) rfl ?_ rfl
      go_simp
    iterate 4 exact fun _ _ _ hp _ => Reg.ok_skip (Reg.unwanted_at (j := 16) (d := 70) rfl rfl rfl (fv (Reg.pred hp 16 70 (by kernel_rfl) rfl rfl)) rfl) rfl
    · intro cx wc hB hp hq
      have g70 := pv (v := .bool false) hp 16 70 (by kernel_rfl) rfl rfl rfl
      refine ov (v := .bool false) rfl ?_ rfl
      go_simp
    · intro cx wc hB hp hq
      have g75 := pv (v := .bool false) hp 21 75 (by kernel_rfl) rfl rfl rfl
      refine ov (v := .bool false) rfl ?_ rfl
      go_simp
    iterate 7 exact fun _ _ _ hp _ => Reg.ok_skip (Reg.unwanted_at (j := 22) (d := 76) rfl rfl rfl (fv (Reg.pred hp 22 76 (by kernel_rfl) rfl rfl)) rfl) rfl
    · intro cx wc hB hp hq
      have g76 := pv (v := .bool false) hp 22 76 (by kernel_rfl) rfl rfl rfl
      refine ov (v := .bool false) rfl ?_ rfl
      go_simp
    · intro cx wc hB hp hq
      have g84 := pv (v := .bool false) hp 30 84 (by kernel_rfl) rfl rfl rfl
      refine ov (v := .bool false) rfl ?_ rfl
      go_simp
    iterate 4 exact fun _ _ _ hp _ => Reg.ok_skip (Reg.unwanted_at (j := 31) (d := 85) rfl rfl rfl (fv (Reg.pred hp 31 85 (by kernel_rfl) rfl rfl)) rfl) rfl
    · intro cx wc hB hp hq
      have g85 := pv (v := .bool false) hp 31 85 (by kernel_rfl) rfl rfl rfl
      refine ov (v := .bool false) rfl ?_ rfl
      go_simp
    · intro cx wc hB hp hq
      have g90 := pv (v := .bool false) hp 36 90 (by kernel_rfl) rfl rfl rfl
      refine ov (v := .bool false) rfl ?_ rfl
      go_simp
    iterate 4 exact fun _ _ _ hp _ => Reg.ok_skip (Reg.unwanted_at (j := 37) (d := 91) rfl rfl rfl (fv (Reg.pred hp 37 91 (by kernel_rfl) rfl rfl)) rfl) rfl
    · intro cx wc hB hp hq
      have g91 := pv (v := .bool false) hp 37 91 (by kernel_rfl) rfl rfl rfl
      refine ov (v := .bool false) rfl ?_ rfl
      go_simp
    · intro cx wc hB hp hq
      have g96 := pv (v := .bool false) hp 42 96 (by kernel_rfl) rfl rfl rfl
      refine ov (v := .bool false) rfl ?_ rfl
      go_simp
    iterate 4 exact fun _ _ _ hp _ => Reg.ok_skip (Reg.unwanted_at (j := 43) (d := 97) rfl rfl rfl (fv (Reg.pred hp 43 97 (by kernel_rfl) rfl rfl)) rfl) rfl
    · intro cx wc hB hp hq
      have g97 := pv (v := .bool false) hp 43 97 (by kernel_rfl) rfl rfl rfl
      refine ov (v := .bool false) rfl ?_ rfl
      go_simp
    · intro cx wc hB hp hq
      have g102 := pv (v := .bool false) hp 48 102 (by kernel_rfl) rfl rfl rfl
      refine ov (v := .bool false) rfl ?_ rfl
      go_simp
    iterate 4 exact fun _ _ _ hp _ => Reg.ok_skip (Reg.unwanted_at (j := 49) (d := 103) rfl rfl rfl (fv (Reg.pred hp 49 103 (by kernel_rfl) rfl rfl)) rfl) rfl
    · intro cx wc hB hp hq
      have g103 := pv (v := .bool false) hp 49 103 (by kernel_rfl) rfl rfl rfl
      refine ov (v := .bool false) rfl ?_ rfl
      go_simp
    · intro cx wc hB hp hq
      have g108 := pv (v := .bool false) hp 54 108 (by kernel_rfl) rfl rfl rfl
      refine ov (v := .bool false) rfl ?_ rfl
      go_simp
    iterate 4 exact fun _ _ _ hp _ => Reg.ok_skip (Reg.unwanted_at (j := 55) (d := 109) rfl rfl rfl (fv (Reg.pred hp 55 109 (by kernel_rfl) rfl rfl)) rfl) rfl
    · intro cx wc hB hp hq
      have g109 := pv (v := .bool false) hp 55 109 (by kernel_rfl) rfl rfl rfl
      refine ov (v := .bool false) rfl ?_ rfl
      go_simp
    · intro cx wc hB hp hq
      have g114 := pv (v := .bool false) hp 60 114 (by kernel_rfl) rfl rfl rfl
      refine ov (v := .bool false) rfl ?_ rfl
      go_simp
    iterate 4 exact fun _ _ _ hp _ => Reg.ok_skip (Reg.unwanted_at (j := 61) (d := 115) rfl rfl rfl (fv (Reg.pred hp 61 115 (by kernel_rfl) rfl rfl)) rfl) rfl
    · intro cx wc hB hp hq
      have g115 := pv (v := .bool false) hp 61 115 (by kernel_rfl) rfl rfl rfl
      refine ov (v := .bool false) rfl ?_ rfl
      go_simp
    · intro cx wc hB hp hq
      have g120 := pv (v := .bool false) hp 66 120 (by kernel_rfl) rfl rfl rfl
      refine ov (v := .bool false) rfl ?_ rfl
      go_simp
    iterate 4 exact fun _ _ _ hp _ => Reg.ok_skip (Reg.unwanted_at (j := 67) (d := 121) rfl rfl rfl (fv (Reg.pred hp 67 121 (by kernel_rfl) rfl rfl)) rfl) rfl
    · intro cx wc hB hp hq
      have g121 := pv (v := .bool false) hp 67 121 (by kernel_rfl) rfl rfl rfl
      refine ov (v := .bool false) rfl ?_ rfl
      go_simp
    · intro cx wc hB hp hq
      have g126 := pv (v := .bool false) hp 72 126 (by kernel_rfl) rfl rfl rfl
      refine ov (v := .bool false) rfl ?_ rfl
      go_simp
  · intro cx w1 hB hsz hdf hv ho
    have hcx := Reg.frame_eq [s0, .pointer (some ⟨N, 0, none⟩), .bool false, s3, .slice (some ⟨g, 0, none⟩) 10 10, s5, s6, s7, s8, s9, s10, s11, s12, s13, s14, s15, s16, s17, s18, s19, s20, s21, s22, s23, s24, s25, s26, s27, s28, s29, s30, s31, s32, s33, s34, s35, s36, s37, s38, s39, s40, s41, s42, s43, s44, s45, s46, s47, s48, s49, s50, s51, s52, s53, .pointer (some ⟨N, 10, none⟩), .slice q l d, .int .i64 ((l : Int)), .bool true, .bool true, .pointer (some ⟨N, 10, none⟩), .slice q l d, .int .i64 ((l : Int)), .bool false, .bool false, .bool false, undef, undef, undef, undef, .bool false, .bool false, undef, undef, undef, undef, .bool false, .bool false, undef, undef, undef, undef, undef, undef, undef, .bool false, .bool false, undef, undef, undef, undef, .bool false, .bool false, undef, undef, undef, undef, .bool false, .bool false, undef, undef, undef, undef, .bool false, .bool false, undef, undef, undef, undef, .bool false, .bool false, undef, undef, undef, undef, .bool false, .bool false, undef, undef, undef, undef, .bool false, .bool false, undef, undef, undef, undef, .bool false] (by simpa using hsz) hdf ⟨kw ho 0 rfl, kw ho 1 rfl, fv (hv 73 _ 2 rfl rfl), kw ho 3 rfl, kw ho 4 rfl, kw ho 5 rfl, kw ho 6 rfl, kw ho 7 rfl, kw ho 8 rfl, kw ho 9 rfl, kw ho 10 rfl, kw ho 11 rfl, kw ho 12 rfl, kw ho 13 rfl, kw ho 14 rfl, kw ho 15 rfl, kw ho 16 rfl, kw ho 17 rfl, kw ho 18 rfl, kw ho 19 rfl, kw ho 20 rfl, kw ho 21 rfl, kw ho 22 rfl, kw ho 23 rfl, kw ho 24 rfl, kw ho 25 rfl, kw ho 26 rfl, kw ho 27 rfl, kw ho 28 rfl, kw ho 29 rfl, kw ho 30 rfl, kw ho 31 rfl, kw ho 32 rfl, kw ho 33 rfl, kw ho 34 rfl, kw ho 35 rfl, kw ho 36 rfl, kw ho 37 rfl, kw ho 38 rfl, kw ho 39 rfl, kw ho 40 rfl, kw ho 41 rfl, kw ho 42 rfl, kw ho 43 rfl, kw ho 44 rfl, kw ho 45 rfl, kw ho 46 rfl, kw ho 47 rfl, kw ho 48 rfl, kw ho 49 rfl, kw ho 50 rfl, kw ho 51 rfl, kw ho 52 rfl, kw ho 53 rfl, fv (hv 0 _ 54 rfl rfl), fv (hv 1 _ 55 rfl rfl), fv (hv 2 _ 56 rfl rfl), fv (hv 3 _ 57 rfl rfl), fv (hv 4 _ 58 rfl rfl), fv (hv 5 _ 59 rfl rfl), fv (hv 6 _ 60 rfl rfl), fv (hv 7 _ 61 rfl rfl), fv (hv 8 _ 62 rfl rfl), fv (hv 9 _ 63 rfl rfl), fv (hv 10 _ 64 rfl rfl), fv (hv 11 _ 65 rfl rfl), fv (hv 12 _ 66 rfl rfl), fv (hv 13 _ 67 rfl rfl), fv (hv 14 _ 68 rfl rfl), fv (hv 15 _ 69 rfl rfl), fv (hv 16 _ 70 rfl rfl), fv (hv 17 _ 71 rfl rfl), fv (hv 18 _ 72 rfl rfl), fv (hv 19 _ 73 rfl rfl), fv (hv 20 _ 74 rfl rfl), fv (hv 21 _ 75 rfl rfl), fv (hv 22 _ 76 rfl rfl), fv (hv 23 _ 77 rfl rfl), fv (hv 24 _ 78 rfl rfl), fv (hv 25 _ 79 rfl rfl), fv (hv 26 _ 80 rfl rfl), fv (hv 27 _ 81 rfl rfl), fv (hv 28 _ 82 rfl rfl), fv (hv 29 _ 83 rfl rfl), fv (hv 30 _ 84 rfl rfl), fv (hv 31 _ 85 rfl rfl), fv (hv 32 _ 86 rfl rfl), fv (hv 33 _ 87 rfl rfl), fv (hv 34 _ 88 rfl rfl), fv (hv 35 _ 89 rfl rfl), fv (hv 36 _ 90 rfl rfl), fv (hv 37 _ 91 rfl rfl), fv (hv 38 _ 92 rfl rfl), fv (hv 39 _ 93 rfl rfl), fv (hv 40 _ 94 rfl rfl), fv (hv 41 _ 95 rfl rfl), fv (hv 42 _ 96 rfl rfl), fv (hv 43 _ 97 rfl rfl), fv (hv 44 _ 98 rfl rfl), fv (hv 45 _ 99 rfl rfl), fv (hv 46 _ 100 rfl rfl), fv (hv 47 _ 101 rfl rfl), fv (hv 48 _ 102 rfl rfl), fv (hv 49 _ 103 rfl rfl), fv (hv 50 _ 104 rfl rfl), fv (hv 51 _ 105 rfl rfl), fv (hv 52 _ 106 rfl rfl), fv (hv 53 _ 107 rfl rfl), fv (hv 54 _ 108 rfl rfl), fv (hv 55 _ 109 rfl rfl), fv (hv 56 _ 110 rfl rfl), fv (hv 57 _ 111 rfl rfl), fv (hv 58 _ 112 rfl rfl), fv (hv 59 _ 113 rfl rfl), fv (hv 60 _ 114 rfl rfl), fv (hv 61 _ 115 rfl rfl), fv (hv 62 _ 116 rfl rfl), fv (hv 63 _ 117 rfl rfl), fv (hv 64 _ 118 rfl rfl), fv (hv 65 _ 119 rfl rfl), fv (hv 66 _ 120 rfl rfl), fv (hv 67 _ 121 rfl rfl), fv (hv 68 _ 122 rfl rfl), fv (hv 69 _ 123 rfl rfl), fv (hv 70 _ 124 rfl rfl), fv (hv 71 _ 125 rfl rfl), fv (hv 72 _ 126 rfl rfl), trivial⟩
    rw [hcx]
    exact hQ _ _ _ _ _ _ _ _ _ _ _ _ _ _ _ _ _ _ _ _ _ _ _ _ _ _ _ _ _ _ _ _ _ _ _ _ _ _ _ _ _ _ _ _ _ _ _ _ _ _ _ _ _ _ _ _ _ _ _ _ _ _ _ _ _ _ _ _ _ _ _ _ _ _ hB
set_option maxRecDepth 100000 in
set_option maxHeartbeats 16000000 in
theorem r7_0 (C0 : Code) (hC0 : Tryd.f16.body.bind (findG 7) = some C0) (Q : Exit → Act → World → Prop) (W : World) (N g : Nat) (x0 x1 x2 x3 x4 x5 x6 x7 x8 x9 : Int) (q : Option Addr) (l d : Nat) (_hl : l ≤ 9223372036854775807) (kl0 : N < W.heap.size) (k100 : W.cell? ⟨N, 10, none⟩ = some (.slice q l d)) (rl0 : g < W.heap.size) (r00 : W.cell? ⟨g, 0, none⟩ = some (.int .i64 x0)) (r10 : W.cell? ⟨g, 1, none⟩ = some (.int .i64 x1)) (r20 : W.cell? ⟨g, 2, none⟩ = some (.int .i64 x2)) (r30 : W.cell? ⟨g, 3, none⟩ = some (.int .i64 x3)) (r40 : W.cell? ⟨g, 4, none⟩ = some (.int .i64 x4)) (r50 : W.cell? ⟨g, 5, none⟩ = some (.int .i64 x5)) (r60 : W.cell? ⟨g, 6, none⟩ = some (.int .i64 x6)) (r70 : W.cell? ⟨g, 7, none⟩ = some (.int .i64 x7)) (r80 : W.cell? ⟨g, 8, none⟩ = some (.int .i64 x8)) (r90 : W.cell? ⟨g, 9, none⟩ = some (.int .i64 x9)) (h1 : (1 : Int) ≤ (l : Int)) (h3 : (l : Int) ≤ 3) (hb0 : inZ x0 1 256 = false) (s0 s2 s3 s5 s6 s7 s8 s9 s10 s11 s12 s13 s14 s15 s16 s17 s18 s19 s20 s21 s22 s23 s24 s25 s26 s27 s28 s29 s30 s31 s32 s33 s34 s35 s36 s37 s38 s39 s40 s41 s42 s43 s44 s45 s46 s47 s48 s49 s50 s51 s52 s53 s54 s55 s56 s57 s58 s59 s60 s61 s62 s63 s64 s65 s66 s67 s68 s69 s70 s71 s72 s73 s74 s75 s76 s77 s78 s79 s80 s81 s82 s83 s84 s85 s86 s87 s88 s89 s90 s91 s92 s93 s94 s95 s96 s97 s98 s99 s100 s101 s102 s103 s104 s105 s106 s107 s108 s109 s110 s111 s112 s113 s114 s115 s116 s117 s118 s119 s120 s121 s122 s123 s124 s125 s126 : Value)
    (hQ : ∀ (W' : World) (z54 z55 z56 z57 z58 z59 z60 z61 z62 z63 z64 z65 z66 z67 z68 z69 z70 z71 z72 z73 z74 z75 z76 z77 z78 z79 z80 z81 z82 z83 z84 z85 z86 z87 z88 z89 z90 z91 z92 z93 z94 z95 z96 z97 z98 z99 z100 z101 z102 z103 z104 z105 z106 z107 z108 z109 z110 z111 z112 z113 z114 z115 z116 z117 z118 z119 z120 z121 z122 z123 z124 z125 z126 : Value), Below W.heap.size W W' → Q .normal { tmps := (s0 :: .pointer (some ⟨N, 0, none⟩) :: .bool false :: s3 :: .slice (some ⟨g, 0, none⟩) 10 10 :: s5 :: s6 :: s7 :: s8 :: s9 :: s10 :: s11 :: s12 :: s13 :: s14 :: s15 :: s16 :: s17 :: s18 :: s19 :: s20 :: s21 :: s22 :: s23 :: s24 :: s25 :: s26 :: s27 :: s28 :: s29 :: s30 :: s31 :: s32 :: s33 :: s34 :: s35 :: s36 :: s37 :: s38 :: s39 :: s40 :: s41 :: s42 :: s43 :: s44 :: s45 :: s46 :: s47 :: s48 :: s49 :: s50 :: s51 :: s52 :: s53 :: z54 :: z55 :: z56 :: z57 :: z58 :: z59 :: z60 :: z61 :: z62 :: z63 :: z64 :: z65 :: z66 :: z67 :: z68 :: z69 :: z70 :: z71 :: z72 :: z73 :: z74 :: z75 :: z76 :: z77 :: z78 :: z79 :: z80 :: z81 :: z82 :: z83 :: z84 :: z85 :: z86 :: z87 :: z88 :: z89 :: z90 :: z91 :: z92 :: z93 :: z94 :: z95 :: z96 :: z97 :: z98 :: z99 :: z100 :: z101 :: z102 :: z103 :: z104 :: z105 :: z106 :: z107 :: z108 :: z109 :: z110 :: z111 :: z112 :: z113 :: z114 :: z115 :: z116 :: z117 :: z118 :: z119 :: z120 :: z121 :: z122 :: z123 :: z124 :: z125 :: z126 :: []).toArray, defers := [] } W') :
    Code.wp Tryd.prog C0 Q { tmps := (s0 :: .pointer (some ⟨N, 0, none⟩) :: s2 :: s3 :: .slice (some ⟨g, 0, none⟩) 10 10 :: s5 :: s6 :: s7 :: s8 :: s9 :: s10 :: s11 :: s12 :: s13 :: s14 :: s15 :: s16 :: s17 :: s18 :: s19 :: s20 :: s21 :: s22 :: s23 :: s24 :: s25 :: s26 :: s27 :: s28 :: s29 :: s30 :: s31 :: s32 :: s33 :: s34 :: s35 :: s36 :: s37 :: s38 :: s39 :: s40 :: s41 :: s42 :: s43 :: s44 :: s45 :: s46 :: s47 :: s48 :: s49 :: s50 :: s51 :: s52 :: s53 :: s54 :: s55 :: s56 :: s57 :: s58 :: s59 :: s60 :: s61 :: s62 :: s63 :: s64 :: s65 :: s66 :: s67 :: s68 :: s69 :: s70 :: s71 :: s72 :: s73 :: s74 :: s75 :: s76 :: s77 :: s78 :: s79 :: s80 :: s81 :: s82 :: s83 :: s84 :: s85 :: s86 :: s87 :: s88 :: s89 :: s90 :: s91 :: s92 :: s93 :: s94 :: s95 :: s96 :: s97 :: s98 :: s99 :: s100 :: s101 :: s102 :: s103 :: s104 :: s105 :: s106 :: s107 :: s108 :: s109 :: s110 :: s111 :: s112 :: s113 :: s114 :: s115 :: s116 :: s117 :: s118 :: s119 :: s120 :: s121 :: s122 :: s123 :: s124 :: s125 :: s126 :: []).toArray, defers := [] } W := by
  cases hC0
  have kl : N < W.drew.heap.size := kl0
  have rl : g < W.drew.heap.size := rl0
  have k10 : W.drew.cell? ⟨N, 10, none⟩ = some (.slice q l d) := k100
  have r0 : W.drew.cell? ⟨g, 0, none⟩ = some (.int .i64 x0) := r00
  have r1 : W.drew.cell? ⟨g, 1, none⟩ = some (.int .i64 x1) := r10
  have r2 : W.drew.cell? ⟨g, 2, none⟩ = some (.int .i64 x2) := r20
  have r3 : W.drew.cell? ⟨g, 3, none⟩ = some (.int .i64 x3) := r30
  have r4 : W.drew.cell? ⟨g, 4, none⟩ = some (.int .i64 x4) := r40
  have r5 : W.drew.cell? ⟨g, 5, none⟩ = some (.int .i64 x5) := r50
  have r6 : W.drew.cell? ⟨g, 6, none⟩ = some (.int .i64 x6) := r60
  have r7 : W.drew.cell? ⟨g, 7, none⟩ = some (.int .i64 x7) := r70
  have r8 : W.drew.cell? ⟨g, 8, none⟩ = some (.int .i64 x8) := r80
  have r9 : W.drew.cell? ⟨g, 9, none⟩ = some (.int .i64 x9) := r90
  clear kl0 k100 rl0 r00 r10 r20 r30 r40 r50 r60 r70 r80 r90
  refine Reg.wp_region_inv (n := 127) (WishPhi [.pointer (some ⟨N, 10, none⟩), .slice q l d, .int .i64 ((l : Int)), .bool true, .bool true, .pointer (some ⟨N, 10, none⟩), .slice q l d, .int .i64 ((l : Int)), .bool true, .bool true, .bool true, .slice (some ⟨g, 0, none⟩) 10 10, .pointer (some ⟨g, 0, none⟩), .int .i64 x0, .bool false, .bool false, .bool false, undef, undef, undef, undef, .bool false, .bool false, undef, undef, undef, undef, undef, undef, undef, .bool false, .bool false, undef, undef, undef, undef, .bool false, .bool false, undef, undef, undef, undef, .bool false, .bool false, undef, undef, undef, undef, .bool false, .bool false, undef, undef, undef, undef, .bool false, .bool false, undef, undef, undef, undef, .bool false, .bool false, undef, undef, undef, undef, .bool false, .bool false, undef, undef, undef, undef, .bool false, .bool false]) (by kernel_rfl) (by kernel_rfl) rfl WishPhi.stays ?_ ?_
  · refine ⟨?_, ?_, ?_, ?_, ?_, ?_, ?_, ?_, ?_, ?_, ?_, ?_, ?_, ?_, ?_, ?_, ?_, ?_, ?_, ?_, ?_, ?_, ?_, ?_, ?_, ?_, ?_, ?_, ?_, ?_, ?_, ?_, ?_, ?_, ?_, ?_, ?_, ?_, ?_, ?_, ?_, ?_, ?_, ?_, ?_, ?_, ?_, ?_, ?_, ?_, ?_, ?_, ?_, ?_, ?_, ?_, ?_, ?_, ?_, ?_, ?_, ?_, ?_, ?_, ?_, ?_, ?_, ?_, ?_, ?_, ?_, ?_, ?_, ?_, trivial⟩
    · intro cx wc hB hp hq
      have g1 : cx.tmps[1]? = some (.pointer (some ⟨N, 0, none⟩)) := (hq 1 (by kernel_rfl)).trans rfl
      refine ov (v := .pointer (some ⟨N, 10, none⟩)) rfl ?_ rfl
      go_simp
    · intro cx wc hB hp hq
      have g54 := pv (v := .pointer (some ⟨N, 10, none⟩)) hp 0 54 (by kernel_rfl) rfl rfl rfl
      have c10 := (Below.cell (p := ⟨N, 10, none⟩) hB kl).trans k10
      refine ov (v := .slice q l d) rfl ?_ rfl
      go_simp
    · intro cx wc hB hp hq
      have g55 := pv (v := .slice q l d) hp 1 55 (by kernel_rfl) rfl rfl rfl
      refine ov (v := .int .i64 ((l : Int))) rfl ?_ rfl
      go_simp
    · intro cx wc hB hp hq
      have g56 := pv (v := .int .i64 ((l : Int))) hp 2 56 (by kernel_rfl) rfl rfl rfl
      have e1 := h1
      refine ov (v := .bool true) rfl ?_ rfl
      go_simp
    · intro cx wc hB hp hq
      have g57 := pv (v := .bool true) hp 3 57 (by kernel_rfl) rfl rfl rfl
      refine ov (v := .bool true) rfl ?_ rfl
      go_simp
    · intro cx wc hB hp hq
      have g1 : cx.tmps[1]? = some (.pointer (some ⟨N, 0, none⟩)) := (hq 1 (by kernel_rfl)).trans rfl
      have g58 := pv (v := .bool true) hp 4 58 (by kernel_rfl) rfl rfl rfl
      refine og (v := .pointer (some ⟨N, 10, none⟩)) (j := 4) (d := 58) rfl rfl rfl g58 ?_ rfl
      go_simp
    · intro cx wc hB hp hq
      have g59 := pv (v := .pointer (some ⟨N, 10, none⟩)) hp 5 59 (by kernel_rfl) rfl rfl rfl
      have g58 := pv (v := .bool true) hp 4 58 (by kernel_rfl) rfl rfl rfl
      have c10 := (Below.cell (p := ⟨N, 10, none⟩) hB kl).trans k10
      refine og (v := .slice q l d) (j := 4) (d := 58) rfl rfl rfl g58 ?_ rfl
      go_simp
    · intro cx wc hB hp hq
      have g60 := pv (v := .slice q l d) hp 6 60 (by kernel_rfl) rfl rfl rfl
      have g58 := pv (v := .bool true) hp 4 58 (by kernel_rfl) rfl rfl rfl
      refine og (v := .int .i64 ((l : Int))) (j := 4) (d := 58) rfl rfl rfl g58 ?_ rfl
      go_simp
    · intro cx wc hB hp hq
      have g61 := pv (v := .int .i64 ((l : Int))) hp 7 61 (by kernel_rfl) rfl rfl rfl
      have g58 := pv (v := .bool true) hp 4 58 (by kernel_rfl) rfl rfl rfl
      have e1 := h3
      refine og (v := .bool true) (j := 4) (d := 58) rfl rfl rfl g58 ?_ rfl
      go_simp
    · intro cx wc hB hp hq
      have g58 := pv (v := .bool true) hp 4 58 (by kernel_rfl) rfl rfl rfl
      have g62 := pv (v := .bool true) hp 8 62 (by kernel_rfl) rfl rfl rfl
      refine ov (v := .bool true) rfl ?_ rfl
      go_simp
    · intro cx wc hB hp hq
      have g63 := pv (v := .bool true) hp 9 63 (by kernel_rfl) rfl rfl rfl
      refine ov (v := .bool true) rfl ?_ rfl
      go_simp
    · intro cx wc hB hp hq
      have g4 : cx.tmps[4]? = some (.slice (some ⟨g, 0, none⟩) 10 10) := (hq 4 (by kernel_rfl)).trans rfl
      have g64 := pv (v := .bool true) hp 10 64 (by kernel_rfl) rfl rfl rfl
      refine og (v := .slice (some ⟨g, 0, none⟩) 10 10) (j := 10) (d := 64) rfl rfl rfl g64 ?_ rfl
      go_simp
    · intro cx wc hB hp hq
      have g65 := pv (v := .slice (some ⟨g, 0, none⟩) 10 10) hp 11 65 (by kernel_rfl) rfl rfl rfl
      have g64 := pv (v := .bool true) hp 10 64 (by kernel_rfl) rfl rfl rfl
      refine og (v := .pointer (some ⟨g, 0, none⟩)) (j := 10) (d := 64) rfl rfl rfl g64 ?_ rfl
      go_simp
    · intro cx wc hB hp hq
      have g66 := pv (v := .pointer (some ⟨g, 0, none⟩)) hp 12 66 (by kernel_rfl) rfl rfl rfl
      have g64 := pv (v := .bool true) hp 10 64 (by kernel_rfl) rfl rfl rfl
      have c0 := (Below.cell (p := ⟨g, 0, none⟩) hB rl).trans r0
      refine og (v := .int .i64 x0) (j := 10) (d := 64) rfl rfl rfl g64 ?_ rfl
      go_simp
    · intro cx wc hB hp hq
      have g67 := pv (v := .int .i64 x0) hp 13 67 (by kernel_rfl) rfl rfl rfl
      have g64 := pv (v := .bool true) hp 10 64 (by kernel_rfl) rfl rfl rfl
      refine Reg.ok_call (f := 35) (args := #[.int .i64 x0, .int .i64 1, .int .i64 256]) (Reg.wanted_at (j := 10) (d := 64) rfl rfl rfl g64) (by go_simp) ((in_of x0 1 256 _ hb0 wc).mono ?_)
      rintro e w' ⟨rfl, rfl⟩
      exact ⟨_, rfl, Reg.Old.refl _, rfl⟩
    · intro cx wc hB hp hq
      have g64 := pv (v := .bool true) hp 10 64 (by kernel_rfl) rfl rfl rfl
      have g68 := pv (v := .bool false) hp 14 68 (by kernel_rfl) rfl rfl rfl
      refine ov (v := .bool false) rfl ?_ rfl
      go_simp
    · intro cx wc hB hp hq
      have g69 := pv (v := .bool false) hp 15 69 (by kernel_rfl) rfl rfl rfl
      refine ov (v := .bool false) rfl ?_ rfl
      go_simp
    iterate 4 exact fun _ _ _ hp _ => Reg.ok_skip (Reg.unwanted_at (j := 16) (d := 70) rfl rfl rfl (fv (Reg.pred hp 16 70 (by kernel_rfl) rfl rfl)) rfl) rfl
    · intro cx wc hB hp hq
      have g70 := pv (v := .bool false) hp 16 70 (by kernel_rfl) rfl rfl rfl
      refine ov (v := .bool false) rfl ?_ rfl
      go_simp
    · intro cx wc hB hp hq
      have g75 := pv (v := .bool false) hp 21 75 (by kernel_rfl) rfl rfl rfl
      refine ov (v := .bool false) rfl ?_ rfl
      go_simp
    iterate 7 exact fun _ _ _ hp _ => Reg.ok_skip (Reg.unwanted_at (j := 22) (d := 76) rfl rfl rfl (fv (Reg.pred hp 22 76 (by kernel_rfl) rfl rfl)) rfl) rfl
    · intro cx wc hB hp hq
      have g76 := pv (v := .bool false) hp 22 76 (by kernel_rfl) rfl rfl rfl
      refine ov (v := .bool false) rfl ?_ rfl
      go_simp
    · intro cx wc hB hp hq
      have g84 := pv (v := .bool false) hp 30 84 (by kernel_rfl) rfl rfl rfl
      refine ov (v := .bool false) rfl ?_ rfl
      go_simp
    iterate 4 exact fun _ _ _ hp _ => Reg.ok_skip (Reg.unwanted_at (j := 31) (d := 85) rfl rfl rfl (fv (Reg.pred hp 31 85 (by kernel_rfl) rfl rfl)) rfl) rfl
    · intro cx wc hB hp hq
      have g85 := pv (v := .bool false) hp 31 85 (by kernel_rfl) rfl rfl rfl
      refine ov (v := .bool false) rfl ?_ rfl
      go_simp
    · intro cx wc hB hp hq
      have g90 := pv (v := .bool false) hp 36 90 (by kernel_rfl) rfl rfl rfl
      refine ov (v := .bool false) rfl ?_ rfl
      go_simp
    iterate 4 exact fun _ _ _ hp _ => Reg.ok_skip (Reg.unwanted_at (j := 37) (d := 91) rfl rfl rfl (fv (Reg.pred hp 37 91 (by kernel_rfl) rfl rfl)) rfl) rfl
    · intro cx wc hB hp hq
      have g91 := pv (v := .bool false) hp 37 91 (by kernel_rfl) rfl rfl rfl
      refine ov (v := .bool false) rfl ?_ rfl
      go_simp
    · intro cx wc hB hp hq
      have g96 := pv (v := .bool false) hp 42 96 (by kernel_rfl) rfl rfl rfl
      refine ov (v := .bool false) rfl ?_ rfl
      go_simp
    iterate 4 exact fun _ _ _ hp _ => Reg.ok_skip (Reg.unwanted_at (j := 43) (d := 97) rfl rfl rfl (fv (Reg.pred hp 43 97 (by kernel_rfl) rfl rfl)) rfl) rfl
    · intro cx wc hB hp hq
      have g97 := pv (v := .bool false) hp 43 97 (by kernel_rfl) rfl rfl rfl
      refine ov (v := .bool false) rfl ?_ rfl
      go_simp
    · intro cx wc hB hp hq
      have g102 := pv (v := .bool false) hp 48 102 (by kernel_rfl) rfl rfl rfl
      refine ov (v := .bool false) rfl ?_ rfl
      go_simp
    iterate 4 exact fun _ _ _ hp _ => Reg.ok_skip (Reg.unwanted_at (j := 49) (d := 103) rfl rfl rfl (fv (Reg.pred hp 49 103 (by kernel_rfl) rfl rfl)) rfl) rfl
    · intro cx wc hB hp hq
      have g103 := pv (v := .bool false) hp 49 103 (by kernel_rfl) rfl rfl rfl
      refine ov (v := .bool false) rfl ?_ rfl
      go_simp
    · intro cx wc hB hp hq
      have g108 := pv (v := .bool false) hp 54 108 (by kernel_rfl) rfl rfl rfl
      refine ov (v := .bool false) rfl ?_ rfl
      go_simp
    iterate 4 exact fun _ _ _ hp _ => Reg.ok_skip (Reg.unwanted_at (j := 55) (d := 109) rfl rfl rfl (fv (Reg.pred hp 55 109 (by kernel_rfl) rfl rfl)) rfl) rfl
    · intro cx wc hB hp hq
      have g109 := pv (v := .bool false) hp 55 109 (by kernel_rfl) rfl rfl rfl
      refine ov (v := .bool false) rfl ?_ rfl
      go_simp
    · intro cx wc hB hp hq
      have g114 := pv (v := .bool false) hp 60 114 (by kernel_rfl) rfl rfl rfl
      refine ov (v := .bool false) rfl ?_ rfl
      go_simp
    iterate 4 exact fun _ _ _ hp _ => Reg.ok_skip (Reg.unwanted_at (j := 61) (d := 115) rfl rfl rfl (fv (Reg.pred hp 61 115 (by kernel_rfl) rfl rfl)) rfl) rfl
    · intro cx wc hB hp hq
      have g115 := pv (v := .bool false) hp 61 115 (by kernel_rfl) rfl rfl rfl
      refine ov (v := .bool false) rfl ?_ rfl
      go_simp
    · intro cx wc hB hp hq
      have g120 := pv (v := .bool false) hp 66 120 (by kernel_rfl) rfl rfl rfl
      refine ov (v := .bool false) rfl ?_ rfl
      go_simp
    iterate 4 exact fun _ _ _ hp _ => Reg.ok_skip (Reg.unwanted_at (j := 67) (d := 121) rfl rfl rfl (fv (Reg.pred hp 67 121 (by kernel_rfl) rfl rfl)) rfl) rfl
    · intro cx wc hB hp hq
      have g121 := pv (v := .bool false) hp 67 121 (by kernel_rfl) rfl rfl rfl
      refine ov (v := .bool false) rfl ?_ rfl
      go_simp
    · intro cx wc hB hp hq
      have g126 := pv (v := .bool false) hp 72 126 (by kernel_rfl) rfl rfl rfl
      refine ov (v := .bool false) rfl ?_ rfl
      go_simp
  · intro cx w1 hB hsz hdf hv ho
    have hcx := Reg.frame_eq [s0, .pointer (some ⟨N, 0, none⟩), .bool false, s3, .slice (some ⟨g, 0, none⟩) 10 10, s5, s6, s7, s8, s9, s10, s11, s12, s13, s14, s15, s16, s17, s18, s19, s20, s21, s22, s23, s24, s25, s26, s27, s28, s29, s30, s31, s32, s33, s34, s35, s36, s37, s38, s39, s40, s41, s42, s43, s44, s45, s46, s47, s48, s49, s50, s51, s52, s53, .pointer (some ⟨N, 10, none⟩), .slice q l d, .int .i64 ((l : Int)), .bool true, .bool true, .pointer (some ⟨N, 10, none⟩), .slice q l d, .int .i64 ((l : Int)), .bool true, .bool true, .bool true, .slice (some ⟨g, 0, none⟩) 10 10, .pointer (some ⟨g, 0, none⟩), .int .i64 x0, .bool false, .bool false, .bool false, undef, undef, undef, undef, .bool false, .bool false, undef, undef, undef, undef, undef, undef, undef, .bool false, .bool false, undef, undef, undef, undef, .bool false, .bool false, undef, undef, undef, undef, .bool false, .bool false, undef, undef, undef, undef, .bool false, .bool false, undef, undef, undef, undef, .bool false, .bool false, undef, undef, undef, undef, .bool false, .bool false, undef, undef, undef, undef, .bool false, .bool false, undef, undef, undef, undef, .bool false] (by simpa using hsz) hdf ⟨kw ho 0 rfl, kw ho 1 rfl, fv (hv 73 _ 2 rfl rfl), kw ho 3 rfl, kw ho 4 rfl, kw ho 5 rfl, kw ho 6 rfl, kw ho 7 rfl, kw ho 8 rfl, kw ho 9 rfl, kw ho 10 rfl, kw ho 11 rfl, kw ho 12 rfl, kw ho 13 rfl, kw ho 14 rfl, kw ho 15 rfl, kw ho 16 rfl, kw ho 17 rfl, kw ho 18 rfl, kw ho 19 rfl, kw ho 20 rfl, kw ho 21 rfl, kw ho 22 rfl, kw ho 23 rfl, kw ho 24 rfl, kw ho 25 rfl, kw ho 26 rfl, kw ho 27 rfl, kw ho 28 rfl, kw ho 29 rfl, kw ho 30 rfl, kw ho 31 rfl, kw ho 32 rfl, kw ho 33 rfl, kw ho 34 rfl, kw ho 35 rfl, kw ho 36 rfl, kw ho 37 rfl, kw ho 38 rfl, kw ho 39 rfl, kw ho 40 rfl, kw ho 41 rfl, kw ho 42 rfl, kw ho 43 rfl, kw ho 44 rfl, kw ho 45 rfl, kw ho 46 rfl, kw ho 47 rfl, kw ho 48 rfl, kw ho 49 rfl, kw ho 50 rfl, kw ho 51 rfl, kw ho 52 rfl, kw ho 53 rfl, fv (hv 0 _ 54 rfl rfl), fv (hv 1 _ 55 rfl rfl), fv (hv 2 _ 56 rfl rfl), fv (hv 3 _ 57 rfl rfl), fv (hv 4 _ 58 rfl rfl), fv (hv 5 _ 59 rfl rfl), fv (hv 6 _ 60 rfl rfl), fv (hv 7 _ 61 rfl rfl), fv (hv 8 _ 62 rfl rfl), fv (hv 9 _ 63 rfl rfl), fv (hv 10 _ 64 rfl rfl), fv (hv 11 _ 65 rfl rfl), fv (hv 12 _ 66 rfl rfl), fv (hv 13 _ 67 rfl rfl), fv (hv 14 _ 68 rfl rfl), fv (hv 15 _ 69 rfl rfl), fv (hv 16 _ 70 rfl rfl), fv (hv 17 _ 71 rfl rfl), fv (hv 18 _ 72 rfl rfl), fv (hv 19 _ 73 rfl rfl), fv (hv 20 _ 74 rfl rfl), fv (hv 21 _ 75 rfl rfl), fv (hv 22 _ 76 rfl rfl), fv (hv 23 _ 77 rfl rfl), fv (hv 24 _ 78 rfl rfl), fv (hv 25 _ 79 rfl rfl), fv (hv 26 _ 80 rfl rfl), fv (hv 27 _ 81 rfl rfl), fv (hv 28 _ 82 rfl rfl), fv (hv 29 _ 83 rfl rfl), fv (hv 30 _ 84 rfl rfl), fv (hv 31 _ 85 rfl rfl), fv (hv 32 _ 86 rfl rfl), fv (hv 33 _ 87 rfl rfl), fv (hv 34 _ 88 rfl rfl), fv (hv 35 _ 89 rfl rfl), fv (hv 36 _ 90 rfl rfl), fv (hv 37 _ 91 rfl rfl), fv (hv 38 _ 92 rfl rfl), fv (hv 39 _ 93 rfl rfl), fv (hv 40 _ 94 rfl rfl), fv (hv 41 _ 95 rfl rfl), fv (hv 42 _ 96 rfl rfl), fv (hv 43 _ 97 rfl rfl), fv (hv 44 _ 98 rfl rfl), fv (hv 45 _ 99 rfl rfl), fv (hv 46 _ 100 rfl rfl), fv (hv 47 _ 101 rfl rfl), fv (hv 48 _ 102 rfl rfl), fv (hv 49 _ 103 rfl rfl), fv (hv 50 _ 104 rfl rfl), fv (hv 51 _ 105 rfl rfl), fv (hv 52 _ 106 rfl rfl), fv (hv 53 _ 107 rfl rfl), fv (hv 54 _ 108 rfl rfl), fv (hv 55 _ 109 rfl rfl), fv (hv 56 _ 110 rfl rfl), fv (hv 57 _ 111 rfl rfl), fv (hv 58 _ 112 rfl rfl), fv (hv 59 _ 113 rfl rfl), fv (hv 60 _ 114 rfl rfl), fv (hv 61 _ 115 rfl rfl), fv (hv 62 _ 116 rfl rfl), fv (hv 63 _ 117 rfl rfl), fv (hv 64 _ 118 rfl rfl), fv (hv 65 _ 119 rfl rfl), fv (hv 66 _ 120 rfl rfl), fv (hv 67 _ 121 rfl rfl), fv (hv 68 _ 122 rfl rfl), fv (hv 69 _ 123 rfl rfl), fv (hv 70 _ 124 rfl rfl), fv (hv 71 _ 125 rfl rfl), fv (hv 72 _ 126 rfl rfl), trivial⟩
    rw [hcx]
    exact hQ _ _ _ _ _ _ _ _ _ _ _ _ _ _ _ _ _ _ _ _ _ _ _ _ _ _ _ _ _ _ _ _ _ _ _ _ _ _ _ _ _ _ _ _ _ _ _ _ _ _ _ _ _ _ _ _ _ _ _ _ _ _ _ _ _ _ _ _ _ _ _ _ _ _ hB
set_option maxRecDepth 100000 in
set_option maxHeartbeats 16000000 in
theorem r7_1 (C0 : Code) (hC0 : Tryd.f16.body.bind (findG 7) = some C0) (Q : Exit → Act → World → Prop) (W : World) (N g : Nat) (x0 x1 x2 x3 x4 x5 x6 x7 x8 x9 : Int) (q : Option Addr) (l d : Nat) (_hl : l ≤ 9223372036854775807) (kl0 : N < W.heap.size) (k100 : W.cell? ⟨N, 10, none⟩ = some (.slice q l d)) (rl0 : g < W.heap.size) (r00 : W.cell? ⟨g, 0, none⟩ = some (.int .i64 x0)) (r10 : W.cell? ⟨g, 1, none⟩ = some (.int .i64 x1)) (r20 : W.cell? ⟨g, 2, none⟩ = some (.int .i64 x2)) (r30 : W.cell? ⟨g, 3, none⟩ = some (.int .i64 x3)) (r40 : W.cell? ⟨g, 4, none⟩ = some (.int .i64 x4)) (r50 : W.cell? ⟨g, 5, none⟩ = some (.int .i64 x5)) (r60 : W.cell? ⟨g, 6, none⟩ = some (.int .i64 x6)) (r70 : W.cell? ⟨g, 7, none⟩ = some (.int .i64 x7)) (r80 : W.cell? ⟨g, 8, none⟩ = some (.int .i64 x8)) (r90 : W.cell? ⟨g, 9, none⟩ = some (.int .i64 x9)) (h1 : (1 : Int) ≤ (l : Int)) (h3 : (l : Int) ≤ 3) (hb0 : inZ x0 1 256 = true) (hb1 : inZ x2 0 1000000 = false) (s0 s2 s3 s5 s6 s7 s8 s9 s10 s11 s12 s13 s14 s15 s16 s17 s18 s19 s20 s21 s22 s23 s24 s25 s26 s27 s28 s29 s30 s31 s32 s33 s34 s35 s36 s37 s38 s39 s40 s41 s42 s43 s44 s45 s46 s47 s48 s49 s50 s51 s52 s53 s54 s55 s56 s57 s58 s59 s60 s61 s62 s63 s64 s65 s66 s67 s68 s69 s70 s71 s72 s73 s74 s75 s76 s77 s78 s79 s80 s81 s82 s83 s84 s85 s86 s87 s88 s89 s90 s91 s92 s93 s94 s95 s96 s97 s98 s99 s100 s101 s102 s103 s104 s105 s106 s107 s108 s109 s110 s111 s112 s113 s114 s115 s116 s117 s118 s119 s120 s121 s122 s123 s124 s125 s126 : Value)
    (hQ : ∀ (W' : World) (z54 z55 z56 z57 z58 z59 z60 z61 z62 z63 z64 z65 z66 z67 z68 z69 z70 z71 z72 z73 z74 z75 z76 z77 z78 z79 z80 z81 z82 z83 z84 z85 z86 z87 z88 z89 z90 z91 z92 z93 z94 z95 z96 z97 z98 z99 z100 z101 z102 z103 z104 z105 z106 z107 z108 z109 z110 z111 z112 z113 z114 z115 z116 z117 z118 z119 z120 z121 z122 z123 z124 z125 z126 : Value), Below W.heap.size W W' → Q .normal { tmps := (s0 :: .pointer (some ⟨N, 0, none⟩) :: .bool false :: s3 :: .slice (some ⟨g, 0, none⟩) 10 10 :: s5 :: s6 :: s7 :: s8 :: s9 :: s10 :: s11 :: s12 :: s13 :: s14 :: s15 :: s16 :: s17 :: s18 :: s19 :: s20 :: s21 :: s22 :: s23 :: s24 :: s25 :: s26 :: s27 :: s28 :: s29 :: s30 :: s31 :: s32 :: s33 :: s34 :: s35 :: s36 :: s37 :: s38 :: s39 :: s40 :: s41 :: s42 :: s43 :: s44 :: s45 :: s46 :: s47 :: s48 :: s49 :: s50 :: s51 :: s52 :: s53 :: z54 :: z55 :: z56 :: z57 :: z58 :: z59 :: z60 :: z61 :: z62 :: z63 :: z64 :: z65 :: z66 :: z67 :: z68 :: z69 :: z70 :: z71 :: z72 :: z73 :: z74 :: z75 :: z76 :: z77 :: z78 :: z79 :: z80 :: z81 :: z82 :: z83 :: z84 :: z85 :: z86 :: z87 :: z88 :: z89 :: z90 :: z91 :: z92 :: z93 :: z94 :: z95 :: z96 :: z97 :: z98 :: z99 :: z100 :: z101 :: z102 :: z103 :: z104 :: z105 :: z106 :: z107 :: z108 :: z109 :: z110 :: z111 :: z112 :: z113 :: z114 :: z115 :: z116 :: z117 :: z118 :: z119 :: z120 :: z121 :: z122 :: z123 :: z124 :: z125 :: z126 :: []).toArray, defers := [] } W') :
    Code.wp Tryd.prog C0 Q { tmps := (s0 :: .pointer (some ⟨N, 0, none⟩) :: s2 :: s3 :: .slice (some ⟨g, 0, none⟩) 10 10 :: s5 :: s6 :: s7 :: s8 :: s9 :: s10 :: s11 :: s12 :: s13 :: s14 :: s15 :: s16 :: s17 :: s18 :: s19 :: s20 :: s21 :: s22 :: s23 :: s24 :: s25 :: s26 :: s27 :: s28 :: s29 :: s30 :: s31 :: s32 :: s33 :: s34 :: s35 :: s36 :: s37 :: s38 :: s39 :: s40 :: s41 :: s42 :: s43 :: s44 :: s45 :: s46 :: s47 :: s48 :: s49 :: s50 :: s51 :: s52 :: s53 :: s54 :: s55 :: s56 :: s57 :: s58 :: s59 :: s60 :: s61 :: s62 :: s63 :: s64 :: s65 :: s66 :: s67 :: s68 :: s69 :: s70 :: s71 :: s72 :: s73 :: s74 :: s75 :: s76 :: s77 :: s78 :: s79 :: s80 :: s81 :: s82 :: s83 :: s84 :: s85 :: s86 :: s87 :: s88 :: s89 :: s90 :: s91 :: s92 :: s93 :: s94 :: s95 :: s96 :: s97 :: s98 :: s99 :: s100 :: s101 :: s102 :: s103 :: s104 :: s105 :: s106 :: s107 :: s108 :: s109 :: s110 :: s111 :: s112 :: s113 :: s114 :: s115 :: s116 :: s117 :: s118 :: s119 :: s120 :: s121 :: s122 :: s123 :: s124 :: s125 :: s126 :: []).toArray, defers := [] } W := by
  cases hC0
  have kl : N < W.drew.heap.size := kl0
  have rl : g < W.drew.heap.size := rl0
  have k10 : W.drew.cell? ⟨N, 10, none⟩ = some (.slice q l d) := k100
  have r0 : W.drew.cell? ⟨g, 0, none⟩ = some (.int .i64 x0) := r00
  have r1 : W.drew.cell? ⟨g, 1, none⟩ = some (.int .i64 x1) := r10
  have r2 : W.drew.cell? ⟨g, 2, none⟩ = some (.int .i64 x2) := r20
  have r3 : W.drew.cell? ⟨g, 3, none⟩ = some (.int .i64 x3) := r30
  have r4 : W.drew.cell? ⟨g, 4, none⟩ = some (.int .i64 x4) := r40
  have r5 : W.drew.cell? ⟨g, 5, none⟩ = some (.int .i64 x5) := r50
  have r6 : W.drew.cell? ⟨g, 6, none⟩ = some (.int .i64 x6) := r60
  have r7 : W.drew.cell? ⟨g, 7, none⟩ = some (.int .i64 x7) := r70
  have r8 : W.drew.cell? ⟨g, 8, none⟩ = some (.int .i64 x8) := r80
  have r9 : W.drew.cell? ⟨g, 9, none⟩ = some (.int .i64 x9) := r90
  clear kl0 k100 rl0 r00 r10 r20 r30 r40 r50 r60 r70 r80 r90
  refine Reg.wp_region_inv (n := 127) (WishPhi [.pointer (some ⟨N, 10, none⟩), .slice q l d, .int .i64 ((l : Int)), .bool true, .bool true, .pointer (some ⟨N, 10, none⟩), .slice q l d, .int .i64 ((l : Int)), .bool true, .bool true, .bool true, .slice (some ⟨g, 0, none⟩) 10 10, .pointer (some ⟨g, 0, none⟩), .int .i64 x0, .bool true, .bool true, .bool true, .slice (some ⟨g, 0, none⟩) 10 10, .pointer (some ⟨g, 2, none⟩), .int .i64 x2, .bool false, .bool false, .bool false, undef, undef, undef, undef, undef, undef, undef, .bool false, .bool false, undef, undef, undef, undef, .bool false, .bool false, undef, undef, undef, undef, .bool false, .bool false, undef, undef, undef, undef, .bool false, .bool false, undef, undef, undef, undef, .bool false, .bool false, undef, undef, undef, undef, .bool false, .bool false, undef, undef, undef, undef, .bool false, .bool false, undef, undef, undef, undef, .bool false, .bool false]) (by kernel_rfl) (by kernel_rfl) rfl WishPhi.stays ?_ ?_
  · refine ⟨?_, ?_, ?_, ?_, ?_, ?_, ?_, ?_, ?_, ?_, ?_, ?_, ?_, ?_, ?_, ?_, ?_, ?_, ?_, ?_, ?_, ?_, ?_, ?_, ?_, ?_, ?_, ?_, ?_, ?_, ?_, ?_, ?_, ?_, ?_, ?_, ?_, ?_, ?_, ?_, ?_, ?_, ?_, ?_, ?_, ?_, ?_, ?_, ?_, ?_, ?_, ?_, ?_, ?_, ?_, ?_, ?_, ?_, ?_, ?_, ?_, ?_, ?_, ?_, ?_, ?_, ?_, ?_, ?_, ?_, ?_, ?_, ?_, ?_, trivial⟩
    · intro cx wc hB hp hq
      have g1 : cx.tmps[1]? = some (.pointer (some ⟨N, 0, none⟩)) := (hq 1 (by kernel_rfl)).trans rfl
      refine ov (v := .pointer (some ⟨N, 10, none⟩)) rfl ?_ rfl
      go_simp
    · intro cx wc hB hp hq
      have g54 := pv (v := .pointer (some ⟨N, 10, none⟩)) hp 0 54 (by kernel_rfl) rfl rfl rfl
      have c10 := (Below.cell (p := ⟨N, 10, none⟩) hB kl).trans k10
      refine ov (v := .slice q l d) rfl ?_ rfl
      go_simp
    · intro cx wc hB hp hq
      have g55 := pv (v := .slice q l d) hp 1 55 (by kernel_rfl) rfl rfl rfl
      refine ov (v := .int .i64 ((l : Int))) rfl ?_ rfl
      go_simp
    · intro cx wc hB hp hq
      have g56 := pv (v := .int .i64 ((l : Int))) hp 2 56 (by kernel_rfl) rfl rfl rfl
      have e1 := h1
      refine ov (v := .bool true) rfl ?_ rfl
      go_simp
    · intro cx wc hB hp hq
      have g57 := pv (v := .bool true) hp 3 57 (by kernel_rfl) rfl rfl rfl
      refine ov (v := .bool true) rfl ?_ rfl
      go_simp
    · intro cx wc hB hp hq
      have g1 : cx.tmps[1]? = some (.pointer (some ⟨N, 0, none⟩)) := (hq 1 (by kernel_rfl)).trans rfl
      have g58 := pv (v := .bool true) hp 4 58 (by kernel_rfl) rfl rfl rfl
      refine og (v := .pointer (some ⟨N, 10, none⟩)) (j := 4) (d := 58) rfl rfl rfl g58 ?_ rfl
      go_simp
    · intro cx wc hB hp hq
      have g59 := pv (v := .pointer (some ⟨N, 10, none⟩)) hp 5 59 (by kernel_rfl) rfl rfl rfl
      have g58 := pv (v := .bool true) hp 4 58 (by kernel_rfl) rfl rfl rfl
      have c10 := (Below.cell (p := ⟨N, 10, none⟩) hB kl).trans k10
      refine og (v := .slice q l d) (j := 4) (d := 58) rfl rfl rfl g58 ?_ rfl
      go_simp
    · intro cx wc hB hp hq
      have g60 := pv (v := .slice q l d) hp 6 60 (by kernel_rfl) rfl rfl rfl
      have g58 := pv (v := .bool true) hp 4 58 (by kernel_rfl) rfl rfl rfl
      refine og (v := .int .i64 ((l : Int))) (j := 4) (d := 58) rfl rfl rfl g58 ?_ rfl
      go_simp
    · intro cx wc hB hp hq
      have g61 := pv (v := .int .i64 ((l : Int))) hp 7 61 (by kernel_rfl) rfl rfl rfl
      have g58 := pv (v := .bool true) hp 4 58 (by kernel_rfl) rfl rfl rfl
      have e1 := h3
      refine og (v := .bool true) (j := 4) (d := 58) rfl rfl rfl g58 ?_ rfl
      go_simp
    · intro cx wc hB hp hq
      have g58 := pv (v := .bool true) hp 4 58 (by kernel_rfl) rfl rfl rfl
      have g62 := pv (v := .bool true) hp 8 62 (by kernel_rfl) rfl rfl rfl
      refine ov (v := .bool true) rfl ?_ rfl
      go_simp
    · intro cx wc hB hp hq
      have g63 := pv (v := .bool true) hp 9 63 (by kernel_rfl) rfl rfl rfl
      refine ov (v := .bool true) rfl ?_ rfl
      go_simp
    · intro cx wc hB hp hq
      have g4 : cx.tmps[4]? = some (.slice (some ⟨g, 0, none⟩) 10 10) := (hq 4 (by kernel_rfl)).trans rfl
      have g64 := pv (v := .bool true) hp 10 64 (by kernel_rfl) rfl rfl rfl
      refine og (v := .slice (some ⟨g, 0, none⟩) 10 10) (j := 10) (d := 64) rfl rfl rfl g64 ?_ rfl
      go_simp
    · intro cx wc hB hp hq
      have g65 := pv (v := .slice (some ⟨g, 0, none⟩) 10 10) hp 11 65 (by kernel_rfl) rfl rfl rfl
      have g64 := pv (v := .bool true) hp 10 64 (by kernel_rfl) rfl rfl rfl
      refine og (v := .pointer (some ⟨g, 0, none⟩)) (j := 10) (d := 64) rfl rfl rfl g64 ?_ rfl
      go_simp
    · intro cx wc hB hp hq
      have g66 := pv (v := .pointer (some ⟨g, 0, none⟩)) hp 12 66 (by kernel_rfl) rfl rfl rfl
      have g64 := pv (v := .bool true) hp 10 64 (by kernel_rfl) rfl rfl rfl
      have c0 := (Below.cell (p := ⟨g, 0, none⟩) hB rl).trans r0
      refine og (v := .int .i64 x0) (j := 10) (d := 64) rfl rfl rfl g64 ?_ rfl
      go_simp
    · intro cx wc hB hp hq
      have g67 := pv (v := .int .i64 x0) hp 13 67 (by kernel_rfl) rfl rfl rfl
      have g64 := pv (v := .bool true) hp 10 64 (by kernel_rfl) rfl rfl rfl
      refine Reg.ok_call (f := 35) (args := #[.int .i64 x0, .int .i64 1, .int .i64 256]) (Reg.wanted_at (j := 10) (d := 64) rfl rfl rfl g64) (by go_simp) ((in_of x0 1 256 _ hb0 wc).mono ?_)
      rintro e w' ⟨rfl, rfl⟩
      exact ⟨_, rfl, Reg.Old.refl _, rfl⟩
    · intro cx wc hB hp hq
      have g64 := pv (v := .bool true) hp 10 64 (by kernel_rfl) rfl rfl rfl
      have g68 := pv (v := .bool true) hp 14 68 (by kernel_rfl) rfl rfl rfl
      refine ov (v := .bool true) rfl ?_ rfl
      go_simp
    · intro cx wc hB hp hq
      have g69 := pv (v := .bool true) hp 15 69 (by kernel_rfl) rfl rfl rfl
      refine ov (v := .bool true) rfl ?_ rfl
      go_simp
    · intro cx wc hB hp hq
      have g4 : cx.tmps[4]? = some (.slice (some ⟨g, 0, none⟩) 10 10) := (hq 4 (by kernel_rfl)).trans rfl
      have g70 := pv (v := .bool true) hp 16 70 (by kernel_rfl) rfl rfl rfl
      refine og (v := .slice (some ⟨g, 0, none⟩) 10 10) (j := 16) (d := 70) rfl rfl rfl g70 ?_ rfl
      go_simp
    · intro cx wc hB hp hq
      have g71 := pv (v := .slice (some ⟨g, 0, none⟩) 10 10) hp 17 71 (by kernel_rfl) rfl rfl rfl
      have g70 := pv (v := .bool true) hp 16 70 (by kernel_rfl) rfl rfl rfl
      refine og (v := .pointer (some ⟨g, 2, none⟩)) (j := 16) (d := 70) rfl rfl rfl g70 ?_ rfl
      go_simp
    · intro cx wc hB hp hq
      have g72 := pv (v := .pointer (some ⟨g, 2, none⟩)) hp 18 72 (by kernel_rfl) rfl rfl rfl
      have g70 := pv (v := .bool true) hp 16 70 (by kernel_rfl) rfl rfl rfl
      have c2 := (Below.cell (p := ⟨g, 2, none⟩) hB rl).trans r2
      refine og (v := .int .i64 x2) (j := 16) (d := 70) rfl rfl rfl g70 ?_ rfl
      go_simp
    · intro cx wc hB hp hq
      have g73 := pv (v := .int .i64 x2) hp 19 73 (by kernel_rfl) rfl rfl rfl
      have g70 := pv (v := .bool true) hp 16 70 (by kernel_rfl) rfl rfl rfl
      refine Reg.ok_call (f := 35) (args := #[.int .i64 x2, .int .i64 0, .int .i64 1000000]) (Reg.wanted_at (j := 16) (d := 70) rfl rfl rfl g70) (by go_simp) ((in_of x2 0 1000000 _ hb1 wc).mono ?_)
      rintro e w' ⟨rfl, rfl⟩
      exact ⟨_, rfl, Reg.Old.refl _, rfl⟩
    · intro cx wc hB hp hq
      have g70 := pv (v := .bool true) hp 16 70 (by kernel_rfl) rfl rfl rfl
      have g74 := pv (v := .bool false) hp 20 74 (by kernel_rfl) rfl rfl rfl
      refine ov (v := .bool false) rfl ?_ rfl
      go_simp
    · intro cx wc hB hp hq
      have g75 := pv (v := .bool false) hp 21 75 (by kernel_rfl) rfl rfl rfl
      refine ov (v := .bool false) rfl ?_ rfl
      go_simp
    iterate 7 exact fun _ _ _ hp _ => Reg.ok_skip (Reg.unwanted_at (j := 22) (d := 76) rfl rfl rfl (fv (Reg.pred hp 22 76 (by kernel_rfl) rfl rfl)) rfl) rfl
    · intro cx wc hB hp hq
      have g76 := pv (v := .bool false) hp 22 76 (by kernel_rfl) rfl rfl rfl
      refine ov (v := .bool false) rfl ?_ rfl
      go_simp
    · intro cx wc hB hp hq
      have g84 := pv (v := .bool false) hp 30 84 (by kernel_rfl) rfl rfl rfl
      refine ov (v := .bool false) rfl ?_ rfl
      go_simp
    iterate 4 exact fun _ _ _ hp _ => Reg.ok_skip (Reg.unwanted_at (j := 31) (d := 85) rfl rfl rfl (fv (Reg.pred hp 31 85 (by kernel_rfl) rfl rfl)) rfl) rfl
    · intro cx wc hB hp hq
      have g85 := pv (v := .bool false) hp 31 85 (by kernel_rfl) rfl rfl rfl
      refine ov (v := .bool false) rfl ?_ rfl
      go_simp
    · intro cx wc hB hp hq
      have g90 := pv (v := .bool false) hp 36 90 (by kernel_rfl) rfl rfl rfl
      refine ov (v := .bool false) rfl ?_ rfl
      go_simp
    iterate 4 exact fun _ _ _ hp _ => Reg.ok_skip (Reg.unwanted_at (j := 37) (d := 91) rfl rfl rfl (fv (Reg.pred hp 37 91 (by kernel_rfl) rfl rfl)) rfl) rfl
    · intro cx wc hB hp hq
      have g91 := pv (v := .bool false) hp 37 91 (by kernel_rfl) rfl rfl rfl
      refine ov (v := .bool false) rfl ?_ rfl
      go_simp
    · intro cx wc hB hp hq
      have g96 := pv (v := .bool false) hp 42 96 (by kernel_rfl) rfl rfl rfl
      refine ov (v := .bool false) rfl ?_ rfl
      go_simp
    iterate 4 exact fun _ _ _ hp _ => Reg.ok_skip (Reg.unwanted_at (j := 43) (d := 97) rfl rfl rfl (fv (Reg.pred hp 43 97 (by kernel_rfl) rfl rfl)) rfl) rfl
    · intro cx wc hB hp hq
      have g97 := pv (v := .bool false) hp 43 97 (by kernel_rfl) rfl rfl rfl
      refine ov (v := .bool false) rfl ?_ rfl
      go_simp
    · intro cx wc hB hp hq
      have g102 := pv (v := .bool false) hp 48 102 (by kernel_rfl) rfl rfl rfl
      refine ov (v := .bool false) rfl ?_ rfl
      go_simp
    iterate 4 exact fun _ _ _ hp _ => Reg.ok_skip (Reg.unwanted_at (j := 49) (d := 103) rfl rfl rfl (fv (Reg.pred hp 49 103 (by kernel_rfl) rfl rfl)) rfl) rfl
    · intro cx wc hB hp hq
      have g103 := pv (v := .bool false) hp 49 103 (by kernel_rfl) rfl rfl rfl
      refine ov (v := .bool false) rfl ?_ rfl
      go_simp
    · intro cx wc hB hp hq
      have g108 := pv (v := .bool false) hp 54 108 (by kernel_rfl) rfl rfl rfl
      refine ov (v := .bool false) rfl ?_ rfl
      go_simp
    iterate 4 exact fun _ _ _ hp _ => Reg.ok_skip (Reg.unwanted_at (j := 55) (d := 109) rfl rfl rfl (fv (Reg.pred hp 55 109 (by kernel_rfl) rfl rfl)) rfl) rfl
    · intro cx wc hB hp hq
      have g109 := pv (v := .bool false) hp 55 109 (by kernel_rfl) rfl rfl rfl
      refine ov (v := .bool false) rfl ?_ rfl
      go_simp
    · intro cx wc hB hp hq
      have g114 := pv (v := .bool false) hp 60 114 (by kernel_rfl) rfl rfl rfl
      refine ov (v := .bool false) rfl ?_ rfl
      go_simp
    iterate 4 exact fun _ _ _ hp _ => Reg.ok_skip (Reg.unwanted_at (j := 61) (d := 115) rfl rfl rfl (fv (Reg.pred hp 61 115 (by kernel_rfl) rfl rfl)) rfl) rfl
    · intro cx wc hB hp hq
      have g115 := pv (v := .bool false) hp 61 115 (by kernel_rfl) rfl rfl rfl
      refine ov (v := .bool false) rfl ?_ rfl
      go_simp
    · intro cx wc hB hp hq
      have g120 := pv (v := .bool false) hp 66 120 (by kernel_rfl) rfl rfl rfl
      refine ov (v := .bool false) rfl ?_ rfl
      go_simp
    iterate 4 exact fun _ _ _ hp _ => Reg.ok_skip (Reg.unwanted_at (j := 67) (d := 121) rfl rfl rfl (fv (Reg.pred hp 67 121 (by kernel_rfl) rfl rfl)) rfl) rfl
    · intro cx wc hB hp hq
      have g121 := pv (v := .bool false) hp 67 121 (by kernel_rfl) rfl rfl rfl
      refine ov (v := .bool false) rfl ?_ rfl
      go_simp
    · intro cx wc hB hp hq
      have g126 := pv (v := .bool false) hp 72 126 (by kernel_rfl) rfl rfl rfl
      refine ov (v := .bool false) rfl ?_ rfl
      go_simp
  · intro cx w1 hB hsz hdf hv ho
    have hcx := Reg.frame_eq [s0, .pointer (some ⟨N, 0, none⟩), .bool false, s3, .slice (some ⟨g, 0, none⟩) 10 10, s5, s6, s7, s8, s9, s10, s11, s12, s13, s14, s15, s16, s17, s18, s19, s20, s21, s22, s23, s24, s25, s26, s27, s28, s29, s30, s31, s32, s33, s34, s35, s36, s37, s38, s39, s40, s41, s42, s43, s44, s45, s46, s47, s48, s49, s50, s51, s52, s53, .pointer (some ⟨N, 10, none⟩), .slice q l d, .int .i64 ((l : Int)), .bool true, .bool true, .pointer (some ⟨N, 10, none⟩), .slice q l d, .int .i64 ((l : Int)), .bool true, .bool true, .bool true, .slice (some ⟨g, 0, none⟩) 10 10, .pointer (some ⟨g, 0, none⟩), .int .i64 x0, .bool true, .bool true, .bool true, .slice (some ⟨g, 0, none⟩) 10 10, .pointer (some ⟨g, 2, none⟩), .int .i64 x2, .bool false, .bool false, .bool false, undef, undef, undef, undef, undef, undef, undef, .bool false, .bool false, undef, undef, undef, undef, .bool false, .bool false, undef, undef, undef, undef, .bool false, .bool false, undef, undef, undef, undef, .bool false, .bool false, undef, undef, undef, undef, .bool false, .bool false, undef, undef, undef, undef, .bool false, .bool false, undef, undef, undef, undef, .bool false, .bool false, undef, undef, undef, undef, .bool false] (by simpa using hsz) hdf ⟨kw ho 0 rfl, kw ho 1 rfl, fv (hv 73 _ 2 rfl rfl), kw ho 3 rfl, kw ho 4 rfl, kw ho 5 rfl, kw ho 6 rfl, kw ho 7 rfl, kw ho 8 rfl, kw ho 9 rfl, kw ho 10 rfl, kw ho 11 rfl, kw ho 12 rfl, kw ho 13 rfl, kw ho 14 rfl, kw ho 15 rfl, kw ho 16 rfl, kw ho 17 rfl, kw ho 18 rfl, kw ho 19 rfl, kw ho 20 rfl, kw ho 21 rfl, kw ho 22 rfl, kw ho 23 rfl, kw ho 24 rfl, kw ho 25 rfl, kw ho 26 rfl, kw ho 27 rfl, kw ho 28 rfl, kw ho 29 rfl, kw ho 30 rfl, kw ho 31 rfl, kw ho 32 rfl, kw ho 33 rfl, kw ho 34 rfl, kw ho 35 rfl, kw ho 36 rfl, kw ho 37 rfl, kw ho 38 rfl, kw ho 39 rfl, kw ho 40 rfl, kw ho 41 rfl, kw ho 42 rfl, kw ho 43 rfl, kw ho 44 rfl, kw ho 45 rfl, kw ho 46 rfl, kw ho 47 rfl, kw ho 48 rfl, kw ho 49 rfl, kw ho 50 rfl, kw ho 51 rfl, kw ho 52 rfl, kw ho 53 rfl, fv (hv 0 _ 54 rfl rfl), fv (hv 1 _ 55 rfl rfl), fv (hv 2 _ 56 rfl rfl), fv (hv 3 _ 57 rfl rfl), fv (hv 4 _ 58 rfl rfl), fv (hv 5 _ 59 rfl rfl), fv (hv 6 _ 60 rfl rfl), fv (hv 7 _ 61 rfl rfl), fv (hv 8 _ 62 rfl rfl), fv (hv 9 _ 63 rfl rfl), fv (hv 10 _ 64 rfl rfl), fv (hv 11 _ 65 rfl rfl), fv (hv 12 _ 66 rfl rfl), fv (hv 13 _ 67 rfl rfl), fv (hv 14 _ 68 rfl rfl), fv (hv 15 _ 69 rfl rfl), fv (hv 16 _ 70 rfl rfl), fv (hv 17 _ 71 rfl rfl), fv (hv 18 _ 72 rfl rfl), fv (hv 19 _ 73 rfl rfl), fv (hv 20 _ 74 rfl rfl), fv (hv 21 _ 75 rfl rfl), fv (hv 22 _ 76 rfl rfl), fv (hv 23 _ 77 rfl rfl), fv (hv 24 _ 78 rfl rfl), fv (hv 25 _ 79 rfl rfl), fv (hv 26 _ 80 rfl rfl), fv (hv 27 _ 81 rfl rfl), fv (hv 28 _ 82 rfl rfl), fv (hv 29 _ 83 rfl rfl), fv (hv 30 _ 84 rfl rfl), fv (hv 31 _ 85 rfl rfl), fv (hv 32 _ 86 rfl rfl), fv (hv 33 _ 87 rfl rfl), fv (hv 34 _ 88 rfl rfl), fv (hv 35 _ 89 rfl rfl), fv (hv 36 _ 90 rfl rfl), fv (hv 37 _ 91 rfl rfl), fv (hv 38 _ 92 rfl rfl), fv (hv 39 _ 93 rfl rfl), fv (hv 40 _ 94 rfl rfl), fv (hv 41 _ 95 rfl rfl), fv (hv 42 _ 96 rfl rfl), fv (hv 43 _ 97 rfl rfl), fv (hv 44 _ 98 rfl rfl), fv (hv 45 _ 99 rfl rfl), fv (hv 46 _ 100 rfl rfl), fv (hv 47 _ 101 rfl rfl), fv (hv 48 _ 102 rfl rfl), fv (hv 49 _ 103 rfl rfl), fv (hv 50 _ 104 rfl rfl), fv (hv 51 _ 105 rfl rfl), fv (hv 52 _ 106 rfl rfl), fv (hv 53 _ 107 rfl rfl), fv (hv 54 _ 108 rfl rfl), fv (hv 55 _ 109 rfl rfl), fv (hv 56 _ 110 rfl rfl), fv (hv 57 _ 111 rfl rfl), fv (hv 58 _ 112 rfl rfl), fv (hv 59 _ 113 rfl rfl), fv (hv 60 _ 114 rfl rfl), fv (hv 61 _ 115 rfl rfl), fv (hv 62 _ 116 rfl rfl), fv (hv 63 _ 117 rfl rfl), fv (hv 64 _ 118 rfl rfl), fv (hv 65 _ 119 rfl rfl), fv (hv 66 _ 120 rfl rfl), fv (hv 67 _ 121 rfl rfl), fv (hv 68 _ 122 rfl rfl), fv (hv 69 _ 123 rfl rfl), fv (hv 70 _ 124 rfl rfl), fv (hv 71 _ 125 rfl rfl), fv (hv 72 _ 126 rfl rfl), trivial⟩
    rw [hcx]
    exact hQ _ _ _ _ _ _ _ _ _ _ _ _ _ _ _ _ _ _ _ _ _ _ _ _ _ _ _ _ _ _ _ _ _ _ _ _ _ _ _ _ _ _ _ _ _ _ _ _ _ _ _ _ _ _ _ _ _ _ _ _ _ _ _ _ _ _ _ _ _ _ _ _ _ _ hB
set_option maxRecDepth 100000 in
set_option maxHeartbeats 16000000 in
theorem r7_2 (C0 : Code) (hC0 : Tryd.f16.body.bind (findG 7) = some C0) (Q : Exit → Act → World → Prop) (W : World) (N g : Nat) (x0 x1 x2 x3 x4 x5 x6 x7 x8 x9 : Int) (q : Option Addr) (l d : Nat) (_hl : l ≤ 9223372036854775807) (kl0 : N < W.heap.size) (k100 : W.cell? ⟨N, 10, none⟩ = some (.slice q l d)) (rl0 : g < W.heap.size) (r00 : W.cell? ⟨g, 0, none⟩ = some (.int .i64 x0)) (r10 : W.cell? ⟨g, 1, none⟩ = some (.int .i64 x1)) (r20 : W.cell? ⟨g, 2, none⟩ = some (.int .i64 x2)) (r30 : W.cell? ⟨g, 3, none⟩ = some (.int .i64 x3)) (r40 : W.cell? ⟨g, 4, none⟩ = some (.int .i64 x4)) (r50 : W.cell? ⟨g, 5, none⟩ = some (.int .i64 x5)) (r60 : W.cell? ⟨g, 6, none⟩ = some (.int .i64 x6)) (r70 : W.cell? ⟨g, 7, none⟩ = some (.int .i64 x7)) (r80 : W.cell? ⟨g, 8, none⟩ = some (.int .i64 x8)) (r90 : W.cell? ⟨g, 9, none⟩ = some (.int .i64 x9)) (h1 : (1 : Int) ≤ (l : Int)) (h3 : (l : Int) ≤ 3) (hb0 : inZ x0 1 256 = true) (hb1 : inZ x2 0 1000000 = true) (hb2 : inZ x1 0 x2 = false) (s0 s2 s3 s5 s6 s7 s8 s9 s10 s11 s12 s13 s14 s15 s16 s17 s18 s19 s20 s21 s22 s23 s24 s25 s26 s27 s28 s29 s30 s31 s32 s33 s34 s35 s36 s37 s38 s39 s40 s41 s42 s43 s44 s45 s46 s47 s48 s49 s50 s51 s52 s53 s54 s55 s56 s57 s58 s59 s60 s61 s62 s63 s64 s65 s66 s67 s68 s69 s70 s71 s72 s73 s74 s75 s76 s77 s78 s79 s80 s81 s82 s83 s84 s85 s86 s87 s88 s89 s90 s91 s92 s93 s94 s95 s96 s97 s98 s99 s100 s101 s102 s103 s104 s105 s106 s107 s108 s109 s110 s111 s112 s113 s114 s115 s116 s117 s118 s119 s120 s121 s122 s123 s124 s125 s126 : Value)
    (hQ : ∀ (W' : World) (z54 z55 z56 z57 z58 z59 z60 z61 z62 z63 z64 z65 z66 z67 z68 z69 z70 z71 z72 z73 z74 z75 z76 z77 z78 z79 z80 z81 z82 z83 z84 z85 z86 z87 z88 z89 z90 z91 z92 z93 z94 z95 z96 z97 z98 z99 z100 z101 z102 z103 z104 z105 z106 z107 z108 z109 z110 z111 z112 z113 z114 z115 z116 z117 z118 z119 z120 z121 z122 z123 z124 z125 z126 : Value), Below W.heap.size W W' → Q .normal { tmps := (s0 :: .pointer (some ⟨N, 0, none⟩) :: .bool false :: s3 :: .slice (some ⟨g, 0, none⟩) 10 10 :: s5 :: s6 :: s7 :: s8 :: s9 :: s10 :: s11 :: s12 :: s13 :: s14 :: s15 :: s16 :: s17 :: s18 :: s19 :: s20 :: s21 :: s22 :: s23 :: s24 :: s25 :: s26 :: s27 :: s28 :: s29 :: s30 :: s31 :: s32 :: s33 :: s34 :: s35 :: s36 :: s37 :: s38 :: s39 :: s40 :: s41 :: s42 :: s43 :: s44 :: s45 :: s46 :: s47 :: s48 :: s49 :: s50 :: s51 :: s52 :: s53 :: z54 :: z55 :: z56 :: z57 :: z58 :: z59 :: z60 :: z61 :: z62 :: z63 :: z64 :: z65 :: z66 :: z67 :: z68 :: z69 :: z70 :: z71 :: z72 :: z73 :: z74 :: z75 :: z76 :: z77 :: z78 :: z79 :: z80 :: z81 :: z82 :: z83 :: z84 :: z85 :: z86 :: z87 :: z88 :: z89 :: z90 :: z91 :: z92 :: z93 :: z94 :: z95 :: z96 :: z97 :: z98 :: z99 :: z100 :: z101 :: z102 :: z103 :: z104 :: z105 :: z106 :: z107 :: z108 :: z109 :: z110 :: z111 :: z112 :: z113 :: z114 :: z115 :: z116 :: z117 :: z118 :: z119 :: z120 :: z121 :: z122 :: z123 :: z124 :: z125 :: z126 :: []).toArray, defers := [] } W') :
    Code.wp Tryd.prog C0 Q { tmps := (s0 :: .pointer (some ⟨N, 0, none⟩) :: s2 :: s3 :: .slice (some ⟨g, 0, none⟩) 10 10 :: s5 :: s6 :: s7 :: s8 :: s9 :: s10 :: s11 :: s12 :: s13 :: s14 :: s15 :: s16 :: s17 :: s18 :: s19 :: s20 :: s21 :: s22 :: s23 :: s24 :: s25 :: s26 :: s27 :: s28 :: s29 :: s30 :: s31 :: s32 :: s33 :: s34 :: s35 :: s36 :: s37 :: s38 :: s39 :: s40 :: s41 :: s42 :: s43 :: s44 :: s45 :: s46 :: s47 :: s48 :: s49 :: s50 :: s51 :: s52 :: s53 :: s54 :: s55 :: s56 :: s57 :: s58 :: s59 :: s60 :: s61 :: s62 :: s63 :: s64 :: s65 :: s66 :: s67 :: s68 :: s69 :: s70 :: s71 :: s72 :: s73 :: s74 :: s75 :: s76 :: s77 :: s78 :: s79 :: s80 :: s81 :: s82 :: s83 :: s84 :: s85 :: s86 :: s87 :: s88 :: s89 :: s90 :: s91 :: s92 :: s93 :: s94 :: s95 :: s96 :: s97 :: s98 :: s99 :: s100 :: s101 :: s102 :: s103 :: s104 :: s105 :: s106 :: s107 :: s108 :: s109 :: s110 :: s111 :: s112 :: s113 :: s114 :: s115 :: s116 :: s117 :: s118 :: s119 :: s120 :: s121 :: s122 :: s123 :: s124 :: s125 :: s126 :: []).toArray, defers := [] } W := by
  cases hC0
  have kl : N < W.drew.heap.size := kl0
  have rl : g < W.drew.heap.size := rl0
  have k10 : W.drew.cell? ⟨N, 10, none⟩ = some (.slice q l d) := k100
  have r0 : W.drew.cell? ⟨g, 0, none⟩ = some (.int .i64 x0) := r00
  have r1 : W.drew.cell? ⟨g, 1, none⟩ = some (.int .i64 x1) := r10
  have r2 : W.drew.cell? ⟨g, 2, none⟩ = some (.int .i64 x2) := r20
  have r3 : W.drew.cell? ⟨g, 3, none⟩ = some (.int .i64 x3) := r30
  have r4 : W.drew.cell? ⟨g, 4, none⟩ = some (.int .i64 x4) := r40
  have r5 : W.drew.cell? ⟨g, 5, none⟩ = some (.int .i64 x5) := r50
  have r6 : W.drew.cell? ⟨g, 6, none⟩ = some (.int .i64 x6) := r60
  have r7 : W.drew.cell? ⟨g, 7, none⟩ = some (.int .i64 x7) := r70
  have r8 : W.drew.cell? ⟨g, 8, none⟩ = some (.int .i64 x8) := r80
  have r9 : W.drew.cell? ⟨g, 9, none⟩ = some (.int .i64 x9) := r90
  clear kl0 k100 rl0 r00 r10 r20 r30 r40 r50 r60 r70 r80 r90
  refine Reg.wp_region_inv (n := 127) (WishPhi [.pointer (some ⟨N, 10, none⟩), .slice q l d, .int .i64 ((l : Int)), .bool true, .bool true, .pointer (some ⟨N, 10, none⟩), .slice q l d, .int .i64 ((l : Int)), .bool true, .bool true, .bool true, .slice (some ⟨g, 0, none⟩) 10 10, .pointer (some ⟨g, 0, none⟩), .int .i64 x0, .bool true, .bool true, .bool true, .slice (some ⟨g, 0, none⟩) 10 10, .pointer (some ⟨g, 2, none⟩), .int .i64 x2, .bool true, .bool true, .bool true, .slice (some ⟨g, 0, none⟩) 10 10, .pointer (some ⟨g, 1, none⟩), .int .i64 x1, .slice (some ⟨g, 0, none⟩) 10 10, .pointer (some ⟨g, 2, none⟩), .int .i64 x2, .bool false, .bool false, .bool false, undef, undef, undef, undef, .bool false, .bool false, undef, undef, undef, undef, .bool false, .bool false, undef, undef, undef, undef, .bool false, .bool false, undef, undef, undef, undef, .bool false, .bool false, undef, undef, undef, undef, .bool false, .bool false, undef, undef, undef, undef, .bool false, .bool false, undef, undef, undef, undef, .bool false, .bool false]) (by kernel_rfl) (by kernel_rfl) rfl WishPhi.stays ?_ ?_
  · refine ⟨?_, ?_, ?_, ?_, ?_, ?_, ?_, ?_, ?_, ?_, ?_, ?_, ?_, ?_, ?_, ?_, ?_, ?_, ?_, ?_, ?_, ?_, ?_, ?_, ?_, ?_, ?_, ?_, ?_, ?_, ?_, ?_, ?_, ?_, ?_, ?_, ?_, ?_, ?_, ?_, ?_, ?_, ?_, ?_, ?_, ?_, ?_, ?_, ?_, ?_, ?_, ?_, ?_, ?_, ?_, ?_, ?_, ?_, ?_, ?_, ?_, ?_, ?_, ?_, ?_, ?_, ?_, ?_, ?_, ?_, ?_, ?_, ?_, ?_, trivial⟩
    · intro cx wc hB hp hq
      have g1 : cx.tmps[1]? = some (.pointer (some ⟨N, 0, none⟩)) := (hq 1 (by kernel_rfl)).trans rfl
      refine ov (v := .pointer (some ⟨N, 10, none⟩)) rfl ?_ rfl
      go_simp
    · intro cx wc hB hp hq
      have g54 := pv (v := .pointer (some ⟨N, 10, none⟩)) hp 0 54 (by kernel_rfl) rfl rfl rfl
      have c10 := (Below.cell (p := ⟨N, 10, none⟩) hB kl).trans k10
      refine ov (v := .slice q l d) rfl ?_ rfl
      go_simp
    · intro cx wc hB hp hq
      have g55 := pv (v := .slice q l d) hp 1 55 (by kernel_rfl) rfl rfl rfl
      refine ov (v := .int .i64 ((l : Int))) rfl ?_ rfl
      go_simp
    · intro cx wc hB hp hq
      have g56 := pv (v := .int .i64 ((l : Int))) hp 2 56 (by kernel_rfl) rfl rfl rfl
      have e1 := h1
      refine ov (v := .bool true) rfl ?_ rfl
      go_simp
    · intro cx wc hB hp hq
      have g57 := pv (v := .bool true) hp 3 57 (by kernel_rfl) rfl rfl rfl
      refine ov (v := .bool true) rfl ?_ rfl
      go_simp
    · intro cx wc hB hp hq
      have g1 : cx.tmps[1]? = some (.pointer (some ⟨N, 0, none⟩)) := (hq 1 (by kernel_rfl)).trans rfl
      have g58 := pv (v := .bool true) hp 4 58 (by kernel_rfl) rfl rfl rfl
      refine og (v := .pointer (some ⟨N, 10, none⟩)) (j := 4) (d := 58) rfl rfl rfl g58 ?_ rfl
      go_simp
    · intro cx wc hB hp hq
      have g59 := pv (v := .pointer (some ⟨N, 10, none⟩)) hp 5 59 (by kernel_rfl) rfl rfl rfl
      have g58 := pv (v := .bool true) hp 4 58 (by kernel_rfl) rfl rfl rfl
      have c10 := (Below.cell (p := ⟨N, 10, none⟩) hB kl).trans k10
      refine og (v := .slice q l d) (j := 4) (d := 58) rfl rfl rfl g58 ?_ rfl
      go_simp
    · intro cx wc hB hp hq
      have g60 := pv (v := .slice q l d) hp 6 60 (by kernel_rfl) rfl rfl rfl
      have g58 := pv (v := .bool true) hp 4 58 (by kernel_rfl) rfl rfl rfl
      refine og (v := .int .i64 ((l : Int))) (j := 4) (d := 58) rfl rfl rfl g58 ?_ rfl
      go_simp
    · intro cx wc hB hp hq
      have g61 := pv (v := .int .i64 ((l : Int))) hp 7 61 (by kernel_rfl) rfl rfl rfl
      have g58 := pv (v := .bool true) hp 4 58 (by kernel_rfl) rfl rfl rfl
      have e1 := h3
      refine og (v := .bool true) (j := 4) (d := 58) rfl rfl rfl g58 ?_ rfl
      go_simp
    · intro cx wc hB hp hq
      have g58 := pv (v := .bool true) hp 4 58 (by kernel_rfl) rfl rfl rfl
      have g62 := pv (v := .bool true) hp 8 62 (by kernel_rfl) rfl rfl rfl
      refine ov (v := .bool true) rfl ?_ rfl
      go_simp
    · intro cx wc hB hp hq
      have g63 := pv (v := .bool true) hp 9 63 (by kernel_rfl) rfl rfl rfl
      refine ov (v := .bool true) rfl ?_ rfl
      go_simp
    · intro cx wc hB hp hq
      have g4 : cx.tmps[4]? = some (.slice (some ⟨g, 0, none⟩) 10 10) := (hq 4 (by kernel_rfl)).trans rfl
      have g64 := pv (v := .bool true) hp 10 64 (by kernel_rfl) rfl rfl rfl
      refine og (v := .slice (some ⟨g, 0, none⟩) 10 10) (j := 10) (d := 64) rfl rfl rfl g64 ?_ rfl
      go_simp
    · intro cx wc hB hp hq
      have g65 := pv (v := .slice (some ⟨g, 0, none⟩) 10 10) hp 11 65 (by kernel_rfl) rfl rfl rfl
      have g64 := pv (v := .bool true) hp 10 64 (by kernel_rfl) rfl rfl rfl
      refine og (v := .pointer (some ⟨g, 0, none⟩)) (j := 10) (d := 64) rfl rfl rfl g64 ?_ rfl
      go_simp
    · intro cx wc hB hp hq
      have g66 := pv (v := .pointer (some ⟨g, 0, none⟩)) hp 12 66 (by kernel_rfl) rfl rfl rfl
      have g64 := pv (v := .bool true) hp 10 64 (by kernel_rfl) rfl rfl rfl
      have c0 := (Below.cell (p := ⟨g, 0, none⟩) hB rl).trans r0
      refine og (v := .int .i64 x0) (j := 10) (d := 64) rfl rfl rfl g64 ?_ rfl
      go_simp
    · intro cx wc hB hp hq
      have g67 := pv (v := .int .i64 x0) hp 13 67 (by kernel_rfl) rfl rfl rfl
      have g64 := pv (v := .bool true) hp 10 64 (by kernel_rfl) rfl rfl rfl
      refine Reg.ok_call (f := 35) (args := #[.int .i64 x0, .int .i64 1, .int .i64 256]) (Reg.wanted_at (j := 10) (d := 64) rfl rfl rfl g64) (by go_simp) ((in_of x0 1 256 _ hb0 wc).mono ?_)
      rintro e w' ⟨rfl, rfl⟩
      exact ⟨_, rfl, Reg.Old.refl _, rfl⟩
    · intro cx wc hB hp hq
      have g64 := pv (v := .bool true) hp 10 64 (by kernel_rfl) rfl rfl rfl
      have g68 := pv (v := .bool true) hp 14 68 (by kernel_rfl) rfl rfl rfl
      refine ov (v := .bool true) rfl ?_ rfl
      go_simp
    · intro cx wc hB hp hq
      have g69 := pv (v := .bool true) hp 15 69 (by kernel_rfl) rfl rfl rfl
      refine ov (v := .bool true) rfl ?_ rfl
      go_simp
    · intro cx wc hB hp hq
      have g4 : cx.tmps[4]? = some (.slice (some ⟨g, 0, none⟩) 10 10) := (hq 4 (by kernel_rfl)).trans rfl
      have g70 := pv (v := .bool true) hp 16 70 (by kernel_rfl) rfl rfl rfl
      refine og (v := .slice (some ⟨g, 0, none⟩) 10 10) (j := 16) (d := 70) rfl rfl rfl g70 ?_ rfl
      go_simp
    · intro cx wc hB hp hq
      have g71 := pv (v := .slice (some ⟨g, 0, none⟩) 10 10) hp 17 71 (by kernel_rfl) rfl rfl rfl
      have g70 := pv (v := .bool true) hp 16 70 (by kernel_rfl) rfl rfl rfl
      refine og (v := .pointer (some ⟨g, 2, none⟩)) (j := 16) (d := 70) rfl rfl rfl g70 ?_ rfl
      go_simp
    · intro cx wc hB hp hq
      have g72 := pv (v := .pointer (some ⟨g, 2, none⟩)) hp 18 72 (by kernel_rfl) rfl rfl rfl
      have g70 := pv (v := .bool true) hp 16 70 (by kernel_rfl) rfl rfl rfl
      have c2 := (Below.cell (p := ⟨g, 2, none⟩) hB rl).trans r2
      refine og (v := .int .i64 x2) (j := 16) (d := 70) rfl rfl rfl g70 ?_ rfl
      go_simp
    · intro cx wc hB hp hq
      have g73 := pv (v := .int .i64 x2) hp 19 73 (by kernel_rfl) rfl rfl rfl
      have g70 := pv (v := .bool true) hp 16 70 (by kernel_rfl) rfl rfl rfl
      refine Reg.ok_call (f := 35) (args := #[.int .i64 x2, .int .i64 0, .int .i64 1000000]) (Reg.wanted_at (j := 16) (d := 70) rfl rfl rfl g70) (by go_simp) ((in_of x2 0 1000000 _ hb1 wc).mono ?_)
      rintro e w' ⟨rfl, rfl⟩
      exact ⟨_, rfl, Reg.Old.refl _, rfl⟩
    · intro cx wc hB hp hq
      have g70 := pv (v := .bool true) hp 16 70 (by kernel_rfl) rfl rfl rfl
      have g74 := pv (v := .bool true) hp 20 74 (by kernel_rfl) rfl rfl rfl
      refine ov (v := .bool true) rfl ?_ rfl
      go_simp
    · intro cx wc hB hp hq
      have g75 := pv (v := .bool true) hp 21 75 (by kernel_rfl) rfl rfl rfl
      refine ov (v := .bool true) rfl ?_ rfl
      go_simp
    · intro cx wc hB hp hq
      have g4 : cx.tmps[4]? = some (.slice (some ⟨g, 0, none⟩) 10 10) := (hq 4 (by kernel_rfl)).trans rfl
      have g76 := pv (v := .bool true) hp 22 76 (by kernel_rfl) rfl rfl rfl
      refine og (v := .slice (some ⟨g, 0, none⟩) 10 10) (j := 22) (d := 76) rfl rfl rfl g76 ?_ rfl
      go_simp
    · intro cx wc hB hp hq
      have g77 := pv (v := .slice (some ⟨g, 0, none⟩) 10 10) hp 23 77 (by kernel_rfl) rfl rfl rfl
      have g76 := pv (v := .bool true) hp 22 76 (by kernel_rfl) rfl rfl rfl
      refine og (v := .pointer (some ⟨g, 1, none⟩)) (j := 22) (d := 76) rfl rfl rfl g76 ?_ rfl
      go_simp
    · intro cx wc hB hp hq
      have g78 := pv (v := .pointer (some ⟨g, 1, none⟩)) hp 24 78 (by kernel_rfl) rfl rfl rfl
      have g76 := pv (v := .bool true) hp 22 76 (by kernel_rfl) rfl rfl rfl
      have c1 := (Below.cell (p := ⟨g, 1, none⟩) hB rl).trans r1
      refine og (v := .int .i64 x1) (j := 22) (d := 76) rfl rfl rfl g76 ?_ rfl
      go_simp
    · intro cx wc hB hp hq
      have g4 : cx.tmps[4]? = some (.slice (some ⟨g, 0, none⟩) 10 10) := (hq 4 (by kernel_rfl)).trans rfl
      have g76 := pv (v := .bool true) hp 22 76 (by kernel_rfl) rfl rfl rfl
      refine og (v := .slice (some ⟨g, 0, none⟩) 10 10) (j := 22) (d := 76) rfl rfl rfl g76 ?_ rfl
      go_simp
    · intro cx wc hB hp hq
      have g80 := pv (v := .slice (some ⟨g, 0, none⟩) 10 10) hp 26 80 (by kernel_rfl) rfl rfl rfl
      have g76 := pv (v := .bool true) hp 22 76 (by kernel_rfl) rfl rfl rfl
      refine og (v := .pointer (some ⟨g, 2, none⟩)) (j := 22) (d := 76) rfl rfl rfl g76 ?_ rfl
      go_simp
    · intro cx wc hB hp hq
      have g81 := pv (v := .pointer (some ⟨g, 2, none⟩)) hp 27 81 (by kernel_rfl) rfl rfl rfl
      have g76 := pv (v := .bool true) hp 22 76 (by kernel_rfl) rfl rfl rfl
      have c2 := (Below.cell (p := ⟨g, 2, none⟩) hB rl).trans r2
      refine og (v := .int .i64 x2) (j := 22) (d := 76) rfl rfl rfl g76 ?_ rfl
      go_simp
    · intro cx wc hB hp hq
      have g79 := pv (v := .int .i64 x1) hp 25 79 (by kernel_rfl) rfl rfl rfl
      have g82 := pv (v := .int .i64 x2) hp 28 82 (by kernel_rfl) rfl rfl rfl
      have g76 := pv (v := .bool true) hp 22 76 (by kernel_rfl) rfl rfl rfl
      refine Reg.ok_call (f := 35) (args := #[.int .i64 x1, .int .i64 0, .int .i64 x2]) (Reg.wanted_at (j := 22) (d := 76) rfl rfl rfl g76) (by go_simp) ((in_of x1 0 x2 _ hb2 wc).mono ?_)
      rintro e w' ⟨rfl, rfl⟩
      exact ⟨_, rfl, Reg.Old.refl _, rfl⟩
    · intro cx wc hB hp hq
      have g76 := pv (v := .bool true) hp 22 76 (by kernel_rfl) rfl rfl rfl
      have g83 := pv (v := .bool false) hp 29 83 (by kernel_rfl) rfl rfl rfl
      refine ov (v := .bool false) rfl ?_ rfl
      go_simp
    · intro cx wc hB hp hq
      have g84 := pv (v := .bool false) hp 30 84 (by kernel_rfl) rfl rfl rfl
      refine ov (v := .bool false) rfl ?_ rfl
      go_simp
    iterate 4 exact fun _ _ _ hp _ => Reg.ok_skip (Reg.unwanted_at (j := 31) (d := 85) rfl rfl rfl (fv (Reg.pred hp 31 85 (by kernel_rfl) rfl rfl)) rfl) rfl
    · intro cx wc hB hp hq
      have g85 := pv (v := .bool false) hp 31 85 (by kernel_rfl) rfl rfl rfl
      refine ov (v := .bool false) rfl ?_ rfl
      go_simp
    · intro cx wc hB hp hq
      have g90 := pv (v := .bool false) hp 36 90 (by kernel_rfl) rfl rfl rfl
      refine ov (v := .bool false) rfl ?_ rfl
      go_simp
    iterate 4 exact fun _ _ _ hp _ => Reg.ok_skip (Reg.unwanted_at (j := 37) (d := 91) rfl rfl rfl (fv (Reg.pred hp 37 91 (by kernel_rfl) rfl rfl)) rfl) rfl
    · intro cx wc hB hp hq
      have g91 := pv (v := .bool false) hp 37 91 (by kernel_rfl) rfl rfl rfl
      refine ov (v := .bool false) rfl ?_ rfl
      go_simp
    · intro cx wc hB hp hq
      have g96 := pv (v := .bool false) hp 42 96 (by kernel_rfl) rfl rfl rfl
      refine ov (v := .bool false) rfl ?_ rfl
      go_simp
    iterate 4 exact fun _ _ _ hp _ => Reg.ok_skip (Reg.unwanted_at (j := 43) (d := 97) rfl rfl rfl (fv (Reg.pred hp 43 97 (by kernel_rfl) rfl rfl)) rfl) rfl
    · intro cx wc hB hp hq
      have g97 := pv (v := .bool false) hp 43 97 (by kernel_rfl) rfl rfl rfl
      refine ov (v := .bool false) rfl ?_ rfl
      go_simp
    · intro cx wc hB hp hq
      have g102 := pv (v := .bool false) hp 48 102 (by kernel_rfl) rfl rfl rfl
      refine ov (v := .bool false) rfl ?_ rfl
      go_simp
    iterate 4 exact fun _ _ _ hp _ => Reg.ok_skip (Reg.unwanted_at (j := 49) (d := 103) rfl rfl rfl (fv (Reg.pred hp 49 103 (by kernel_rfl) rfl rfl)) rfl) rfl
    · intro cx wc hB hp hq
      have g103 := pv (v := .bool false) hp 49 103 (by kernel_rfl) rfl rfl rfl
      refine ov (v := .bool false) rfl ?_ rfl
      go_simp
    · intro cx wc hB hp hq
      have g108 := pv (v := .bool false) hp 54 108 (by kernel_rfl) rfl rfl rfl
      refine ov (v := .bool false) rfl ?_ rfl
      go_simp
    iterate 4 exact fun _ _ _ hp _ => Reg.ok_skip (Reg.unwanted_at (j := 55) (d := 109) rfl rfl rfl (fv (Reg.pred hp 55 109 (by kernel_rfl) rfl rfl)) rfl) rfl
    · intro cx wc hB hp hq
      have g109 := pv (v := .bool false) hp 55 109 (by kernel_rfl) rfl rfl rfl
      refine ov (v := .bool false) rfl ?_ rfl
      go_simp
    · intro cx wc hB hp hq
      have g114 := pv (v := .bool false) hp 60 114 (by kernel_rfl) rfl rfl rfl
      refine ov (v := .bool false) rfl ?_ rfl
      go_simp
    iterate 4 exact fun _ _ _ hp _ => Reg.ok_skip (Reg.unwanted_at (j := 61) (d := 115) rfl rfl rfl (fv (Reg.pred hp 61 115 (by kernel_rfl) rfl rfl)) rfl) rfl
    · intro cx wc hB hp hq
      have g115 := pv (v := .bool false) hp 61 115 (by kernel_rfl) rfl rfl rfl
      refine ov (v := .bool false) rfl ?_ rfl
      go_simp
    · intro cx wc hB hp hq
      have g120 := pv (v := .bool false) hp 66 120 (by kernel_rfl) rfl rfl rfl
      refine ov (v := .bool false) rfl ?_ rfl
      go_simp
    iterate 4 exact fun _ _ _ hp _ => Reg.ok_skip (Reg.unwanted_at (j := 67) (d := 121) rfl rfl rfl (fv (Reg.pred hp 67 121 (by kernel_rfl) rfl rfl)) rfl) rfl
    · intro cx wc hB hp hq
      have g121 := pv (v := .bool false) hp 67 121 (by kernel_rfl) rfl rfl rfl
      refine ov (v := .bool false) rfl ?_ rfl
      go_simp
    · intro cx wc hB hp hq
      have g126 := pv (v := .bool false) hp 72 126 (by kernel_rfl) rfl rfl rfl
      refine ov (v := .bool false) rfl ?_ rfl
      go_simp
  · intro cx w1 hB hsz hdf hv ho
    have hcx := Reg.frame_eq [s0, .pointer (some ⟨N, 0, none⟩), .bool false, s3, .slice (some ⟨g, 0, none⟩) 10 10, s5, s6, s7, s8, s9, s10, s11, s12, s13, s14, s15, s16, s17, s18, s19, s20, s21, s22, s23, s24, s25, s26, s27, s28, s29, s30, s31, s32, s33, s34, s35, s36, s37, s38, s39, s40, s41, s42, s43, s44, s45, s46, s47, s48, s49, s50, s51, s52, s53, .pointer (some ⟨N, 10, none⟩), .slice q l d, .int .i64 ((l : Int)), .bool true, .bool true, .pointer (some ⟨N, 10, none⟩), .slice q l d, .int .i64 ((l : Int)), .bool true, .bool true, .bool true, .slice (some ⟨g, 0, none⟩) 10 10, .pointer (some ⟨g, 0, none⟩), .int .i64 x0, .bool true, .bool true, .bool true, .slice (some ⟨g, 0, none⟩) 10 10, .pointer (some ⟨g, 2, none⟩), .int .i64 x2, .bool true, .bool true, .bool true, .slice (some ⟨g, 0, none⟩) 10 10, .pointer (some ⟨g, 1, none⟩), .int .i64 x1, .slice (some ⟨g, 0, none⟩) 10 10, .pointer (some ⟨g, 2, none⟩), .int .i64 x2, .bool false, .bool false, .bool false, undef, undef, undef, undef, .bool false, .bool false, undef, undef, undef, undef, .bool false, .bool false, undef, undef, undef, undef, .bool false, .bool false, undef, undef, undef, undef, .bool false, .bool false, undef, undef, undef, undef, .bool false, .bool false, undef, undef, undef, undef, .bool false, .bool false, undef, undef, undef, undef, .bool false] (by simpa using hsz) hdf ⟨kw ho 0 rfl, kw ho 1 rfl, fv (hv 73 _ 2 rfl rfl), kw ho 3 rfl, kw ho 4 rfl, kw ho 5 rfl, kw ho 6 rfl, kw ho 7 rfl, kw ho 8 rfl, kw ho 9 rfl, kw ho 10 rfl, kw ho 11 rfl, kw ho 12 rfl, kw ho 13 rfl, kw ho 14 rfl, kw ho 15 rfl, kw ho 16 rfl, kw ho 17 rfl, kw ho 18 rfl, kw ho 19 rfl, kw ho 20 rfl, kw ho 21 rfl, kw ho 22 rfl, kw ho 23 rfl, kw ho 24 rfl, kw ho 25 rfl, kw ho 26 rfl, kw ho 27 rfl, kw ho 28 rfl, kw ho 29 rfl, kw ho 30 rfl, kw ho 31 rfl, kw ho 32 rfl, kw ho 33 rfl, kw ho 34 rfl, kw ho 35 rfl, kw ho 36 rfl, kw ho 37 rfl, kw ho 38 rfl, kw ho 39 rfl, kw ho 40 rfl, kw ho 41 rfl, kw ho 42 rfl, kw ho 43 rfl, kw ho 44 rfl, kw ho 45 rfl, kw ho 46 rfl, kw ho 47 rfl, kw ho 48 rfl, kw ho 49 rfl, kw ho 50 rfl, kw ho 51 rfl, kw ho 52 rfl, kw ho 53 rfl, fv (hv 0 _ 54 rfl rfl), fv (hv 1 _ 55 rfl rfl), fv (hv 2 _ 56 rfl rfl), fv (hv 3 _ 57 rfl rfl), fv (hv 4 _ 58 rfl rfl), fv (hv 5 _ 59 rfl rfl), fv (hv 6 _ 60 rfl rfl), fv (hv 7 _ 61 rfl rfl), fv (hv 8 _ 62 rfl rfl), fv (hv 9 _ 63 rfl rfl), fv (hv 10 _ 64 rfl rfl), fv (hv 11 _ 65 rfl rfl), fv (hv 12 _ 66 rfl rfl), fv (hv 13 _ 67 rfl rfl), fv (hv 14 _ 68 rfl rfl), fv (hv 15 _ 69 rfl rfl), fv (hv 16 _ 70 rfl rfl), fv (hv 17 _ 71 rfl rfl), fv (hv 18 _ 72 rfl rfl), fv (hv 19 _ 73 rfl rfl), fv (hv 20 _ 74 rfl rfl), fv (hv 21 _ 75 rfl rfl), fv (hv 22 _ 76 rfl rfl), fv (hv 23 _ 77 rfl rfl), fv (hv 24 _ 78 rfl rfl), fv (hv 25 _ 79 rfl rfl), fv (hv 26 _ 80 rfl rfl), fv (hv 27 _ 81 rfl rfl), fv (hv 28 _ 82 rfl rfl), fv (hv 29 _ 83 rfl rfl), fv (hv 30 _ 84 rfl rfl), fv (hv 31 _ 85 rfl rfl), fv (hv 32 _ 86 rfl rfl), fv (hv 33 _ 87 rfl rfl), fv (hv 34 _ 88 rfl rfl), fv (hv 35 _ 89 rfl rfl), fv (hv 36 _ 90 rfl rfl), fv (hv 37 _ 91 rfl rfl), fv (hv 38 _ 92 rfl rfl), fv (hv 39 _ 93 rfl rfl), fv (hv 40 _ 94 rfl rfl), fv (hv 41 _ 95 rfl rfl), fv (hv 42 _ 96 rfl rfl), fv (hv 43 _ 97 rfl rfl), fv (hv 44 _ 98 rfl rfl), fv (hv 45 _ 99 rfl rfl), fv (hv 46 _ 100 rfl rfl), fv (hv 47 _ 101 rfl rfl), fv (hv 48 _ 102 rfl rfl), fv (hv 49 _ 103 rfl rfl), fv (hv 50 _ 104 rfl rfl), fv (hv 51 _ 105 rfl rfl), fv (hv 52 _ 106 rfl rfl), fv (hv 53 _ 107 rfl rfl), fv (hv 54 _ 108 rfl rfl), fv (hv 55 _ 109 rfl rfl), fv (hv 56 _ 110 rfl rfl), fv (hv 57 _ 111 rfl rfl), fv (hv 58 _ 112 rfl rfl), fv (hv 59 _ 113 rfl rfl), fv (hv 60 _ 114 rfl rfl), fv (hv 61 _ 115 rfl rfl), fv (hv 62 _ 116 rfl rfl), fv (hv 63 _ 117 rfl rfl), fv (hv 64 _ 118 rfl rfl), fv (hv 65 _ 119 rfl rfl), fv (hv 66 _ 120 rfl rfl), fv (hv 67 _ 121 rfl rfl), fv (hv 68 _ 122 rfl rfl), fv (hv 69 _ 123 rfl rfl), fv (hv 70 _ 124 rfl rfl), fv (hv 71 _ 125 rfl rfl), fv (hv 72 _ 126 rfl rfl), trivial⟩
    rw [hcx]
    exact hQ _ _ _ _ _ _ _ _ _ _ _ _ _ _ _ _ _ _ _ _ _ _ _ _ _ _ _ _ _ _ _ _ _ _ _ _ _ _ _ _ _ _ _ _ _ _ _ _ _ _ _ _ _ _ _ _ _ _ _ _ _ _ _ _ _ _ _ _ _ _ _ _ _ _ hB
end Go.Proofs.YtdhkonaebhpeeaaDoor.Po

