/- The chapter's own side: whether a policy is right: the tiers. The chapter's own side: two policies held against one another. The chapter's own side: whether a policy is right. The chapter's own side: a policy put as bytes. -/
import Derived.Test.YtdhkonaebhpeeaaDoorRtA
import Derived.Laws.AppendOwnNone
import Derived.Test.YtdhkonaebhpeeaaDoorRtB
import Derived.Test.YtdhkonaebhpeeaaDoorPoPu
namespace Go.Proofs.YtdhkonaebhpeeaaDoor.Po
open Go Go.RowKit

theorem unwanted_undef {l : List Oper} {o o' : Oper} {a : Act} {j d : Nat} {want : Bool} (h : o.guard = some (j, want)) (ho : l[j]? = some o') (hd : o'.dst = some d) (hv : a.tmps[d]? = some undef) :
    Region.wanted o (yielded l.toArray a.tmps) = false := by
  unfold Region.wanted
  rw [h]
  simp [yielded, ho, hd, hv, undef]
set_option maxRecDepth 100000 in
set_option maxHeartbeats 16000000 in
theorem r4_a (C0 : Code) (hC0 : Tryd.f16.body.bind (findG 4) = some C0) (Q : Exit → Act → World → Prop) (W : World) (N C off k l d : Nat) (x : Int) (_hl : l ≤ 9223372036854775807) (kl0 : N < W.heap.size) (k100 : W.cell? ⟨N, 10, none⟩ = some (.slice (some ⟨C, off, none⟩) l d)) (hC1 : C < W.heap.size) (hx0 : W.cell? ⟨C, off + k, none⟩ = some (.int .i64 x)) (hk0 : (0 : Int) ≤ (k : Int)) (hkl : (k : Int) < (l : Int)) (hb : inZ x 1 1000000000 = false) (s0 s2 s4 s5 s6 s7 s8 s9 s10 s11 s12 s13 s14 s15 s16 s17 s18 s19 s20 s21 s22 s23 s24 s25 s26 s27 s28 s29 s30 s31 s32 s33 s34 s35 s36 s37 s38 s39 s40 s41 s42 s43 s44 s45 s46 s47 s48 s49 s50 s51 s52 s53 s54 s55 s56 s57 s58 s59 s60 s61 s62 s63 s64 s65 s66 s67 s68 s69 s70 s71 s72 s73 s74 s75 s76 s77 s78 s79 s80 s81 s82 s83 s84 s85 s86 s87 s88 s89 s90 s91 s92 s93 s94 s95 s96 s97 s98 s99 s100 s101 s102 s103 s104 s105 s106 s107 s108 s109 s110 s111 s112 s113 s114 s115 s116 s117 s118 s119 s120 s121 s122 s123 s124 s125 s126 : Value)
    (hQ : ∀ (W' : World) (z12 z13 z14 z15 z16 z17 z18 z19 z20 z21 z22 z23 z24 z25 z26 z27 z28 z29 z30 z31 z32 z33 z34 z35 z36 z37 z38 z39 z40 z41 z42 z43 z44 z45 z46 z47 z48 z49 z50 : Value), Below W.heap.size W W' → Q .normal { tmps := (s0 :: .pointer (some ⟨N, 0, none⟩) :: s2 :: .int .i64 (k : Int) :: s4 :: s5 :: s6 :: s7 :: s8 :: s9 :: s10 :: s11 :: z12 :: z13 :: z14 :: z15 :: z16 :: z17 :: z18 :: z19 :: z20 :: z21 :: z22 :: z23 :: z24 :: z25 :: z26 :: z27 :: z28 :: z29 :: z30 :: z31 :: z32 :: z33 :: z34 :: z35 :: z36 :: z37 :: z38 :: z39 :: z40 :: z41 :: z42 :: z43 :: z44 :: z45 :: z46 :: z47 :: z48 :: z49 :: z50 :: .bool true :: s52 :: s53 :: s54 :: s55 :: s56 :: s57 :: s58 :: s59 :: s60 :: s61 :: s62 :: s63 :: s64 :: s65 :: s66 :: s67 :: s68 :: s69 :: s70 :: s71 :: s72 :: s73 :: s74 :: s75 :: s76 :: s77 :: s78 :: s79 :: s80 :: s81 :: s82 :: s83 :: s84 :: s85 :: s86 :: s87 :: s88 :: s89 :: s90 :: s91 :: s92 :: s93 :: s94 :: s95 :: s96 :: s97 :: s98 :: s99 :: s100 :: s101 :: s102 :: s103 :: s104 :: s105 :: s106 :: s107 :: s108 :: s109 :: s110 :: s111 :: s112 :: s113 :: s114 :: s115 :: s116 :: s117 :: s118 :: s119 :: s120 :: s121 :: s122 :: s123 :: s124 :: s125 :: s126 :: []).toArray, defers := [] } W') :
    Code.wp Tryd.prog C0 Q { tmps := (s0 :: .pointer (some ⟨N, 0, none⟩) :: s2 :: .int .i64 (k : Int) :: s4 :: s5 :: s6 :: s7 :: s8 :: s9 :: s10 :: s11 :: s12 :: s13 :: s14 :: s15 :: s16 :: s17 :: s18 :: s19 :: s20 :: s21 :: s22 :: s23 :: s24 :: s25 :: s26 :: s27 :: s28 :: s29 :: s30 :: s31 :: s32 :: s33 :: s34 :: s35 :: s36 :: s37 :: s38 :: s39 :: s40 :: s41 :: s42 :: s43 :: s44 :: s45 :: s46 :: s47 :: s48 :: s49 :: s50 :: s51 :: s52 :: s53 :: s54 :: s55 :: s56 :: s57 :: s58 :: s59 :: s60 :: s61 :: s62 :: s63 :: s64 :: s65 :: s66 :: s67 :: s68 :: s69 :: s70 :: s71 :: s72 :: s73 :: s74 :: s75 :: s76 :: s77 :: s78 :: s79 :: s80 :: s81 :: s82 :: s83 :: s84 :: s85 :: s86 :: s87 :: s88 :: s89 :: s90 :: s91 :: s92 :: s93 :: s94 :: s95 :: s96 :: s97 :: s98 :: s99 :: s100 :: s101 :: s102 :: s103 :: s104 :: s105 :: s106 :: s107 :: s108 :: s109 :: s110 :: s111 :: s112 :: s113 :: s114 :: s115 :: s116 :: s117 :: s118 :: s119 :: s120 :: s121 :: s122 :: s123 :: s124 :: s125 :: s126 :: []).toArray, defers := [] } W := by
  cases hC0
  have kl : N < W.drew.heap.size := kl0
  have k10 : W.drew.cell? ⟨N, 10, none⟩ = some (.slice (some ⟨C, off, none⟩) l d) := k100
  have hC : C < W.drew.heap.size := hC1
  have hx : W.drew.cell? ⟨C, off + k, none⟩ = some (.int .i64 x) := hx0
  clear kl0 k100 hC1 hx0
  refine Reg.wp_region_inv (n := 127) (WishPhi [.pointer (some ⟨N, 10, none⟩), .slice (some ⟨C, off, none⟩) l d, .int .i64 ((k : Int)), .pointer (some ⟨C, off + k, none⟩), .int .i64 x, .bool false, .bool true, .bool true, undef, undef, undef, undef, undef, undef, undef, undef, undef, undef, undef, undef, undef, undef, undef, undef, undef, undef, undef, undef, undef, undef, undef, undef, undef, undef, undef, undef, undef, undef, undef, .bool true]) (by kernel_rfl) (by kernel_rfl) rfl WishPhi.stays ?_ ?_
  · refine ⟨?_, ?_, ?_, ?_, ?_, ?_, ?_, ?_, ?_, ?_, ?_, ?_, ?_, ?_, ?_, ?_, ?_, ?_, ?_, ?_, ?_, ?_, ?_, ?_, ?_, ?_, ?_, ?_, ?_, ?_, ?_, ?_, ?_, ?_, ?_, ?_, ?_, ?_, ?_, ?_, trivial⟩
    · intro cx wc hB hp hq
      have g1 : cx.tmps[1]? = some (.pointer (some ⟨N, 0, none⟩)) := (hq 1 (by kernel_rfl)).trans rfl
      refine ov (v := .pointer (some ⟨N, 10, none⟩)) rfl ?_ rfl
      go_simp
    · intro cx wc hB hp hq
      have g12 := pv (v := .pointer (some ⟨N, 10, none⟩)) hp 0 12 (by kernel_rfl) rfl rfl rfl
      have c10 := (Below.cell (p := ⟨N, 10, none⟩) hB kl).trans k10
      refine ov (v := .slice (some ⟨C, off, none⟩) l d) rfl ?_ rfl
      go_simp
    · intro cx wc hB hp hq
      have g3 : cx.tmps[3]? = some (.int .i64 ((k : Int))) := (hq 3 (by kernel_rfl)).trans rfl
      refine ov (v := .int .i64 ((k : Int))) rfl ?_ rfl
      go_simp
    · intro cx wc hB hp hq
      have g13 := pv (v := .slice (some ⟨C, off, none⟩) l d) hp 1 13 (by kernel_rfl) rfl rfl rfl
      have g14 := pv (v := .int .i64 ((k : Int))) hp 2 14 (by kernel_rfl) rfl rfl rfl
      have i0 := hk0
      have i1 := hkl
      refine ov (v := .pointer (some ⟨C, off + k, none⟩)) rfl ?_ rfl
      go_simp
    · intro cx wc hB hp hq
      have g15 := pv (v := .pointer (some ⟨C, off + k, none⟩)) hp 3 15 (by kernel_rfl) rfl rfl rfl
      have cx1 := (Below.cell (p := ⟨C, off + k, none⟩) hB hC).trans hx
      refine ov (v := .int .i64 x) rfl ?_ rfl
      go_simp
    · intro cx wc hB hp hq
      have g16 := pv (v := .int .i64 x) hp 4 16 (by kernel_rfl) rfl rfl rfl
      refine Reg.ok_call (f := 35) (args := #[.int .i64 x, .int .i64 1, .int .i64 1000000000]) (Reg.wanted_none rfl) (by go_simp) ((in_of x 1 1000000000 _ hb wc).mono ?_)
      rintro e w' ⟨rfl, rfl⟩
      exact ⟨_, rfl, Reg.Old.refl _, rfl⟩
    · intro cx wc hB hp hq
      have g17 := pv (v := .bool false) hp 5 17 (by kernel_rfl) rfl rfl rfl
      refine ov (v := .bool true) rfl ?_ rfl
      go_simp
    · intro cx wc hB hp hq
      have g18 := pv (v := .bool true) hp 6 18 (by kernel_rfl) rfl rfl rfl
      refine ov (v := .bool true) rfl ?_ rfl
      go_simp
    iterate 3 exact fun _ _ _ hp _ => Reg.ok_skip (Reg.unwanted_at (j := 7) (d := 19) rfl rfl rfl (fv (Reg.pred hp 7 19 (by kernel_rfl) rfl rfl)) rfl) rfl
    iterate 13 exact fun _ _ _ hp _ => Reg.ok_skip (unwanted_undef (j := 10) (d := 22) rfl rfl rfl (fv (Reg.pred hp 10 22 (by kernel_rfl) rfl rfl))) rfl
    iterate 13 exact fun _ _ _ hp _ => Reg.ok_skip (unwanted_undef (j := 23) (d := 35) rfl rfl rfl (fv (Reg.pred hp 23 35 (by kernel_rfl) rfl rfl))) rfl
    · exact fun _ _ _ hp _ => Reg.ok_skip (unwanted_undef (j := 10) (d := 22) rfl rfl rfl (fv (Reg.pred hp 10 22 (by kernel_rfl) rfl rfl))) rfl
    · exact fun _ _ _ hp _ => Reg.ok_skip (Reg.unwanted_at (j := 7) (d := 19) rfl rfl rfl (fv (Reg.pred hp 7 19 (by kernel_rfl) rfl rfl)) rfl) rfl
    · intro cx wc hB hp hq
      have g19 := pv (v := .bool true) hp 7 19 (by kernel_rfl) rfl rfl rfl
      refine ov (v := .bool true) rfl ?_ rfl
      go_simp
  · intro cx w1 hB hsz hdf hv ho
    have hcx := Reg.frame_eq [s0, .pointer (some ⟨N, 0, none⟩), s2, .int .i64 (k : Int), s4, s5, s6, s7, s8, s9, s10, s11, .pointer (some ⟨N, 10, none⟩), .slice (some ⟨C, off, none⟩) l d, .int .i64 ((k : Int)), .pointer (some ⟨C, off + k, none⟩), .int .i64 x, .bool false, .bool true, .bool true, undef, undef, undef, undef, undef, undef, undef, undef, undef, undef, undef, undef, undef, undef, undef, undef, undef, undef, undef, undef, undef, undef, undef, undef, undef, undef, undef, undef, undef, undef, undef, .bool true, s52, s53, s54, s55, s56, s57, s58, s59, s60, s61, s62, s63, s64, s65, s66, s67, s68, s69, s70, s71, s72, s73, s74, s75, s76, s77, s78, s79, s80, s81, s82, s83, s84, s85, s86, s87, s88, s89, s90, s91, s92, s93, s94, s95, s96, s97, s98, s99, s100, s101, s102, s103, s104, s105, s106, s107, s108, s109, s110, s111, s112, s113, s114, s115, s116, s117, s118, s119, s120, s121, s122, s123, s124, s125, s126] (by simpa using hsz) hdf ⟨kw ho 0 rfl, kw ho 1 rfl, kw ho 2 rfl, kw ho 3 rfl, kw ho 4 rfl, kw ho 5 rfl, kw ho 6 rfl, kw ho 7 rfl, kw ho 8 rfl, kw ho 9 rfl, kw ho 10 rfl, kw ho 11 rfl, fv (hv 0 _ 12 rfl rfl), fv (hv 1 _ 13 rfl rfl), fv (hv 2 _ 14 rfl rfl), fv (hv 3 _ 15 rfl rfl), fv (hv 4 _ 16 rfl rfl), fv (hv 5 _ 17 rfl rfl), fv (hv 6 _ 18 rfl rfl), fv (hv 7 _ 19 rfl rfl), fv (hv 8 _ 20 rfl rfl), fv (hv 9 _ 21 rfl rfl), fv (hv 10 _ 22 rfl rfl), fv (hv 11 _ 23 rfl rfl), fv (hv 12 _ 24 rfl rfl), fv (hv 13 _ 25 rfl rfl), fv (hv 14 _ 26 rfl rfl), fv (hv 15 _ 27 rfl rfl), fv (hv 16 _ 28 rfl rfl), fv (hv 17 _ 29 rfl rfl), fv (hv 18 _ 30 rfl rfl), fv (hv 19 _ 31 rfl rfl), fv (hv 20 _ 32 rfl rfl), fv (hv 21 _ 33 rfl rfl), fv (hv 22 _ 34 rfl rfl), fv (hv 23 _ 35 rfl rfl), fv (hv 24 _ 36 rfl rfl), fv (hv 25 _ 37 rfl rfl), fv (hv 26 _ 38 rfl rfl), fv (hv 27 _ 39 rfl rfl), fv (hv 28 _ 40 rfl rfl), fv (hv 29 _ 41 rfl rfl), fv (hv 30 _ 42 rfl rfl), fv (hv 31 _ 43 rfl rfl), fv (hv 32 _ 44 rfl rfl), fv (hv 33 _ 45 rfl rfl), fv (hv 34 _ 46 rfl rfl), fv (hv 35 _ 47 rfl rfl), fv (hv 36 _ 48 rfl rfl), fv (hv 37 _ 49 rfl rfl), fv (hv 38 _ 50 rfl rfl), fv (hv 39 _ 51 rfl rfl), kw ho 52 rfl, kw ho 53 rfl, kw ho 54 rfl, kw ho 55 rfl, kw ho 56 rfl, kw ho 57 rfl, kw ho 58 rfl, kw ho 59 rfl, kw ho 60 rfl, kw ho 61 rfl, kw ho 62 rfl, kw ho 63 rfl, kw ho 64 rfl, kw ho 65 rfl, kw ho 66 rfl, kw ho 67 rfl, kw ho 68 rfl, kw ho 69 rfl, kw ho 70 rfl, kw ho 71 rfl, kw ho 72 rfl, kw ho 73 rfl, kw ho 74 rfl, kw ho 75 rfl, kw ho 76 rfl, kw ho 77 rfl, kw ho 78 rfl, kw ho 79 rfl, kw ho 80 rfl, kw ho 81 rfl, kw ho 82 rfl, kw ho 83 rfl, kw ho 84 rfl, kw ho 85 rfl, kw ho 86 rfl, kw ho 87 rfl, kw ho 88 rfl, kw ho 89 rfl, kw ho 90 rfl, kw ho 91 rfl, kw ho 92 rfl, kw ho 93 rfl, kw ho 94 rfl, kw ho 95 rfl, kw ho 96 rfl, kw ho 97 rfl, kw ho 98 rfl, kw ho 99 rfl, kw ho 100 rfl, kw ho 101 rfl, kw ho 102 rfl, kw ho 103 rfl, kw ho 104 rfl, kw ho 105 rfl, kw ho 106 rfl, kw ho 107 rfl, kw ho 108 rfl, kw ho 109 rfl, kw ho 110 rfl, kw ho 111 rfl, kw ho 112 rfl, kw ho 113 rfl, kw ho 114 rfl, kw ho 115 rfl, kw ho 116 rfl, kw ho 117 rfl, kw ho 118 rfl, kw ho 119 rfl, kw ho 120 rfl, kw ho 121 rfl, kw ho 122 rfl, kw ho 123 rfl, kw ho 124 rfl, kw ho 125 rfl, kw ho 126 rfl, trivial⟩
    rw [hcx]
    exact hQ _ _ _ _ _ _ _ _ _ _ _ _ _ _ _ _ _ _ _ _ _ _ _ _ _ _ _ _ _ _ _ _ _ _ _ _ _ _ _ _ hB
set_option maxRecDepth 100000 in
set_option maxHeartbeats 16000000 in
theorem r4_b (C0 : Code) (hC0 : Tryd.f16.body.bind (findG 4) = some C0) (Q : Exit → Act → World → Prop) (W : World) (N C off k l d : Nat) (x : Int) (_hl : l ≤ 9223372036854775807) (kl0 : N < W.heap.size) (k100 : W.cell? ⟨N, 10, none⟩ = some (.slice (some ⟨C, off, none⟩) l d)) (hC1 : C < W.heap.size) (hx0 : W.cell? ⟨C, off + k, none⟩ = some (.int .i64 x)) (hk0 : (0 : Int) ≤ (k : Int)) (hkl : (k : Int) < (l : Int)) (hb : inZ x 1 1000000000 = true) (hgt : ¬ (0 : Int) < (k : Int)) (s0 s2 s4 s5 s6 s7 s8 s9 s10 s11 s12 s13 s14 s15 s16 s17 s18 s19 s20 s21 s22 s23 s24 s25 s26 s27 s28 s29 s30 s31 s32 s33 s34 s35 s36 s37 s38 s39 s40 s41 s42 s43 s44 s45 s46 s47 s48 s49 s50 s51 s52 s53 s54 s55 s56 s57 s58 s59 s60 s61 s62 s63 s64 s65 s66 s67 s68 s69 s70 s71 s72 s73 s74 s75 s76 s77 s78 s79 s80 s81 s82 s83 s84 s85 s86 s87 s88 s89 s90 s91 s92 s93 s94 s95 s96 s97 s98 s99 s100 s101 s102 s103 s104 s105 s106 s107 s108 s109 s110 s111 s112 s113 s114 s115 s116 s117 s118 s119 s120 s121 s122 s123 s124 s125 s126 : Value)
    (hQ : ∀ (W' : World) (z12 z13 z14 z15 z16 z17 z18 z19 z20 z21 z22 z23 z24 z25 z26 z27 z28 z29 z30 z31 z32 z33 z34 z35 z36 z37 z38 z39 z40 z41 z42 z43 z44 z45 z46 z47 z48 z49 z50 : Value), Below W.heap.size W W' → Q .normal { tmps := (s0 :: .pointer (some ⟨N, 0, none⟩) :: s2 :: .int .i64 (k : Int) :: s4 :: s5 :: s6 :: s7 :: s8 :: s9 :: s10 :: s11 :: z12 :: z13 :: z14 :: z15 :: z16 :: z17 :: z18 :: z19 :: z20 :: z21 :: z22 :: z23 :: z24 :: z25 :: z26 :: z27 :: z28 :: z29 :: z30 :: z31 :: z32 :: z33 :: z34 :: z35 :: z36 :: z37 :: z38 :: z39 :: z40 :: z41 :: z42 :: z43 :: z44 :: z45 :: z46 :: z47 :: z48 :: z49 :: z50 :: .bool false :: s52 :: s53 :: s54 :: s55 :: s56 :: s57 :: s58 :: s59 :: s60 :: s61 :: s62 :: s63 :: s64 :: s65 :: s66 :: s67 :: s68 :: s69 :: s70 :: s71 :: s72 :: s73 :: s74 :: s75 :: s76 :: s77 :: s78 :: s79 :: s80 :: s81 :: s82 :: s83 :: s84 :: s85 :: s86 :: s87 :: s88 :: s89 :: s90 :: s91 :: s92 :: s93 :: s94 :: s95 :: s96 :: s97 :: s98 :: s99 :: s100 :: s101 :: s102 :: s103 :: s104 :: s105 :: s106 :: s107 :: s108 :: s109 :: s110 :: s111 :: s112 :: s113 :: s114 :: s115 :: s116 :: s117 :: s118 :: s119 :: s120 :: s121 :: s122 :: s123 :: s124 :: s125 :: s126 :: []).toArray, defers := [] } W') :
    Code.wp Tryd.prog C0 Q { tmps := (s0 :: .pointer (some ⟨N, 0, none⟩) :: s2 :: .int .i64 (k : Int) :: s4 :: s5 :: s6 :: s7 :: s8 :: s9 :: s10 :: s11 :: s12 :: s13 :: s14 :: s15 :: s16 :: s17 :: s18 :: s19 :: s20 :: s21 :: s22 :: s23 :: s24 :: s25 :: s26 :: s27 :: s28 :: s29 :: s30 :: s31 :: s32 :: s33 :: s34 :: s35 :: s36 :: s37 :: s38 :: s39 :: s40 :: s41 :: s42 :: s43 :: s44 :: s45 :: s46 :: s47 :: s48 :: s49 :: s50 :: s51 :: s52 :: s53 :: s54 :: s55 :: s56 :: s57 :: s58 :: s59 :: s60 :: s61 :: s62 :: s63 :: s64 :: s65 :: s66 :: s67 :: s68 :: s69 :: s70 :: s71 :: s72 :: s73 :: s74 :: s75 :: s76 :: s77 :: s78 :: s79 :: s80 :: s81 :: s82 :: s83 :: s84 :: s85 :: s86 :: s87 :: s88 :: s89 :: s90 :: s91 :: s92 :: s93 :: s94 :: s95 :: s96 :: s97 :: s98 :: s99 :: s100 :: s101 :: s102 :: s103 :: s104 :: s105 :: s106 :: s107 :: s108 :: s109 :: s110 :: s111 :: s112 :: s113 :: s114 :: s115 :: s116 :: s117 :: s118 :: s119 :: s120 :: s121 :: s122 :: s123 :: s124 :: s125 :: s126 :: []).toArray, defers := [] } W := by
  cases hC0
  have kl : N < W.drew.heap.size := kl0
  have k10 : W.drew.cell? ⟨N, 10, none⟩ = some (.slice (some ⟨C, off, none⟩) l d) := k100
  have hC : C < W.drew.heap.size := hC1
  have hx : W.drew.cell? ⟨C, off + k, none⟩ = some (.int .i64 x) := hx0
  clear kl0 k100 hC1 hx0
  refine Reg.wp_region_inv (n := 127) (WishPhi [.pointer (some ⟨N, 10, none⟩), .slice (some ⟨C, off, none⟩) l d, .int .i64 ((k : Int)), .pointer (some ⟨C, off + k, none⟩), .int .i64 x, .bool true, .bool false, .bool false, .int .i64 ((k : Int)), .bool false, .bool false, undef, undef, undef, undef, undef, undef, undef, undef, undef, undef, undef, undef, undef, undef, undef, undef, undef, undef, undef, undef, undef, undef, undef, undef, undef, undef, undef, .bool false, .bool false]) (by kernel_rfl) (by kernel_rfl) rfl WishPhi.stays ?_ ?_
  · refine ⟨?_, ?_, ?_, ?_, ?_, ?_, ?_, ?_, ?_, ?_, ?_, ?_, ?_, ?_, ?_, ?_, ?_, ?_, ?_, ?_, ?_, ?_, ?_, ?_, ?_, ?_, ?_, ?_, ?_, ?_, ?_, ?_, ?_, ?_, ?_, ?_, ?_, ?_, ?_, ?_, trivial⟩
    · intro cx wc hB hp hq
      have g1 : cx.tmps[1]? = some (.pointer (some ⟨N, 0, none⟩)) := (hq 1 (by kernel_rfl)).trans rfl
      refine ov (v := .pointer (some ⟨N, 10, none⟩)) rfl ?_ rfl
      go_simp
    · intro cx wc hB hp hq
      have g12 := pv (v := .pointer (some ⟨N, 10, none⟩)) hp 0 12 (by kernel_rfl) rfl rfl rfl
      have c10 := (Below.cell (p := ⟨N, 10, none⟩) hB kl).trans k10
      refine ov (v := .slice (some ⟨C, off, none⟩) l d) rfl ?_ rfl
      go_simp
    · intro cx wc hB hp hq
      have g3 : cx.tmps[3]? = some (.int .i64 ((k : Int))) := (hq 3 (by kernel_rfl)).trans rfl
      refine ov (v := .int .i64 ((k : Int))) rfl ?_ rfl
      go_simp
    · intro cx wc hB hp hq
      have g13 := pv (v := .slice (some ⟨C, off, none⟩) l d) hp 1 13 (by kernel_rfl) rfl rfl rfl
      have g14 := pv (v := .int .i64 ((k : Int))) hp 2 14 (by kernel_rfl) rfl rfl rfl
      have i0 := hk0
      have i1 := hkl
      refine ov (v := .pointer (some ⟨C, off + k, none⟩)) rfl ?_ rfl
      go_simp
    · intro cx wc hB hp hq
      have g15 := pv (v := .pointer (some ⟨C, off + k, none⟩)) hp 3 15 (by kernel_rfl) rfl rfl rfl
      have cx1 := (Below.cell (p := ⟨C, off + k, none⟩) hB hC).trans hx
      refine ov (v := .int .i64 x) rfl ?_ rfl
      go_simp
    · intro cx wc hB hp hq
      have g16 := pv (v := .int .i64 x) hp 4 16 (by kernel_rfl) rfl rfl rfl
      refine Reg.ok_call (f := 35) (args := #[.int .i64 x, .int .i64 1, .int .i64 1000000000]) (Reg.wanted_none rfl) (by go_simp) ((in_of x 1 1000000000 _ hb wc).mono ?_)
      rintro e w' ⟨rfl, rfl⟩
      exact ⟨_, rfl, Reg.Old.refl _, rfl⟩
    · intro cx wc hB hp hq
      have g17 := pv (v := .bool true) hp 5 17 (by kernel_rfl) rfl rfl rfl
      refine ov (v := .bool false) rfl ?_ rfl
      go_simp
    · intro cx wc hB hp hq
      have g18 := pv (v := .bool false) hp 6 18 (by kernel_rfl) rfl rfl rfl
      refine ov (v := .bool false) rfl ?_ rfl
      go_simp
    · intro cx wc hB hp hq
      have g3 : cx.tmps[3]? = some (.int .i64 ((k : Int))) := (hq 3 (by kernel_rfl)).trans rfl
      have g19 := pv (v := .bool false) hp 7 19 (by kernel_rfl) rfl rfl rfl
      refine og (v := .int .i64 ((k : Int))) (j := 7) (d := 19) rfl rfl rfl g19 ?_ rfl
      go_simp
    · intro cx wc hB hp hq
      have g20 := pv (v := .int .i64 ((k : Int))) hp 8 20 (by kernel_rfl) rfl rfl rfl
      have g19 := pv (v := .bool false) hp 7 19 (by kernel_rfl) rfl rfl rfl
      have e1 := hgt
      refine og (v := .bool false) (j := 7) (d := 19) rfl rfl rfl g19 ?_ rfl
      go_simp
      omega
    · intro cx wc hB hp hq
      have g21 := pv (v := .bool false) hp 9 21 (by kernel_rfl) rfl rfl rfl
      have g19 := pv (v := .bool false) hp 7 19 (by kernel_rfl) rfl rfl rfl
      refine og (v := .bool false) (j := 7) (d := 19) rfl rfl rfl g19 ?_ rfl
      go_simp
    iterate 13 exact fun _ _ _ hp _ => Reg.ok_skip (Reg.unwanted_at (j := 10) (d := 22) rfl rfl rfl (fv (Reg.pred hp 10 22 (by kernel_rfl) rfl rfl)) rfl) rfl
    iterate 13 exact fun _ _ _ hp _ => Reg.ok_skip (unwanted_undef (j := 23) (d := 35) rfl rfl rfl (fv (Reg.pred hp 23 35 (by kernel_rfl) rfl rfl))) rfl
    · exact fun _ _ _ hp _ => Reg.ok_skip (Reg.unwanted_at (j := 10) (d := 22) rfl rfl rfl (fv (Reg.pred hp 10 22 (by kernel_rfl) rfl rfl)) rfl) rfl
    · intro cx wc hB hp hq
      have g22 := pv (v := .bool false) hp 10 22 (by kernel_rfl) rfl rfl rfl
      have g19 := pv (v := .bool false) hp 7 19 (by kernel_rfl) rfl rfl rfl
      refine og (v := .bool false) (j := 7) (d := 19) rfl rfl rfl g19 ?_ rfl
      go_simp
    · intro cx wc hB hp hq
      have g19 := pv (v := .bool false) hp 7 19 (by kernel_rfl) rfl rfl rfl
      have g50 := pv (v := .bool false) hp 38 50 (by kernel_rfl) rfl rfl rfl
      refine ov (v := .bool false) rfl ?_ rfl
      go_simp
  · intro cx w1 hB hsz hdf hv ho
    have hcx := Reg.frame_eq [s0, .pointer (some ⟨N, 0, none⟩), s2, .int .i64 (k : Int), s4, s5, s6, s7, s8, s9, s10, s11, .pointer (some ⟨N, 10, none⟩), .slice (some ⟨C, off, none⟩) l d, .int .i64 ((k : Int)), .pointer (some ⟨C, off + k, none⟩), .int .i64 x, .bool true, .bool false, .bool false, .int .i64 ((k : Int)), .bool false, .bool false, undef, undef, undef, undef, undef, undef, undef, undef, undef, undef, undef, undef, undef, undef, undef, undef, undef, undef, undef, undef, undef, undef, undef, undef, undef, undef, undef, .bool false, .bool false, s52, s53, s54, s55, s56, s57, s58, s59, s60, s61, s62, s63, s64, s65, s66, s67, s68, s69, s70, s71, s72, s73, s74, s75, s76, s77, s78, s79, s80, s81, s82, s83, s84, s85, s86, s87, s88, s89, s90, s91, s92, s93, s94, s95, s96, s97, s98, s99, s100, s101, s102, s103, s104, s105, s106, s107, s108, s109, s110, s111, s112, s113, s114, s115, s116, s117, s118, s119, s120, s121, s122, s123, s124, s125, s126] (by simpa using hsz) hdf ⟨kw ho 0 rfl, kw ho 1 rfl, kw ho 2 rfl, kw ho 3 rfl, kw ho 4 rfl, kw ho 5 rfl, kw ho 6 rfl, kw ho 7 rfl, kw ho 8 rfl, kw ho 9 rfl, kw ho 10 rfl, kw ho 11 rfl, fv (hv 0 _ 12 rfl rfl), fv (hv 1 _ 13 rfl rfl), fv (hv 2 _ 14 rfl rfl), fv (hv 3 _ 15 rfl rfl), fv (hv 4 _ 16 rfl rfl), fv (hv 5 _ 17 rfl rfl), fv (hv 6 _ 18 rfl rfl), fv (hv 7 _ 19 rfl rfl), fv (hv 8 _ 20 rfl rfl), fv (hv 9 _ 21 rfl rfl), fv (hv 10 _ 22 rfl rfl), fv (hv 11 _ 23 rfl rfl), fv (hv 12 _ 24 rfl rfl), fv (hv 13 _ 25 rfl rfl), fv (hv 14 _ 26 rfl rfl), fv (hv 15 _ 27 rfl rfl), fv (hv 16 _ 28 rfl rfl), fv (hv 17 _ 29 rfl rfl), fv (hv 18 _ 30 rfl rfl), fv (hv 19 _ 31 rfl rfl), fv (hv 20 _ 32 rfl rfl), fv (hv 21 _ 33 rfl rfl), fv (hv 22 _ 34 rfl rfl), fv (hv 23 _ 35 rfl rfl), fv (hv 24 _ 36 rfl rfl), fv (hv 25 _ 37 rfl rfl), fv (hv 26 _ 38 rfl rfl), fv (hv 27 _ 39 rfl rfl), fv (hv 28 _ 40 rfl rfl), fv (hv 29 _ 41 rfl rfl), fv (hv 30 _ 42 rfl rfl), fv (hv 31 _ 43 rfl rfl), fv (hv 32 _ 44 rfl rfl), fv (hv 33 _ 45 rfl rfl), fv (hv 34 _ 46 rfl rfl), fv (hv 35 _ 47 rfl rfl), fv (hv 36 _ 48 rfl rfl), fv (hv 37 _ 49 rfl rfl), fv (hv 38 _ 50 rfl rfl), fv (hv 39 _ 51 rfl rfl), kw ho 52 rfl, kw ho 53 rfl, kw ho 54 rfl, kw ho 55 rfl, kw ho 56 rfl, kw ho 57 rfl, kw ho 58 rfl, kw ho 59 rfl, kw ho 60 rfl, kw ho 61 rfl, kw ho 62 rfl, kw ho 63 rfl, kw ho 64 rfl, kw ho 65 rfl, kw ho 66 rfl, kw ho 67 rfl, kw ho 68 rfl, kw ho 69 rfl, kw ho 70 rfl, kw ho 71 rfl, kw ho 72 rfl, kw ho 73 rfl, kw ho 74 rfl, kw ho 75 rfl, kw ho 76 rfl, kw ho 77 rfl, kw ho 78 rfl, kw ho 79 rfl, kw ho 80 rfl, kw ho 81 rfl, kw ho 82 rfl, kw ho 83 rfl, kw ho 84 rfl, kw ho 85 rfl, kw ho 86 rfl, kw ho 87 rfl, kw ho 88 rfl, kw ho 89 rfl, kw ho 90 rfl, kw ho 91 rfl, kw ho 92 rfl, kw ho 93 rfl, kw ho 94 rfl, kw ho 95 rfl, kw ho 96 rfl, kw ho 97 rfl, kw ho 98 rfl, kw ho 99 rfl, kw ho 100 rfl, kw ho 101 rfl, kw ho 102 rfl, kw ho 103 rfl, kw ho 104 rfl, kw ho 105 rfl, kw ho 106 rfl, kw ho 107 rfl, kw ho 108 rfl, kw ho 109 rfl, kw ho 110 rfl, kw ho 111 rfl, kw ho 112 rfl, kw ho 113 rfl, kw ho 114 rfl, kw ho 115 rfl, kw ho 116 rfl, kw ho 117 rfl, kw ho 118 rfl, kw ho 119 rfl, kw ho 120 rfl, kw ho 121 rfl, kw ho 122 rfl, kw ho 123 rfl, kw ho 124 rfl, kw ho 125 rfl, kw ho 126 rfl, trivial⟩
    rw [hcx]
    exact hQ _ _ _ _ _ _ _ _ _ _ _ _ _ _ _ _ _ _ _ _ _ _ _ _ _ _ _ _ _ _ _ _ _ _ _ _ _ _ _ _ hB
set_option maxRecDepth 100000 in
set_option maxHeartbeats 16000000 in
theorem r4_c (C0 : Code) (hC0 : Tryd.f16.body.bind (findG 4) = some C0) (Q : Exit → Act → World → Prop) (W : World) (N C off k l d : Nat) (x : Int) (hl : l ≤ 9223372036854775807) (kl0 : N < W.heap.size) (k100 : W.cell? ⟨N, 10, none⟩ = some (.slice (some ⟨C, off, none⟩) l d)) (hC1 : C < W.heap.size) (hx0 : W.cell? ⟨C, off + k, none⟩ = some (.int .i64 x)) (hk0 : (0 : Int) ≤ (k : Int)) (hkl : (k : Int) < (l : Int)) (hb : inZ x 1 1000000000 = true) (y : Int) (j : Nat) (hy0a : W.cell? ⟨C, off + j, none⟩ = some (.int .i64 y)) (hgt : (0 : Int) < (k : Int)) (hkj : (k : Int) - 1 = (j : Int)) (hjl : (j : Int) < (l : Int)) (hle : x ≤ y) (s0 s2 s4 s5 s6 s7 s8 s9 s10 s11 s12 s13 s14 s15 s16 s17 s18 s19 s20 s21 s22 s23 s24 s25 s26 s27 s28 s29 s30 s31 s32 s33 s34 s35 s36 s37 s38 s39 s40 s41 s42 s43 s44 s45 s46 s47 s48 s49 s50 s51 s52 s53 s54 s55 s56 s57 s58 s59 s60 s61 s62 s63 s64 s65 s66 s67 s68 s69 s70 s71 s72 s73 s74 s75 s76 s77 s78 s79 s80 s81 s82 s83 s84 s85 s86 s87 s88 s89 s90 s91 s92 s93 s94 s95 s96 s97 s98 s99 s100 s101 s102 s103 s104 s105 s106 s107 s108 s109 s110 s111 s112 s113 s114 s115 s116 s117 s118 s119 s120 s121 s122 s123 s124 s125 s126 : Value)
    (hQ : ∀ (W' : World) (z12 z13 z14 z15 z16 z17 z18 z19 z20 z21 z22 z23 z24 z25 z26 z27 z28 z29 z30 z31 z32 z33 z34 z35 z36 z37 z38 z39 z40 z41 z42 z43 z44 z45 z46 z47 z48 z49 z50 : Value), Below W.heap.size W W' → Q .normal { tmps := (s0 :: .pointer (some ⟨N, 0, none⟩) :: s2 :: .int .i64 (k : Int) :: s4 :: s5 :: s6 :: s7 :: s8 :: s9 :: s10 :: s11 :: z12 :: z13 :: z14 :: z15 :: z16 :: z17 :: z18 :: z19 :: z20 :: z21 :: z22 :: z23 :: z24 :: z25 :: z26 :: z27 :: z28 :: z29 :: z30 :: z31 :: z32 :: z33 :: z34 :: z35 :: z36 :: z37 :: z38 :: z39 :: z40 :: z41 :: z42 :: z43 :: z44 :: z45 :: z46 :: z47 :: z48 :: z49 :: z50 :: .bool true :: s52 :: s53 :: s54 :: s55 :: s56 :: s57 :: s58 :: s59 :: s60 :: s61 :: s62 :: s63 :: s64 :: s65 :: s66 :: s67 :: s68 :: s69 :: s70 :: s71 :: s72 :: s73 :: s74 :: s75 :: s76 :: s77 :: s78 :: s79 :: s80 :: s81 :: s82 :: s83 :: s84 :: s85 :: s86 :: s87 :: s88 :: s89 :: s90 :: s91 :: s92 :: s93 :: s94 :: s95 :: s96 :: s97 :: s98 :: s99 :: s100 :: s101 :: s102 :: s103 :: s104 :: s105 :: s106 :: s107 :: s108 :: s109 :: s110 :: s111 :: s112 :: s113 :: s114 :: s115 :: s116 :: s117 :: s118 :: s119 :: s120 :: s121 :: s122 :: s123 :: s124 :: s125 :: s126 :: []).toArray, defers := [] } W') :
    Code.wp Tryd.prog C0 Q { tmps := (s0 :: .pointer (some ⟨N, 0, none⟩) :: s2 :: .int .i64 (k : Int) :: s4 :: s5 :: s6 :: s7 :: s8 :: s9 :: s10 :: s11 :: s12 :: s13 :: s14 :: s15 :: s16 :: s17 :: s18 :: s19 :: s20 :: s21 :: s22 :: s23 :: s24 :: s25 :: s26 :: s27 :: s28 :: s29 :: s30 :: s31 :: s32 :: s33 :: s34 :: s35 :: s36 :: s37 :: s38 :: s39 :: s40 :: s41 :: s42 :: s43 :: s44 :: s45 :: s46 :: s47 :: s48 :: s49 :: s50 :: s51 :: s52 :: s53 :: s54 :: s55 :: s56 :: s57 :: s58 :: s59 :: s60 :: s61 :: s62 :: s63 :: s64 :: s65 :: s66 :: s67 :: s68 :: s69 :: s70 :: s71 :: s72 :: s73 :: s74 :: s75 :: s76 :: s77 :: s78 :: s79 :: s80 :: s81 :: s82 :: s83 :: s84 :: s85 :: s86 :: s87 :: s88 :: s89 :: s90 :: s91 :: s92 :: s93 :: s94 :: s95 :: s96 :: s97 :: s98 :: s99 :: s100 :: s101 :: s102 :: s103 :: s104 :: s105 :: s106 :: s107 :: s108 :: s109 :: s110 :: s111 :: s112 :: s113 :: s114 :: s115 :: s116 :: s117 :: s118 :: s119 :: s120 :: s121 :: s122 :: s123 :: s124 :: s125 :: s126 :: []).toArray, defers := [] } W := by
  cases hC0
  have kl : N < W.drew.heap.size := kl0
  have k10 : W.drew.cell? ⟨N, 10, none⟩ = some (.slice (some ⟨C, off, none⟩) l d) := k100
  have hC : C < W.drew.heap.size := hC1
  have hx : W.drew.cell? ⟨C, off + k, none⟩ = some (.int .i64 x) := hx0
  have hy : W.drew.cell? ⟨C, off + j, none⟩ = some (.int .i64 y) := hy0a
  clear kl0 k100 hC1 hx0 hy0a
  refine Reg.wp_region_inv (n := 127) (WishPhi [.pointer (some ⟨N, 10, none⟩), .slice (some ⟨C, off, none⟩) l d, .int .i64 ((k : Int)), .pointer (some ⟨C, off + k, none⟩), .int .i64 x, .bool true, .bool false, .bool false, .int .i64 ((k : Int)), .bool true, .bool true, .pointer (some ⟨N, 10, none⟩), .slice (some ⟨C, off, none⟩) l d, .int .i64 ((k : Int)), .pointer (some ⟨C, off + k, none⟩), .int .i64 x, .pointer (some ⟨N, 10, none⟩), .slice (some ⟨C, off, none⟩) l d, .int .i64 ((k : Int)), .int .i64 ((j : Int)), .pointer (some ⟨C, off + j, none⟩), .int .i64 y, .bool true, .bool true, undef, undef, undef, undef, undef, undef, undef, undef, undef, undef, undef, undef, undef, .bool true, .bool true, .bool true]) (by kernel_rfl) (by kernel_rfl) rfl WishPhi.stays ?_ ?_
  · refine ⟨?_, ?_, ?_, ?_, ?_, ?_, ?_, ?_, ?_, ?_, ?_, ?_, ?_, ?_, ?_, ?_, ?_, ?_, ?_, ?_, ?_, ?_, ?_, ?_, ?_, ?_, ?_, ?_, ?_, ?_, ?_, ?_, ?_, ?_, ?_, ?_, ?_, ?_, ?_, ?_, trivial⟩
    · intro cx wc hB hp hq
      have g1 : cx.tmps[1]? = some (.pointer (some ⟨N, 0, none⟩)) := (hq 1 (by kernel_rfl)).trans rfl
      refine ov (v := .pointer (some ⟨N, 10, none⟩)) rfl ?_ rfl
      go_simp
    · intro cx wc hB hp hq
      have g12 := pv (v := .pointer (some ⟨N, 10, none⟩)) hp 0 12 (by kernel_rfl) rfl rfl rfl
      have c10 := (Below.cell (p := ⟨N, 10, none⟩) hB kl).trans k10
      refine ov (v := .slice (some ⟨C, off, none⟩) l d) rfl ?_ rfl
      go_simp
    · intro cx wc hB hp hq
      have g3 : cx.tmps[3]? = some (.int .i64 ((k : Int))) := (hq 3 (by kernel_rfl)).trans rfl
      refine ov (v := .int .i64 ((k : Int))) rfl ?_ rfl
      go_simp
    · intro cx wc hB hp hq
      have g13 := pv (v := .slice (some ⟨C, off, none⟩) l d) hp 1 13 (by kernel_rfl) rfl rfl rfl
      have g14 := pv (v := .int .i64 ((k : Int))) hp 2 14 (by kernel_rfl) rfl rfl rfl
      have i0 := hk0
      have i1 := hkl
      refine ov (v := .pointer (some ⟨C, off + k, none⟩)) rfl ?_ rfl
      go_simp
    · intro cx wc hB hp hq
      have g15 := pv (v := .pointer (some ⟨C, off + k, none⟩)) hp 3 15 (by kernel_rfl) rfl rfl rfl
      have cx1 := (Below.cell (p := ⟨C, off + k, none⟩) hB hC).trans hx
      refine ov (v := .int .i64 x) rfl ?_ rfl
      go_simp
    · intro cx wc hB hp hq
      have g16 := pv (v := .int .i64 x) hp 4 16 (by kernel_rfl) rfl rfl rfl
      refine Reg.ok_call (f := 35) (args := #[.int .i64 x, .int .i64 1, .int .i64 1000000000]) (Reg.wanted_none rfl) (by go_simp) ((in_of x 1 1000000000 _ hb wc).mono ?_)
      rintro e w' ⟨rfl, rfl⟩
      exact ⟨_, rfl, Reg.Old.refl _, rfl⟩
    · intro cx wc hB hp hq
      have g17 := pv (v := .bool true) hp 5 17 (by kernel_rfl) rfl rfl rfl
      refine ov (v := .bool false) rfl ?_ rfl
      go_simp
    · intro cx wc hB hp hq
      have g18 := pv (v := .bool false) hp 6 18 (by kernel_rfl) rfl rfl rfl
      refine ov (v := .bool false) rfl ?_ rfl
      go_simp
    · intro cx wc hB hp hq
      have g3 : cx.tmps[3]? = some (.int .i64 ((k : Int))) := (hq 3 (by kernel_rfl)).trans rfl
      have g19 := pv (v := .bool false) hp 7 19 (by kernel_rfl) rfl rfl rfl
      refine og (v := .int .i64 ((k : Int))) (j := 7) (d := 19) rfl rfl rfl g19 ?_ rfl
      go_simp
    · intro cx wc hB hp hq
      have g20 := pv (v := .int .i64 ((k : Int))) hp 8 20 (by kernel_rfl) rfl rfl rfl
      have g19 := pv (v := .bool false) hp 7 19 (by kernel_rfl) rfl rfl rfl
      have e1 := hgt
      refine og (v := .bool true) (j := 7) (d := 19) rfl rfl rfl g19 ?_ rfl
      go_simp
      omega
    · intro cx wc hB hp hq
      have g21 := pv (v := .bool true) hp 9 21 (by kernel_rfl) rfl rfl rfl
      have g19 := pv (v := .bool false) hp 7 19 (by kernel_rfl) rfl rfl rfl
      refine og (v := .bool true) (j := 7) (d := 19) rfl rfl rfl g19 ?_ rfl
      go_simp
    · intro cx wc hB hp hq
      have g1 : cx.tmps[1]? = some (.pointer (some ⟨N, 0, none⟩)) := (hq 1 (by kernel_rfl)).trans rfl
      have g22 := pv (v := .bool true) hp 10 22 (by kernel_rfl) rfl rfl rfl
      refine og (v := .pointer (some ⟨N, 10, none⟩)) (j := 10) (d := 22) rfl rfl rfl g22 ?_ rfl
      go_simp
    · intro cx wc hB hp hq
      have g23 := pv (v := .pointer (some ⟨N, 10, none⟩)) hp 11 23 (by kernel_rfl) rfl rfl rfl
      have g22 := pv (v := .bool true) hp 10 22 (by kernel_rfl) rfl rfl rfl
      have c10 := (Below.cell (p := ⟨N, 10, none⟩) hB kl).trans k10
      refine og (v := .slice (some ⟨C, off, none⟩) l d) (j := 10) (d := 22) rfl rfl rfl g22 ?_ rfl
      go_simp
    · intro cx wc hB hp hq
      have g3 : cx.tmps[3]? = some (.int .i64 ((k : Int))) := (hq 3 (by kernel_rfl)).trans rfl
      have g22 := pv (v := .bool true) hp 10 22 (by kernel_rfl) rfl rfl rfl
      refine og (v := .int .i64 ((k : Int))) (j := 10) (d := 22) rfl rfl rfl g22 ?_ rfl
      go_simp
    · intro cx wc hB hp hq
      have g24 := pv (v := .slice (some ⟨C, off, none⟩) l d) hp 12 24 (by kernel_rfl) rfl rfl rfl
      have g25 := pv (v := .int .i64 ((k : Int))) hp 13 25 (by kernel_rfl) rfl rfl rfl
      have g22 := pv (v := .bool true) hp 10 22 (by kernel_rfl) rfl rfl rfl
      have i0 := hk0
      have i1 := hkl
      refine og (v := .pointer (some ⟨C, off + k, none⟩)) (j := 10) (d := 22) rfl rfl rfl g22 ?_ rfl
      go_simp
    · intro cx wc hB hp hq
      have g26 := pv (v := .pointer (some ⟨C, off + k, none⟩)) hp 14 26 (by kernel_rfl) rfl rfl rfl
      have g22 := pv (v := .bool true) hp 10 22 (by kernel_rfl) rfl rfl rfl
      have cx1 := (Below.cell (p := ⟨C, off + k, none⟩) hB hC).trans hx
      refine og (v := .int .i64 x) (j := 10) (d := 22) rfl rfl rfl g22 ?_ rfl
      go_simp
    · intro cx wc hB hp hq
      have g1 : cx.tmps[1]? = some (.pointer (some ⟨N, 0, none⟩)) := (hq 1 (by kernel_rfl)).trans rfl
      have g22 := pv (v := .bool true) hp 10 22 (by kernel_rfl) rfl rfl rfl
      refine og (v := .pointer (some ⟨N, 10, none⟩)) (j := 10) (d := 22) rfl rfl rfl g22 ?_ rfl
      go_simp
    · intro cx wc hB hp hq
      have g28 := pv (v := .pointer (some ⟨N, 10, none⟩)) hp 16 28 (by kernel_rfl) rfl rfl rfl
      have g22 := pv (v := .bool true) hp 10 22 (by kernel_rfl) rfl rfl rfl
      have c10 := (Below.cell (p := ⟨N, 10, none⟩) hB kl).trans k10
      refine og (v := .slice (some ⟨C, off, none⟩) l d) (j := 10) (d := 22) rfl rfl rfl g22 ?_ rfl
      go_simp
    · intro cx wc hB hp hq
      have g3 : cx.tmps[3]? = some (.int .i64 ((k : Int))) := (hq 3 (by kernel_rfl)).trans rfl
      have g22 := pv (v := .bool true) hp 10 22 (by kernel_rfl) rfl rfl rfl
      refine og (v := .int .i64 ((k : Int))) (j := 10) (d := 22) rfl rfl rfl g22 ?_ rfl
      go_simp
    · intro cx wc hB hp hq
      have g30 := pv (v := .int .i64 ((k : Int))) hp 18 30 (by kernel_rfl) rfl rfl rfl
      have g22 := pv (v := .bool true) hp 10 22 (by kernel_rfl) rfl rfl rfl
      have e1 := hkj
      refine og (v := .int .i64 ((j : Int))) (j := 10) (d := 22) rfl rfl rfl g22 ?_ rfl
      go_simp
      exact IntWalk.i64_in _ (by omega)
    · intro cx wc hB hp hq
      have g29 := pv (v := .slice (some ⟨C, off, none⟩) l d) hp 17 29 (by kernel_rfl) rfl rfl rfl
      have g31 := pv (v := .int .i64 ((j : Int))) hp 19 31 (by kernel_rfl) rfl rfl rfl
      have g22 := pv (v := .bool true) hp 10 22 (by kernel_rfl) rfl rfl rfl
      have i0 : (0 : Int) ≤ (j : Int) := by omega
      have i1 := hjl
      refine og (v := .pointer (some ⟨C, off + j, none⟩)) (j := 10) (d := 22) rfl rfl rfl g22 ?_ rfl
      go_simp
    · intro cx wc hB hp hq
      have g32 := pv (v := .pointer (some ⟨C, off + j, none⟩)) hp 20 32 (by kernel_rfl) rfl rfl rfl
      have g22 := pv (v := .bool true) hp 10 22 (by kernel_rfl) rfl rfl rfl
      have cy1 := (Below.cell (p := ⟨C, off + j, none⟩) hB hC).trans hy
      refine og (v := .int .i64 y) (j := 10) (d := 22) rfl rfl rfl g22 ?_ rfl
      go_simp
    · intro cx wc hB hp hq
      have g27 := pv (v := .int .i64 x) hp 15 27 (by kernel_rfl) rfl rfl rfl
      have g33 := pv (v := .int .i64 y) hp 21 33 (by kernel_rfl) rfl rfl rfl
      have g22 := pv (v := .bool true) hp 10 22 (by kernel_rfl) rfl rfl rfl
      have e1 := hle
      refine og (v := .bool true) (j := 10) (d := 22) rfl rfl rfl g22 ?_ rfl
      go_simp
    · intro cx wc hB hp hq
      have g34 := pv (v := .bool true) hp 22 34 (by kernel_rfl) rfl rfl rfl
      have g22 := pv (v := .bool true) hp 10 22 (by kernel_rfl) rfl rfl rfl
      refine og (v := .bool true) (j := 10) (d := 22) rfl rfl rfl g22 ?_ rfl
      go_simp
    iterate 13 exact fun _ _ _ hp _ => Reg.ok_skip (Reg.unwanted_at (j := 23) (d := 35) rfl rfl rfl (fv (Reg.pred hp 23 35 (by kernel_rfl) rfl rfl)) rfl) rfl
    · intro cx wc hB hp hq
      have g35 := pv (v := .bool true) hp 23 35 (by kernel_rfl) rfl rfl rfl
      have g22 := pv (v := .bool true) hp 10 22 (by kernel_rfl) rfl rfl rfl
      refine og (v := .bool true) (j := 10) (d := 22) rfl rfl rfl g22 ?_ rfl
      go_simp
    · intro cx wc hB hp hq
      have g22 := pv (v := .bool true) hp 10 22 (by kernel_rfl) rfl rfl rfl
      have g49 := pv (v := .bool true) hp 37 49 (by kernel_rfl) rfl rfl rfl
      have g19 := pv (v := .bool false) hp 7 19 (by kernel_rfl) rfl rfl rfl
      refine og (v := .bool true) (j := 7) (d := 19) rfl rfl rfl g19 ?_ rfl
      go_simp
    · intro cx wc hB hp hq
      have g19 := pv (v := .bool false) hp 7 19 (by kernel_rfl) rfl rfl rfl
      have g50 := pv (v := .bool true) hp 38 50 (by kernel_rfl) rfl rfl rfl
      refine ov (v := .bool true) rfl ?_ rfl
      go_simp
  · intro cx w1 hB hsz hdf hv ho
    have hcx := Reg.frame_eq [s0, .pointer (some ⟨N, 0, none⟩), s2, .int .i64 (k : Int), s4, s5, s6, s7, s8, s9, s10, s11, .pointer (some ⟨N, 10, none⟩), .slice (some ⟨C, off, none⟩) l d, .int .i64 ((k : Int)), .pointer (some ⟨C, off + k, none⟩), .int .i64 x, .bool true, .bool false, .bool false, .int .i64 ((k : Int)), .bool true, .bool true, .pointer (some ⟨N, 10, none⟩), .slice (some ⟨C, off, none⟩) l d, .int .i64 ((k : Int)), .pointer (some ⟨C, off + k, none⟩), .int .i64 x, .pointer (some ⟨N, 10, none⟩), .slice (some ⟨C, off, none⟩) l d, .int .i64 ((k : Int)), .int .i64 ((j : Int)), .pointer (some ⟨C, off + j, none⟩), .int .i64 y, .bool true, .bool true, undef, undef, undef, undef, undef, undef, undef, undef, undef, undef, undef, undef, undef, .bool true, .bool true, .bool true, s52, s53, s54, s55, s56, s57, s58, s59, s60, s61, s62, s63, s64, s65, s66, s67, s68, s69, s70, s71, s72, s73, s74, s75, s76, s77, s78, s79, s80, s81, s82, s83, s84, s85, s86, s87, s88, s89, s90, s91, s92, s93, s94, s95, s96, s97, s98, s99, s100, s101, s102, s103, s104, s105, s106, s107, s108, s109, s110, s111, s112, s113, s114, s115, s116, s117, s118, s119, s120, s121, s122, s123, s124, s125, s126] (by simpa using hsz) hdf ⟨kw ho 0 rfl, kw ho 1 rfl, kw ho 2 rfl, kw ho 3 rfl, kw ho 4 rfl, kw ho 5 rfl, kw ho 6 rfl, kw ho 7 rfl, kw ho 8 rfl, kw ho 9 rfl, kw ho 10 rfl, kw ho 11 rfl, fv (hv 0 _ 12 rfl rfl), fv (hv 1 _ 13 rfl rfl), fv (hv 2 _ 14 rfl rfl), fv (hv 3 _ 15 rfl rfl), fv (hv 4 _ 16 rfl rfl), fv (hv 5 _ 17 rfl rfl), fv (hv 6 _ 18 rfl rfl), fv (hv 7 _ 19 rfl rfl), fv (hv 8 _ 20 rfl rfl), fv (hv 9 _ 21 rfl rfl), fv (hv 10 _ 22 rfl rfl), fv (hv 11 _ 23 rfl rfl), fv (hv 12 _ 24 rfl rfl), fv (hv 13 _ 25 rfl rfl), fv (hv 14 _ 26 rfl rfl), fv (hv 15 _ 27 rfl rfl), fv (hv 16 _ 28 rfl rfl), fv (hv 17 _ 29 rfl rfl), fv (hv 18 _ 30 rfl rfl), fv (hv 19 _ 31 rfl rfl), fv (hv 20 _ 32 rfl rfl), fv (hv 21 _ 33 rfl rfl), fv (hv 22 _ 34 rfl rfl), fv (hv 23 _ 35 rfl rfl), fv (hv 24 _ 36 rfl rfl), fv (hv 25 _ 37 rfl rfl), fv (hv 26 _ 38 rfl rfl), fv (hv 27 _ 39 rfl rfl), fv (hv 28 _ 40 rfl rfl), fv (hv 29 _ 41 rfl rfl), fv (hv 30 _ 42 rfl rfl), fv (hv 31 _ 43 rfl rfl), fv (hv 32 _ 44 rfl rfl), fv (hv 33 _ 45 rfl rfl), fv (hv 34 _ 46 rfl rfl), fv (hv 35 _ 47 rfl rfl), fv (hv 36 _ 48 rfl rfl), fv (hv 37 _ 49 rfl rfl), fv (hv 38 _ 50 rfl rfl), fv (hv 39 _ 51 rfl rfl), kw ho 52 rfl, kw ho 53 rfl, kw ho 54 rfl, kw ho 55 rfl, kw ho 56 rfl, kw ho 57 rfl, kw ho 58 rfl, kw ho 59 rfl, kw ho 60 rfl, kw ho 61 rfl, kw ho 62 rfl, kw ho 63 rfl, kw ho 64 rfl, kw ho 65 rfl, kw ho 66 rfl, kw ho 67 rfl, kw ho 68 rfl, kw ho 69 rfl, kw ho 70 rfl, kw ho 71 rfl, kw ho 72 rfl, kw ho 73 rfl, kw ho 74 rfl, kw ho 75 rfl, kw ho 76 rfl, kw ho 77 rfl, kw ho 78 rfl, kw ho 79 rfl, kw ho 80 rfl, kw ho 81 rfl, kw ho 82 rfl, kw ho 83 rfl, kw ho 84 rfl, kw ho 85 rfl, kw ho 86 rfl, kw ho 87 rfl, kw ho 88 rfl, kw ho 89 rfl, kw ho 90 rfl, kw ho 91 rfl, kw ho 92 rfl, kw ho 93 rfl, kw ho 94 rfl, kw ho 95 rfl, kw ho 96 rfl, kw ho 97 rfl, kw ho 98 rfl, kw ho 99 rfl, kw ho 100 rfl, kw ho 101 rfl, kw ho 102 rfl, kw ho 103 rfl, kw ho 104 rfl, kw ho 105 rfl, kw ho 106 rfl, kw ho 107 rfl, kw ho 108 rfl, kw ho 109 rfl, kw ho 110 rfl, kw ho 111 rfl, kw ho 112 rfl, kw ho 113 rfl, kw ho 114 rfl, kw ho 115 rfl, kw ho 116 rfl, kw ho 117 rfl, kw ho 118 rfl, kw ho 119 rfl, kw ho 120 rfl, kw ho 121 rfl, kw ho 122 rfl, kw ho 123 rfl, kw ho 124 rfl, kw ho 125 rfl, kw ho 126 rfl, trivial⟩
    rw [hcx]
    exact hQ _ _ _ _ _ _ _ _ _ _ _ _ _ _ _ _ _ _ _ _ _ _ _ _ _ _ _ _ _ _ _ _ _ _ _ _ _ _ _ _ hB
set_option maxRecDepth 100000 in
set_option maxHeartbeats 16000000 in
theorem r4_d (C0 : Code) (hC0 : Tryd.f16.body.bind (findG 4) = some C0) (Q : Exit → Act → World → Prop) (W : World) (N C off k l d : Nat) (x : Int) (hl : l ≤ 9223372036854775807) (kl0 : N < W.heap.size) (k100 : W.cell? ⟨N, 10, none⟩ = some (.slice (some ⟨C, off, none⟩) l d)) (hC1 : C < W.heap.size) (hx0 : W.cell? ⟨C, off + k, none⟩ = some (.int .i64 x)) (hk0 : (0 : Int) ≤ (k : Int)) (hkl : (k : Int) < (l : Int)) (hb : inZ x 1 1000000000 = true) (y : Int) (j : Nat) (hy0a : W.cell? ⟨C, off + j, none⟩ = some (.int .i64 y)) (hgt : (0 : Int) < (k : Int)) (hkj : (k : Int) - 1 = (j : Int)) (hjl : (j : Int) < (l : Int)) (hle : ¬ x ≤ y) (r : Int) (hr : x % y = r) (hr2 : x.tmod y = r) (hy0 : ¬ y = 0) (hrb : 0 ≤ r ∧ r < 1000000000) (hrz : (r != 0) = true) (s0 s2 s4 s5 s6 s7 s8 s9 s10 s11 s12 s13 s14 s15 s16 s17 s18 s19 s20 s21 s22 s23 s24 s25 s26 s27 s28 s29 s30 s31 s32 s33 s34 s35 s36 s37 s38 s39 s40 s41 s42 s43 s44 s45 s46 s47 s48 s49 s50 s51 s52 s53 s54 s55 s56 s57 s58 s59 s60 s61 s62 s63 s64 s65 s66 s67 s68 s69 s70 s71 s72 s73 s74 s75 s76 s77 s78 s79 s80 s81 s82 s83 s84 s85 s86 s87 s88 s89 s90 s91 s92 s93 s94 s95 s96 s97 s98 s99 s100 s101 s102 s103 s104 s105 s106 s107 s108 s109 s110 s111 s112 s113 s114 s115 s116 s117 s118 s119 s120 s121 s122 s123 s124 s125 s126 : Value)
    (hQ : ∀ (W' : World) (z12 z13 z14 z15 z16 z17 z18 z19 z20 z21 z22 z23 z24 z25 z26 z27 z28 z29 z30 z31 z32 z33 z34 z35 z36 z37 z38 z39 z40 z41 z42 z43 z44 z45 z46 z47 z48 z49 z50 : Value), Below W.heap.size W W' → Q .normal { tmps := (s0 :: .pointer (some ⟨N, 0, none⟩) :: s2 :: .int .i64 (k : Int) :: s4 :: s5 :: s6 :: s7 :: s8 :: s9 :: s10 :: s11 :: z12 :: z13 :: z14 :: z15 :: z16 :: z17 :: z18 :: z19 :: z20 :: z21 :: z22 :: z23 :: z24 :: z25 :: z26 :: z27 :: z28 :: z29 :: z30 :: z31 :: z32 :: z33 :: z34 :: z35 :: z36 :: z37 :: z38 :: z39 :: z40 :: z41 :: z42 :: z43 :: z44 :: z45 :: z46 :: z47 :: z48 :: z49 :: z50 :: .bool true :: s52 :: s53 :: s54 :: s55 :: s56 :: s57 :: s58 :: s59 :: s60 :: s61 :: s62 :: s63 :: s64 :: s65 :: s66 :: s67 :: s68 :: s69 :: s70 :: s71 :: s72 :: s73 :: s74 :: s75 :: s76 :: s77 :: s78 :: s79 :: s80 :: s81 :: s82 :: s83 :: s84 :: s85 :: s86 :: s87 :: s88 :: s89 :: s90 :: s91 :: s92 :: s93 :: s94 :: s95 :: s96 :: s97 :: s98 :: s99 :: s100 :: s101 :: s102 :: s103 :: s104 :: s105 :: s106 :: s107 :: s108 :: s109 :: s110 :: s111 :: s112 :: s113 :: s114 :: s115 :: s116 :: s117 :: s118 :: s119 :: s120 :: s121 :: s122 :: s123 :: s124 :: s125 :: s126 :: []).toArray, defers := [] } W') :
    Code.wp Tryd.prog C0 Q { tmps := (s0 :: .pointer (some ⟨N, 0, none⟩) :: s2 :: .int .i64 (k : Int) :: s4 :: s5 :: s6 :: s7 :: s8 :: s9 :: s10 :: s11 :: s12 :: s13 :: s14 :: s15 :: s16 :: s17 :: s18 :: s19 :: s20 :: s21 :: s22 :: s23 :: s24 :: s25 :: s26 :: s27 :: s28 :: s29 :: s30 :: s31 :: s32 :: s33 :: s34 :: s35 :: s36 :: s37 :: s38 :: s39 :: s40 :: s41 :: s42 :: s43 :: s44 :: s45 :: s46 :: s47 :: s48 :: s49 :: s50 :: s51 :: s52 :: s53 :: s54 :: s55 :: s56 :: s57 :: s58 :: s59 :: s60 :: s61 :: s62 :: s63 :: s64 :: s65 :: s66 :: s67 :: s68 :: s69 :: s70 :: s71 :: s72 :: s73 :: s74 :: s75 :: s76 :: s77 :: s78 :: s79 :: s80 :: s81 :: s82 :: s83 :: s84 :: s85 :: s86 :: s87 :: s88 :: s89 :: s90 :: s91 :: s92 :: s93 :: s94 :: s95 :: s96 :: s97 :: s98 :: s99 :: s100 :: s101 :: s102 :: s103 :: s104 :: s105 :: s106 :: s107 :: s108 :: s109 :: s110 :: s111 :: s112 :: s113 :: s114 :: s115 :: s116 :: s117 :: s118 :: s119 :: s120 :: s121 :: s122 :: s123 :: s124 :: s125 :: s126 :: []).toArray, defers := [] } W := by
  cases hC0
  have kl : N < W.drew.heap.size := kl0
  have k10 : W.drew.cell? ⟨N, 10, none⟩ = some (.slice (some ⟨C, off, none⟩) l d) := k100
  have hC : C < W.drew.heap.size := hC1
  have hx : W.drew.cell? ⟨C, off + k, none⟩ = some (.int .i64 x) := hx0
  have hy : W.drew.cell? ⟨C, off + j, none⟩ = some (.int .i64 y) := hy0a
  clear kl0 k100 hC1 hx0 hy0a
  refine Reg.wp_region_inv (n := 127) (WishPhi [.pointer (some ⟨N, 10, none⟩), .slice (some ⟨C, off, none⟩) l d, .int .i64 ((k : Int)), .pointer (some ⟨C, off + k, none⟩), .int .i64 x, .bool true, .bool false, .bool false, .int .i64 ((k : Int)), .bool true, .bool true, .pointer (some ⟨N, 10, none⟩), .slice (some ⟨C, off, none⟩) l d, .int .i64 ((k : Int)), .pointer (some ⟨C, off + k, none⟩), .int .i64 x, .pointer (some ⟨N, 10, none⟩), .slice (some ⟨C, off, none⟩) l d, .int .i64 ((k : Int)), .int .i64 ((j : Int)), .pointer (some ⟨C, off + j, none⟩), .int .i64 y, .bool false, .bool false, .pointer (some ⟨N, 10, none⟩), .slice (some ⟨C, off, none⟩) l d, .int .i64 ((k : Int)), .pointer (some ⟨C, off + k, none⟩), .int .i64 x, .pointer (some ⟨N, 10, none⟩), .slice (some ⟨C, off, none⟩) l d, .int .i64 ((k : Int)), .int .i64 ((j : Int)), .pointer (some ⟨C, off + j, none⟩), .int .i64 y, .int .i64 r, .bool true, .bool true, .bool true, .bool true]) (by kernel_rfl) (by kernel_rfl) rfl WishPhi.stays ?_ ?_
  · refine ⟨?_, ?_, ?_, ?_, ?_, ?_, ?_, ?_, ?_, ?_, ?_, ?_, ?_, ?_, ?_, ?_, ?_, ?_, ?_, ?_, ?_, ?_, ?_, ?_, ?_, ?_, ?_, ?_, ?_, ?_, ?_, ?_, ?_, ?_, ?_, ?_, ?_, ?_, ?_, ?_, trivial⟩
    · intro cx wc hB hp hq
      have g1 : cx.tmps[1]? = some (.pointer (some ⟨N, 0, none⟩)) := (hq 1 (by kernel_rfl)).trans rfl
      refine ov (v := .pointer (some ⟨N, 10, none⟩)) rfl ?_ rfl
      go_simp
    · intro cx wc hB hp hq
      have g12 := pv (v := .pointer (some ⟨N, 10, none⟩)) hp 0 12 (by kernel_rfl) rfl rfl rfl
      have c10 := (Below.cell (p := ⟨N, 10, none⟩) hB kl).trans k10
      refine ov (v := .slice (some ⟨C, off, none⟩) l d) rfl ?_ rfl
      go_simp
    · intro cx wc hB hp hq
      have g3 : cx.tmps[3]? = some (.int .i64 ((k : Int))) := (hq 3 (by kernel_rfl)).trans rfl
      refine ov (v := .int .i64 ((k : Int))) rfl ?_ rfl
      go_simp
    · intro cx wc hB hp hq
      have g13 := pv (v := .slice (some ⟨C, off, none⟩) l d) hp 1 13 (by kernel_rfl) rfl rfl rfl
      have g14 := pv (v := .int .i64 ((k : Int))) hp 2 14 (by kernel_rfl) rfl rfl rfl
      have i0 := hk0
      have i1 := hkl
      refine ov (v := .pointer (some ⟨C, off + k, none⟩)) rfl ?_ rfl
      go_simp
    · intro cx wc hB hp hq
      have g15 := pv (v := .pointer (some ⟨C, off + k, none⟩)) hp 3 15 (by kernel_rfl) rfl rfl rfl
      have cx1 := (Below.cell (p := ⟨C, off + k, none⟩) hB hC).trans hx
      refine ov (v := .int .i64 x) rfl ?_ rfl
      go_simp
    · intro cx wc hB hp hq
      have g16 := pv (v := .int .i64 x) hp 4 16 (by kernel_rfl) rfl rfl rfl
      refine Reg.ok_call (f := 35) (args := #[.int .i64 x, .int .i64 1, .int .i64 1000000000]) (Reg.wanted_none rfl) (by go_simp) ((in_of x 1 1000000000 _ hb wc).mono ?_)
      rintro e w' ⟨rfl, rfl⟩
      exact ⟨_, rfl, Reg.Old.refl _, rfl⟩
    · intro cx wc hB hp hq
      have g17 := pv (v := .bool true) hp 5 17 (by kernel_rfl) rfl rfl rfl
      refine ov (v := .bool false) rfl ?_ rfl
      go_simp
    · intro cx wc hB hp hq
      have g18 := pv (v := .bool false) hp 6 18 (by kernel_rfl) rfl rfl rfl
      refine ov (v := .bool false) rfl ?_ rfl
      go_simp
    · intro cx wc hB hp hq
      have g3 : cx.tmps[3]? = some (.int .i64 ((k : Int))) := (hq 3 (by kernel_rfl)).trans rfl
      have g19 := pv (v := .bool false) hp 7 19 (by kernel_rfl) rfl rfl rfl
      refine og (v := .int .i64 ((k : Int))) (j := 7) (d := 19) rfl rfl rfl g19 ?_ rfl
      go_simp
    · intro cx wc hB hp hq
      have g20 := pv (v := .int .i64 ((k : Int))) hp 8 20 (by kernel_rfl) rfl rfl rfl
      have g19 := pv (v := .bool false) hp 7 19 (by kernel_rfl) rfl rfl rfl
      have e1 := hgt
      refine og (v := .bool true) (j := 7) (d := 19) rfl rfl rfl g19 ?_ rfl
      go_simp
      omega
    · intro cx wc hB hp hq
      have g21 := pv (v := .bool true) hp 9 21 (by kernel_rfl) rfl rfl rfl
      have g19 := pv (v := .bool false) hp 7 19 (by kernel_rfl) rfl rfl rfl
      refine og (v := .bool true) (j := 7) (d := 19) rfl rfl rfl g19 ?_ rfl
      go_simp
    · intro cx wc hB hp hq
      have g1 : cx.tmps[1]? = some (.pointer (some ⟨N, 0, none⟩)) := (hq 1 (by kernel_rfl)).trans rfl
      have g22 := pv (v := .bool true) hp 10 22 (by kernel_rfl) rfl rfl rfl
      refine og (v := .pointer (some ⟨N, 10, none⟩)) (j := 10) (d := 22) rfl rfl rfl g22 ?_ rfl
      go_simp
    · intro cx wc hB hp hq
      have g23 := pv (v := .pointer (some ⟨N, 10, none⟩)) hp 11 23 (by kernel_rfl) rfl rfl rfl
      have g22 := pv (v := .bool true) hp 10 22 (by kernel_rfl) rfl rfl rfl
      have c10 := (Below.cell (p := ⟨N, 10, none⟩) hB kl).trans k10
      refine og (v := .slice (some ⟨C, off, none⟩) l d) (j := 10) (d := 22) rfl rfl rfl g22 ?_ rfl
      go_simp
    · intro cx wc hB hp hq
      have g3 : cx.tmps[3]? = some (.int .i64 ((k : Int))) := (hq 3 (by kernel_rfl)).trans rfl
      have g22 := pv (v := .bool true) hp 10 22 (by kernel_rfl) rfl rfl rfl
      refine og (v := .int .i64 ((k : Int))) (j := 10) (d := 22) rfl rfl rfl g22 ?_ rfl
      go_simp
    · intro cx wc hB hp hq
      have g24 := pv (v := .slice (some ⟨C, off, none⟩) l d) hp 12 24 (by kernel_rfl) rfl rfl rfl
      have g25 := pv (v := .int .i64 ((k : Int))) hp 13 25 (by kernel_rfl) rfl rfl rfl
      have g22 := pv (v := .bool true) hp 10 22 (by kernel_rfl) rfl rfl rfl
      have i0 := hk0
      have i1 := hkl
      refine og (v := .pointer (some ⟨C, off + k, none⟩)) (j := 10) (d := 22) rfl rfl rfl g22 ?_ rfl
      go_simp
    · intro cx wc hB hp hq
      have g26 := pv (v := .pointer (some ⟨C, off + k, none⟩)) hp 14 26 (by kernel_rfl) rfl rfl rfl
      have g22 := pv (v := .bool true) hp 10 22 (by kernel_rfl) rfl rfl rfl
      have cx1 := (Below.cell (p := ⟨C, off + k, none⟩) hB hC).trans hx
      refine og (v := .int .i64 x) (j := 10) (d := 22) rfl rfl rfl g22 ?_ rfl
      go_simp
    · intro cx wc hB hp hq
      have g1 : cx.tmps[1]? = some (.pointer (some ⟨N, 0, none⟩)) := (hq 1 (by kernel_rfl)).trans rfl
      have g22 := pv (v := .bool true) hp 10 22 (by kernel_rfl) rfl rfl rfl
      refine og (v := .pointer (some ⟨N, 10, none⟩)) (j := 10) (d := 22) rfl rfl rfl g22 ?_ rfl
      go_simp
    · intro cx wc hB hp hq
      have g28 := pv (v := .pointer (some ⟨N, 10, none⟩)) hp 16 28 (by kernel_rfl) rfl rfl rfl
      have g22 := pv (v := .bool true) hp 10 22 (by kernel_rfl) rfl rfl rfl
      have c10 := (Below.cell (p := ⟨N, 10, none⟩) hB kl).trans k10
      refine og (v := .slice (some ⟨C, off, none⟩) l d) (j := 10) (d := 22) rfl rfl rfl g22 ?_ rfl
      go_simp
    · intro cx wc hB hp hq
      have g3 : cx.tmps[3]? = some (.int .i64 ((k : Int))) := (hq 3 (by kernel_rfl)).trans rfl
      have g22 := pv (v := .bool true) hp 10 22 (by kernel_rfl) rfl rfl rfl
      refine og (v := .int .i64 ((k : Int))) (j := 10) (d := 22) rfl rfl rfl g22 ?_ rfl
      go_simp
    · intro cx wc hB hp hq
      have g30 := pv (v := .int .i64 ((k : Int))) hp 18 30 (by kernel_rfl) rfl rfl rfl
      have g22 := pv (v := .bool true) hp 10 22 (by kernel_rfl) rfl rfl rfl
      have e1 := hkj
      refine og (v := .int .i64 ((j : Int))) (j := 10) (d := 22) rfl rfl rfl g22 ?_ rfl
      go_simp
      exact IntWalk.i64_in _ (by omega)
    · intro cx wc hB hp hq
      have g29 := pv (v := .slice (some ⟨C, off, none⟩) l d) hp 17 29 (by kernel_rfl) rfl rfl rfl
      have g31 := pv (v := .int .i64 ((j : Int))) hp 19 31 (by kernel_rfl) rfl rfl rfl
      have g22 := pv (v := .bool true) hp 10 22 (by kernel_rfl) rfl rfl rfl
      have i0 : (0 : Int) ≤ (j : Int) := by omega
      have i1 := hjl
      refine og (v := .pointer (some ⟨C, off + j, none⟩)) (j := 10) (d := 22) rfl rfl rfl g22 ?_ rfl
      go_simp
    · intro cx wc hB hp hq
      have g32 := pv (v := .pointer (some ⟨C, off + j, none⟩)) hp 20 32 (by kernel_rfl) rfl rfl rfl
      have g22 := pv (v := .bool true) hp 10 22 (by kernel_rfl) rfl rfl rfl
      have cy1 := (Below.cell (p := ⟨C, off + j, none⟩) hB hC).trans hy
      refine og (v := .int .i64 y) (j := 10) (d := 22) rfl rfl rfl g22 ?_ rfl
      go_simp
    · intro cx wc hB hp hq
      have g27 := pv (v := .int .i64 x) hp 15 27 (by kernel_rfl) rfl rfl rfl
      have g33 := pv (v := .int .i64 y) hp 21 33 (by kernel_rfl) rfl rfl rfl
      have g22 := pv (v := .bool true) hp 10 22 (by kernel_rfl) rfl rfl rfl
      have e1 := hle
      refine og (v := .bool false) (j := 10) (d := 22) rfl rfl rfl g22 ?_ rfl
      go_simp
    · intro cx wc hB hp hq
      have g34 := pv (v := .bool false) hp 22 34 (by kernel_rfl) rfl rfl rfl
      have g22 := pv (v := .bool true) hp 10 22 (by kernel_rfl) rfl rfl rfl
      refine og (v := .bool false) (j := 10) (d := 22) rfl rfl rfl g22 ?_ rfl
      go_simp
    · intro cx wc hB hp hq
      have g1 : cx.tmps[1]? = some (.pointer (some ⟨N, 0, none⟩)) := (hq 1 (by kernel_rfl)).trans rfl
      have g35 := pv (v := .bool false) hp 23 35 (by kernel_rfl) rfl rfl rfl
      refine og (v := .pointer (some ⟨N, 10, none⟩)) (j := 23) (d := 35) rfl rfl rfl g35 ?_ rfl
      go_simp
    · intro cx wc hB hp hq
      have g36 := pv (v := .pointer (some ⟨N, 10, none⟩)) hp 24 36 (by kernel_rfl) rfl rfl rfl
      have g35 := pv (v := .bool false) hp 23 35 (by kernel_rfl) rfl rfl rfl
      have c10 := (Below.cell (p := ⟨N, 10, none⟩) hB kl).trans k10
      refine og (v := .slice (some ⟨C, off, none⟩) l d) (j := 23) (d := 35) rfl rfl rfl g35 ?_ rfl
      go_simp
    · intro cx wc hB hp hq
      have g3 : cx.tmps[3]? = some (.int .i64 ((k : Int))) := (hq 3 (by kernel_rfl)).trans rfl
      have g35 := pv (v := .bool false) hp 23 35 (by kernel_rfl) rfl rfl rfl
      refine og (v := .int .i64 ((k : Int))) (j := 23) (d := 35) rfl rfl rfl g35 ?_ rfl
      go_simp
    · intro cx wc hB hp hq
      have g37 := pv (v := .slice (some ⟨C, off, none⟩) l d) hp 25 37 (by kernel_rfl) rfl rfl rfl
      have g38 := pv (v := .int .i64 ((k : Int))) hp 26 38 (by kernel_rfl) rfl rfl rfl
      have g35 := pv (v := .bool false) hp 23 35 (by kernel_rfl) rfl rfl rfl
      have i0 := hk0
      have i1 := hkl
      refine og (v := .pointer (some ⟨C, off + k, none⟩)) (j := 23) (d := 35) rfl rfl rfl g35 ?_ rfl
      go_simp
    · intro cx wc hB hp hq
      have g39 := pv (v := .pointer (some ⟨C, off + k, none⟩)) hp 27 39 (by kernel_rfl) rfl rfl rfl
      have g35 := pv (v := .bool false) hp 23 35 (by kernel_rfl) rfl rfl rfl
      have cx1 := (Below.cell (p := ⟨C, off + k, none⟩) hB hC).trans hx
      refine og (v := .int .i64 x) (j := 23) (d := 35) rfl rfl rfl g35 ?_ rfl
      go_simp
    · intro cx wc hB hp hq
      have g1 : cx.tmps[1]? = some (.pointer (some ⟨N, 0, none⟩)) := (hq 1 (by kernel_rfl)).trans rfl
      have g35 := pv (v := .bool false) hp 23 35 (by kernel_rfl) rfl rfl rfl
      refine og (v := .pointer (some ⟨N, 10, none⟩)) (j := 23) (d := 35) rfl rfl rfl g35 ?_ rfl
      go_simp
    · intro cx wc hB hp hq
      have g41 := pv (v := .pointer (some ⟨N, 10, none⟩)) hp 29 41 (by kernel_rfl) rfl rfl rfl
      have g35 := pv (v := .bool false) hp 23 35 (by kernel_rfl) rfl rfl rfl
      have c10 := (Below.cell (p := ⟨N, 10, none⟩) hB kl).trans k10
      refine og (v := .slice (some ⟨C, off, none⟩) l d) (j := 23) (d := 35) rfl rfl rfl g35 ?_ rfl
      go_simp
    · intro cx wc hB hp hq
      have g3 : cx.tmps[3]? = some (.int .i64 ((k : Int))) := (hq 3 (by kernel_rfl)).trans rfl
      have g35 := pv (v := .bool false) hp 23 35 (by kernel_rfl) rfl rfl rfl
      refine og (v := .int .i64 ((k : Int))) (j := 23) (d := 35) rfl rfl rfl g35 ?_ rfl
      go_simp
    · intro cx wc hB hp hq
      have g43 := pv (v := .int .i64 ((k : Int))) hp 31 43 (by kernel_rfl) rfl rfl rfl
      have g35 := pv (v := .bool false) hp 23 35 (by kernel_rfl) rfl rfl rfl
      have e1 := hkj
      refine og (v := .int .i64 ((j : Int))) (j := 23) (d := 35) rfl rfl rfl g35 ?_ rfl
      go_simp
      exact IntWalk.i64_in _ (by omega)
    · intro cx wc hB hp hq
      have g42 := pv (v := .slice (some ⟨C, off, none⟩) l d) hp 30 42 (by kernel_rfl) rfl rfl rfl
      have g44 := pv (v := .int .i64 ((j : Int))) hp 32 44 (by kernel_rfl) rfl rfl rfl
      have g35 := pv (v := .bool false) hp 23 35 (by kernel_rfl) rfl rfl rfl
      have i0 : (0 : Int) ≤ (j : Int) := by omega
      have i1 := hjl
      refine og (v := .pointer (some ⟨C, off + j, none⟩)) (j := 23) (d := 35) rfl rfl rfl g35 ?_ rfl
      go_simp
    · intro cx wc hB hp hq
      have g45 := pv (v := .pointer (some ⟨C, off + j, none⟩)) hp 33 45 (by kernel_rfl) rfl rfl rfl
      have g35 := pv (v := .bool false) hp 23 35 (by kernel_rfl) rfl rfl rfl
      have cy1 := (Below.cell (p := ⟨C, off + j, none⟩) hB hC).trans hy
      refine og (v := .int .i64 y) (j := 23) (d := 35) rfl rfl rfl g35 ?_ rfl
      go_simp
    · intro cx wc hB hp hq
      have g40 := pv (v := .int .i64 x) hp 28 40 (by kernel_rfl) rfl rfl rfl
      have g46 := pv (v := .int .i64 y) hp 34 46 (by kernel_rfl) rfl rfl rfl
      have g35 := pv (v := .bool false) hp 23 35 (by kernel_rfl) rfl rfl rfl
      have e1 := hr
      have e2 := hr2
      have e3 := hy0
      have e4 := hrb
      refine og (v := .int .i64 r) (j := 23) (d := 35) rfl rfl rfl g35 ?_ rfl
      go_simp
    · intro cx wc hB hp hq
      have g47 := pv (v := .int .i64 r) hp 35 47 (by kernel_rfl) rfl rfl rfl
      have g35 := pv (v := .bool false) hp 23 35 (by kernel_rfl) rfl rfl rfl
      have e1 := hrz
      refine og (v := .bool true) (j := 23) (d := 35) rfl rfl rfl g35 ?_ rfl
      go_simp
    · intro cx wc hB hp hq
      have g35 := pv (v := .bool false) hp 23 35 (by kernel_rfl) rfl rfl rfl
      have g48 := pv (v := .bool true) hp 36 48 (by kernel_rfl) rfl rfl rfl
      have g22 := pv (v := .bool true) hp 10 22 (by kernel_rfl) rfl rfl rfl
      refine og (v := .bool true) (j := 10) (d := 22) rfl rfl rfl g22 ?_ rfl
      go_simp
    · intro cx wc hB hp hq
      have g22 := pv (v := .bool true) hp 10 22 (by kernel_rfl) rfl rfl rfl
      have g49 := pv (v := .bool true) hp 37 49 (by kernel_rfl) rfl rfl rfl
      have g19 := pv (v := .bool false) hp 7 19 (by kernel_rfl) rfl rfl rfl
      refine og (v := .bool true) (j := 7) (d := 19) rfl rfl rfl g19 ?_ rfl
      go_simp
    · intro cx wc hB hp hq
      have g19 := pv (v := .bool false) hp 7 19 (by kernel_rfl) rfl rfl rfl
      have g50 := pv (v := .bool true) hp 38 50 (by kernel_rfl) rfl rfl rfl
      refine ov (v := .bool true) rfl ?_ rfl
      go_simp
  · intro cx w1 hB hsz hdf hv ho
    have hcx := Reg.frame_eq [s0, .pointer (some ⟨N, 0, none⟩), s2, .int .i64 (k : Int), s4, s5, s6, s7, s8, s9, s10, s11, .pointer (some ⟨N, 10, none⟩), .slice (some ⟨C, off, none⟩) l d, .int .i64 ((k : Int)), .pointer (some ⟨C, off + k, none⟩), .int .i64 x, .bool true, .bool false, .bool false, .int .i64 ((k : Int)), .bool true, .bool true, .pointer (some ⟨N, 10, none⟩), .slice (some ⟨C, off, none⟩) l d, .int .i64 ((k : Int)), .pointer (some ⟨C, off + k, none⟩), .int .i64 x, .pointer (some ⟨N, 10, none⟩), .slice (some ⟨C, off, none⟩) l d, .int .i64 ((k : Int)), .int .i64 ((j : Int)), .pointer (some ⟨C, off + j, none⟩), .int .i64 y, .bool false, .bool false, .pointer (some ⟨N, 10, none⟩), .slice (some ⟨C, off, none⟩) l d, .int .i64 ((k : Int)), .pointer (some ⟨C, off + k, none⟩), .int .i64 x, .pointer (some ⟨N, 10, none⟩), .slice (some ⟨C, off, none⟩) l d, .int .i64 ((k : Int)), .int .i64 ((j : Int)), .pointer (some ⟨C, off + j, none⟩), .int .i64 y, .int .i64 r, .bool true, .bool true, .bool true, .bool true, s52, s53, s54, s55, s56, s57, s58, s59, s60, s61, s62, s63, s64, s65, s66, s67, s68, s69, s70, s71, s72, s73, s74, s75, s76, s77, s78, s79, s80, s81, s82, s83, s84, s85, s86, s87, s88, s89, s90, s91, s92, s93, s94, s95, s96, s97, s98, s99, s100, s101, s102, s103, s104, s105, s106, s107, s108, s109, s110, s111, s112, s113, s114, s115, s116, s117, s118, s119, s120, s121, s122, s123, s124, s125, s126] (by simpa using hsz) hdf ⟨kw ho 0 rfl, kw ho 1 rfl, kw ho 2 rfl, kw ho 3 rfl, kw ho 4 rfl, kw ho 5 rfl, kw ho 6 rfl, kw ho 7 rfl, kw ho 8 rfl, kw ho 9 rfl, kw ho 10 rfl, kw ho 11 rfl, fv (hv 0 _ 12 rfl rfl), fv (hv 1 _ 13 rfl rfl), fv (hv 2 _ 14 rfl rfl), fv (hv 3 _ 15 rfl rfl), fv (hv 4 _ 16 rfl rfl), fv (hv 5 _ 17 rfl rfl), fv (hv 6 _ 18 rfl rfl), fv (hv 7 _ 19 rfl rfl), fv (hv 8 _ 20 rfl rfl), fv (hv 9 _ 21 rfl rfl), fv (hv 10 _ 22 rfl rfl), fv (hv 11 _ 23 rfl rfl), fv (hv 12 _ 24 rfl rfl), fv (hv 13 _ 25 rfl rfl), fv (hv 14 _ 26 rfl rfl), fv (hv 15 _ 27 rfl rfl), fv (hv 16 _ 28 rfl rfl), fv (hv 17 _ 29 rfl rfl), fv (hv 18 _ 30 rfl rfl), fv (hv 19 _ 31 rfl rfl), fv (hv 20 _ 32 rfl rfl), fv (hv 21 _ 33 rfl rfl), fv (hv 22 _ 34 rfl rfl), fv (hv 23 _ 35 rfl rfl), fv (hv 24 _ 36 rfl rfl), fv (hv 25 _ 37 rfl rfl), fv (hv 26 _ 38 rfl rfl), fv (hv 27 _ 39 rfl rfl), fv (hv 28 _ 40 rfl rfl), fv (hv 29 _ 41 rfl rfl), fv (hv 30 _ 42 rfl rfl), fv (hv 31 _ 43 rfl rfl), fv (hv 32 _ 44 rfl rfl), fv (hv 33 _ 45 rfl rfl), fv (hv 34 _ 46 rfl rfl), fv (hv 35 _ 47 rfl rfl), fv (hv 36 _ 48 rfl rfl), fv (hv 37 _ 49 rfl rfl), fv (hv 38 _ 50 rfl rfl), fv (hv 39 _ 51 rfl rfl), kw ho 52 rfl, kw ho 53 rfl, kw ho 54 rfl, kw ho 55 rfl, kw ho 56 rfl, kw ho 57 rfl, kw ho 58 rfl, kw ho 59 rfl, kw ho 60 rfl, kw ho 61 rfl, kw ho 62 rfl, kw ho 63 rfl, kw ho 64 rfl, kw ho 65 rfl, kw ho 66 rfl, kw ho 67 rfl, kw ho 68 rfl, kw ho 69 rfl, kw ho 70 rfl, kw ho 71 rfl, kw ho 72 rfl, kw ho 73 rfl, kw ho 74 rfl, kw ho 75 rfl, kw ho 76 rfl, kw ho 77 rfl, kw ho 78 rfl, kw ho 79 rfl, kw ho 80 rfl, kw ho 81 rfl, kw ho 82 rfl, kw ho 83 rfl, kw ho 84 rfl, kw ho 85 rfl, kw ho 86 rfl, kw ho 87 rfl, kw ho 88 rfl, kw ho 89 rfl, kw ho 90 rfl, kw ho 91 rfl, kw ho 92 rfl, kw ho 93 rfl, kw ho 94 rfl, kw ho 95 rfl, kw ho 96 rfl, kw ho 97 rfl, kw ho 98 rfl, kw ho 99 rfl, kw ho 100 rfl, kw ho 101 rfl, kw ho 102 rfl, kw ho 103 rfl, kw ho 104 rfl, kw ho 105 rfl, kw ho 106 rfl, kw ho 107 rfl, kw ho 108 rfl, kw ho 109 rfl, kw ho 110 rfl, kw ho 111 rfl, kw ho 112 rfl, kw ho 113 rfl, kw ho 114 rfl, kw ho 115 rfl, kw ho 116 rfl, kw ho 117 rfl, kw ho 118 rfl, kw ho 119 rfl, kw ho 120 rfl, kw ho 121 rfl, kw ho 122 rfl, kw ho 123 rfl, kw ho 124 rfl, kw ho 125 rfl, kw ho 126 rfl, trivial⟩
    rw [hcx]
    exact hQ _ _ _ _ _ _ _ _ _ _ _ _ _ _ _ _ _ _ _ _ _ _ _ _ _ _ _ _ _ _ _ _ _ _ _ _ _ _ _ _ hB
set_option maxRecDepth 100000 in
set_option maxHeartbeats 16000000 in
theorem r4_e (C0 : Code) (hC0 : Tryd.f16.body.bind (findG 4) = some C0) (Q : Exit → Act → World → Prop) (W : World) (N C off k l d : Nat) (x : Int) (hl : l ≤ 9223372036854775807) (kl0 : N < W.heap.size) (k100 : W.cell? ⟨N, 10, none⟩ = some (.slice (some ⟨C, off, none⟩) l d)) (hC1 : C < W.heap.size) (hx0 : W.cell? ⟨C, off + k, none⟩ = some (.int .i64 x)) (hk0 : (0 : Int) ≤ (k : Int)) (hkl : (k : Int) < (l : Int)) (hb : inZ x 1 1000000000 = true) (y : Int) (j : Nat) (hy0a : W.cell? ⟨C, off + j, none⟩ = some (.int .i64 y)) (hgt : (0 : Int) < (k : Int)) (hkj : (k : Int) - 1 = (j : Int)) (hjl : (j : Int) < (l : Int)) (hle : ¬ x ≤ y) (r : Int) (hr : x % y = r) (hr2 : x.tmod y = r) (hy0 : ¬ y = 0) (hrb : 0 ≤ r ∧ r < 1000000000) (hrz : r = 0) (s0 s2 s4 s5 s6 s7 s8 s9 s10 s11 s12 s13 s14 s15 s16 s17 s18 s19 s20 s21 s22 s23 s24 s25 s26 s27 s28 s29 s30 s31 s32 s33 s34 s35 s36 s37 s38 s39 s40 s41 s42 s43 s44 s45 s46 s47 s48 s49 s50 s51 s52 s53 s54 s55 s56 s57 s58 s59 s60 s61 s62 s63 s64 s65 s66 s67 s68 s69 s70 s71 s72 s73 s74 s75 s76 s77 s78 s79 s80 s81 s82 s83 s84 s85 s86 s87 s88 s89 s90 s91 s92 s93 s94 s95 s96 s97 s98 s99 s100 s101 s102 s103 s104 s105 s106 s107 s108 s109 s110 s111 s112 s113 s114 s115 s116 s117 s118 s119 s120 s121 s122 s123 s124 s125 s126 : Value)
    (hQ : ∀ (W' : World) (z12 z13 z14 z15 z16 z17 z18 z19 z20 z21 z22 z23 z24 z25 z26 z27 z28 z29 z30 z31 z32 z33 z34 z35 z36 z37 z38 z39 z40 z41 z42 z43 z44 z45 z46 z47 z48 z49 z50 : Value), Below W.heap.size W W' → Q .normal { tmps := (s0 :: .pointer (some ⟨N, 0, none⟩) :: s2 :: .int .i64 (k : Int) :: s4 :: s5 :: s6 :: s7 :: s8 :: s9 :: s10 :: s11 :: z12 :: z13 :: z14 :: z15 :: z16 :: z17 :: z18 :: z19 :: z20 :: z21 :: z22 :: z23 :: z24 :: z25 :: z26 :: z27 :: z28 :: z29 :: z30 :: z31 :: z32 :: z33 :: z34 :: z35 :: z36 :: z37 :: z38 :: z39 :: z40 :: z41 :: z42 :: z43 :: z44 :: z45 :: z46 :: z47 :: z48 :: z49 :: z50 :: .bool false :: s52 :: s53 :: s54 :: s55 :: s56 :: s57 :: s58 :: s59 :: s60 :: s61 :: s62 :: s63 :: s64 :: s65 :: s66 :: s67 :: s68 :: s69 :: s70 :: s71 :: s72 :: s73 :: s74 :: s75 :: s76 :: s77 :: s78 :: s79 :: s80 :: s81 :: s82 :: s83 :: s84 :: s85 :: s86 :: s87 :: s88 :: s89 :: s90 :: s91 :: s92 :: s93 :: s94 :: s95 :: s96 :: s97 :: s98 :: s99 :: s100 :: s101 :: s102 :: s103 :: s104 :: s105 :: s106 :: s107 :: s108 :: s109 :: s110 :: s111 :: s112 :: s113 :: s114 :: s115 :: s116 :: s117 :: s118 :: s119 :: s120 :: s121 :: s122 :: s123 :: s124 :: s125 :: s126 :: []).toArray, defers := [] } W') :
    Code.wp Tryd.prog C0 Q { tmps := (s0 :: .pointer (some ⟨N, 0, none⟩) :: s2 :: .int .i64 (k : Int) :: s4 :: s5 :: s6 :: s7 :: s8 :: s9 :: s10 :: s11 :: s12 :: s13 :: s14 :: s15 :: s16 :: s17 :: s18 :: s19 :: s20 :: s21 :: s22 :: s23 :: s24 :: s25 :: s26 :: s27 :: s28 :: s29 :: s30 :: s31 :: s32 :: s33 :: s34 :: s35 :: s36 :: s37 :: s38 :: s39 :: s40 :: s41 :: s42 :: s43 :: s44 :: s45 :: s46 :: s47 :: s48 :: s49 :: s50 :: s51 :: s52 :: s53 :: s54 :: s55 :: s56 :: s57 :: s58 :: s59 :: s60 :: s61 :: s62 :: s63 :: s64 :: s65 :: s66 :: s67 :: s68 :: s69 :: s70 :: s71 :: s72 :: s73 :: s74 :: s75 :: s76 :: s77 :: s78 :: s79 :: s80 :: s81 :: s82 :: s83 :: s84 :: s85 :: s86 :: s87 :: s88 :: s89 :: s90 :: s91 :: s92 :: s93 :: s94 :: s95 :: s96 :: s97 :: s98 :: s99 :: s100 :: s101 :: s102 :: s103 :: s104 :: s105 :: s106 :: s107 :: s108 :: s109 :: s110 :: s111 :: s112 :: s113 :: s114 :: s115 :: s116 :: s117 :: s118 :: s119 :: s120 :: s121 :: s122 :: s123 :: s124 :: s125 :: s126 :: []).toArray, defers := [] } W := by
  cases hC0
  have kl : N < W.drew.heap.size := kl0
  have k10 : W.drew.cell? ⟨N, 10, none⟩ = some (.slice (some ⟨C, off, none⟩) l d) := k100
  have hC : C < W.drew.heap.size := hC1
  have hx : W.drew.cell? ⟨C, off + k, none⟩ = some (.int .i64 x) := hx0
  have hy : W.drew.cell? ⟨C, off + j, none⟩ = some (.int .i64 y) := hy0a
  clear kl0 k100 hC1 hx0 hy0a
  refine Reg.wp_region_inv (n := 127) (WishPhi [.pointer (some ⟨N, 10, none⟩), .slice (some ⟨C, off, none⟩) l d, .int .i64 ((k : Int)), .pointer (some ⟨C, off + k, none⟩), .int .i64 x, .bool true, .bool false, .bool false, .int .i64 ((k : Int)), .bool true, .bool true, .pointer (some ⟨N, 10, none⟩), .slice (some ⟨C, off, none⟩) l d, .int .i64 ((k : Int)), .pointer (some ⟨C, off + k, none⟩), .int .i64 x, .pointer (some ⟨N, 10, none⟩), .slice (some ⟨C, off, none⟩) l d, .int .i64 ((k : Int)), .int .i64 ((j : Int)), .pointer (some ⟨C, off + j, none⟩), .int .i64 y, .bool false, .bool false, .pointer (some ⟨N, 10, none⟩), .slice (some ⟨C, off, none⟩) l d, .int .i64 ((k : Int)), .pointer (some ⟨C, off + k, none⟩), .int .i64 x, .pointer (some ⟨N, 10, none⟩), .slice (some ⟨C, off, none⟩) l d, .int .i64 ((k : Int)), .int .i64 ((j : Int)), .pointer (some ⟨C, off + j, none⟩), .int .i64 y, .int .i64 r, .bool false, .bool false, .bool false, .bool false]) (by kernel_rfl) (by kernel_rfl) rfl WishPhi.stays ?_ ?_
  · refine ⟨?_, ?_, ?_, ?_, ?_, ?_, ?_, ?_, ?_, ?_, ?_, ?_, ?_, ?_, ?_, ?_, ?_, ?_, ?_, ?_, ?_, ?_, ?_, ?_, ?_, ?_, ?_, ?_, ?_, ?_, ?_, ?_, ?_, ?_, ?_, ?_, ?_, ?_, ?_, ?_, trivial⟩
    · intro cx wc hB hp hq
      have g1 : cx.tmps[1]? = some (.pointer (some ⟨N, 0, none⟩)) := (hq 1 (by kernel_rfl)).trans rfl
      refine ov (v := .pointer (some ⟨N, 10, none⟩)) rfl ?_ rfl
      go_simp
    · intro cx wc hB hp hq
      have g12 := pv (v := .pointer (some ⟨N, 10, none⟩)) hp 0 12 (by kernel_rfl) rfl rfl rfl
      have c10 := (Below.cell (p := ⟨N, 10, none⟩) hB kl).trans k10
      refine ov (v := .slice (some ⟨C, off, none⟩) l d) rfl ?_ rfl
      go_simp
    · intro cx wc hB hp hq
      have g3 : cx.tmps[3]? = some (.int .i64 ((k : Int))) := (hq 3 (by kernel_rfl)).trans rfl
      refine ov (v := .int .i64 ((k : Int))) rfl ?_ rfl
      go_simp
    · intro cx wc hB hp hq
      have g13 := pv (v := .slice (some ⟨C, off, none⟩) l d) hp 1 13 (by kernel_rfl) rfl rfl rfl
      have g14 := pv (v := .int .i64 ((k : Int))) hp 2 14 (by kernel_rfl) rfl rfl rfl
      have i0 := hk0
      have i1 := hkl
      refine ov (v := .pointer (some ⟨C, off + k, none⟩)) rfl ?_ rfl
      go_simp
    · intro cx wc hB hp hq
      have g15 := pv (v := .pointer (some ⟨C, off + k, none⟩)) hp 3 15 (by kernel_rfl) rfl rfl rfl
      have cx1 := (Below.cell (p := ⟨C, off + k, none⟩) hB hC).trans hx
      refine ov (v := .int .i64 x) rfl ?_ rfl
      go_simp
    · intro cx wc hB hp hq
      have g16 := pv (v := .int .i64 x) hp 4 16 (by kernel_rfl) rfl rfl rfl
      refine Reg.ok_call (f := 35) (args := #[.int .i64 x, .int .i64 1, .int .i64 1000000000]) (Reg.wanted_none rfl) (by go_simp) ((in_of x 1 1000000000 _ hb wc).mono ?_)
      rintro e w' ⟨rfl, rfl⟩
      exact ⟨_, rfl, Reg.Old.refl _, rfl⟩
    · intro cx wc hB hp hq
      have g17 := pv (v := .bool true) hp 5 17 (by kernel_rfl) rfl rfl rfl
      refine ov (v := .bool false) rfl ?_ rfl
      go_simp
    · intro cx wc hB hp hq
      have g18 := pv (v := .bool false) hp 6 18 (by kernel_rfl) rfl rfl rfl
      refine ov (v := .bool false) rfl ?_ rfl
      go_simp
    · intro cx wc hB hp hq
      have g3 : cx.tmps[3]? = some (.int .i64 ((k : Int))) := (hq 3 (by kernel_rfl)).trans rfl
      have g19 := pv (v := .bool false) hp 7 19 (by kernel_rfl) rfl rfl rfl
      refine og (v := .int .i64 ((k : Int))) (j := 7) (d := 19) rfl rfl rfl g19 ?_ rfl
      go_simp
    · intro cx wc hB hp hq
      have g20 := pv (v := .int .i64 ((k : Int))) hp 8 20 (by kernel_rfl) rfl rfl rfl
      have g19 := pv (v := .bool false) hp 7 19 (by kernel_rfl) rfl rfl rfl
      have e1 := hgt
      refine og (v := .bool true) (j := 7) (d := 19) rfl rfl rfl g19 ?_ rfl
      go_simp
      omega
    · intro cx wc hB hp hq
      have g21 := pv (v := .bool true) hp 9 21 (by kernel_rfl) rfl rfl rfl
      have g19 := pv (v := .bool false) hp 7 19 (by kernel_rfl) rfl rfl rfl
      refine og (v := .bool true) (j := 7) (d := 19) rfl rfl rfl g19 ?_ rfl
      go_simp
    · intro cx wc hB hp hq
      have g1 : cx.tmps[1]? = some (.pointer (some ⟨N, 0, none⟩)) := (hq 1 (by kernel_rfl)).trans rfl
      have g22 := pv (v := .bool true) hp 10 22 (by kernel_rfl) rfl rfl rfl
      refine og (v := .pointer (some ⟨N, 10, none⟩)) (j := 10) (d := 22) rfl rfl rfl g22 ?_ rfl
      go_simp
    · intro cx wc hB hp hq
      have g23 := pv (v := .pointer (some ⟨N, 10, none⟩)) hp 11 23 (by kernel_rfl) rfl rfl rfl
      have g22 := pv (v := .bool true) hp 10 22 (by kernel_rfl) rfl rfl rfl
      have c10 := (Below.cell (p := ⟨N, 10, none⟩) hB kl).trans k10
      refine og (v := .slice (some ⟨C, off, none⟩) l d) (j := 10) (d := 22) rfl rfl rfl g22 ?_ rfl
      go_simp
    · intro cx wc hB hp hq
      have g3 : cx.tmps[3]? = some (.int .i64 ((k : Int))) := (hq 3 (by kernel_rfl)).trans rfl
      have g22 := pv (v := .bool true) hp 10 22 (by kernel_rfl) rfl rfl rfl
      refine og (v := .int .i64 ((k : Int))) (j := 10) (d := 22) rfl rfl rfl g22 ?_ rfl
      go_simp
    · intro cx wc hB hp hq
      have g24 := pv (v := .slice (some ⟨C, off, none⟩) l d) hp 12 24 (by kernel_rfl) rfl rfl rfl
      have g25 := pv (v := .int .i64 ((k : Int))) hp 13 25 (by kernel_rfl) rfl rfl rfl
      have g22 := pv (v := .bool true) hp 10 22 (by kernel_rfl) rfl rfl rfl
      have i0 := hk0
      have i1 := hkl
      refine og (v := .pointer (some ⟨C, off + k, none⟩)) (j := 10) (d := 22) rfl rfl rfl g22 ?_ rfl
      go_simp
    · intro cx wc hB hp hq
      have g26 := pv (v := .pointer (some ⟨C, off + k, none⟩)) hp 14 26 (by kernel_rfl) rfl rfl rfl
      have g22 := pv (v := .bool true) hp 10 22 (by kernel_rfl) rfl rfl rfl
      have cx1 := (Below.cell (p := ⟨C, off + k, none⟩) hB hC).trans hx
      refine og (v := .int .i64 x) (j := 10) (d := 22) rfl rfl rfl g22 ?_ rfl
      go_simp
    · intro cx wc hB hp hq
      have g1 : cx.tmps[1]? = some (.pointer (some ⟨N, 0, none⟩)) := (hq 1 (by kernel_rfl)).trans rfl
      have g22 := pv (v := .bool true) hp 10 22 (by kernel_rfl) rfl rfl rfl
      refine og (v := .pointer (some ⟨N, 10, none⟩)) (j := 10) (d := 22) rfl rfl rfl g22 ?_ rfl
      go_simp
    · intro cx wc hB hp hq
      have g28 := pv (v := .pointer (some ⟨N, 10, none⟩)) hp 16 28 (by kernel_rfl) rfl rfl rfl
      have g22 := pv (v := .bool true) hp 10 22 (by kernel_rfl) rfl rfl rfl
      have c10 := (Below.cell (p := ⟨N, 10, none⟩) hB kl).trans k10
      refine og (v := .slice (some ⟨C, off, none⟩) l d) (j := 10) (d := 22) rfl rfl rfl g22 ?_ rfl
      go_simp
    · intro cx wc hB hp hq
      have g3 : cx.tmps[3]? = some (.int .i64 ((k : Int))) := (hq 3 (by kernel_rfl)).trans rfl
      have g22 := pv (v := .bool true) hp 10 22 (by kernel_rfl) rfl rfl rfl
      refine og (v := .int .i64 ((k : Int))) (j := 10) (d := 22) rfl rfl rfl g22 ?_ rfl
      go_simp
    · intro cx wc hB hp hq
      have g30 := pv (v := .int .i64 ((k : Int))) hp 18 30 (by kernel_rfl) rfl rfl rfl
      have g22 := pv (v := .bool true) hp 10 22 (by kernel_rfl) rfl rfl rfl
      have e1 := hkj
      refine og (v := .int .i64 ((j : Int))) (j := 10) (d := 22) rfl rfl rfl g22 ?_ rfl
      go_simp
      exact IntWalk.i64_in _ (by omega)
    · intro cx wc hB hp hq
      have g29 := pv (v := .slice (some ⟨C, off, none⟩) l d) hp 17 29 (by kernel_rfl) rfl rfl rfl
      have g31 := pv (v := .int .i64 ((j : Int))) hp 19 31 (by kernel_rfl) rfl rfl rfl
      have g22 := pv (v := .bool true) hp 10 22 (by kernel_rfl) rfl rfl rfl
      have i0 : (0 : Int) ≤ (j : Int) := by omega
      have i1 := hjl
      refine og (v := .pointer (some ⟨C, off + j, none⟩)) (j := 10) (d := 22) rfl rfl rfl g22 ?_ rfl
      go_simp
    · intro cx wc hB hp hq
      have g32 := pv (v := .pointer (some ⟨C, off + j, none⟩)) hp 20 32 (by kernel_rfl) rfl rfl rfl
      have g22 := pv (v := .bool true) hp 10 22 (by kernel_rfl) rfl rfl rfl
      have cy1 := (Below.cell (p := ⟨C, off + j, none⟩) hB hC).trans hy
      refine og (v := .int .i64 y) (j := 10) (d := 22) rfl rfl rfl g22 ?_ rfl
      go_simp
    · intro cx wc hB hp hq
      have g27 := pv (v := .int .i64 x) hp 15 27 (by kernel_rfl) rfl rfl rfl
      have g33 := pv (v := .int .i64 y) hp 21 33 (by kernel_rfl) rfl rfl rfl
      have g22 := pv (v := .bool true) hp 10 22 (by kernel_rfl) rfl rfl rfl
      have e1 := hle
      refine og (v := .bool false) (j := 10) (d := 22) rfl rfl rfl g22 ?_ rfl
      go_simp
    · intro cx wc hB hp hq
      have g34 := pv (v := .bool false) hp 22 34 (by kernel_rfl) rfl rfl rfl
      have g22 := pv (v := .bool true) hp 10 22 (by kernel_rfl) rfl rfl rfl
      refine og (v := .bool false) (j := 10) (d := 22) rfl rfl rfl g22 ?_ rfl
      go_simp
    · intro cx wc hB hp hq
      have g1 : cx.tmps[1]? = some (.pointer (some ⟨N, 0, none⟩)) := (hq 1 (by kernel_rfl)).trans rfl
      have g35 := pv (v := .bool false) hp 23 35 (by kernel_rfl) rfl rfl rfl
      refine og (v := .pointer (some ⟨N, 10, none⟩)) (j := 23) (d := 35) rfl rfl rfl g35 ?_ rfl
      go_simp
    · intro cx wc hB hp hq
      have g36 := pv (v := .pointer (some ⟨N, 10, none⟩)) hp 24 36 (by kernel_rfl) rfl rfl rfl
      have g35 := pv (v := .bool false) hp 23 35 (by kernel_rfl) rfl rfl rfl
      have c10 := (Below.cell (p := ⟨N, 10, none⟩) hB kl).trans k10
      refine og (v := .slice (some ⟨C, off, none⟩) l d) (j := 23) (d := 35) rfl rfl rfl g35 ?_ rfl
      go_simp
    · intro cx wc hB hp hq
      have g3 : cx.tmps[3]? = some (.int .i64 ((k : Int))) := (hq 3 (by kernel_rfl)).trans rfl
      have g35 := pv (v := .bool false) hp 23 35 (by kernel_rfl) rfl rfl rfl
      refine og (v := .int .i64 ((k : Int))) (j := 23) (d := 35) rfl rfl rfl g35 ?_ rfl
      go_simp
    · intro cx wc hB hp hq
      have g37 := pv (v := .slice (some ⟨C, off, none⟩) l d) hp 25 37 (by kernel_rfl) rfl rfl rfl
      have g38 := pv (v := .int .i64 ((k : Int))) hp 26 38 (by kernel_rfl) rfl rfl rfl
      have g35 := pv (v := .bool false) hp 23 35 (by kernel_rfl) rfl rfl rfl
      have i0 := hk0
      have i1 := hkl
      refine og (v := .pointer (some ⟨C, off + k, none⟩)) (j := 23) (d := 35) rfl rfl rfl g35 ?_ rfl
      go_simp
    · intro cx wc hB hp hq
      have g39 := pv (v := .pointer (some ⟨C, off + k, none⟩)) hp 27 39 (by kernel_rfl) rfl rfl rfl
      have g35 := pv (v := .bool false) hp 23 35 (by kernel_rfl) rfl rfl rfl
      have cx1 := (Below.cell (p := ⟨C, off + k, none⟩) hB hC).trans hx
      refine og (v := .int .i64 x) (j := 23) (d := 35) rfl rfl rfl g35 ?_ rfl
      go_simp
    · intro cx wc hB hp hq
      have g1 : cx.tmps[1]? = some (.pointer (some ⟨N, 0, none⟩)) := (hq 1 (by kernel_rfl)).trans rfl
      have g35 := pv (v := .bool false) hp 23 35 (by kernel_rfl) rfl rfl rfl
      refine og (v := .pointer (some ⟨N, 10, none⟩)) (j := 23) (d := 35) rfl rfl rfl g35 ?_ rfl
      go_simp
    · intro cx wc hB hp hq
      have g41 := pv (v := .pointer (some ⟨N, 10, none⟩)) hp 29 41 (by kernel_rfl) rfl rfl rfl
      have g35 := pv (v := .bool false) hp 23 35 (by kernel_rfl) rfl rfl rfl
      have c10 := (Below.cell (p := ⟨N, 10, none⟩) hB kl).trans k10
      refine og (v := .slice (some ⟨C, off, none⟩) l d) (j := 23) (d := 35) rfl rfl rfl g35 ?_ rfl
      go_simp
    · intro cx wc hB hp hq
      have g3 : cx.tmps[3]? = some (.int .i64 ((k : Int))) := (hq 3 (by kernel_rfl)).trans rfl
      have g35 := pv (v := .bool false) hp 23 35 (by kernel_rfl) rfl rfl rfl
      refine og (v := .int .i64 ((k : Int))) (j := 23) (d := 35) rfl rfl rfl g35 ?_ rfl
      go_simp
    · intro cx wc hB hp hq
      have g43 := pv (v := .int .i64 ((k : Int))) hp 31 43 (by kernel_rfl) rfl rfl rfl
      have g35 := pv (v := .bool false) hp 23 35 (by kernel_rfl) rfl rfl rfl
      have e1 := hkj
      refine og (v := .int .i64 ((j : Int))) (j := 23) (d := 35) rfl rfl rfl g35 ?_ rfl
      go_simp
      exact IntWalk.i64_in _ (by omega)
    · intro cx wc hB hp hq
      have g42 := pv (v := .slice (some ⟨C, off, none⟩) l d) hp 30 42 (by kernel_rfl) rfl rfl rfl
      have g44 := pv (v := .int .i64 ((j : Int))) hp 32 44 (by kernel_rfl) rfl rfl rfl
      have g35 := pv (v := .bool false) hp 23 35 (by kernel_rfl) rfl rfl rfl
      have i0 : (0 : Int) ≤ (j : Int) := by omega
      have i1 := hjl
      refine og (v := .pointer (some ⟨C, off + j, none⟩)) (j := 23) (d := 35) rfl rfl rfl g35 ?_ rfl
      go_simp
    · intro cx wc hB hp hq
      have g45 := pv (v := .pointer (some ⟨C, off + j, none⟩)) hp 33 45 (by kernel_rfl) rfl rfl rfl
      have g35 := pv (v := .bool false) hp 23 35 (by kernel_rfl) rfl rfl rfl
      have cy1 := (Below.cell (p := ⟨C, off + j, none⟩) hB hC).trans hy
      refine og (v := .int .i64 y) (j := 23) (d := 35) rfl rfl rfl g35 ?_ rfl
      go_simp
    · intro cx wc hB hp hq
      have g40 := pv (v := .int .i64 x) hp 28 40 (by kernel_rfl) rfl rfl rfl
      have g46 := pv (v := .int .i64 y) hp 34 46 (by kernel_rfl) rfl rfl rfl
      have g35 := pv (v := .bool false) hp 23 35 (by kernel_rfl) rfl rfl rfl
      have e1 := hr
      have e2 := hr2
      have e3 := hy0
      have e4 := hrb
      refine og (v := .int .i64 r) (j := 23) (d := 35) rfl rfl rfl g35 ?_ rfl
      go_simp
    · intro cx wc hB hp hq
      have g47 := pv (v := .int .i64 r) hp 35 47 (by kernel_rfl) rfl rfl rfl
      have g35 := pv (v := .bool false) hp 23 35 (by kernel_rfl) rfl rfl rfl
      have e1 := hrz
      refine og (v := .bool false) (j := 23) (d := 35) rfl rfl rfl g35 ?_ rfl
      go_simp
    · intro cx wc hB hp hq
      have g35 := pv (v := .bool false) hp 23 35 (by kernel_rfl) rfl rfl rfl
      have g48 := pv (v := .bool false) hp 36 48 (by kernel_rfl) rfl rfl rfl
      have g22 := pv (v := .bool true) hp 10 22 (by kernel_rfl) rfl rfl rfl
      refine og (v := .bool false) (j := 10) (d := 22) rfl rfl rfl g22 ?_ rfl
      go_simp
    · intro cx wc hB hp hq
      have g22 := pv (v := .bool true) hp 10 22 (by kernel_rfl) rfl rfl rfl
      have g49 := pv (v := .bool false) hp 37 49 (by kernel_rfl) rfl rfl rfl
      have g19 := pv (v := .bool false) hp 7 19 (by kernel_rfl) rfl rfl rfl
      refine og (v := .bool false) (j := 7) (d := 19) rfl rfl rfl g19 ?_ rfl
      go_simp
    · intro cx wc hB hp hq
      have g19 := pv (v := .bool false) hp 7 19 (by kernel_rfl) rfl rfl rfl
      have g50 := pv (v := .bool false) hp 38 50 (by kernel_rfl) rfl rfl rfl
      refine ov (v := .bool false) rfl ?_ rfl
      go_simp
  · intro cx w1 hB hsz hdf hv ho
    have hcx := Reg.frame_eq [s0, .pointer (some ⟨N, 0, none⟩), s2, .int .i64 (k : Int), s4, s5, s6, s7, s8, s9, s10, s11, .pointer (some ⟨N, 10, none⟩), .slice (some ⟨C, off, none⟩) l d, .int .i64 ((k : Int)), .pointer (some ⟨C, off + k, none⟩), .int .i64 x, .bool true, .bool false, .bool false, .int .i64 ((k : Int)), .bool true, .bool true, .pointer (some ⟨N, 10, none⟩), .slice (some ⟨C, off, none⟩) l d, .int .i64 ((k : Int)), .pointer (some ⟨C, off + k, none⟩), .int .i64 x, .pointer (some ⟨N, 10, none⟩), .slice (some ⟨C, off, none⟩) l d, .int .i64 ((k : Int)), .int .i64 ((j : Int)), .pointer (some ⟨C, off + j, none⟩), .int .i64 y, .bool false, .bool false, .pointer (some ⟨N, 10, none⟩), .slice (some ⟨C, off, none⟩) l d, .int .i64 ((k : Int)), .pointer (some ⟨C, off + k, none⟩), .int .i64 x, .pointer (some ⟨N, 10, none⟩), .slice (some ⟨C, off, none⟩) l d, .int .i64 ((k : Int)), .int .i64 ((j : Int)), .pointer (some ⟨C, off + j, none⟩), .int .i64 y, .int .i64 r, .bool false, .bool false, .bool false, .bool false, s52, s53, s54, s55, s56, s57, s58, s59, s60, s61, s62, s63, s64, s65, s66, s67, s68, s69, s70, s71, s72, s73, s74, s75, s76, s77, s78, s79, s80, s81, s82, s83, s84, s85, s86, s87, s88, s89, s90, s91, s92, s93, s94, s95, s96, s97, s98, s99, s100, s101, s102, s103, s104, s105, s106, s107, s108, s109, s110, s111, s112, s113, s114, s115, s116, s117, s118, s119, s120, s121, s122, s123, s124, s125, s126] (by simpa using hsz) hdf ⟨kw ho 0 rfl, kw ho 1 rfl, kw ho 2 rfl, kw ho 3 rfl, kw ho 4 rfl, kw ho 5 rfl, kw ho 6 rfl, kw ho 7 rfl, kw ho 8 rfl, kw ho 9 rfl, kw ho 10 rfl, kw ho 11 rfl, fv (hv 0 _ 12 rfl rfl), fv (hv 1 _ 13 rfl rfl), fv (hv 2 _ 14 rfl rfl), fv (hv 3 _ 15 rfl rfl), fv (hv 4 _ 16 rfl rfl), fv (hv 5 _ 17 rfl rfl), fv (hv 6 _ 18 rfl rfl), fv (hv 7 _ 19 rfl rfl), fv (hv 8 _ 20 rfl rfl), fv (hv 9 _ 21 rfl rfl), fv (hv 10 _ 22 rfl rfl), fv (hv 11 _ 23 rfl rfl), fv (hv 12 _ 24 rfl rfl), fv (hv 13 _ 25 rfl rfl), fv (hv 14 _ 26 rfl rfl), fv (hv 15 _ 27 rfl rfl), fv (hv 16 _ 28 rfl rfl), fv (hv 17 _ 29 rfl rfl), fv (hv 18 _ 30 rfl rfl), fv (hv 19 _ 31 rfl rfl), fv (hv 20 _ 32 rfl rfl), fv (hv 21 _ 33 rfl rfl), fv (hv 22 _ 34 rfl rfl), fv (hv 23 _ 35 rfl rfl), fv (hv 24 _ 36 rfl rfl), fv (hv 25 _ 37 rfl rfl), fv (hv 26 _ 38 rfl rfl), fv (hv 27 _ 39 rfl rfl), fv (hv 28 _ 40 rfl rfl), fv (hv 29 _ 41 rfl rfl), fv (hv 30 _ 42 rfl rfl), fv (hv 31 _ 43 rfl rfl), fv (hv 32 _ 44 rfl rfl), fv (hv 33 _ 45 rfl rfl), fv (hv 34 _ 46 rfl rfl), fv (hv 35 _ 47 rfl rfl), fv (hv 36 _ 48 rfl rfl), fv (hv 37 _ 49 rfl rfl), fv (hv 38 _ 50 rfl rfl), fv (hv 39 _ 51 rfl rfl), kw ho 52 rfl, kw ho 53 rfl, kw ho 54 rfl, kw ho 55 rfl, kw ho 56 rfl, kw ho 57 rfl, kw ho 58 rfl, kw ho 59 rfl, kw ho 60 rfl, kw ho 61 rfl, kw ho 62 rfl, kw ho 63 rfl, kw ho 64 rfl, kw ho 65 rfl, kw ho 66 rfl, kw ho 67 rfl, kw ho 68 rfl, kw ho 69 rfl, kw ho 70 rfl, kw ho 71 rfl, kw ho 72 rfl, kw ho 73 rfl, kw ho 74 rfl, kw ho 75 rfl, kw ho 76 rfl, kw ho 77 rfl, kw ho 78 rfl, kw ho 79 rfl, kw ho 80 rfl, kw ho 81 rfl, kw ho 82 rfl, kw ho 83 rfl, kw ho 84 rfl, kw ho 85 rfl, kw ho 86 rfl, kw ho 87 rfl, kw ho 88 rfl, kw ho 89 rfl, kw ho 90 rfl, kw ho 91 rfl, kw ho 92 rfl, kw ho 93 rfl, kw ho 94 rfl, kw ho 95 rfl, kw ho 96 rfl, kw ho 97 rfl, kw ho 98 rfl, kw ho 99 rfl, kw ho 100 rfl, kw ho 101 rfl, kw ho 102 rfl, kw ho 103 rfl, kw ho 104 rfl, kw ho 105 rfl, kw ho 106 rfl, kw ho 107 rfl, kw ho 108 rfl, kw ho 109 rfl, kw ho 110 rfl, kw ho 111 rfl, kw ho 112 rfl, kw ho 113 rfl, kw ho 114 rfl, kw ho 115 rfl, kw ho 116 rfl, kw ho 117 rfl, kw ho 118 rfl, kw ho 119 rfl, kw ho 120 rfl, kw ho 121 rfl, kw ho 122 rfl, kw ho 123 rfl, kw ho 124 rfl, kw ho 125 rfl, kw ho 126 rfl, trivial⟩
    rw [hcx]
    exact hQ _ _ _ _ _ _ _ _ _ _ _ _ _ _ _ _ _ _ _ _ _ _ _ _ _ _ _ _ _ _ _ _ _ _ _ _ _ _ _ _ hB
end Go.Proofs.YtdhkonaebhpeeaaDoor.Po

namespace Go.Proofs.YtdhkonaebhpeeaaDoor.Po
open Go Go.RowKit

/-- What each operation of a row's making yields. -/
def SamPhi (N : Nat) (n : List Int) (vs : List Value) : Nat → Value → World → Prop
  | 1, v, w => ∃ g, v = .slice (some ⟨g, 0, none⟩) 10 10 ∧ OwnI N (.slice (some ⟨g, 0, none⟩) 10 10) n w
  | i, v, _ => v = vs.getD i undef
theorem SamPhi.stays {N : Nat} {n : List Int} {vs : List Value} : ∀ i v w w', SamPhi N n vs i v w → Reg.Old w w' → SamPhi N n vs i v w' := by
  intro i v w w' h hB
  unfold SamPhi at *
  split at h
  · obtain ⟨g, h1, h2⟩ := h
    exact ⟨g, h1, h2.below hB⟩
  · exact h
set_option maxRecDepth 100000 in
set_option maxHeartbeats 16000000 in
theorem sam_a (C0 : Code) (hC0 : Tryd.f18.body.bind (findG 1) = some C0) (Q : Exit → Act → World → Prop) (W : World) (A B : Nat) (x0 x1 x2 x3 x4 x5 x6 x7 x8 x9 : Int) (q : Option Addr) (l d : Nat) (t : List Int) (hlen : t.length = l) (hl : l ≤ 17592186044400) (hP : CellsAt A #[.int .i64 x0, .int .i64 x1, .int .i64 x2, .int .i64 x3, .int .i64 x4, .int .i64 x5, .int .i64 x6, .int .i64 x7, .int .i64 x8, .int .i64 x9, .slice q l d] W) (hT : Tr (fun _ => False) (.slice q l d) t W) (s0 s1 s5 s6 s7 s8 s9 s10 s11 s12 s13 s14 s15 s16 s17 s18 s19 s20 s21 s22 s23 s24 s25 s26 s27 s28 s29 s30 s31 s32 s33 s34 s35 s36 s37 : Value)
    (hQ : ∀ (W' : World) (p : Option Addr) (c : Nat) (z8 z9 z10 z11 z12 : Value), OwnI W.heap.size (.slice p (10 + l) c) ([x0, x1, x2, x3, x4, x5, x6, x7, x8, x9] ++ t) W' → Below W.heap.size W W' → Q .normal { tmps := (s0 :: s1 :: .pointer (some ⟨A, 0, none⟩) :: .pointer (some ⟨B, 0, none⟩) :: .bool false :: .slice p (10 + l) c :: s6 :: s7 :: z8 :: z9 :: z10 :: z11 :: z12 :: s13 :: s14 :: s15 :: s16 :: s17 :: s18 :: s19 :: s20 :: s21 :: s22 :: s23 :: s24 :: s25 :: s26 :: s27 :: s28 :: s29 :: s30 :: s31 :: s32 :: s33 :: s34 :: s35 :: s36 :: s37 :: []).toArray, defers := [] } W') :
    Code.wp Tryd.prog C0 Q { tmps := (s0 :: s1 :: .pointer (some ⟨A, 0, none⟩) :: .pointer (some ⟨B, 0, none⟩) :: .bool false :: s5 :: s6 :: s7 :: s8 :: s9 :: s10 :: s11 :: s12 :: s13 :: s14 :: s15 :: s16 :: s17 :: s18 :: s19 :: s20 :: s21 :: s22 :: s23 :: s24 :: s25 :: s26 :: s27 :: s28 :: s29 :: s30 :: s31 :: s32 :: s33 :: s34 :: s35 :: s36 :: s37 :: []).toArray, defers := [] } W := by
  cases hC0
  have hnum : ∀ W, Calls Tryd.prog 32 #[.agg #[.int .i64 x0, .int .i64 x1, .int .i64 x2, .int .i64 x3, .int .i64 x4, .int .i64 x5, .int .i64 x6, .int .i64 x7, .int .i64 x8, .int .i64 x9, .slice q l d]] W fun e w' => ∃ g, e = .returned (.slice (some ⟨g, 0, none⟩) 10 10) ∧ OwnI W.heap.size (.slice (some ⟨g, 0, none⟩) 10 10) [x0, x1, x2, x3, x4, x5, x6, x7, x8, x9] w' ∧ Below W.heap.size W w' := fun W => refnumbers_any [x0, x1, x2, x3, x4, x5, x6, x7, x8, x9] q l d W rfl
  have hPd : CellsAt A #[.int .i64 x0, .int .i64 x1, .int .i64 x2, .int .i64 x3, .int .i64 x4, .int .i64 x5, .int .i64 x6, .int .i64 x7, .int .i64 x8, .int .i64 x9, .slice q l d] W.drew := hP.drew
  have hTd : Tr (fun _ => False) (.slice q l d) t W.drew := hT.mov (Mov.refl (fun _ => False) _).drew (fun _ h _ => h)
  clear hP hT
  refine Reg.wp_region_tail (n := 38) 4 (SamPhi W.heap.size [x0, x1, x2, x3, x4, x5, x6, x7, x8, x9] [.agg #[.int .i64 x0, .int .i64 x1, .int .i64 x2, .int .i64 x3, .int .i64 x4, .int .i64 x5, .int .i64 x6, .int .i64 x7, .int .i64 x8, .int .i64 x9, .slice q l d], undef, .pointer (some ⟨A, 10, none⟩), .slice q l d]) (by kernel_rfl) (by decide) (by kernel_rfl) (by kernel_rfl) (by kernel_rfl) rfl SamPhi.stays ?_ ?_
  · refine ⟨?_, ?_, ?_, ?_, trivial⟩
    · intro cx wc hB hp hq
      have g2 : cx.tmps[2]? = some (.pointer (some ⟨A, 0, none⟩)) := (hq 2 (by kernel_rfl)).trans rfl
      have hc := CellsAt.below hPd hB
      have k0 := hc.cell 0 _ rfl
      have k1 := hc.cell 1 _ rfl
      have k2 := hc.cell 2 _ rfl
      have k3 := hc.cell 3 _ rfl
      have k4 := hc.cell 4 _ rfl
      have k5 := hc.cell 5 _ rfl
      have k6 := hc.cell 6 _ rfl
      have k7 := hc.cell 7 _ rfl
      have k8 := hc.cell 8 _ rfl
      have k9 := hc.cell 9 _ rfl
      have k10 := hc.cell 10 _ rfl
      simp only [List.getElem_toArray, List.getElem_cons_zero, List.getElem_cons_succ] at k0 k1 k2 k3 k4 k5 k6 k7 k8 k9 k10
      refine Reg.ok_value Reg.Old.refl (v := .agg #[.int .i64 x0, .int .i64 x1, .int .i64 x2, .int .i64 x3, .int .i64 x4, .int .i64 x5, .int .i64 x6, .int .i64 x7, .int .i64 x8, .int .i64 x9, .slice q l d]) (Reg.wanted_none rfl) ?_ rfl
      go_simp
    · intro cx wc hB hp hq
      have g8 : cx.tmps[8]? = some (.agg #[.int .i64 x0, .int .i64 x1, .int .i64 x2, .int .i64 x3, .int .i64 x4, .int .i64 x5, .int .i64 x6, .int .i64 x7, .int .i64 x8, .int .i64 x9, .slice q l d]) := by obtain ⟨_, g, hv⟩ := Reg.pred hp 0 8 (by kernel_rfl) rfl rfl; exact g.trans (congrArg some hv)
      refine Reg.ok_call (f := 32) (args := #[.agg #[.int .i64 x0, .int .i64 x1, .int .i64 x2, .int .i64 x3, .int .i64 x4, .int .i64 x5, .int .i64 x6, .int .i64 x7, .int .i64 x8, .int .i64 x9, .slice q l d]]) (Reg.wanted_none rfl) (by go_simp) ((hnum wc).mono ?_)
      rintro e w' ⟨g, rfl, hO, hB2⟩
      exact ⟨_, rfl, hB2, g, rfl, hO.sub (show W.heap.size ≤ wc.heap.size from (show Below W.drew.heap.size W.drew wc from hB).size)⟩
    · intro cx wc hB hp hq
      have g2 : cx.tmps[2]? = some (.pointer (some ⟨A, 0, none⟩)) := (hq 2 (by kernel_rfl)).trans rfl
      refine Reg.ok_value Reg.Old.refl (v := .pointer (some ⟨A, 10, none⟩)) (Reg.wanted_none rfl) ?_ rfl
      go_simp
    · intro cx wc hB hp hq
      have g10 : cx.tmps[10]? = some (.pointer (some ⟨A, 10, none⟩)) := by obtain ⟨_, g, hv⟩ := Reg.pred hp 2 10 (by kernel_rfl) rfl rfl; exact g.trans (congrArg some hv)
      have k10 := (CellsAt.below hPd hB).cell 10 (.slice q l d) rfl
      refine Reg.ok_value Reg.Old.refl (v := .slice q l d) (Reg.wanted_none rfl) ?_ rfl
      go_simp
  · intro cx w1 hB hsz hdf hv ho
    obtain ⟨_, gN, g, rfl, hO⟩ := hv 1 _ 9 (by decide) rfl rfl
    have hcx := Reg.frame_eq [s0, s1, .pointer (some ⟨A, 0, none⟩), .pointer (some ⟨B, 0, none⟩), .bool false, s5, s6, s7, .agg #[.int .i64 x0, .int .i64 x1, .int .i64 x2, .int .i64 x3, .int .i64 x4, .int .i64 x5, .int .i64 x6, .int .i64 x7, .int .i64 x8, .int .i64 x9, .slice q l d], .slice (some ⟨g, 0, none⟩) 10 10, .pointer (some ⟨A, 10, none⟩), .slice q l d, s12, s13, s14, s15, s16, s17, s18, s19, s20, s21, s22, s23, s24, s25, s26, s27, s28, s29, s30, s31, s32, s33, s34, s35, s36, s37] (by simpa using hsz) hdf ⟨((Reg.kept_past ho 0 (by kernel_rfl)).trans rfl), ((Reg.kept_past ho 1 (by kernel_rfl)).trans rfl), ((Reg.kept_past ho 2 (by kernel_rfl)).trans rfl), ((Reg.kept_past ho 3 (by kernel_rfl)).trans rfl), ((Reg.kept_past ho 4 (by kernel_rfl)).trans rfl), ((Reg.kept_past ho 5 (by kernel_rfl)).trans rfl), ((Reg.kept_past ho 6 (by kernel_rfl)).trans rfl), ((Reg.kept_past ho 7 (by kernel_rfl)).trans rfl), (by obtain ⟨_, g, hx⟩ := hv 0 _ 8 (by decide) rfl rfl; exact g.trans (congrArg some hx)), gN, (by obtain ⟨_, g, hx⟩ := hv 2 _ 10 (by decide) rfl rfl; exact g.trans (congrArg some hx)), (by obtain ⟨_, g, hx⟩ := hv 3 _ 11 (by decide) rfl rfl; exact g.trans (congrArg some hx)), ((Reg.kept_past ho 12 (by kernel_rfl)).trans rfl), ((Reg.kept_past ho 13 (by kernel_rfl)).trans rfl), ((Reg.kept_past ho 14 (by kernel_rfl)).trans rfl), ((Reg.kept_past ho 15 (by kernel_rfl)).trans rfl), ((Reg.kept_past ho 16 (by kernel_rfl)).trans rfl), ((Reg.kept_past ho 17 (by kernel_rfl)).trans rfl), ((Reg.kept_past ho 18 (by kernel_rfl)).trans rfl), ((Reg.kept_past ho 19 (by kernel_rfl)).trans rfl), ((Reg.kept_past ho 20 (by kernel_rfl)).trans rfl), ((Reg.kept_past ho 21 (by kernel_rfl)).trans rfl), ((Reg.kept_past ho 22 (by kernel_rfl)).trans rfl), ((Reg.kept_past ho 23 (by kernel_rfl)).trans rfl), ((Reg.kept_past ho 24 (by kernel_rfl)).trans rfl), ((Reg.kept_past ho 25 (by kernel_rfl)).trans rfl), ((Reg.kept_past ho 26 (by kernel_rfl)).trans rfl), ((Reg.kept_past ho 27 (by kernel_rfl)).trans rfl), ((Reg.kept_past ho 28 (by kernel_rfl)).trans rfl), ((Reg.kept_past ho 29 (by kernel_rfl)).trans rfl), ((Reg.kept_past ho 30 (by kernel_rfl)).trans rfl), ((Reg.kept_past ho 31 (by kernel_rfl)).trans rfl), ((Reg.kept_past ho 32 (by kernel_rfl)).trans rfl), ((Reg.kept_past ho 33 (by kernel_rfl)).trans rfl), ((Reg.kept_past ho 34 (by kernel_rfl)).trans rfl), ((Reg.kept_past ho 35 (by kernel_rfl)).trans rfl), ((Reg.kept_past ho 36 (by kernel_rfl)).trans rfl), ((Reg.kept_past ho 37 (by kernel_rfl)).trans rfl), trivial⟩
    rw [hcx]
    have hT1 := hTd.below hB
    have hw1 : W.heap.size ≤ w1.heap.size := (show Below W.drew.heap.size W.drew w1 from hB).size
    have hB1 : Below W.heap.size W w1 := (Below.refl _ _).drew.trans hB
    simp only [List.drop_succ_cons, List.drop_zero]
    clear hv ho hsz hdf hcx
    obtain ⟨v2, w3, hr3, hG⟩ := append_tr 22 hO hT1 (by rw [hlen]; simp; omega) hw1
    have hB3 := hB1.trans (hG.low (N := W.heap.size) (fun g hg => (hO.lt hg).1) hw1)
    obtain ⟨p, c, rfl⟩ : ∃ p c, v2 = .slice p (10 + l) c := by
      obtain ⟨p, c, e⟩ := hG.1.len
      rw [List.length_append, hlen] at e
      exact ⟨p, c, e⟩
    have HO3 := Lib.hid hG.1
    have HB3 := Lib.hid hB3
    clear hO hT1 hw1 hB1 hG hB3 hPd hTd hnum
    go_wp2_with (at_builtin; refine Lib.wpList_append_run _ rfl _ _ _ _ rfl _ _ rfl rfl _ _ hr3 ?_)
    exact hQ _ _ _ _ _ _ _ _ HO3.out HB3.out
set_option maxRecDepth 100000 in
set_option maxHeartbeats 16000000 in
theorem sam_b (C0 : Code) (hC0 : Tryd.f18.body.bind (findG 2) = some C0) (Q : Exit → Act → World → Prop) (W : World) (A B : Nat) (x0 x1 x2 x3 x4 x5 x6 x7 x8 x9 : Int) (q : Option Addr) (l d : Nat) (t : List Int) (hlen : t.length = l) (hl : l ≤ 17592186044400) (hP : CellsAt B #[.int .i64 x0, .int .i64 x1, .int .i64 x2, .int .i64 x3, .int .i64 x4, .int .i64 x5, .int .i64 x6, .int .i64 x7, .int .i64 x8, .int .i64 x9, .slice q l d] W) (hT : Tr (fun _ => False) (.slice q l d) t W) (s0 s1 s5 s6 s7 s8 s9 s10 s11 s12 s13 s14 s15 s16 s17 s18 s19 s20 s21 s22 s23 s24 s25 s26 s27 s28 s29 s30 s31 s32 s33 s34 s35 s36 s37 : Value)
    (hQ : ∀ (W' : World) (p : Option Addr) (c : Nat) (z13 z14 z15 z16 z17 : Value), OwnI W.heap.size (.slice p (10 + l) c) ([x0, x1, x2, x3, x4, x5, x6, x7, x8, x9] ++ t) W' → Below W.heap.size W W' → Q .normal { tmps := (s0 :: s1 :: .pointer (some ⟨A, 0, none⟩) :: .pointer (some ⟨B, 0, none⟩) :: .bool false :: s5 :: .slice p (10 + l) c :: s7 :: s8 :: s9 :: s10 :: s11 :: s12 :: z13 :: z14 :: z15 :: z16 :: z17 :: s18 :: s19 :: s20 :: s21 :: s22 :: s23 :: s24 :: s25 :: s26 :: s27 :: s28 :: s29 :: s30 :: s31 :: s32 :: s33 :: s34 :: s35 :: s36 :: s37 :: []).toArray, defers := [] } W') :
    Code.wp Tryd.prog C0 Q { tmps := (s0 :: s1 :: .pointer (some ⟨A, 0, none⟩) :: .pointer (some ⟨B, 0, none⟩) :: .bool false :: s5 :: s6 :: s7 :: s8 :: s9 :: s10 :: s11 :: s12 :: s13 :: s14 :: s15 :: s16 :: s17 :: s18 :: s19 :: s20 :: s21 :: s22 :: s23 :: s24 :: s25 :: s26 :: s27 :: s28 :: s29 :: s30 :: s31 :: s32 :: s33 :: s34 :: s35 :: s36 :: s37 :: []).toArray, defers := [] } W := by
  cases hC0
  have hnum : ∀ W, Calls Tryd.prog 32 #[.agg #[.int .i64 x0, .int .i64 x1, .int .i64 x2, .int .i64 x3, .int .i64 x4, .int .i64 x5, .int .i64 x6, .int .i64 x7, .int .i64 x8, .int .i64 x9, .slice q l d]] W fun e w' => ∃ g, e = .returned (.slice (some ⟨g, 0, none⟩) 10 10) ∧ OwnI W.heap.size (.slice (some ⟨g, 0, none⟩) 10 10) [x0, x1, x2, x3, x4, x5, x6, x7, x8, x9] w' ∧ Below W.heap.size W w' := fun W => refnumbers_any [x0, x1, x2, x3, x4, x5, x6, x7, x8, x9] q l d W rfl
  have hPd : CellsAt B #[.int .i64 x0, .int .i64 x1, .int .i64 x2, .int .i64 x3, .int .i64 x4, .int .i64 x5, .int .i64 x6, .int .i64 x7, .int .i64 x8, .int .i64 x9, .slice q l d] W.drew := hP.drew
  have hTd : Tr (fun _ => False) (.slice q l d) t W.drew := hT.mov (Mov.refl (fun _ => False) _).drew (fun _ h _ => h)
  clear hP hT
  refine Reg.wp_region_tail (n := 38) 4 (SamPhi W.heap.size [x0, x1, x2, x3, x4, x5, x6, x7, x8, x9] [.agg #[.int .i64 x0, .int .i64 x1, .int .i64 x2, .int .i64 x3, .int .i64 x4, .int .i64 x5, .int .i64 x6, .int .i64 x7, .int .i64 x8, .int .i64 x9, .slice q l d], undef, .pointer (some ⟨B, 10, none⟩), .slice q l d]) (by kernel_rfl) (by decide) (by kernel_rfl) (by kernel_rfl) (by kernel_rfl) rfl SamPhi.stays ?_ ?_
  · refine ⟨?_, ?_, ?_, ?_, trivial⟩
    · intro cx wc hB hp hq
      have g3 : cx.tmps[3]? = some (.pointer (some ⟨B, 0, none⟩)) := (hq 3 (by kernel_rfl)).trans rfl
      have hc := CellsAt.below hPd hB
      have k0 := hc.cell 0 _ rfl
      have k1 := hc.cell 1 _ rfl
      have k2 := hc.cell 2 _ rfl
      have k3 := hc.cell 3 _ rfl
      have k4 := hc.cell 4 _ rfl
      have k5 := hc.cell 5 _ rfl
      have k6 := hc.cell 6 _ rfl
      have k7 := hc.cell 7 _ rfl
      have k8 := hc.cell 8 _ rfl
      have k9 := hc.cell 9 _ rfl
      have k10 := hc.cell 10 _ rfl
      simp only [List.getElem_toArray, List.getElem_cons_zero, List.getElem_cons_succ] at k0 k1 k2 k3 k4 k5 k6 k7 k8 k9 k10
      refine Reg.ok_value Reg.Old.refl (v := .agg #[.int .i64 x0, .int .i64 x1, .int .i64 x2, .int .i64 x3, .int .i64 x4, .int .i64 x5, .int .i64 x6, .int .i64 x7, .int .i64 x8, .int .i64 x9, .slice q l d]) (Reg.wanted_none rfl) ?_ rfl
      go_simp
    · intro cx wc hB hp hq
      have g13 : cx.tmps[13]? = some (.agg #[.int .i64 x0, .int .i64 x1, .int .i64 x2, .int .i64 x3, .int .i64 x4, .int .i64 x5, .int .i64 x6, .int .i64 x7, .int .i64 x8, .int .i64 x9, .slice q l d]) := by obtain ⟨_, g, hv⟩ := Reg.pred hp 0 13 (by kernel_rfl) rfl rfl; exact g.trans (congrArg some hv)
      refine Reg.ok_call (f := 32) (args := #[.agg #[.int .i64 x0, .int .i64 x1, .int .i64 x2, .int .i64 x3, .int .i64 x4, .int .i64 x5, .int .i64 x6, .int .i64 x7, .int .i64 x8, .int .i64 x9, .slice q l d]]) (Reg.wanted_none rfl) (by go_simp) ((hnum wc).mono ?_)
      rintro e w' ⟨g, rfl, hO, hB2⟩
      exact ⟨_, rfl, hB2, g, rfl, hO.sub (show W.heap.size ≤ wc.heap.size from (show Below W.drew.heap.size W.drew wc from hB).size)⟩
    · intro cx wc hB hp hq
      have g3 : cx.tmps[3]? = some (.pointer (some ⟨B, 0, none⟩)) := (hq 3 (by kernel_rfl)).trans rfl
      refine Reg.ok_value Reg.Old.refl (v := .pointer (some ⟨B, 10, none⟩)) (Reg.wanted_none rfl) ?_ rfl
      go_simp
    · intro cx wc hB hp hq
      have g15 : cx.tmps[15]? = some (.pointer (some ⟨B, 10, none⟩)) := by obtain ⟨_, g, hv⟩ := Reg.pred hp 2 15 (by kernel_rfl) rfl rfl; exact g.trans (congrArg some hv)
      have k10 := (CellsAt.below hPd hB).cell 10 (.slice q l d) rfl
      refine Reg.ok_value Reg.Old.refl (v := .slice q l d) (Reg.wanted_none rfl) ?_ rfl
      go_simp
  · intro cx w1 hB hsz hdf hv ho
    obtain ⟨_, gN, g, rfl, hO⟩ := hv 1 _ 14 (by decide) rfl rfl
    have hcx := Reg.frame_eq [s0, s1, .pointer (some ⟨A, 0, none⟩), .pointer (some ⟨B, 0, none⟩), .bool false, s5, s6, s7, s8, s9, s10, s11, s12, .agg #[.int .i64 x0, .int .i64 x1, .int .i64 x2, .int .i64 x3, .int .i64 x4, .int .i64 x5, .int .i64 x6, .int .i64 x7, .int .i64 x8, .int .i64 x9, .slice q l d], .slice (some ⟨g, 0, none⟩) 10 10, .pointer (some ⟨B, 10, none⟩), .slice q l d, s17, s18, s19, s20, s21, s22, s23, s24, s25, s26, s27, s28, s29, s30, s31, s32, s33, s34, s35, s36, s37] (by simpa using hsz) hdf ⟨((Reg.kept_past ho 0 (by kernel_rfl)).trans rfl), ((Reg.kept_past ho 1 (by kernel_rfl)).trans rfl), ((Reg.kept_past ho 2 (by kernel_rfl)).trans rfl), ((Reg.kept_past ho 3 (by kernel_rfl)).trans rfl), ((Reg.kept_past ho 4 (by kernel_rfl)).trans rfl), ((Reg.kept_past ho 5 (by kernel_rfl)).trans rfl), ((Reg.kept_past ho 6 (by kernel_rfl)).trans rfl), ((Reg.kept_past ho 7 (by kernel_rfl)).trans rfl), ((Reg.kept_past ho 8 (by kernel_rfl)).trans rfl), ((Reg.kept_past ho 9 (by kernel_rfl)).trans rfl), ((Reg.kept_past ho 10 (by kernel_rfl)).trans rfl), ((Reg.kept_past ho 11 (by kernel_rfl)).trans rfl), ((Reg.kept_past ho 12 (by kernel_rfl)).trans rfl), (by obtain ⟨_, g, hx⟩ := hv 0 _ 13 (by decide) rfl rfl; exact g.trans (congrArg some hx)), gN, (by obtain ⟨_, g, hx⟩ := hv 2 _ 15 (by decide) rfl rfl; exact g.trans (congrArg some hx)), (by obtain ⟨_, g, hx⟩ := hv 3 _ 16 (by decide) rfl rfl; exact g.trans (congrArg some hx)), ((Reg.kept_past ho 17 (by kernel_rfl)).trans rfl), ((Reg.kept_past ho 18 (by kernel_rfl)).trans rfl), ((Reg.kept_past ho 19 (by kernel_rfl)).trans rfl), ((Reg.kept_past ho 20 (by kernel_rfl)).trans rfl), ((Reg.kept_past ho 21 (by kernel_rfl)).trans rfl), ((Reg.kept_past ho 22 (by kernel_rfl)).trans rfl), ((Reg.kept_past ho 23 (by kernel_rfl)).trans rfl), ((Reg.kept_past ho 24 (by kernel_rfl)).trans rfl), ((Reg.kept_past ho 25 (by kernel_rfl)).trans rfl), ((Reg.kept_past ho 26 (by kernel_rfl)).trans rfl), ((Reg.kept_past ho 27 (by kernel_rfl)).trans rfl), ((Reg.kept_past ho 28 (by kernel_rfl)).trans rfl), ((Reg.kept_past ho 29 (by kernel_rfl)).trans rfl), ((Reg.kept_past ho 30 (by kernel_rfl)).trans rfl), ((Reg.kept_past ho 31 (by kernel_rfl)).trans rfl), ((Reg.kept_past ho 32 (by kernel_rfl)).trans rfl), ((Reg.kept_past ho 33 (by kernel_rfl)).trans rfl), ((Reg.kept_past ho 34 (by kernel_rfl)).trans rfl), ((Reg.kept_past ho 35 (by kernel_rfl)).trans rfl), ((Reg.kept_past ho 36 (by kernel_rfl)).trans rfl), ((Reg.kept_past ho 37 (by kernel_rfl)).trans rfl), trivial⟩
    rw [hcx]
    have hT1 := hTd.below hB
    have hw1 : W.heap.size ≤ w1.heap.size := (show Below W.drew.heap.size W.drew w1 from hB).size
    have hB1 : Below W.heap.size W w1 := (Below.refl _ _).drew.trans hB
    simp only [List.drop_succ_cons, List.drop_zero]
    clear hv ho hsz hdf hcx
    obtain ⟨v2, w3, hr3, hG⟩ := append_tr 22 hO hT1 (by rw [hlen]; simp; omega) hw1
    have hB3 := hB1.trans (hG.low (N := W.heap.size) (fun g hg => (hO.lt hg).1) hw1)
    obtain ⟨p, c, rfl⟩ : ∃ p c, v2 = .slice p (10 + l) c := by
      obtain ⟨p, c, e⟩ := hG.1.len
      rw [List.length_append, hlen] at e
      exact ⟨p, c, e⟩
    have HO3 := Lib.hid hG.1
    have HB3 := Lib.hid hB3
    clear hO hT1 hw1 hB1 hG hB3 hPd hTd hnum
    go_wp2_with (at_builtin; refine Lib.wpList_append_run _ rfl _ _ _ _ rfl _ _ rfl rfl _ _ hr3 ?_)
    exact hQ _ _ _ _ _ _ _ _ HO3.out HB3.out
/-- A row of numbers that lies in block g. -/
def RowI (g : Nat) (L : List Int) (w : World) : Prop := g < w.heap.size ∧ ∀ i (h : i < L.length), w.cell? ⟨g, i, none⟩ = some (.int .i64 L[i])
theorem RowI.of {B l c : Nat} {p : Option Addr} {L : List Int} {w : World} (h : OwnI B (.slice p l c) L w) (h0 : 0 < L.length) : ∃ g, p = some ⟨g, 0, none⟩ ∧ RowI g L w := by
  rcases h.form with ⟨_, e⟩ | ⟨g, cap, e, h1, h2, h3, h4, h5⟩
  · rw [e] at h0; simp at h0
  · cases e
    exact ⟨g, rfl, h2, h5⟩
theorem RowI.drewN {g : Nat} {L : List Int} {w : World} (h : RowI g L w) (n : Nat) : RowI g L (w.drewN n) := ⟨h.1, h.2⟩
theorem below_drewN {B : Nat} {w0 w : World} (h : Below B w0 w) (n : Nat) : Below B w0 (w.drewN n) := ⟨h.os, h.tape, h.output, h.size, h.block⟩
theorem same_list {n m t r : List Int} (hn : n.length = 10) (hm : m.length = 10) : (n = m ∧ t = r) ↔ n ++ t = m ++ r :=
  ⟨fun h => by rw [h.1, h.2], fun h => List.append_inj h (by rw [hn, hm])⟩
set_option maxRecDepth 100000 in
set_option maxHeartbeats 16000000 in
theorem ref_same_in (x0 x1 x2 x3 x4 x5 x6 x7 x8 x9 y0 y1 y2 y3 y4 y5 y6 y7 y8 y9 : Int) (q p : Option Addr) (l d k c : Nat) (t r : List Int) (ht : t.length = l) (hr : r.length = k) (hl : l ≤ 17592186044400) (hk : k ≤ 17592186044400) (w : World) (hT : Tr (fun _ => False) (.slice q l d) t w) (hR : Tr (fun _ => False) (.slice p k c) r w) :
    Calls Tryd.prog 18 #[.agg #[.int .i64 x0, .int .i64 x1, .int .i64 x2, .int .i64 x3, .int .i64 x4, .int .i64 x5, .int .i64 x6, .int .i64 x7, .int .i64 x8, .int .i64 x9, .slice q l d], .agg #[.int .i64 y0, .int .i64 y1, .int .i64 y2, .int .i64 y3, .int .i64 y4, .int .i64 y5, .int .i64 y6, .int .i64 y7, .int .i64 y8, .int .i64 y9, .slice p k c]] w fun e w' => e = .returned (.bool (decide ([x0, x1, x2, x3, x4, x5, x6, x7, x8, x9] ++ t = [y0, y1, y2, y3, y4, y5, y6, y7, y8, y9] ++ r))) ∧ Below w.heap.size w w' := by
  obtain ⟨A, hA⟩ : ∃ A, w.heap.size = A := ⟨_, rfl⟩
  have hB0 : Below A w ((w.alloc (.cells #[.int .i64 x0, .int .i64 x1, .int .i64 x2, .int .i64 x3, .int .i64 x4, .int .i64 x5, .int .i64 x6, .int .i64 x7, .int .i64 x8, .int .i64 x9, .slice q l d] 33)).alloc (.cells #[.int .i64 y0, .int .i64 y1, .int .i64 y2, .int .i64 y3, .int .i64 y4, .int .i64 y5, .int .i64 y6, .int .i64 y7, .int .i64 y8, .int .i64 y9, .slice p k c] 33)) := ((Below.refl _ _).alloc (by omega) _).alloc (by simp; omega) _
  have HCA : Hid (CellsAt A #[.int .i64 x0, .int .i64 x1, .int .i64 x2, .int .i64 x3, .int .i64 x4, .int .i64 x5, .int .i64 x6, .int .i64 x7, .int .i64 x8, .int .i64 x9, .slice q l d] ((w.alloc (.cells #[.int .i64 x0, .int .i64 x1, .int .i64 x2, .int .i64 x3, .int .i64 x4, .int .i64 x5, .int .i64 x6, .int .i64 x7, .int .i64 x8, .int .i64 x9, .slice q l d] 33)).alloc (.cells #[.int .i64 y0, .int .i64 y1, .int .i64 y2, .int .i64 y3, .int .i64 y4, .int .i64 y5, .int .i64 y6, .int .i64 y7, .int .i64 y8, .int .i64 y9, .slice p k c] 33))) := Lib.hid ((CellsAt.newAt #[.int .i64 x0, .int .i64 x1, .int .i64 x2, .int .i64 x3, .int .i64 x4, .int .i64 x5, .int .i64 x6, .int .i64 x7, .int .i64 x8, .int .i64 x9, .slice q l d] 33 w A hA.symm).past _)
  have HCB : Hid (CellsAt (A + 1) #[.int .i64 y0, .int .i64 y1, .int .i64 y2, .int .i64 y3, .int .i64 y4, .int .i64 y5, .int .i64 y6, .int .i64 y7, .int .i64 y8, .int .i64 y9, .slice p k c] ((w.alloc (.cells #[.int .i64 x0, .int .i64 x1, .int .i64 x2, .int .i64 x3, .int .i64 x4, .int .i64 x5, .int .i64 x6, .int .i64 x7, .int .i64 x8, .int .i64 x9, .slice q l d] 33)).alloc (.cells #[.int .i64 y0, .int .i64 y1, .int .i64 y2, .int .i64 y3, .int .i64 y4, .int .i64 y5, .int .i64 y6, .int .i64 y7, .int .i64 y8, .int .i64 y9, .slice p k c] 33))) := Lib.hid (CellsAt.newAt #[.int .i64 y0, .int .i64 y1, .int .i64 y2, .int .i64 y3, .int .i64 y4, .int .i64 y5, .int .i64 y6, .int .i64 y7, .int .i64 y8, .int .i64 y9, .slice p k c] 33 _ _ (by simp [hA]))
  have hB0' : Below w.heap.size w ((w.alloc (.cells #[.int .i64 x0, .int .i64 x1, .int .i64 x2, .int .i64 x3, .int .i64 x4, .int .i64 x5, .int .i64 x6, .int .i64 x7, .int .i64 x8, .int .i64 x9, .slice q l d] 33)).alloc (.cells #[.int .i64 y0, .int .i64 y1, .int .i64 y2, .int .i64 y3, .int .i64 y4, .int .i64 y5, .int .i64 y6, .int .i64 y7, .int .i64 y8, .int .i64 y9, .slice p k c] 33)) := by rw [hA]; exact hB0
  have HT := Lib.hid (hT.below hB0')
  have HR := Lib.hid (hR.below hB0')
  have HB := Lib.hid hB0
  have hs0 : ((w.alloc (.cells #[.int .i64 x0, .int .i64 x1, .int .i64 x2, .int .i64 x3, .int .i64 x4, .int .i64 x5, .int .i64 x6, .int .i64 x7, .int .i64 x8, .int .i64 x9, .slice q l d] 33)).alloc (.cells #[.int .i64 y0, .int .i64 y1, .int .i64 y2, .int .i64 y3, .int .i64 y4, .int .i64 y5, .int .i64 y6, .int .i64 y7, .int .i64 y8, .int .i64 y9, .slice p k c] 33)).heap.size = A + 2 := by simp [hA]
  clear hT hR hB0 hB0'
  obtain ⟨D, hD⟩ : ∃ D, decide ([x0, x1, x2, x3, x4, x5, x6, x7, x8, x9] ++ t = [y0, y1, y2, y3, y4, y5, y6, y7, y8, y9] ++ r) = D := ⟨_, rfl⟩
  rw [hD]
  have HD := Lib.hid hD
  clear hD
  rw [hA]
  go_enter Tryd.func18, Tryd.ntmps18
  go_upto_region 1 with fail
  clear hA
  generalize (w.alloc (.cells #[.int .i64 x0, .int .i64 x1, .int .i64 x2, .int .i64 x3, .int .i64 x4, .int .i64 x5, .int .i64 x6, .int .i64 x7, .int .i64 x8, .int .i64 x9, .slice q l d] 33)).alloc (.cells #[.int .i64 y0, .int .i64 y1, .int .i64 y2, .int .i64 y3, .int .i64 y4, .int .i64 y5, .int .i64 y6, .int .i64 y7, .int .i64 y8, .int .i64 y9, .slice p k c] 33) = W0 at *
  refine sam_a _ (by kernel_rfl) _ W0 A (A + 1) x0 x1 x2 x3 x4 x5 x6 x7 x8 x9 q l d t ht hl HCA.out HT.out _ _ _ _ _ _ _ _ _ _ _ _ _ _ _ _ _ _ _ _ _ _ _ _ _ _ _ _ _ _ _ _ _ _ _ ?_
  intro W1 p1 c1 z8 z9 z10 z11 z12 hO1 hB1
  rename_i K hK
  refine hK _ _ ?_
  clear hK
  have HO1 := Lib.hid hO1
  have HB1 := Lib.hid (HB.out.trans (hB1.mono (by omega)))
  have HCB1 := Lib.hid (HCB.out.below hB1)
  have HR1 := Lib.hid (HR.out.below hB1)
  clear hO1 hB1 HCA HCB HT HR HB hs0
  go_upto_region 2 with fail
  refine sam_b _ (by kernel_rfl) _ W1 A (A + 1) y0 y1 y2 y3 y4 y5 y6 y7 y8 y9 p k c r hr hk HCB1.out HR1.out _ _ _ _ _ _ _ _ _ _ _ _ _ _ _ _ _ _ _ _ _ _ _ _ _ _ _ _ _ _ _ _ _ _ _ ?_
  intro W2 p2 c2 z13 z14 z15 z16 z17 hO2 hB2
  rename_i K2 hK2
  refine hK2 _ _ ?_
  clear hK2
  have HO2 := Lib.hid hO2
  have HO1b := Lib.hid (HO1.out.below hB2)
  have HB2 := Lib.hid (HB1.out.trans (hB2.mono (by have := HCB1.out.lt; omega)))
  clear hO2 hB2 HCB1 HR1 HB1 HO1
  obtain ⟨L1, hL1⟩ : ∃ L, [x0, x1, x2, x3, x4, x5, x6, x7, x8, x9] ++ t = L := ⟨_, rfl⟩
  obtain ⟨L2, hL2⟩ : ∃ L, [y0, y1, y2, y3, y4, y5, y6, y7, y8, y9] ++ r = L := ⟨_, rfl⟩
  have hz1 : L1.length = 10 + l := by rw [← hL1, List.length_append, ht]; rfl
  have hz2 : L2.length = 10 + k := by rw [← hL2, List.length_append, hr]; rfl
  rw [hL1] at HO1b HD
  rw [hL2] at HO2 HD
  obtain ⟨g1, rfl, hrow1⟩ := RowI.of HO1b.out (by omega)
  obtain ⟨g2, rfl, hrow2⟩ := RowI.of HO2.out (by omega)
  have HX := Lib.hid hrow1
  have HY := Lib.hid hrow2
  obtain ⟨a, ha⟩ : ∃ a, 10 + l = a := ⟨_, rfl⟩
  obtain ⟨b, hb⟩ : ∃ a, 10 + k = a := ⟨_, rfl⟩
  rw [ha] at hz1
  rw [hb] at hz2
  rw [ha, hb]
  have hab : a ≤ 17592186044410 ∧ b ≤ 17592186044410 := by omega
  have HZ1 := Lib.hid hz1
  have HZ2 := Lib.hid hz2
  clear ha hb hz1 hz2 hL1 hL2 ht hr hl hk hrow1 hrow2 HO1b HO2
  by_cases hne : a = b
  rotate_left
  · have hni : ((a : Int) != (b : Int)) = true := by simp; omega
    have hni2 : ¬ (a : Int) = (b : Int) := by omega
    have HDF : Hid (D = false) := Lib.hid (by
      rw [← HD.out, decide_eq_false]
      intro e
      have := congrArg List.length e
      rw [HZ1.out, HZ2.out] at this
      exact hne this)
    clear hne
    go_wp2
    go_ret
    exact ⟨by rw [HDF.out]; rfl, HB2.out⟩
  · subst hne
    go_wp2
    go_loopg [7] a (fun g s7 wx => ∃ i : Nat, s7 = .int .i64 (i : Int) ∧ i + g = a ∧ Hid (L1.take i = L2.take i) ∧ Hid (RowI g1 L1 wx) ∧ Hid (RowI g2 L2 wx) ∧ Hid (Below A w wx))
    case atStart => exact ⟨0, rfl, by omega, Lib.hid rfl, HX, HY, HB2⟩
    case round =>
      clear HX HY HB2
      obtain ⟨i, rfl, hig, HE, HX, HY, HB⟩ := hrel
      cases gk with
      | zero =>
        obtain rfl : i = a := by omega
        have HDT : Hid (D = true) := Lib.hid (by
          rw [← HD.out, decide_eq_true]
          have := HE.out
          rwa [List.take_of_length_le (by rw [HZ1.out]; exact Nat.le_refl _), List.take_of_length_le (by rw [HZ2.out]; exact Nat.le_refl _)] at this)
        go_wp2
        go_ret
        exact ⟨by rw [HDT.out]; rfl, HB.out⟩
      | succ g =>
        have hi1 : i < L1.length := by rw [HZ1.out]; omega
        have hi2 : i < L2.length := by rw [HZ2.out]; omega
        have c1 := HX.out.2 i hi1
        have c2 := HY.out.2 i hi2
        have e1 := HX.out.1
        have e2 := HY.out.1
        have HT1 := Lib.hid (List.take_succ_eq_append_getElem hi1)
        have HT2 := Lib.hid (List.take_succ_eq_append_getElem hi2)
        have HG1 := Lib.hid (List.getElem?_eq_getElem hi1)
        have HG2 := Lib.hid (List.getElem?_eq_getElem hi2)
        generalize L1[i] = x at c1 HT1 HG1
        generalize L2[i] = y at c2 HT2 HG2
        have hia : i < a := by omega
        clear hi1 hi2
        by_cases hxy : x = y
        · subst hxy
          have HE2 : Hid (L1.take (i + 1) = L2.take (i + 1)) := Lib.hid (by rw [HT1.out, HT2.out, HE.out])
          clear HT1 HT2 HG1 HG2 HE
          go_wp2
          go_quiet (fail)
          have HX2 := Lib.hid (HX.out.drewN nq)
          have HY2 := Lib.hid (HY.out.drewN nq)
          have HB3 := Lib.hid (below_drewN HB.out nq)
          clear c1 c2 e1 e2 HX HY HB
          generalize wr.drewN nq = W5 at *
          go_wp2
          go_roundg g
          case measure => omega
          case rel => exact ⟨i + 1, by go_num, by omega, HE2, HX2, HY2, HB3⟩
        · have hxn : (x != y) = true := by simpa using hxy
          have HDF : Hid (D = false) := Lib.hid (by
            rw [← HD.out, decide_eq_false]
            intro e
            rw [e] at HG1
            have := HG1.out.symm.trans HG2.out
            exact hxy (by simpa using this))
          clear HT1 HT2 HG1 HG2 HE
          go_wp2
          go_quiet (fail)
          have HB3 := Lib.hid (below_drewN HB.out nq)
          clear c1 c2 e1 e2 HX HY HB
          generalize wr.drewN nq = W5 at *
          go_wp2
          go_ret
          exact ⟨by rw [HDF.out]; rfl, HB3.out⟩
theorem ref_same (n m t r : List Int) (q p : Option Addr) (d c : Nat) (hn : n.length = 10) (hm : m.length = 10) (hl : t.length ≤ 17592186044400) (hk : r.length ≤ 17592186044400) (w : World) (hT : Tr (fun _ => False) (.slice q t.length d) t w) (hR : Tr (fun _ => False) (.slice p r.length c) r w) :
    Calls Tryd.prog 18 #[.agg (valsP n (.slice q t.length d)), .agg (valsP m (.slice p r.length c))] w fun e w' => e = .returned (.bool (decide (n = m ∧ t = r))) ∧ Below w.heap.size w w' := by
  have h := same_list (t := t) (r := r) hn hm
  obtain ⟨x0, x1, x2, x3, x4, x5, x6, x7, x8, x9, rfl⟩ := ten_of hn
  obtain ⟨y0, y1, y2, y3, y4, y5, y6, y7, y8, y9, rfl⟩ := ten_of hm
  rw [show decide ([x0, x1, x2, x3, x4, x5, x6, x7, x8, x9] = [y0, y1, y2, y3, y4, y5, y6, y7, y8, y9] ∧ t = r) = decide ([x0, x1, x2, x3, x4, x5, x6, x7, x8, x9] ++ t = [y0, y1, y2, y3, y4, y5, y6, y7, y8, y9] ++ r) from by simp only [h]]
  exact ref_same_in x0 x1 x2 x3 x4 x5 x6 x7 x8 x9 y0 y1 y2 y3 y4 y5 y6 y7 y8 y9 q p t.length d r.length c t r rfl rfl hl hk w hT hR
end Go.Proofs.YtdhkonaebhpeeaaDoor.Po

namespace Go.Proofs.YtdhkonaebhpeeaaDoor.Po
open Go Go.RowKit

def prevO (t : List Int) (k : Nat) : Option Int := if k = 0 then none else some (t.getD (k - 1) 0)
theorem prevO_succ {t : List Int} {k : Nat} (h : k < t.length) : prevO t (k + 1) = some t[k] := by
  unfold prevO
  rw [if_neg (by omega), Nat.add_sub_cancel, List.getD_eq_getElem?_getD, List.getElem?_eq_getElem h]
  rfl
theorem tiers_step {t : List Int} {k : Nat} (h : k < t.length) : tiersZ (prevO t k) (t.drop k) = (inZ t[k] 1 1000000000 && (match prevO t k with | none => true | some y => decide (y < t[k]) && decide (t[k] % y = 0)) && tiersZ (prevO t (k + 1)) (t.drop (k + 1))) := by
  rw [List.drop_eq_getElem_cons h, prevO_succ h]
  cases prevO t k <;> rfl
theorem tiers_last {t : List Int} {k : Nat} (h : t.length ≤ k) : tiersZ (prevO t k) (t.drop k) = true := by
  rw [List.drop_of_length_le h]
  cases prevO t k <;> rfl
theorem in_true {x a b : Int} (h : inZ x a b = true) : a ≤ x ∧ x ≤ b := by
  unfold inZ at h
  simpa using h
set_option maxRecDepth 100000 in
set_option maxHeartbeats 16000000 in
theorem ref_right_in (x0 x1 x2 x3 x4 x5 x6 x7 x8 x9 : Int) (q : Option Addr) (l d : Nat) (t : List Int) (ht : t.length = l) (w : World) (hl : l ≤ 9223372036854775807) (hT : Tr (fun _ => False) (.slice q l d) t w) :
    Calls Tryd.prog 16 #[.agg #[.int .i64 x0, .int .i64 x1, .int .i64 x2, .int .i64 x3, .int .i64 x4, .int .i64 x5, .int .i64 x6, .int .i64 x7, .int .i64 x8, .int .i64 x9, .slice q l d]] w fun e w' => e = .returned (.bool (rightZ [x0, x1, x2, x3, x4, x5, x6, x7, x8, x9] t)) ∧ Below w.heap.size w w' := by
  obtain ⟨N, hN⟩ : ∃ N, w.heap.size = N := ⟨_, rfl⟩
  have hB0 : Below w.heap.size w (w.alloc (.cells #[.int .i64 x0, .int .i64 x1, .int .i64 x2, .int .i64 x3, .int .i64 x4, .int .i64 x5, .int .i64 x6, .int .i64 x7, .int .i64 x8, .int .i64 x9, .slice q l d] 33)) := (Below.refl _ _).alloc (Nat.le_refl _) _
  have HP0 : Hid (CellsAt N #[.int .i64 x0, .int .i64 x1, .int .i64 x2, .int .i64 x3, .int .i64 x4, .int .i64 x5, .int .i64 x6, .int .i64 x7, .int .i64 x8, .int .i64 x9, .slice q l d] (w.alloc (.cells #[.int .i64 x0, .int .i64 x1, .int .i64 x2, .int .i64 x3, .int .i64 x4, .int .i64 x5, .int .i64 x6, .int .i64 x7, .int .i64 x8, .int .i64 x9, .slice q l d] 33))) := Lib.hid (CellsAt.newAt #[.int .i64 x0, .int .i64 x1, .int .i64 x2, .int .i64 x3, .int .i64 x4, .int .i64 x5, .int .i64 x6, .int .i64 x7, .int .i64 x8, .int .i64 x9, .slice q l d] 33 w N hN.symm)
  have HT0 := Lib.hid (hT.below hB0)
  have HB0 := Lib.hid hB0
  obtain ⟨R, hR⟩ : ∃ R, rightZ [x0, x1, x2, x3, x4, x5, x6, x7, x8, x9] t = R := ⟨_, rfl⟩
  have HR : Hid (R = (tiersZ none t && (decide (1 ≤ l) && decide (l ≤ 3)) && boundZ [x0, x1, x2, x3, x4, x5, x6, x7, x8, x9])) := Lib.hid (by rw [← hR, ← ht]; rfl)
  rw [hR]
  have HLT := Lib.hid ht
  clear hT hB0 hR ht
  go_enter Tryd.func16, Tryd.ntmps16
  go_wp2
  clear hN
  go_loopg [3] l (fun g s3 wx => ∃ k : Nat, s3 = .int .i64 (k : Int) ∧ k + g = l ∧ Hid (tiersZ none t = tiersZ (prevO t k) (t.drop k)) ∧ Hid (0 < k → 1 ≤ t.getD (k - 1) 0 ∧ t.getD (k - 1) 0 ≤ 1000000000) ∧ Hid (CellsAt N #[.int .i64 x0, .int .i64 x1, .int .i64 x2, .int .i64 x3, .int .i64 x4, .int .i64 x5, .int .i64 x6, .int .i64 x7, .int .i64 x8, .int .i64 x9, .slice q l d] wx) ∧ Hid (Tr (fun _ => False) (.slice q l d) t wx) ∧ Hid (Below w.heap.size w wx))
  case atStart => exact ⟨0, rfl, by omega, Lib.hid rfl, Lib.hid (fun h => absurd h (by omega)), HP0, HT0, HB0⟩
  case round =>
    clear HP0 HT0 HB0
    obtain ⟨k, rfl, hkg, HZ, HY, HP, HT, HB⟩ := hrel
    have k10 := HP.out.cell 10 _ rfl
    have kl := HP.out.lt
    simp only [List.getElem_toArray, List.getElem_cons_zero, List.getElem_cons_succ] at k10
    cases gk with
    | succ g =>
      have hkl : k < t.length := by rw [HLT.out]; omega
      obtain ⟨C, off, rfl, hC, hcell⟩ := HT.out.at.2.2.2.2 k hkl
      have HTS := Lib.hid (tiers_step hkl)
      have HPS := Lib.hid (prevO_succ hkl)
      have HGD : Hid (t.getD k 0 = t[k]) := Lib.hid (by rw [List.getD_eq_getElem?_getD, List.getElem?_eq_getElem hkl]; rfl)
      obtain ⟨x, hx⟩ : ∃ x, t[k] = x := ⟨_, rfl⟩
      rw [hx] at hcell HTS HPS HGD
      have hki : (k : Int) < (l : Int) := by omega
      have hk0 : (0 : Int) ≤ (k : Int) := by omega
      cases hbx : inZ x 1 1000000000 with
      | false =>
        have HF : Hid (R = false) := Lib.hid (by rw [HR.out, HZ.out, HTS.out, hbx]; simp)
        clear hx hkl
        go_upto_region 4 with fail
        refine r4_a _ (by kernel_rfl) _ wr N C off k l d x hl kl k10 hC hcell hk0 hki hbx _ _ _ _ _ _ _ _ _ _ _ _ _ _ _ _ _ _ _ _ _ _ _ _ _ _ _ _ _ _ _ _ _ _ _ _ _ _ _ _ _ _ _ _ _ _ _ _ _ _ _ _ _ _ _ _ _ _ _ _ _ _ _ _ _ _ _ _ _ _ _ _ _ _ _ _ _ _ _ _ _ _ _ _ _ _ _ _ _ _ _ _ _ _ _ _ _ _ _ _ _ _ _ _ _ _ _ _ _ _ _ _ _ _ _ _ _ _ _ _ _ _ _ _ _ ?_
        intro W2 z12 z13 z14 z15 z16 z17 z18 z19 z20 z21 z22 z23 z24 z25 z26 z27 z28 z29 z30 z31 z32 z33 z34 z35 z36 z37 z38 z39 z40 z41 z42 z43 z44 z45 z46 z47 z48 z49 z50 hBW
        rename_i K hK
        refine hK _ _ ?_
        clear hK k10 kl
        have HB2 := Lib.hid (HB.out.trans (hBW.mono HB.out.size))
        clear hBW
        go_wp2
        go_ret
        exact ⟨by rw [HF.out]; rfl, HB2.out⟩
      | true =>
        have hxr := in_true hbx
        have HX1 := Lib.hid hxr
        by_cases hk : k = 0
        · subst hk
          have HN : Hid (tiersZ none t = tiersZ (prevO t (0 + 1)) (t.drop (0 + 1))) := Lib.hid (by rw [HZ.out, HTS.out, hbx]; rfl)
          have HY2 : Hid (0 < 0 + 1 → 1 ≤ t.getD (0 + 1 - 1) 0 ∧ t.getD (0 + 1 - 1) 0 ≤ 1000000000) := Lib.hid (fun _ => by show 1 ≤ t.getD 0 0 ∧ t.getD 0 0 ≤ _; rw [HGD.out]; exact HX1.out)
          clear hx hkl hxr
          go_upto_region 4 with fail
          refine r4_b _ (by kernel_rfl) _ wr N C off 0 l d x hl kl k10 hC hcell hk0 hki hbx (by omega) _ _ _ _ _ _ _ _ _ _ _ _ _ _ _ _ _ _ _ _ _ _ _ _ _ _ _ _ _ _ _ _ _ _ _ _ _ _ _ _ _ _ _ _ _ _ _ _ _ _ _ _ _ _ _ _ _ _ _ _ _ _ _ _ _ _ _ _ _ _ _ _ _ _ _ _ _ _ _ _ _ _ _ _ _ _ _ _ _ _ _ _ _ _ _ _ _ _ _ _ _ _ _ _ _ _ _ _ _ _ _ _ _ _ _ _ _ _ _ _ _ _ _ _ _ ?_
          intro W2 z12 z13 z14 z15 z16 z17 z18 z19 z20 z21 z22 z23 z24 z25 z26 z27 z28 z29 z30 z31 z32 z33 z34 z35 z36 z37 z38 z39 z40 z41 z42 z43 z44 z45 z46 z47 z48 z49 z50 hBW
          rename_i K hK
          refine hK _ _ ?_
          clear hK k10 kl
          have HB2 := Lib.hid (HB.out.trans (hBW.mono HB.out.size))
          have HP2 := Lib.hid (HP.out.below hBW)
          have HT2 := Lib.hid (HT.out.below hBW)
          clear hBW HB HP HT
          go_wp2
          go_roundg g
          case measure => omega
          case rel => exact ⟨0 + 1, by go_num, by omega, HN, HY2, HP2, HT2, HB2⟩
        · obtain ⟨j, hj⟩ : ∃ j, k = j + 1 := ⟨k - 1, by omega⟩
          have hjl : j < t.length := by omega
          obtain ⟨C2, off2, e2, hC2, hcell2⟩ := HT.out.at.2.2.2.2 j hjl
          obtain ⟨rfl, rfl⟩ : C = C2 ∧ off = off2 := by injection e2 with e2; injection e2 with e3 e4; exact ⟨e3, e4⟩
          clear e2
          have hgy : t.getD (k - 1) 0 = t[j] := by rw [hj, Nat.add_sub_cancel, List.getD_eq_getElem?_getD, List.getElem?_eq_getElem hjl]; rfl
          have HPY : Hid (prevO t k = some t[j]) := Lib.hid (by unfold prevO; rw [if_neg hk, hgy])
          have hyr := HY.out (by omega)
          rw [hgy] at hyr
          obtain ⟨y, hy⟩ : ∃ y, t[j] = y := ⟨_, rfl⟩
          rw [hy] at hcell2 HPY hyr
          have hkj : (k : Int) - 1 = (j : Int) := by omega
          have hji : (j : Int) < (l : Int) := by omega
          have hk1 : (0 : Int) < (k : Int) := by omega
          have hy0 : ¬ y = 0 := by omega
          have HY2 : Hid (0 < k + 1 → 1 ≤ t.getD (k + 1 - 1) 0 ∧ t.getD (k + 1 - 1) 0 ≤ 1000000000) := Lib.hid (fun _ => by show 1 ≤ t.getD k 0 ∧ t.getD k 0 ≤ _; rw [HGD.out]; exact HX1.out)
          obtain ⟨r, hr⟩ : ∃ r, x % y = r := ⟨_, rfl⟩
          have hr2 : x.tmod y = r := by rw [Int.tmod_eq_emod_of_nonneg (by omega)]; exact hr
          have hr0 : 0 ≤ r ∧ r < 1000000000 := by
            have h1 := Int.emod_nonneg x hy0
            have h2 := Int.emod_lt_of_pos x (show 0 < y by omega)
            omega
          have HC1 : Hid (¬ y < x → R = false) := Lib.hid (fun h => by rw [HR.out, HZ.out, HTS.out, hbx, HPY.out]; simp only [decide_eq_false h]; simp)
          have HC2 : Hid (¬ r = 0 → R = false) := Lib.hid (fun h => by rw [HR.out, HZ.out, HTS.out, hbx, HPY.out]; simp only [hr, decide_eq_false h]; simp)
          have HC3 : Hid (y < x → r = 0 → tiersZ none t = tiersZ (prevO t (k + 1)) (t.drop (k + 1))) := Lib.hid (fun h1 h2 => by rw [HZ.out, HTS.out, hbx, HPY.out]; simp only [hr, decide_eq_true h1, decide_eq_true h2]; rfl)
          clear hx hkl hxr hj hjl hgy hy hk
          by_cases hxy : y < x
          · have hxy2 : ¬ x ≤ y := by omega
            have hxy3 : (x ≤ y) = False := eq_false hxy2
            by_cases hrz : r = 0
            · subst hrz
              have HN := Lib.hid (HC3.out hxy rfl)
              clear HC1 HC2 HC3
              go_upto_region 4 with fail
              refine r4_e _ (by kernel_rfl) _ wr N C off k l d x hl kl k10 hC hcell hk0 hki hbx y j hcell2 hk1 hkj hji hxy2 0 hr hr2 hy0 hr0 rfl _ _ _ _ _ _ _ _ _ _ _ _ _ _ _ _ _ _ _ _ _ _ _ _ _ _ _ _ _ _ _ _ _ _ _ _ _ _ _ _ _ _ _ _ _ _ _ _ _ _ _ _ _ _ _ _ _ _ _ _ _ _ _ _ _ _ _ _ _ _ _ _ _ _ _ _ _ _ _ _ _ _ _ _ _ _ _ _ _ _ _ _ _ _ _ _ _ _ _ _ _ _ _ _ _ _ _ _ _ _ _ _ _ _ _ _ _ _ _ _ _ _ _ _ _ ?_
              intro W2 z12 z13 z14 z15 z16 z17 z18 z19 z20 z21 z22 z23 z24 z25 z26 z27 z28 z29 z30 z31 z32 z33 z34 z35 z36 z37 z38 z39 z40 z41 z42 z43 z44 z45 z46 z47 z48 z49 z50 hBW
              rename_i K hK
              refine hK _ _ ?_
              clear hK k10 kl
              have HB2 := Lib.hid (HB.out.trans (hBW.mono HB.out.size))
              have HP2 := Lib.hid (HP.out.below hBW)
              have HT2 := Lib.hid (HT.out.below hBW)
              clear hBW HB HP HT hr hr2 hy0 hyr hxy hxy2 hxy3 hkj
              go_wp2
              go_roundg g
              case measure => omega
              case rel => exact ⟨k + 1, by go_num, by omega, HN, HY2, HP2, HT2, HB2⟩
            · have HF := Lib.hid (HC2.out hrz)
              have hrz2 : (r != 0) = true := by simpa using hrz
              clear HC1 HC2 HC3
              go_upto_region 4 with fail
              refine r4_d _ (by kernel_rfl) _ wr N C off k l d x hl kl k10 hC hcell hk0 hki hbx y j hcell2 hk1 hkj hji hxy2 r hr hr2 hy0 hr0 hrz2 _ _ _ _ _ _ _ _ _ _ _ _ _ _ _ _ _ _ _ _ _ _ _ _ _ _ _ _ _ _ _ _ _ _ _ _ _ _ _ _ _ _ _ _ _ _ _ _ _ _ _ _ _ _ _ _ _ _ _ _ _ _ _ _ _ _ _ _ _ _ _ _ _ _ _ _ _ _ _ _ _ _ _ _ _ _ _ _ _ _ _ _ _ _ _ _ _ _ _ _ _ _ _ _ _ _ _ _ _ _ _ _ _ _ _ _ _ _ _ _ _ _ _ _ _ ?_
              intro W2 z12 z13 z14 z15 z16 z17 z18 z19 z20 z21 z22 z23 z24 z25 z26 z27 z28 z29 z30 z31 z32 z33 z34 z35 z36 z37 z38 z39 z40 z41 z42 z43 z44 z45 z46 z47 z48 z49 z50 hBW
              rename_i K hK
              refine hK _ _ ?_
              clear hK k10 kl
              have HB2 := Lib.hid (HB.out.trans (hBW.mono HB.out.size))
              clear hBW hr hr2
              go_wp2
              go_ret
              exact ⟨by rw [HF.out]; rfl, HB2.out⟩
          · have HF := Lib.hid (HC1.out hxy)
            have hxy2 : x ≤ y := by omega
            clear HC1 HC2 HC3
            go_upto_region 4 with fail
            refine r4_c _ (by kernel_rfl) _ wr N C off k l d x hl kl k10 hC hcell hk0 hki hbx y j hcell2 hk1 hkj hji hxy2 _ _ _ _ _ _ _ _ _ _ _ _ _ _ _ _ _ _ _ _ _ _ _ _ _ _ _ _ _ _ _ _ _ _ _ _ _ _ _ _ _ _ _ _ _ _ _ _ _ _ _ _ _ _ _ _ _ _ _ _ _ _ _ _ _ _ _ _ _ _ _ _ _ _ _ _ _ _ _ _ _ _ _ _ _ _ _ _ _ _ _ _ _ _ _ _ _ _ _ _ _ _ _ _ _ _ _ _ _ _ _ _ _ _ _ _ _ _ _ _ _ _ _ _ _ ?_
            intro W2 z12 z13 z14 z15 z16 z17 z18 z19 z20 z21 z22 z23 z24 z25 z26 z27 z28 z29 z30 z31 z32 z33 z34 z35 z36 z37 z38 z39 z40 z41 z42 z43 z44 z45 z46 z47 z48 z49 z50 hBW
            rename_i K hK
            refine hK _ _ ?_
            clear hK k10 kl
            have HB2 := Lib.hid (HB.out.trans (hBW.mono HB.out.size))
            clear hBW hr hr2
            go_wp2
            go_ret
            exact ⟨by rw [HF.out]; rfl, HB2.out⟩
    | zero =>
      obtain rfl : k = l := by omega
      have HF0 : Hid (R = ((decide (1 ≤ k) && decide (k ≤ 3)) && boundZ [x0, x1, x2, x3, x4, x5, x6, x7, x8, x9])) := Lib.hid (by rw [HR.out, HZ.out, tiers_last (by rw [HLT.out]; exact Nat.le_refl _), Bool.true_and])
      have hnum : Calls Tryd.prog 32 #[.agg #[.int .i64 x0, .int .i64 x1, .int .i64 x2, .int .i64 x3, .int .i64 x4, .int .i64 x5, .int .i64 x6, .int .i64 x7, .int .i64 x8, .int .i64 x9, .slice q k d]] wr fun e w' => ∃ g, e = .returned (.slice (some ⟨g, 0, none⟩) 10 10) ∧ OwnI wr.heap.size (.slice (some ⟨g, 0, none⟩) 10 10) [x0, x1, x2, x3, x4, x5, x6, x7, x8, x9] w' ∧ Below wr.heap.size wr w' := refnumbers_any [x0, x1, x2, x3, x4, x5, x6, x7, x8, x9] q k d wr rfl
      have k0 := HP.out.cell 0 _ rfl
      have k1 := HP.out.cell 1 _ rfl
      have k2 := HP.out.cell 2 _ rfl
      have k3 := HP.out.cell 3 _ rfl
      have k4 := HP.out.cell 4 _ rfl
      have k5 := HP.out.cell 5 _ rfl
      have k6 := HP.out.cell 6 _ rfl
      have k7 := HP.out.cell 7 _ rfl
      have k8 := HP.out.cell 8 _ rfl
      have k9 := HP.out.cell 9 _ rfl
      simp only [List.getElem_toArray, List.getElem_cons_zero, List.getElem_cons_succ] at k0 k1 k2 k3 k4 k5 k6 k7 k8 k9
      go_wp2_with fail
      refine hnum.mono ?_
      rintro e w1 ⟨g, rfl, hO, hB1⟩
      have HB1 := Lib.hid (HB.out.trans (hB1.mono HB.out.size))
      replace HP := Lib.hid (HP.out.below hB1)
      obtain ⟨g', e, hrow⟩ := RowI.of hO (by simp)
      obtain rfl : g = g' := by injection e with e; injection e
      clear e hnum hB1 HB hO HT HZ HY kl k0 k1 k2 k3 k4 k5 k6 k7 k8 k9 k10
      have ROW : Hid (∀ i (h : i < 10), w1.cell? ⟨g, i, none⟩ = some (.int .i64 ([x0, x1, x2, x3, x4, x5, x6, x7, x8, x9].getD i 0))) := Lib.hid (fun i h => by
        have hi' : i < [x0, x1, x2, x3, x4, x5, x6, x7, x8, x9].length := h
        rw [hrow.2 i hi', List.getD_eq_getElem?_getD, List.getElem?_eq_getElem hi']
        rfl)
      have rl := hrow.1
      clear hrow
      go_upto_region 7 with fail
      rcases (show k < 1 ∨ 3 < k ∨ (1 ≤ k ∧ k ≤ 3) by omega) with h | h | ⟨h, h2⟩
      · have HF : Hid (R = false) := Lib.hid (by rw [HF0.out, decide_eq_false (show ¬ 1 ≤ k by omega)]; simp)
        refine r7_lo _ (by kernel_rfl) _ w1 N g x0 x1 x2 x3 x4 x5 x6 x7 x8 x9 q k d hl HP.out.lt (HP.out.cell 10 _ rfl) rl (ROW.out 0 (by omega)) (ROW.out 1 (by omega)) (ROW.out 2 (by omega)) (ROW.out 3 (by omega)) (ROW.out 4 (by omega)) (ROW.out 5 (by omega)) (ROW.out 6 (by omega)) (ROW.out 7 (by omega)) (ROW.out 8 (by omega)) (ROW.out 9 (by omega)) (by omega) _ _ _ _ _ _ _ _ _ _ _ _ _ _ _ _ _ _ _ _ _ _ _ _ _ _ _ _ _ _ _ _ _ _ _ _ _ _ _ _ _ _ _ _ _ _ _ _ _ _ _ _ _ _ _ _ _ _ _ _ _ _ _ _ _ _ _ _ _ _ _ _ _ _ _ _ _ _ _ _ _ _ _ _ _ _ _ _ _ _ _ _ _ _ _ _ _ _ _ _ _ _ _ _ _ _ _ _ _ _ _ _ _ _ _ _ _ _ _ _ _ _ _ _ _ ?_
        intro W2 z54 z55 z56 z57 z58 z59 z60 z61 z62 z63 z64 z65 z66 z67 z68 z69 z70 z71 z72 z73 z74 z75 z76 z77 z78 z79 z80 z81 z82 z83 z84 z85 z86 z87 z88 z89 z90 z91 z92 z93 z94 z95 z96 z97 z98 z99 z100 z101 z102 z103 z104 z105 z106 z107 z108 z109 z110 z111 z112 z113 z114 z115 z116 z117 z118 z119 z120 z121 z122 z123 z124 z125 z126 hBW
        rename_i K hK
        refine hK _ _ ?_
        have HB2 := Lib.hid (HB1.out.trans (hBW.mono HB1.out.size))
        clear hK hBW
        go_wp2
        go_ret
        exact ⟨by rw [HF.out]; rfl, HB2.out⟩
      · have HF : Hid (R = false) := Lib.hid (by rw [HF0.out, decide_eq_false (show ¬ k ≤ 3 by omega)]; simp)
        refine r7_hi _ (by kernel_rfl) _ w1 N g x0 x1 x2 x3 x4 x5 x6 x7 x8 x9 q k d hl HP.out.lt (HP.out.cell 10 _ rfl) rl (ROW.out 0 (by omega)) (ROW.out 1 (by omega)) (ROW.out 2 (by omega)) (ROW.out 3 (by omega)) (ROW.out 4 (by omega)) (ROW.out 5 (by omega)) (ROW.out 6 (by omega)) (ROW.out 7 (by omega)) (ROW.out 8 (by omega)) (ROW.out 9 (by omega)) (by omega) (by omega) _ _ _ _ _ _ _ _ _ _ _ _ _ _ _ _ _ _ _ _ _ _ _ _ _ _ _ _ _ _ _ _ _ _ _ _ _ _ _ _ _ _ _ _ _ _ _ _ _ _ _ _ _ _ _ _ _ _ _ _ _ _ _ _ _ _ _ _ _ _ _ _ _ _ _ _ _ _ _ _ _ _ _ _ _ _ _ _ _ _ _ _ _ _ _ _ _ _ _ _ _ _ _ _ _ _ _ _ _ _ _ _ _ _ _ _ _ _ _ _ _ _ _ _ _ ?_
        intro W2 z54 z55 z56 z57 z58 z59 z60 z61 z62 z63 z64 z65 z66 z67 z68 z69 z70 z71 z72 z73 z74 z75 z76 z77 z78 z79 z80 z81 z82 z83 z84 z85 z86 z87 z88 z89 z90 z91 z92 z93 z94 z95 z96 z97 z98 z99 z100 z101 z102 z103 z104 z105 z106 z107 z108 z109 z110 z111 z112 z113 z114 z115 z116 z117 z118 z119 z120 z121 z122 z123 z124 z125 z126 hBW
        rename_i K hK
        refine hK _ _ ?_
        have HB2 := Lib.hid (HB1.out.trans (hBW.mono HB1.out.size))
        clear hK hBW
        go_wp2
        go_ret
        exact ⟨by rw [HF.out]; rfl, HB2.out⟩
      · rw [decide_eq_true h, decide_eq_true h2] at HF0
        cases hb0 : inZ x0 1 256 with
        | false =>
          have HF : Hid (R = false) := Lib.hid (by rw [HF0.out]; unfold boundZ; simp only [hb0]; simp)
          refine r7_0 _ (by kernel_rfl) _ w1 N g x0 x1 x2 x3 x4 x5 x6 x7 x8 x9 q k d hl HP.out.lt (HP.out.cell 10 _ rfl) rl (ROW.out 0 (by omega)) (ROW.out 1 (by omega)) (ROW.out 2 (by omega)) (ROW.out 3 (by omega)) (ROW.out 4 (by omega)) (ROW.out 5 (by omega)) (ROW.out 6 (by omega)) (ROW.out 7 (by omega)) (ROW.out 8 (by omega)) (ROW.out 9 (by omega)) (by omega) (by omega) hb0 _ _ _ _ _ _ _ _ _ _ _ _ _ _ _ _ _ _ _ _ _ _ _ _ _ _ _ _ _ _ _ _ _ _ _ _ _ _ _ _ _ _ _ _ _ _ _ _ _ _ _ _ _ _ _ _ _ _ _ _ _ _ _ _ _ _ _ _ _ _ _ _ _ _ _ _ _ _ _ _ _ _ _ _ _ _ _ _ _ _ _ _ _ _ _ _ _ _ _ _ _ _ _ _ _ _ _ _ _ _ _ _ _ _ _ _ _ _ _ _ _ _ _ _ _ ?_
          intro W2 z54 z55 z56 z57 z58 z59 z60 z61 z62 z63 z64 z65 z66 z67 z68 z69 z70 z71 z72 z73 z74 z75 z76 z77 z78 z79 z80 z81 z82 z83 z84 z85 z86 z87 z88 z89 z90 z91 z92 z93 z94 z95 z96 z97 z98 z99 z100 z101 z102 z103 z104 z105 z106 z107 z108 z109 z110 z111 z112 z113 z114 z115 z116 z117 z118 z119 z120 z121 z122 z123 z124 z125 z126 hBW
          rename_i K hK
          refine hK _ _ ?_
          have HB2 := Lib.hid (HB1.out.trans (hBW.mono HB1.out.size))
          clear hK hBW
          go_wp2
          go_ret
          exact ⟨by rw [HF.out]; rfl, HB2.out⟩
        | true =>
          cases hb1 : inZ x2 0 1000000 with
          | false =>
            have HF : Hid (R = false) := Lib.hid (by rw [HF0.out]; unfold boundZ; simp only [hb0, hb1]; simp)
            refine r7_1 _ (by kernel_rfl) _ w1 N g x0 x1 x2 x3 x4 x5 x6 x7 x8 x9 q k d hl HP.out.lt (HP.out.cell 10 _ rfl) rl (ROW.out 0 (by omega)) (ROW.out 1 (by omega)) (ROW.out 2 (by omega)) (ROW.out 3 (by omega)) (ROW.out 4 (by omega)) (ROW.out 5 (by omega)) (ROW.out 6 (by omega)) (ROW.out 7 (by omega)) (ROW.out 8 (by omega)) (ROW.out 9 (by omega)) (by omega) (by omega) hb0 hb1 _ _ _ _ _ _ _ _ _ _ _ _ _ _ _ _ _ _ _ _ _ _ _ _ _ _ _ _ _ _ _ _ _ _ _ _ _ _ _ _ _ _ _ _ _ _ _ _ _ _ _ _ _ _ _ _ _ _ _ _ _ _ _ _ _ _ _ _ _ _ _ _ _ _ _ _ _ _ _ _ _ _ _ _ _ _ _ _ _ _ _ _ _ _ _ _ _ _ _ _ _ _ _ _ _ _ _ _ _ _ _ _ _ _ _ _ _ _ _ _ _ _ _ _ _ ?_
            intro W2 z54 z55 z56 z57 z58 z59 z60 z61 z62 z63 z64 z65 z66 z67 z68 z69 z70 z71 z72 z73 z74 z75 z76 z77 z78 z79 z80 z81 z82 z83 z84 z85 z86 z87 z88 z89 z90 z91 z92 z93 z94 z95 z96 z97 z98 z99 z100 z101 z102 z103 z104 z105 z106 z107 z108 z109 z110 z111 z112 z113 z114 z115 z116 z117 z118 z119 z120 z121 z122 z123 z124 z125 z126 hBW
            rename_i K hK
            refine hK _ _ ?_
            have HB2 := Lib.hid (HB1.out.trans (hBW.mono HB1.out.size))
            clear hK hBW
            go_wp2
            go_ret
            exact ⟨by rw [HF.out]; rfl, HB2.out⟩
          | true =>
            cases hb2 : inZ x1 0 x2 with
            | false =>
              have HF : Hid (R = false) := Lib.hid (by rw [HF0.out]; unfold boundZ; simp only [hb0, hb1, hb2]; simp)
              refine r7_2 _ (by kernel_rfl) _ w1 N g x0 x1 x2 x3 x4 x5 x6 x7 x8 x9 q k d hl HP.out.lt (HP.out.cell 10 _ rfl) rl (ROW.out 0 (by omega)) (ROW.out 1 (by omega)) (ROW.out 2 (by omega)) (ROW.out 3 (by omega)) (ROW.out 4 (by omega)) (ROW.out 5 (by omega)) (ROW.out 6 (by omega)) (ROW.out 7 (by omega)) (ROW.out 8 (by omega)) (ROW.out 9 (by omega)) (by omega) (by omega) hb0 hb1 hb2 _ _ _ _ _ _ _ _ _ _ _ _ _ _ _ _ _ _ _ _ _ _ _ _ _ _ _ _ _ _ _ _ _ _ _ _ _ _ _ _ _ _ _ _ _ _ _ _ _ _ _ _ _ _ _ _ _ _ _ _ _ _ _ _ _ _ _ _ _ _ _ _ _ _ _ _ _ _ _ _ _ _ _ _ _ _ _ _ _ _ _ _ _ _ _ _ _ _ _ _ _ _ _ _ _ _ _ _ _ _ _ _ _ _ _ _ _ _ _ _ _ _ _ _ _ ?_
              intro W2 z54 z55 z56 z57 z58 z59 z60 z61 z62 z63 z64 z65 z66 z67 z68 z69 z70 z71 z72 z73 z74 z75 z76 z77 z78 z79 z80 z81 z82 z83 z84 z85 z86 z87 z88 z89 z90 z91 z92 z93 z94 z95 z96 z97 z98 z99 z100 z101 z102 z103 z104 z105 z106 z107 z108 z109 z110 z111 z112 z113 z114 z115 z116 z117 z118 z119 z120 z121 z122 z123 z124 z125 z126 hBW
              rename_i K hK
              refine hK _ _ ?_
              have HB2 := Lib.hid (HB1.out.trans (hBW.mono HB1.out.size))
              clear hK hBW
              go_wp2
              go_ret
              exact ⟨by rw [HF.out]; rfl, HB2.out⟩
            | true =>
              cases hb3 : inZ x3 1 16 with
              | false =>
                have HF : Hid (R = false) := Lib.hid (by rw [HF0.out]; unfold boundZ; simp only [hb0, hb1, hb2, hb3]; simp)
                refine r7_3 _ (by kernel_rfl) _ w1 N g x0 x1 x2 x3 x4 x5 x6 x7 x8 x9 q k d hl HP.out.lt (HP.out.cell 10 _ rfl) rl (ROW.out 0 (by omega)) (ROW.out 1 (by omega)) (ROW.out 2 (by omega)) (ROW.out 3 (by omega)) (ROW.out 4 (by omega)) (ROW.out 5 (by omega)) (ROW.out 6 (by omega)) (ROW.out 7 (by omega)) (ROW.out 8 (by omega)) (ROW.out 9 (by omega)) (by omega) (by omega) hb0 hb1 hb2 hb3 _ _ _ _ _ _ _ _ _ _ _ _ _ _ _ _ _ _ _ _ _ _ _ _ _ _ _ _ _ _ _ _ _ _ _ _ _ _ _ _ _ _ _ _ _ _ _ _ _ _ _ _ _ _ _ _ _ _ _ _ _ _ _ _ _ _ _ _ _ _ _ _ _ _ _ _ _ _ _ _ _ _ _ _ _ _ _ _ _ _ _ _ _ _ _ _ _ _ _ _ _ _ _ _ _ _ _ _ _ _ _ _ _ _ _ _ _ _ _ _ _ _ _ _ _ ?_
                intro W2 z54 z55 z56 z57 z58 z59 z60 z61 z62 z63 z64 z65 z66 z67 z68 z69 z70 z71 z72 z73 z74 z75 z76 z77 z78 z79 z80 z81 z82 z83 z84 z85 z86 z87 z88 z89 z90 z91 z92 z93 z94 z95 z96 z97 z98 z99 z100 z101 z102 z103 z104 z105 z106 z107 z108 z109 z110 z111 z112 z113 z114 z115 z116 z117 z118 z119 z120 z121 z122 z123 z124 z125 z126 hBW
                rename_i K hK
                refine hK _ _ ?_
                have HB2 := Lib.hid (HB1.out.trans (hBW.mono HB1.out.size))
                clear hK hBW
                go_wp2
                go_ret
                exact ⟨by rw [HF.out]; rfl, HB2.out⟩
              | true =>
                cases hb4 : inZ x4 4 10 with
                | false =>
                  have HF : Hid (R = false) := Lib.hid (by rw [HF0.out]; unfold boundZ; simp only [hb0, hb1, hb2, hb3, hb4]; simp)
                  refine r7_4 _ (by kernel_rfl) _ w1 N g x0 x1 x2 x3 x4 x5 x6 x7 x8 x9 q k d hl HP.out.lt (HP.out.cell 10 _ rfl) rl (ROW.out 0 (by omega)) (ROW.out 1 (by omega)) (ROW.out 2 (by omega)) (ROW.out 3 (by omega)) (ROW.out 4 (by omega)) (ROW.out 5 (by omega)) (ROW.out 6 (by omega)) (ROW.out 7 (by omega)) (ROW.out 8 (by omega)) (ROW.out 9 (by omega)) (by omega) (by omega) hb0 hb1 hb2 hb3 hb4 _ _ _ _ _ _ _ _ _ _ _ _ _ _ _ _ _ _ _ _ _ _ _ _ _ _ _ _ _ _ _ _ _ _ _ _ _ _ _ _ _ _ _ _ _ _ _ _ _ _ _ _ _ _ _ _ _ _ _ _ _ _ _ _ _ _ _ _ _ _ _ _ _ _ _ _ _ _ _ _ _ _ _ _ _ _ _ _ _ _ _ _ _ _ _ _ _ _ _ _ _ _ _ _ _ _ _ _ _ _ _ _ _ _ _ _ _ _ _ _ _ _ _ _ _ ?_
                  intro W2 z54 z55 z56 z57 z58 z59 z60 z61 z62 z63 z64 z65 z66 z67 z68 z69 z70 z71 z72 z73 z74 z75 z76 z77 z78 z79 z80 z81 z82 z83 z84 z85 z86 z87 z88 z89 z90 z91 z92 z93 z94 z95 z96 z97 z98 z99 z100 z101 z102 z103 z104 z105 z106 z107 z108 z109 z110 z111 z112 z113 z114 z115 z116 z117 z118 z119 z120 z121 z122 z123 z124 z125 z126 hBW
                  rename_i K hK
                  refine hK _ _ ?_
                  have HB2 := Lib.hid (HB1.out.trans (hBW.mono HB1.out.size))
                  clear hK hBW
                  go_wp2
                  go_ret
                  exact ⟨by rw [HF.out]; rfl, HB2.out⟩
                | true =>
                  cases hb5 : inZ x5 0 4 with
                  | false =>
                    have HF : Hid (R = false) := Lib.hid (by rw [HF0.out]; unfold boundZ; simp only [hb0, hb1, hb2, hb3, hb4, hb5]; simp)
                    refine r7_5 _ (by kernel_rfl) _ w1 N g x0 x1 x2 x3 x4 x5 x6 x7 x8 x9 q k d hl HP.out.lt (HP.out.cell 10 _ rfl) rl (ROW.out 0 (by omega)) (ROW.out 1 (by omega)) (ROW.out 2 (by omega)) (ROW.out 3 (by omega)) (ROW.out 4 (by omega)) (ROW.out 5 (by omega)) (ROW.out 6 (by omega)) (ROW.out 7 (by omega)) (ROW.out 8 (by omega)) (ROW.out 9 (by omega)) (by omega) (by omega) hb0 hb1 hb2 hb3 hb4 hb5 _ _ _ _ _ _ _ _ _ _ _ _ _ _ _ _ _ _ _ _ _ _ _ _ _ _ _ _ _ _ _ _ _ _ _ _ _ _ _ _ _ _ _ _ _ _ _ _ _ _ _ _ _ _ _ _ _ _ _ _ _ _ _ _ _ _ _ _ _ _ _ _ _ _ _ _ _ _ _ _ _ _ _ _ _ _ _ _ _ _ _ _ _ _ _ _ _ _ _ _ _ _ _ _ _ _ _ _ _ _ _ _ _ _ _ _ _ _ _ _ _ _ _ _ _ ?_
                    intro W2 z54 z55 z56 z57 z58 z59 z60 z61 z62 z63 z64 z65 z66 z67 z68 z69 z70 z71 z72 z73 z74 z75 z76 z77 z78 z79 z80 z81 z82 z83 z84 z85 z86 z87 z88 z89 z90 z91 z92 z93 z94 z95 z96 z97 z98 z99 z100 z101 z102 z103 z104 z105 z106 z107 z108 z109 z110 z111 z112 z113 z114 z115 z116 z117 z118 z119 z120 z121 z122 z123 z124 z125 z126 hBW
                    rename_i K hK
                    refine hK _ _ ?_
                    have HB2 := Lib.hid (HB1.out.trans (hBW.mono HB1.out.size))
                    clear hK hBW
                    go_wp2
                    go_ret
                    exact ⟨by rw [HF.out]; rfl, HB2.out⟩
                  | true =>
                    cases hb6 : inZ x6 1 100 with
                    | false =>
                      have HF : Hid (R = false) := Lib.hid (by rw [HF0.out]; unfold boundZ; simp only [hb0, hb1, hb2, hb3, hb4, hb5, hb6]; simp)
                      refine r7_6 _ (by kernel_rfl) _ w1 N g x0 x1 x2 x3 x4 x5 x6 x7 x8 x9 q k d hl HP.out.lt (HP.out.cell 10 _ rfl) rl (ROW.out 0 (by omega)) (ROW.out 1 (by omega)) (ROW.out 2 (by omega)) (ROW.out 3 (by omega)) (ROW.out 4 (by omega)) (ROW.out 5 (by omega)) (ROW.out 6 (by omega)) (ROW.out 7 (by omega)) (ROW.out 8 (by omega)) (ROW.out 9 (by omega)) (by omega) (by omega) hb0 hb1 hb2 hb3 hb4 hb5 hb6 _ _ _ _ _ _ _ _ _ _ _ _ _ _ _ _ _ _ _ _ _ _ _ _ _ _ _ _ _ _ _ _ _ _ _ _ _ _ _ _ _ _ _ _ _ _ _ _ _ _ _ _ _ _ _ _ _ _ _ _ _ _ _ _ _ _ _ _ _ _ _ _ _ _ _ _ _ _ _ _ _ _ _ _ _ _ _ _ _ _ _ _ _ _ _ _ _ _ _ _ _ _ _ _ _ _ _ _ _ _ _ _ _ _ _ _ _ _ _ _ _ _ _ _ _ ?_
                      intro W2 z54 z55 z56 z57 z58 z59 z60 z61 z62 z63 z64 z65 z66 z67 z68 z69 z70 z71 z72 z73 z74 z75 z76 z77 z78 z79 z80 z81 z82 z83 z84 z85 z86 z87 z88 z89 z90 z91 z92 z93 z94 z95 z96 z97 z98 z99 z100 z101 z102 z103 z104 z105 z106 z107 z108 z109 z110 z111 z112 z113 z114 z115 z116 z117 z118 z119 z120 z121 z122 z123 z124 z125 z126 hBW
                      rename_i K hK
                      refine hK _ _ ?_
                      have HB2 := Lib.hid (HB1.out.trans (hBW.mono HB1.out.size))
                      clear hK hBW
                      go_wp2
                      go_ret
                      exact ⟨by rw [HF.out]; rfl, HB2.out⟩
                    | true =>
                      cases hb7 : inZ x7 1 1000000000 with
                      | false =>
                        have HF : Hid (R = false) := Lib.hid (by rw [HF0.out]; unfold boundZ; simp only [hb0, hb1, hb2, hb3, hb4, hb5, hb6, hb7]; simp)
                        refine r7_7 _ (by kernel_rfl) _ w1 N g x0 x1 x2 x3 x4 x5 x6 x7 x8 x9 q k d hl HP.out.lt (HP.out.cell 10 _ rfl) rl (ROW.out 0 (by omega)) (ROW.out 1 (by omega)) (ROW.out 2 (by omega)) (ROW.out 3 (by omega)) (ROW.out 4 (by omega)) (ROW.out 5 (by omega)) (ROW.out 6 (by omega)) (ROW.out 7 (by omega)) (ROW.out 8 (by omega)) (ROW.out 9 (by omega)) (by omega) (by omega) hb0 hb1 hb2 hb3 hb4 hb5 hb6 hb7 _ _ _ _ _ _ _ _ _ _ _ _ _ _ _ _ _ _ _ _ _ _ _ _ _ _ _ _ _ _ _ _ _ _ _ _ _ _ _ _ _ _ _ _ _ _ _ _ _ _ _ _ _ _ _ _ _ _ _ _ _ _ _ _ _ _ _ _ _ _ _ _ _ _ _ _ _ _ _ _ _ _ _ _ _ _ _ _ _ _ _ _ _ _ _ _ _ _ _ _ _ _ _ _ _ _ _ _ _ _ _ _ _ _ _ _ _ _ _ _ _ _ _ _ _ ?_
                        intro W2 z54 z55 z56 z57 z58 z59 z60 z61 z62 z63 z64 z65 z66 z67 z68 z69 z70 z71 z72 z73 z74 z75 z76 z77 z78 z79 z80 z81 z82 z83 z84 z85 z86 z87 z88 z89 z90 z91 z92 z93 z94 z95 z96 z97 z98 z99 z100 z101 z102 z103 z104 z105 z106 z107 z108 z109 z110 z111 z112 z113 z114 z115 z116 z117 z118 z119 z120 z121 z122 z123 z124 z125 z126 hBW
                        rename_i K hK
                        refine hK _ _ ?_
                        have HB2 := Lib.hid (HB1.out.trans (hBW.mono HB1.out.size))
                        clear hK hBW
                        go_wp2
                        go_ret
                        exact ⟨by rw [HF.out]; rfl, HB2.out⟩
                      | true =>
                        cases hb8 : inZ x8 0 1000000000 with
                        | false =>
                          have HF : Hid (R = false) := Lib.hid (by rw [HF0.out]; unfold boundZ; simp only [hb0, hb1, hb2, hb3, hb4, hb5, hb6, hb7, hb8]; simp)
                          refine r7_8 _ (by kernel_rfl) _ w1 N g x0 x1 x2 x3 x4 x5 x6 x7 x8 x9 q k d hl HP.out.lt (HP.out.cell 10 _ rfl) rl (ROW.out 0 (by omega)) (ROW.out 1 (by omega)) (ROW.out 2 (by omega)) (ROW.out 3 (by omega)) (ROW.out 4 (by omega)) (ROW.out 5 (by omega)) (ROW.out 6 (by omega)) (ROW.out 7 (by omega)) (ROW.out 8 (by omega)) (ROW.out 9 (by omega)) (by omega) (by omega) hb0 hb1 hb2 hb3 hb4 hb5 hb6 hb7 hb8 _ _ _ _ _ _ _ _ _ _ _ _ _ _ _ _ _ _ _ _ _ _ _ _ _ _ _ _ _ _ _ _ _ _ _ _ _ _ _ _ _ _ _ _ _ _ _ _ _ _ _ _ _ _ _ _ _ _ _ _ _ _ _ _ _ _ _ _ _ _ _ _ _ _ _ _ _ _ _ _ _ _ _ _ _ _ _ _ _ _ _ _ _ _ _ _ _ _ _ _ _ _ _ _ _ _ _ _ _ _ _ _ _ _ _ _ _ _ _ _ _ _ _ _ _ ?_
                          intro W2 z54 z55 z56 z57 z58 z59 z60 z61 z62 z63 z64 z65 z66 z67 z68 z69 z70 z71 z72 z73 z74 z75 z76 z77 z78 z79 z80 z81 z82 z83 z84 z85 z86 z87 z88 z89 z90 z91 z92 z93 z94 z95 z96 z97 z98 z99 z100 z101 z102 z103 z104 z105 z106 z107 z108 z109 z110 z111 z112 z113 z114 z115 z116 z117 z118 z119 z120 z121 z122 z123 z124 z125 z126 hBW
                          rename_i K hK
                          refine hK _ _ ?_
                          have HB2 := Lib.hid (HB1.out.trans (hBW.mono HB1.out.size))
                          clear hK hBW
                          go_wp2
                          go_ret
                          exact ⟨by rw [HF.out]; rfl, HB2.out⟩
                        | true =>
                          cases hb9 : inZ x9 0 1000000000 with
                          | false =>
                            have HF : Hid (R = false) := Lib.hid (by rw [HF0.out]; unfold boundZ; simp only [hb0, hb1, hb2, hb3, hb4, hb5, hb6, hb7, hb8, hb9]; simp)
                            refine r7_9 _ (by kernel_rfl) _ w1 N g x0 x1 x2 x3 x4 x5 x6 x7 x8 x9 q k d hl HP.out.lt (HP.out.cell 10 _ rfl) rl (ROW.out 0 (by omega)) (ROW.out 1 (by omega)) (ROW.out 2 (by omega)) (ROW.out 3 (by omega)) (ROW.out 4 (by omega)) (ROW.out 5 (by omega)) (ROW.out 6 (by omega)) (ROW.out 7 (by omega)) (ROW.out 8 (by omega)) (ROW.out 9 (by omega)) (by omega) (by omega) hb0 hb1 hb2 hb3 hb4 hb5 hb6 hb7 hb8 hb9 _ _ _ _ _ _ _ _ _ _ _ _ _ _ _ _ _ _ _ _ _ _ _ _ _ _ _ _ _ _ _ _ _ _ _ _ _ _ _ _ _ _ _ _ _ _ _ _ _ _ _ _ _ _ _ _ _ _ _ _ _ _ _ _ _ _ _ _ _ _ _ _ _ _ _ _ _ _ _ _ _ _ _ _ _ _ _ _ _ _ _ _ _ _ _ _ _ _ _ _ _ _ _ _ _ _ _ _ _ _ _ _ _ _ _ _ _ _ _ _ _ _ _ _ _ ?_
                            intro W2 z54 z55 z56 z57 z58 z59 z60 z61 z62 z63 z64 z65 z66 z67 z68 z69 z70 z71 z72 z73 z74 z75 z76 z77 z78 z79 z80 z81 z82 z83 z84 z85 z86 z87 z88 z89 z90 z91 z92 z93 z94 z95 z96 z97 z98 z99 z100 z101 z102 z103 z104 z105 z106 z107 z108 z109 z110 z111 z112 z113 z114 z115 z116 z117 z118 z119 z120 z121 z122 z123 z124 z125 z126 hBW
                            rename_i K hK
                            refine hK _ _ ?_
                            have HB2 := Lib.hid (HB1.out.trans (hBW.mono HB1.out.size))
                            clear hK hBW
                            go_wp2
                            go_ret
                            exact ⟨by rw [HF.out]; rfl, HB2.out⟩
                          | true =>
                            have HF : Hid (R = true) := Lib.hid (by rw [HF0.out]; unfold boundZ; simp only [hb0, hb1, hb2, hb3, hb4, hb5, hb6, hb7, hb8, hb9]; simp)
                            refine r7_ok _ (by kernel_rfl) _ w1 N g x0 x1 x2 x3 x4 x5 x6 x7 x8 x9 q k d hl HP.out.lt (HP.out.cell 10 _ rfl) rl (ROW.out 0 (by omega)) (ROW.out 1 (by omega)) (ROW.out 2 (by omega)) (ROW.out 3 (by omega)) (ROW.out 4 (by omega)) (ROW.out 5 (by omega)) (ROW.out 6 (by omega)) (ROW.out 7 (by omega)) (ROW.out 8 (by omega)) (ROW.out 9 (by omega)) (by omega) (by omega) hb0 hb1 hb2 hb3 hb4 hb5 hb6 hb7 hb8 hb9 _ _ _ _ _ _ _ _ _ _ _ _ _ _ _ _ _ _ _ _ _ _ _ _ _ _ _ _ _ _ _ _ _ _ _ _ _ _ _ _ _ _ _ _ _ _ _ _ _ _ _ _ _ _ _ _ _ _ _ _ _ _ _ _ _ _ _ _ _ _ _ _ _ _ _ _ _ _ _ _ _ _ _ _ _ _ _ _ _ _ _ _ _ _ _ _ _ _ _ _ _ _ _ _ _ _ _ _ _ _ _ _ _ _ _ _ _ _ _ _ _ _ _ _ _ ?_
                            intro W2 z54 z55 z56 z57 z58 z59 z60 z61 z62 z63 z64 z65 z66 z67 z68 z69 z70 z71 z72 z73 z74 z75 z76 z77 z78 z79 z80 z81 z82 z83 z84 z85 z86 z87 z88 z89 z90 z91 z92 z93 z94 z95 z96 z97 z98 z99 z100 z101 z102 z103 z104 z105 z106 z107 z108 z109 z110 z111 z112 z113 z114 z115 z116 z117 z118 z119 z120 z121 z122 z123 z124 z125 z126 hBW
                            rename_i K hK
                            refine hK _ _ ?_
                            have HB2 := Lib.hid (HB1.out.trans (hBW.mono HB1.out.size))
                            clear hK hBW
                            go_wp2
                            go_ret
                            exact ⟨by rw [HF.out]; rfl, HB2.out⟩
theorem ref_right (n t : List Int) (q : Option Addr) (d : Nat) (hn : n.length = 10) (w : World) (hl : t.length ≤ 9223372036854775807) (hT : Tr (fun _ => False) (.slice q t.length d) t w) :
    Calls Tryd.prog 16 #[.agg (valsP n (.slice q t.length d))] w fun e w' => e = .returned (.bool (rightZ n t)) ∧ Below w.heap.size w w' := by
  obtain ⟨x0, x1, x2, x3, x4, x5, x6, x7, x8, x9, rfl⟩ := ten_of hn
  exact ref_right_in x0 x1 x2 x3 x4 x5 x6 x7 x8 x9 q t.length d t rfl w hl hT
end Go.Proofs.YtdhkonaebhpeeaaDoor.Po

namespace Go.Proofs.YtdhkonaebhpeeaaDoor.Po
open Go Go.RowKit

set_option maxRecDepth 100000 in
set_option maxHeartbeats 16000000 in
theorem ref_put_in (x0 x1 x2 x3 x4 x5 x6 x7 x8 x9 : Int) (q : Option Addr) (l d : Nat) (t : List Int) (ht : t.length = l) (w : World) (hl : l ≤ 9223372036854775807) (hT : Tr (fun _ => False) (.slice q l d) t w) :
    Calls Tryd.prog 13 #[.agg #[.int .i64 x0, .int .i64 x1, .int .i64 x2, .int .i64 x3, .int .i64 x4, .int .i64 x5, .int .i64 x6, .int .i64 x7, .int .i64 x8, .int .i64 x9, .slice q l d]] w fun e w' => e = .returned (if rightZ [x0, x1, x2, x3, x4, x5, x6, x7, x8, x9] t then .tuple #[.string (tx (putZ [x0, x1, x2, x3, x4, x5, x6, x7, x8, x9] t)), .bool true] else .tuple #[.string ⟨#[]⟩, .bool false]) ∧ Below w.heap.size w w' := by
  obtain ⟨N, hN⟩ : ∃ N, w.heap.size = N := ⟨_, rfl⟩
  have hB0 : Below w.heap.size w (w.alloc (.cells #[.int .i64 x0, .int .i64 x1, .int .i64 x2, .int .i64 x3, .int .i64 x4, .int .i64 x5, .int .i64 x6, .int .i64 x7, .int .i64 x8, .int .i64 x9, .slice q l d] 33)) := (Below.refl _ _).alloc (Nat.le_refl _) _
  have HP : Hid (CellsAt N #[.int .i64 x0, .int .i64 x1, .int .i64 x2, .int .i64 x3, .int .i64 x4, .int .i64 x5, .int .i64 x6, .int .i64 x7, .int .i64 x8, .int .i64 x9, .slice q l d] (w.alloc (.cells #[.int .i64 x0, .int .i64 x1, .int .i64 x2, .int .i64 x3, .int .i64 x4, .int .i64 x5, .int .i64 x6, .int .i64 x7, .int .i64 x8, .int .i64 x9, .slice q l d] 33))) := Lib.hid (CellsAt.newAt #[.int .i64 x0, .int .i64 x1, .int .i64 x2, .int .i64 x3, .int .i64 x4, .int .i64 x5, .int .i64 x6, .int .i64 x7, .int .i64 x8, .int .i64 x9, .slice q l d] 33 w N hN.symm)
  have HT := Lib.hid (hT.below hB0)
  have HB := Lib.hid hB0
  have hrg : ∀ W, Tr (fun _ => False) (.slice q l d) t W → Calls Tryd.prog 16 #[.agg #[.int .i64 x0, .int .i64 x1, .int .i64 x2, .int .i64 x3, .int .i64 x4, .int .i64 x5, .int .i64 x6, .int .i64 x7, .int .i64 x8, .int .i64 x9, .slice q l d]] W fun e w' => e = .returned (.bool (rightZ [x0, x1, x2, x3, x4, x5, x6, x7, x8, x9] t)) ∧ Below W.heap.size W w' := fun W h => ref_right_in x0 x1 x2 x3 x4 x5 x6 x7 x8 x9 q l d t ht W hl h
  have hrg1 := hrg _ HT.out
  have hnum : ∀ W, Calls Tryd.prog 32 #[.agg #[.int .i64 x0, .int .i64 x1, .int .i64 x2, .int .i64 x3, .int .i64 x4, .int .i64 x5, .int .i64 x6, .int .i64 x7, .int .i64 x8, .int .i64 x9, .slice q l d]] W fun e w' => ∃ g, e = .returned (.slice (some ⟨g, 0, none⟩) 10 10) ∧ OwnI W.heap.size (.slice (some ⟨g, 0, none⟩) 10 10) [x0, x1, x2, x3, x4, x5, x6, x7, x8, x9] w' ∧ Below W.heap.size W w' := fun W => refnumbers_any [x0, x1, x2, x3, x4, x5, x6, x7, x8, x9] q l d W rfl
  cases hr : rightZ [x0, x1, x2, x3, x4, x5, x6, x7, x8, x9] t with
  | false =>
    rw [hr] at hrg1
    rw [if_neg (by simp)]
    clear hT hB0 hrg hnum hr ht
    go_enter Tryd.func13, Tryd.ntmps13
    go_wp2_with fail
    refine hrg1.mono ?_
    rintro e w1 ⟨rfl, hB1⟩
    replace HB := Lib.hid (HB.out.trans (hB1.mono HB.out.size))
    clear hB1 hrg1 HP HT hN
    go_wp2
    go_ret2
    exact ⟨rfl, HB.out⟩
  | true =>
    rw [hr] at hrg1
    rw [if_pos rfl]
    obtain ⟨hi1, hi2, ht1, ht3, -⟩ := right_in hr
    have HI1 := Lib.hid hi1
    have HI2 := Lib.hid hi2
    obtain ⟨R, hR⟩ : ∃ R, putZ [x0, x1, x2, x3, x4, x5, x6, x7, x8, x9] t = R := ⟨_, rfl⟩
    have HR : Hid (R = numsB [x0, x1, x2, x3, x4, x5, x6, x7, x8, x9] 10 ++ beZ 1 l ++ numsB t l) := Lib.hid (by
      rw [← hR]
      unfold putZ numsB
      rw [List.take_of_length_le (show ([x0, x1, x2, x3, x4, x5, x6, x7, x8, x9]).length ≤ 10 from Nat.le_refl _), List.take_of_length_le (by omega), ht, List.append_assoc])
    rw [hR]
    rw [ht] at ht1 ht3
    have HLT := Lib.hid ht
    clear hT hB0 hrg hr ht hi1 hi2 hR
    go_enter Tryd.func13, Tryd.ntmps13
    go_wp2_with fail
    refine hrg1.mono ?_
    rintro e w1 ⟨rfl, hB1⟩
    replace HP := Lib.hid (HP.out.below hB1)
    replace HT := Lib.hid (HT.out.below hB1)
    replace HB := Lib.hid (HB.out.trans (hB1.mono HB.out.size))
    clear hB1 hrg1 hN
    have k0 := HP.out.cell 0 _ rfl
    have k1 := HP.out.cell 1 _ rfl
    have k2 := HP.out.cell 2 _ rfl
    have k3 := HP.out.cell 3 _ rfl
    have k4 := HP.out.cell 4 _ rfl
    have k5 := HP.out.cell 5 _ rfl
    have k6 := HP.out.cell 6 _ rfl
    have k7 := HP.out.cell 7 _ rfl
    have k8 := HP.out.cell 8 _ rfl
    have k9 := HP.out.cell 9 _ rfl
    have k10 := HP.out.cell 10 _ rfl
    have kl := HP.out.lt
    simp only [List.getElem_toArray, List.getElem_cons_zero, List.getElem_cons_succ] at k0 k1 k2 k3 k4 k5 k6 k7 k8 k9 k10
    go_wp2_with fail
    refine (hnum _).mono ?_
    rintro e w2 ⟨G, rfl, hO, hB1⟩
    clear kl k0 k1 k2 k3 k4 k5 k6 k7 k8 k9 k10
    replace HP := Lib.hid (HP.out.below hB1)
    replace HT := Lib.hid (HT.out.below hB1)
    replace HB := Lib.hid (HB.out.trans (hB1.mono HB.out.size))
    obtain ⟨G', e, hrow⟩ := RowI.of hO (by simp)
    obtain rfl : G = G' := by injection e with e; injection e
    have HG := Lib.hid hrow
    clear hO hB1 e hrow hnum
    go_wp2
    go_loopg [5, 7] 10 (fun g s5 s7 wx => ∃ i : Nat, s5 = .string (tx (numsB [x0, x1, x2, x3, x4, x5, x6, x7, x8, x9] i)) ∧ s7 = .int .i64 (i : Int) ∧ i + g = 10 ∧ Hid (CellsAt N #[.int .i64 x0, .int .i64 x1, .int .i64 x2, .int .i64 x3, .int .i64 x4, .int .i64 x5, .int .i64 x6, .int .i64 x7, .int .i64 x8, .int .i64 x9, .slice q l d] wx) ∧ Hid (Tr (fun _ => False) (.slice q l d) t wx) ∧ Hid (RowI G [x0, x1, x2, x3, x4, x5, x6, x7, x8, x9] wx) ∧ Hid (Below w.heap.size w wx))
    case atStart => exact ⟨0, rfl, rfl, rfl, HP, HT, HG, HB⟩
    case round =>
      clear HP HT HG HB
      obtain ⟨i, rfl, rfl, hig, HP, HT, HG, HB⟩ := hrel
      cases gk with
      | succ g =>
        have hi : i < 10 := by omega
        have hi' : i < [x0, x1, x2, x3, x4, x5, x6, x7, x8, x9].length := hi
        have hcg := HG.out.2 i hi'
        have hgl := HG.out.1
        have hxin := HI1.out _ (List.getElem_mem hi')
        have hns := numsB_succ [x0, x1, x2, x3, x4, x5, x6, x7, x8, x9] i hi'
        obtain ⟨x, hx⟩ : ∃ x, [x0, x1, x2, x3, x4, x5, x6, x7, x8, x9][i] = x := ⟨_, rfl⟩
        rw [hx] at hcg hxin hns
        obtain ⟨m, rfl⟩ : ∃ m : Nat, x = (m : Int) := ⟨x.toNat, by omega⟩
        rw [Int.toNat_natCast] at hns
        have hm : m ≤ 1000000000 := by omega
        have hmw : IntKind.u64.wrap (m : Int) = (m : Int) := by simp [IntKind.wrap, IntKind.signed, IntKind.bits]; omega
        have hby := fun W => ref_bytes_any (c := 8) (n := m) (by omega) (by omega) (by omega) W
        have hz : (9223372036854775807 < (tx (numsB [x0, x1, x2, x3, x4, x5, x6, x7, x8, x9] i)).size + (tx (beZ 8 m)).size) = False := eq_false (by rw [tx_len, tx_len, beZ_len]; have := numsB_len [x0, x1, x2, x3, x4, x5, x6, x7, x8, x9] i; omega)
        have hcat : tx (numsB [x0, x1, x2, x3, x4, x5, x6, x7, x8, x9] i) ++ tx (beZ 8 m) = tx (numsB [x0, x1, x2, x3, x4, x5, x6, x7, x8, x9] (i + 1)) := by rw [tx_append, hns]
        obtain ⟨S, hSe⟩ : ∃ S, tx (numsB [x0, x1, x2, x3, x4, x5, x6, x7, x8, x9] i) = S := ⟨_, rfl⟩
        obtain ⟨D, hDe⟩ : ∃ S, tx (beZ 8 m) = S := ⟨_, rfl⟩
        rw [hSe] at hcat hz ⊢
        rw [hDe] at hcat hz
        simp only [hDe] at hby
        have HGL := Lib.hid hgl
        have hii : (i : Int) < 10 := by omega
        clear hx hi' hxin hns hSe hDe
        go_wp2_with fail
        refine (hby _).mono ?_
        rintro e w5 ⟨rfl, hBx⟩
        replace HP := Lib.hid (HP.out.below hBx)
        replace HT := Lib.hid (HT.out.below hBx)
        replace HB := Lib.hid (HB.out.trans (hBx.mono HB.out.size))
        replace HG : Hid (RowI G [x0, x1, x2, x3, x4, x5, x6, x7, x8, x9] w5) := Lib.hid ⟨Nat.lt_of_lt_of_le HG.out.1 hBx.size, fun j hj => (hBx.cell (p := ⟨G, j, none⟩) HG.out.1).trans (HG.out.2 j hj)⟩
        clear hBx hby hcg hgl HGL hmw
        go_wp2
        go_roundg g
        case measure => omega
        case rel => exact ⟨i + 1, rfl, by go_num, by omega, HP, HT, HG, HB⟩
      | zero =>
        obtain rfl : i = 10 := by omega
        rw [show ((10 : Nat) : Int) = 10 from rfl]
        have hby := fun W => ref_bytes_any (c := 1) (n := l) (by omega) (by omega) (by omega) W
        have hlw : IntKind.u64.wrap (l : Int) = (l : Int) := by simp [IntKind.wrap, IntKind.signed, IntKind.bits]; omega
        have hnl := numsB_len [x0, x1, x2, x3, x4, x5, x6, x7, x8, x9] 10
        have hz : (9223372036854775807 < (tx (numsB [x0, x1, x2, x3, x4, x5, x6, x7, x8, x9] 10)).size + (tx (beZ 1 l)).size) = False := eq_false (by rw [tx_len, tx_len, beZ_len]; omega)
        have hcat : tx (numsB [x0, x1, x2, x3, x4, x5, x6, x7, x8, x9] 10) ++ tx (beZ 1 l) = tx (numsB [x0, x1, x2, x3, x4, x5, x6, x7, x8, x9] 10 ++ beZ 1 l ++ numsB t 0) := by rw [tx_append, show numsB t 0 = [] from rfl, List.append_nil]
        obtain ⟨H, hH⟩ : ∃ H, numsB [x0, x1, x2, x3, x4, x5, x6, x7, x8, x9] 10 ++ beZ 1 l = H := ⟨_, rfl⟩
        have hHl : H.length ≤ 81 := by rw [← hH, List.length_append, beZ_len]; omega
        rw [hH] at hcat HR
        obtain ⟨S, hSe⟩ : ∃ S, tx (numsB [x0, x1, x2, x3, x4, x5, x6, x7, x8, x9] 10) = S := ⟨_, rfl⟩
        obtain ⟨D, hDe⟩ : ∃ S, tx (beZ 1 l) = S := ⟨_, rfl⟩
        rw [hSe] at hcat hz ⊢
        rw [hDe] at hcat hz
        simp only [hDe] at hby
        have k10 := HP.out.cell 10 _ rfl
        have kl := HP.out.lt
        simp only [List.getElem_toArray, List.getElem_cons_zero, List.getElem_cons_succ] at k10
        clear hH hSe hDe hig hnl
        go_wp2_with fail
        refine (hby _).mono ?_
        rintro e w5 ⟨rfl, hBx⟩
        replace HP := Lib.hid (HP.out.below hBx)
        replace HT := Lib.hid (HT.out.below hBx)
        replace HB := Lib.hid (HB.out.trans (hBx.mono HB.out.size))
        clear hBx hby k10 kl hlw HG
        go_wp2
        go_loopg [5, 8] l (fun g s5 s8 wx => ∃ i : Nat, s5 = .string (tx (H ++ numsB t i)) ∧ s8 = .int .i64 (i : Int) ∧ i + g = l ∧ Hid (CellsAt N #[.int .i64 x0, .int .i64 x1, .int .i64 x2, .int .i64 x3, .int .i64 x4, .int .i64 x5, .int .i64 x6, .int .i64 x7, .int .i64 x8, .int .i64 x9, .slice q l d] wx) ∧ Hid (Tr (fun _ => False) (.slice q l d) t wx) ∧ Hid (Below w.heap.size w wx))
        case atStart => exact ⟨0, rfl, rfl, by omega, HP, HT, HB⟩
        case round =>
          clear HP HT HB hcat hz
          obtain ⟨i, rfl, rfl, hig, HP, HT, HB⟩ := hrel
          have k10 := HP.out.cell 10 _ rfl
          have kl := HP.out.lt
          simp only [List.getElem_toArray, List.getElem_cons_zero, List.getElem_cons_succ] at k10
          cases gk with
          | succ g =>
            have hit : i < t.length := by rw [HLT.out]; omega
            have hil : (i : Int) < (l : Int) := by omega
            obtain ⟨C, off, rfl, hC, hcell⟩ := HT.out.at.2.2.2.2 i hit
            have hxin := HI2.out _ (List.getElem_mem hit)
            have hns := numsB_succ t i hit
            obtain ⟨x, hx⟩ : ∃ x, t[i] = x := ⟨_, rfl⟩
            rw [hx] at hcell hxin hns
            obtain ⟨m, rfl⟩ : ∃ m : Nat, x = (m : Int) := ⟨x.toNat, by omega⟩
            rw [Int.toNat_natCast] at hns
            have hm : m ≤ 1000000000 := by omega
            have hmw : IntKind.u64.wrap (m : Int) = (m : Int) := by simp [IntKind.wrap, IntKind.signed, IntKind.bits]; omega
            have hby := fun W => ref_bytes_any (c := 8) (n := m) (by omega) (by omega) (by omega) W
            have hz : (9223372036854775807 < (tx (H ++ numsB t i)).size + (tx (beZ 8 m)).size) = False := eq_false (by rw [tx_len, tx_len, beZ_len, List.length_append]; have := numsB_len t i; omega)
            have hcat : tx (H ++ numsB t i) ++ tx (beZ 8 m) = tx (H ++ numsB t (i + 1)) := by rw [tx_append, hns, List.append_assoc]
            obtain ⟨S, hSe⟩ : ∃ S, tx (H ++ numsB t i) = S := ⟨_, rfl⟩
            obtain ⟨D, hDe⟩ : ∃ S, tx (beZ 8 m) = S := ⟨_, rfl⟩
            rw [hSe] at hcat hz ⊢
            rw [hDe] at hcat hz
            simp only [hDe] at hby
            have HSe := Lib.hid hSe
            clear hx hit hxin hns hSe hDe
            go_wp2_with fail
            refine (hby _).mono ?_
            rintro e w6 ⟨rfl, hBx⟩
            replace HP := Lib.hid (HP.out.below hBx)
            replace HT := Lib.hid (HT.out.below hBx)
            replace HB := Lib.hid (HB.out.trans (hBx.mono HB.out.size))
            clear hBx hby k10 kl hC hcell hmw
            go_wp2
            obtain rfl := HSe.out
            go_roundg g
            case measure => omega
            case rel => exact ⟨i + 1, rfl, by go_num, by omega, HP, HT, HB⟩
          | zero =>
            obtain rfl : i = l := by omega
            go_wp2
            go_ret2
            exact ⟨by rw [HR.out]; rfl, HB.out⟩
theorem ref_put (n t : List Int) (q : Option Addr) (d : Nat) (hn : n.length = 10) (w : World) (hl : t.length ≤ 9223372036854775807) (hT : Tr (fun _ => False) (.slice q t.length d) t w) :
    Calls Tryd.prog 13 #[.agg (valsP n (.slice q t.length d))] w fun e w' => e = .returned (if rightZ n t then .tuple #[.string (tx (putZ n t)), .bool true] else .tuple #[.string ⟨#[]⟩, .bool false]) ∧ Below w.heap.size w w' := by
  obtain ⟨x0, x1, x2, x3, x4, x5, x6, x7, x8, x9, rfl⟩ := ten_of hn
  exact ref_put_in x0 x1 x2 x3 x4 x5 x6 x7 x8 x9 q t.length d t rfl w hl hT
end Go.Proofs.YtdhkonaebhpeeaaDoor.Po

