/- PolicyRights: what follows the switch. PolicyRights: the switch. PolicyRights: the switch. PolicyRights: the switch. PolicyRights: the switch. PolicyRights walked. -/
import Derived.Test.YtmlgcjfcbokibaaDoorRtG
import Derived.Test.YtmlgcjfcbokibaaDoorRtC
import Derived.Test.YtmlgcjfcbokibaaDoorRtD
import Derived.Test.YtmlgcjfcbokibaaDoorPoSa
import Derived.Test.YtmlgcjfcbokibaaDoorPoEx
namespace Go.Proofs.YtmlgcjfcbokibaaDoor.Po
open Go Go.RowKit

set_option maxRecDepth 100000 in
set_option maxHeartbeats 16000000 in
theorem rights_28 (C0 : Code) (hC0 : Tryd.f3.body.bind (findG 28) = some C0) (Q : Exit → Act → World → Prop) (W : World) (Y P : Nat) (b0 b1 b2 b3 b4 b5 b6 b7 b8 b9 m0 m1 m2 m3 m4 m5 m6 m7 m8 m9 : Int) (qy : Option Addr) (ly dy : Nat) (ow : Bool) (py : Option Addr) (hsy : List Nat) (cy lm : Nat) (r : List Int)
    (hwi : ∀ W', Below W.heap.size W W' → Calls Tryd.prog 11 #[.agg #[.int .i64 b0, .int .i64 b1, .int .i64 b2, .int .i64 b3, .int .i64 b4, .int .i64 b5, .int .i64 b6, .int .i64 b7, .int .i64 b8, .int .i64 b9, .slice qy ly dy, .bool ow, .slice py hsy.length cy]] W' fun e w' => ∃ q d, e = .returned (.agg #[.int .i64 m0, .int .i64 m1, .int .i64 m2, .int .i64 m3, .int .i64 m4, .int .i64 m5, .int .i64 m6, .int .i64 m7, .int .i64 m8, .int .i64 m9, .slice q lm d]) ∧ Tr (fun _ => False) (.slice q lm d) r w' ∧ Below W'.heap.size W' w')
    (hY : CellsAt Y #[.int .i64 b0, .int .i64 b1, .int .i64 b2, .int .i64 b3, .int .i64 b4, .int .i64 b5, .int .i64 b6, .int .i64 b7, .int .i64 b8, .int .i64 b9, .slice qy ly dy, .bool ow, .slice py hsy.length cy] W) (s0 s1 s2 s3 s4 s6 s7 s11 s12 s13 s14 s15 s16 s17 s18 s19 s20 s21 s22 s23 s24 s25 s26 s27 s28 s29 s30 s31 s32 s33 s34 s35 s36 s37 s38 s39 s40 s41 s42 s43 s44 s45 s46 s47 s48 s49 s50 s51 s52 s53 s54 s55 s56 s57 s58 s59 s60 s61 s62 s63 s64 s65 s66 s67 s68 s69 s70 s71 s72 s73 s74 s75 s76 s77 s78 s79 s80 s81 s82 s83 s84 s85 s86 s87 s88 s89 s90 s91 s92 s93 s94 s95 s96 s97 s98 s99 s100 s101 s102 s103 s104 s105 s106 s107 s108 s109 s110 s111 s112 s113 s114 s115 s116 s117 s118 s119 s120 s121 s122 s123 s124 s125 s126 s127 : Value)
    (hQ : ∀ (W' : World) (D : Nat) (qm : Option Addr) (dm : Nat) (z72 z73 : Value), CellsAt D #[.int .i64 m0, .int .i64 m1, .int .i64 m2, .int .i64 m3, .int .i64 m4, .int .i64 m5, .int .i64 m6, .int .i64 m7, .int .i64 m8, .int .i64 m9, .slice qm lm dm] W' → Tr (fun _ => False) (.slice qm lm dm) r W' → Below W.heap.size W W' → Q .normal { tmps := (s0 :: s1 :: s2 :: s3 :: s4 :: .pointer (some ⟨Y, 0, none⟩) :: s6 :: s7 :: .bool false :: .bool true :: .pointer (some ⟨P, 0, none⟩) :: .pointer (some ⟨D, 0, none⟩) :: s12 :: s13 :: s14 :: s15 :: s16 :: s17 :: s18 :: s19 :: s20 :: s21 :: s22 :: s23 :: s24 :: s25 :: s26 :: s27 :: s28 :: s29 :: s30 :: s31 :: s32 :: s33 :: s34 :: s35 :: s36 :: s37 :: s38 :: s39 :: s40 :: s41 :: s42 :: s43 :: s44 :: s45 :: s46 :: s47 :: s48 :: s49 :: s50 :: s51 :: s52 :: s53 :: s54 :: s55 :: s56 :: s57 :: s58 :: s59 :: s60 :: s61 :: s62 :: s63 :: s64 :: s65 :: s66 :: s67 :: s68 :: s69 :: s70 :: s71 :: z72 :: z73 :: s74 :: s75 :: s76 :: s77 :: s78 :: s79 :: s80 :: s81 :: s82 :: s83 :: s84 :: s85 :: s86 :: s87 :: s88 :: s89 :: s90 :: s91 :: s92 :: s93 :: s94 :: s95 :: s96 :: s97 :: s98 :: s99 :: s100 :: s101 :: s102 :: s103 :: s104 :: s105 :: s106 :: s107 :: s108 :: s109 :: s110 :: s111 :: s112 :: s113 :: s114 :: s115 :: s116 :: s117 :: s118 :: s119 :: s120 :: s121 :: s122 :: s123 :: s124 :: s125 :: s126 :: s127 :: []).toArray, defers := [] } W') :
    Code.wp Tryd.prog C0 Q { tmps := (s0 :: s1 :: s2 :: s3 :: s4 :: .pointer (some ⟨Y, 0, none⟩) :: s6 :: s7 :: .bool false :: .bool true :: .pointer (some ⟨P, 0, none⟩) :: s11 :: s12 :: s13 :: s14 :: s15 :: s16 :: s17 :: s18 :: s19 :: s20 :: s21 :: s22 :: s23 :: s24 :: s25 :: s26 :: s27 :: s28 :: s29 :: s30 :: s31 :: s32 :: s33 :: s34 :: s35 :: s36 :: s37 :: s38 :: s39 :: s40 :: s41 :: s42 :: s43 :: s44 :: s45 :: s46 :: s47 :: s48 :: s49 :: s50 :: s51 :: s52 :: s53 :: s54 :: s55 :: s56 :: s57 :: s58 :: s59 :: s60 :: s61 :: s62 :: s63 :: s64 :: s65 :: s66 :: s67 :: s68 :: s69 :: s70 :: s71 :: s72 :: s73 :: s74 :: s75 :: s76 :: s77 :: s78 :: s79 :: s80 :: s81 :: s82 :: s83 :: s84 :: s85 :: s86 :: s87 :: s88 :: s89 :: s90 :: s91 :: s92 :: s93 :: s94 :: s95 :: s96 :: s97 :: s98 :: s99 :: s100 :: s101 :: s102 :: s103 :: s104 :: s105 :: s106 :: s107 :: s108 :: s109 :: s110 :: s111 :: s112 :: s113 :: s114 :: s115 :: s116 :: s117 :: s118 :: s119 :: s120 :: s121 :: s122 :: s123 :: s124 :: s125 :: s126 :: s127 :: []).toArray, defers := [] } W := by
  cases hC0
  have HY := Lib.hid hY
  have hw := hwi W (Below.refl _ _)
  have k0 := HY.out.cell 0 _ rfl
  have k1 := HY.out.cell 1 _ rfl
  have k2 := HY.out.cell 2 _ rfl
  have k3 := HY.out.cell 3 _ rfl
  have k4 := HY.out.cell 4 _ rfl
  have k5 := HY.out.cell 5 _ rfl
  have k6 := HY.out.cell 6 _ rfl
  have k7 := HY.out.cell 7 _ rfl
  have k8 := HY.out.cell 8 _ rfl
  have k9 := HY.out.cell 9 _ rfl
  have k10 := HY.out.cell 10 _ rfl
  have k11 := HY.out.cell 11 _ rfl
  have k12 := HY.out.cell 12 _ rfl
  have kl := HY.out.lt
  simp only [List.getElem_toArray, List.getElem_cons_zero, List.getElem_cons_succ] at k0 k1 k2 k3 k4 k5 k6 k7 k8 k9 k10 k11 k12
  clear hY hwi
  go_wp2_with fail
  refine hw.mono ?_
  rintro e w1 ⟨qm, dm, rfl, hT, hB1⟩
  clear k0 k1 k2 k3 k4 k5 k6 k7 k8 k9 k10 k11 k12 kl
  have hBx : Below w1.heap.size w1 (w1.alloc (.cells #[.int .i64 m0, .int .i64 m1, .int .i64 m2, .int .i64 m3, .int .i64 m4, .int .i64 m5, .int .i64 m6, .int .i64 m7, .int .i64 m8, .int .i64 m9, .slice qm lm dm] 24)) := (Below.refl _ _).alloc (Nat.le_refl _) _
  have HT2 := Lib.hid (hT.below hBx)
  have HB2 := Lib.hid (hB1.trans (hBx.mono hB1.size))
  have HD2 : Hid (CellsAt w1.heap.size #[.int .i64 m0, .int .i64 m1, .int .i64 m2, .int .i64 m3, .int .i64 m4, .int .i64 m5, .int .i64 m6, .int .i64 m7, .int .i64 m8, .int .i64 m9, .slice qm lm dm] (w1.alloc (.cells #[.int .i64 m0, .int .i64 m1, .int .i64 m2, .int .i64 m3, .int .i64 m4, .int .i64 m5, .int .i64 m6, .int .i64 m7, .int .i64 m8, .int .i64 m9, .slice qm lm dm] 24))) := Lib.hid (CellsAt.new _ _ _)
  clear hT hB1 hBx hw HY
  go_wp2
  exact hQ _ _ _ _ _ _ HD2.out HT2.out HB2.out
set_option maxRecDepth 100000 in
set_option maxHeartbeats 16000000 in
theorem rights_29 (C0 : Code) (hC0 : Tryd.f3.body.bind (findR 29) = some C0) (w W : World) (Y P D : Nat) (x0 x1 x2 x3 x4 x5 x6 x7 x8 x9 m0 m1 m2 m3 m4 m5 m6 m7 m8 m9 : Int) (q qm : Option Addr) (l d lm dm : Nat) (t r : List Int) (ht : t.length = l) (hr : r.length = lm) (hl : l ≤ 1048577) (hlm : lm ≤ 1048576)
    (hin : ∀ x ∈ [x0, x1, x2, x3, x4, x5, x6, x7, x8, x9], In64 x) (him : ∀ x ∈ [m0, m1, m2, m3, m4, m5, m6, m7, m8, m9], In64 x) (hX : Tens W) (hP : CellsAt P #[.int .i64 x0, .int .i64 x1, .int .i64 x2, .int .i64 x3, .int .i64 x4, .int .i64 x5, .int .i64 x6, .int .i64 x7, .int .i64 x8, .int .i64 x9, .slice q l d] W) (hT : Tr (fun _ => False) (.slice q l d) t W) (hD : CellsAt D #[.int .i64 m0, .int .i64 m1, .int .i64 m2, .int .i64 m3, .int .i64 m4, .int .i64 m5, .int .i64 m6, .int .i64 m7, .int .i64 m8, .int .i64 m9, .slice qm lm dm] W) (hR : Tr (fun _ => False) (.slice qm lm dm) r W) (hB : Below w.heap.size w W) (s0 s1 s2 s3 s4 s6 s7 s12 s13 s14 s15 s16 s17 s18 s19 s20 s21 s22 s23 s24 s25 s26 s27 s28 s29 s30 s31 s32 s33 s34 s35 s36 s37 s38 s39 s40 s41 s42 s43 s44 s45 s46 s47 s48 s49 s50 s51 s52 s53 s54 s55 s56 s57 s58 s59 s60 s61 s62 s63 s64 s65 s66 s67 s68 s69 s70 s71 s72 s73 s74 s75 s76 s77 s78 s79 s80 s81 s82 s83 s84 s85 s86 s87 s88 s89 s90 s91 s92 s93 s94 s95 s96 s97 s98 s99 s100 s101 s102 s103 s104 s105 s106 s107 s108 s109 s110 s111 s112 s113 s114 s115 s116 s117 s118 s119 s120 s121 s122 s123 s124 s125 s126 s127 : Value) :
    Code.wp Tryd.prog C0 (bodyPost Tryd.prog Tryd.f3 fun e w' => e = .returned (.bool true) ∧ Below w.heap.size w w') { tmps := (s0 :: s1 :: s2 :: s3 :: s4 :: .pointer (some ⟨Y, 0, none⟩) :: s6 :: s7 :: .bool false :: .bool true :: .pointer (some ⟨P, 0, none⟩) :: .pointer (some ⟨D, 0, none⟩) :: s12 :: s13 :: s14 :: s15 :: s16 :: s17 :: s18 :: s19 :: s20 :: s21 :: s22 :: s23 :: s24 :: s25 :: s26 :: s27 :: s28 :: s29 :: s30 :: s31 :: s32 :: s33 :: s34 :: s35 :: s36 :: s37 :: s38 :: s39 :: s40 :: s41 :: s42 :: s43 :: s44 :: s45 :: s46 :: s47 :: s48 :: s49 :: s50 :: s51 :: s52 :: s53 :: s54 :: s55 :: s56 :: s57 :: s58 :: s59 :: s60 :: s61 :: s62 :: s63 :: s64 :: s65 :: s66 :: s67 :: s68 :: s69 :: s70 :: s71 :: s72 :: s73 :: s74 :: s75 :: s76 :: s77 :: s78 :: s79 :: s80 :: s81 :: s82 :: s83 :: s84 :: s85 :: s86 :: s87 :: s88 :: s89 :: s90 :: s91 :: s92 :: s93 :: s94 :: s95 :: s96 :: s97 :: s98 :: s99 :: s100 :: s101 :: s102 :: s103 :: s104 :: s105 :: s106 :: s107 :: s108 :: s109 :: s110 :: s111 :: s112 :: s113 :: s114 :: s115 :: s116 :: s117 :: s118 :: s119 :: s120 :: s121 :: s122 :: s123 :: s124 :: s125 :: s126 :: s127 :: []).toArray, defers := [] } W := by
  cases hC0
  obtain ⟨ok, hok⟩ : ∃ b, rightZ [x0, x1, x2, x3, x4, x5, x6, x7, x8, x9] t = b := ⟨_, rfl⟩
  obtain ⟨SB, hSB⟩ : ∃ S, (if ok then tx (putZ [x0, x1, x2, x3, x4, x5, x6, x7, x8, x9] t) else ⟨#[]⟩) = S := ⟨_, rfl⟩
  have hput : (if rightZ [x0, x1, x2, x3, x4, x5, x6, x7, x8, x9] t then Value.tuple #[.string (tx (putZ [x0, x1, x2, x3, x4, x5, x6, x7, x8, x9] t)), .bool true] else Value.tuple #[.string ⟨#[]⟩, .bool false]) = .tuple #[.string SB, .bool ok] := by
    rw [hok, ← hSB]
    cases ok <;> rfl
  obtain ⟨TT, hTT⟩ : ∃ S, tx (textZ [x0, x1, x2, x3, x4, x5, x6, x7, x8, x9] t) = S := ⟨_, rfl⟩
  obtain ⟨dd, hdd⟩ : ∃ b, decide ([x0, x1, x2, x3, x4, x5, x6, x7, x8, x9] = [m0, m1, m2, m3, m4, m5, m6, m7, m8, m9] ∧ t = r) = b := ⟨_, rfl⟩
  have hPU : Calls Tryd.prog 12 #[.agg #[.int .i64 x0, .int .i64 x1, .int .i64 x2, .int .i64 x3, .int .i64 x4, .int .i64 x5, .int .i64 x6, .int .i64 x7, .int .i64 x8, .int .i64 x9, .slice q l d]] W fun e w' => e = .returned (.tuple #[.string SB, .bool ok]) ∧ Below W.heap.size W w' := by
    have := put_any _ [x0, x1, x2, x3, x4, x5, x6, x7, x8, x9] t (.slice q l d) W rfl hin hT
    rwa [hput] at this
  have HRP : Hid (∀ W', Calls Tryd.prog 14 #[.agg #[.int .i64 x0, .int .i64 x1, .int .i64 x2, .int .i64 x3, .int .i64 x4, .int .i64 x5, .int .i64 x6, .int .i64 x7, .int .i64 x8, .int .i64 x9, .slice q l d]] W' fun e w' => e = .returned (.agg #[.int .i64 x0, .int .i64 x1, .int .i64 x2, .int .i64 x3, .int .i64 x4, .int .i64 x5, .int .i64 x6, .int .i64 x7, .int .i64 x8, .int .i64 x9, .slice q l d]) ∧ Below W'.heap.size W' w') := Lib.hid (fun W' => refpol_any [x0, x1, x2, x3, x4, x5, x6, x7, x8, x9] q l d W' rfl)
  have HRQ : Hid (∀ W', Calls Tryd.prog 14 #[.agg #[.int .i64 m0, .int .i64 m1, .int .i64 m2, .int .i64 m3, .int .i64 m4, .int .i64 m5, .int .i64 m6, .int .i64 m7, .int .i64 m8, .int .i64 m9, .slice qm lm dm]] W' fun e w' => e = .returned (.agg #[.int .i64 m0, .int .i64 m1, .int .i64 m2, .int .i64 m3, .int .i64 m4, .int .i64 m5, .int .i64 m6, .int .i64 m7, .int .i64 m8, .int .i64 m9, .slice qm lm dm]) ∧ Below W'.heap.size W' w') := Lib.hid (fun W' => refpol_any [m0, m1, m2, m3, m4, m5, m6, m7, m8, m9] qm lm dm W' rfl)
  have HRT : Hid (∀ W', Below W.heap.size W W' → Calls Tryd.prog 13 #[.agg #[.int .i64 x0, .int .i64 x1, .int .i64 x2, .int .i64 x3, .int .i64 x4, .int .i64 x5, .int .i64 x6, .int .i64 x7, .int .i64 x8, .int .i64 x9, .slice q l d]] W' fun e w' => e = .returned (.tuple #[.string SB, .bool ok]) ∧ Below W'.heap.size W' w') := Lib.hid (fun W' h => by
    have := ref_put_in x0 x1 x2 x3 x4 x5 x6 x7 x8 x9 q l d t ht W' (by omega) (hT.below h)
    rwa [hput] at this)
  have H1 : Hid (∀ W', Below W.heap.size W W' → Calls Tryd.prog 15 #[.agg #[.int .i64 x0, .int .i64 x1, .int .i64 x2, .int .i64 x3, .int .i64 x4, .int .i64 x5, .int .i64 x6, .int .i64 x7, .int .i64 x8, .int .i64 x9, .slice q l d]] W' fun e w' => e = .returned (.bool ok) ∧ Below W'.heap.size W' w') := Lib.hid (fun W' h => by
    have := right_any _ [x0, x1, x2, x3, x4, x5, x6, x7, x8, x9] t (.slice q l d) W' rfl hin (hT.below h)
    rwa [right_same _ _ rfl, hok] at this)
  have H3 : Hid (∀ W', Below W.heap.size W W' → Calls Tryd.prog 16 #[.agg #[.int .i64 x0, .int .i64 x1, .int .i64 x2, .int .i64 x3, .int .i64 x4, .int .i64 x5, .int .i64 x6, .int .i64 x7, .int .i64 x8, .int .i64 x9, .slice q l d]] W' fun e w' => e = .returned (.bool ok) ∧ Below W'.heap.size W' w') := Lib.hid (fun W' h => by
    have := ref_right_in x0 x1 x2 x3 x4 x5 x6 x7 x8 x9 q l d t ht W' (by omega) (hT.below h)
    rwa [hok] at this)
  have H4 : Hid (∀ W', Below W.heap.size W W' → Calls Tryd.prog 17 #[.agg #[.int .i64 x0, .int .i64 x1, .int .i64 x2, .int .i64 x3, .int .i64 x4, .int .i64 x5, .int .i64 x6, .int .i64 x7, .int .i64 x8, .int .i64 x9, .slice q l d], .agg #[.int .i64 m0, .int .i64 m1, .int .i64 m2, .int .i64 m3, .int .i64 m4, .int .i64 m5, .int .i64 m6, .int .i64 m7, .int .i64 m8, .int .i64 m9, .slice qm lm dm]] W' fun e w' => e = .returned (.bool dd) ∧ Below W'.heap.size W' w') := Lib.hid (fun W' h => by
    have := same_any _ _ [x0, x1, x2, x3, x4, x5, x6, x7, x8, x9] t [m0, m1, m2, m3, m4, m5, m6, m7, m8, m9] r (.slice q l d) (.slice qm lm dm) W' rfl hin (hT.below h) rfl him (hR.below h)
    rwa [hdd] at this)
  have H6 : Hid (∀ W', Below W.heap.size W W' → Calls Tryd.prog 18 #[.agg #[.int .i64 x0, .int .i64 x1, .int .i64 x2, .int .i64 x3, .int .i64 x4, .int .i64 x5, .int .i64 x6, .int .i64 x7, .int .i64 x8, .int .i64 x9, .slice q l d], .agg #[.int .i64 m0, .int .i64 m1, .int .i64 m2, .int .i64 m3, .int .i64 m4, .int .i64 m5, .int .i64 m6, .int .i64 m7, .int .i64 m8, .int .i64 m9, .slice qm lm dm]] W' fun e w' => e = .returned (.bool dd) ∧ Below W'.heap.size W' w') := Lib.hid (fun W' h => by
    have h1 := hT.below h
    have h2 := hR.below h
    rw [← ht] at h1
    rw [← hr] at h2
    have := ref_same [x0, x1, x2, x3, x4, x5, x6, x7, x8, x9] [m0, m1, m2, m3, m4, m5, m6, m7, m8, m9] t r q qm d dm rfl rfl (by omega) (by omega) W' h1 h2
    rw [hdd, ht, hr] at this
    exact this)
  have H7 : Hid (∀ W', Below W.heap.size W W' → Calls Tryd.prog 17 #[.agg #[.int .i64 x0, .int .i64 x1, .int .i64 x2, .int .i64 x3, .int .i64 x4, .int .i64 x5, .int .i64 x6, .int .i64 x7, .int .i64 x8, .int .i64 x9, .slice q l d], .agg #[.int .i64 x0, .int .i64 x1, .int .i64 x2, .int .i64 x3, .int .i64 x4, .int .i64 x5, .int .i64 x6, .int .i64 x7, .int .i64 x8, .int .i64 x9, .slice q l d]] W' fun e w' => e = .returned (.bool true) ∧ Below W'.heap.size W' w') := Lib.hid (fun W' h => by
    have := same_any _ _ [x0, x1, x2, x3, x4, x5, x6, x7, x8, x9] t [x0, x1, x2, x3, x4, x5, x6, x7, x8, x9] t (.slice q l d) (.slice q l d) W' rfl hin (hT.below h) rfl hin (hT.below h)
    rwa [decide_eq_true ⟨rfl, rfl⟩] at this)
  have H8 : Hid (∀ W', Below W.heap.size W W' → Calls Tryd.prog 19 #[.agg #[.int .i64 x0, .int .i64 x1, .int .i64 x2, .int .i64 x3, .int .i64 x4, .int .i64 x5, .int .i64 x6, .int .i64 x7, .int .i64 x8, .int .i64 x9, .slice q l d]] W' fun e w' => e = .returned (.string TT) ∧ Below W'.heap.size W' w') := Lib.hid (fun W' h => by
    have := text_any _ [x0, x1, x2, x3, x4, x5, x6, x7, x8, x9] t (.slice q l d) W' rfl hin (hT.below h) (by omega) (Tens.below hX h)
    rwa [hTT] at this)
  have H9 : Hid (∀ W', Below W.heap.size W W' → Calls Tryd.prog 20 #[.agg #[.int .i64 x0, .int .i64 x1, .int .i64 x2, .int .i64 x3, .int .i64 x4, .int .i64 x5, .int .i64 x6, .int .i64 x7, .int .i64 x8, .int .i64 x9, .slice q l d]] W' fun e w' => e = .returned (.string TT) ∧ Below W'.heap.size W' w') := Lib.hid (fun W' h => by
    have := ref_text_in x0 x1 x2 x3 x4 x5 x6 x7 x8 x9 q l d t ht W' hin (by omega) (hT.below h)
    rwa [hTT] at this)
  have HP := Lib.hid hP
  have HD := Lib.hid hD
  have HB := Lib.hid hB
  have HW := Lib.hid (Below.refl W.heap.size W)
  have hs1 : (SB.toList == SB.toList) = true := beq_self_eq_true _
  have hs2 : (TT.toList == TT.toList) = true := beq_self_eq_true _
  clear hP hD hB hT hR hin him hX hput hok hSB hTT hdd ht hr hl hlm
  have k0 := HP.out.cell 0 _ rfl
  have k1 := HP.out.cell 1 _ rfl
  have k2 := HP.out.cell 2 _ rfl
  have k3 := HP.out.cell 3 _ rfl
  have k4 := HP.out.cell 4 _ rfl
  have k5 := HP.out.cell 5 _ rfl
  have k6 := HP.out.cell 6 _ rfl
  have k7 := HP.out.cell 7 _ rfl
  have k8 := HP.out.cell 8 _ rfl
  have k9 := HP.out.cell 9 _ rfl
  have k10 := HP.out.cell 10 _ rfl
  have kl := HP.out.lt
  simp only [List.getElem_toArray, List.getElem_cons_zero, List.getElem_cons_succ] at k0 k1 k2 k3 k4 k5 k6 k7 k8 k9 k10
  go_wp2_with fail
  refine hPU.mono ?_
  rintro e w1 ⟨rfl, hB1⟩
  clear k0 k1 k2 k3 k4 k5 k6 k7 k8 k9 k10 kl
  clear hPU
  replace HP := Lib.hid (HP.out.below hB1)
  replace HD := Lib.hid (HD.out.below hB1)
  replace HB := Lib.hid (HB.out.trans (hB1.mono HB.out.size))
  replace HW : Hid (Below W.heap.size W w1) := Lib.hid hB1
  clear hB1
  have k0 := HP.out.cell 0 _ rfl
  have k1 := HP.out.cell 1 _ rfl
  have k2 := HP.out.cell 2 _ rfl
  have k3 := HP.out.cell 3 _ rfl
  have k4 := HP.out.cell 4 _ rfl
  have k5 := HP.out.cell 5 _ rfl
  have k6 := HP.out.cell 6 _ rfl
  have k7 := HP.out.cell 7 _ rfl
  have k8 := HP.out.cell 8 _ rfl
  have k9 := HP.out.cell 9 _ rfl
  have k10 := HP.out.cell 10 _ rfl
  have kl := HP.out.lt
  simp only [List.getElem_toArray, List.getElem_cons_zero, List.getElem_cons_succ] at k0 k1 k2 k3 k4 k5 k6 k7 k8 k9 k10
  go_wp2_with fail
  refine (HRP.out _).mono ?_
  rintro e w2 ⟨rfl, hB1⟩
  clear k0 k1 k2 k3 k4 k5 k6 k7 k8 k9 k10 kl
  replace HP := Lib.hid (HP.out.below hB1)
  replace HD := Lib.hid (HD.out.below hB1)
  replace HB := Lib.hid (HB.out.trans (hB1.mono HB.out.size))
  replace HW : Hid (Below W.heap.size W w2) := Lib.hid (HW.out.trans (hB1.mono HW.out.size))
  clear hB1
  go_wp2_with fail
  refine (HRT.out _ HW.out).mono ?_
  rintro e w3 ⟨rfl, hB1⟩
  replace HP := Lib.hid (HP.out.below hB1)
  replace HD := Lib.hid (HD.out.below hB1)
  replace HB := Lib.hid (HB.out.trans (hB1.mono HB.out.size))
  replace HW : Hid (Below W.heap.size W w3) := Lib.hid (HW.out.trans (hB1.mono HW.out.size))
  clear hB1 HRT
  go_upto_region 31 with fail
  have pl := HP.out.lt
  have dl := HD.out.lt
  have kp0 := fun p => Beh.cell pl (HP.out.cell 0 _ rfl) p
  have kd0 := fun p => Beh.cell dl (HD.out.cell 0 _ rfl) p
  have kp1 := fun p => Beh.cell pl (HP.out.cell 1 _ rfl) p
  have kd1 := fun p => Beh.cell dl (HD.out.cell 1 _ rfl) p
  have kp2 := fun p => Beh.cell pl (HP.out.cell 2 _ rfl) p
  have kd2 := fun p => Beh.cell dl (HD.out.cell 2 _ rfl) p
  have kp3 := fun p => Beh.cell pl (HP.out.cell 3 _ rfl) p
  have kd3 := fun p => Beh.cell dl (HD.out.cell 3 _ rfl) p
  have kp4 := fun p => Beh.cell pl (HP.out.cell 4 _ rfl) p
  have kd4 := fun p => Beh.cell dl (HD.out.cell 4 _ rfl) p
  have kp5 := fun p => Beh.cell pl (HP.out.cell 5 _ rfl) p
  have kd5 := fun p => Beh.cell dl (HD.out.cell 5 _ rfl) p
  have kp6 := fun p => Beh.cell pl (HP.out.cell 6 _ rfl) p
  have kd6 := fun p => Beh.cell dl (HD.out.cell 6 _ rfl) p
  have kp7 := fun p => Beh.cell pl (HP.out.cell 7 _ rfl) p
  have kd7 := fun p => Beh.cell dl (HD.out.cell 7 _ rfl) p
  have kp8 := fun p => Beh.cell pl (HP.out.cell 8 _ rfl) p
  have kd8 := fun p => Beh.cell dl (HD.out.cell 8 _ rfl) p
  have kp9 := fun p => Beh.cell pl (HP.out.cell 9 _ rfl) p
  have kd9 := fun p => Beh.cell dl (HD.out.cell 9 _ rfl) p
  have kp10 := fun p => Beh.cell pl (HP.out.cell 10 _ rfl) p
  have kd10 := fun p => Beh.cell dl (HD.out.cell 10 _ rfl) p
  simp only [List.getElem_toArray, List.getElem_cons_zero, List.getElem_cons_succ] at kp0 kd0 kp1 kd1 kp2 kd2 kp3 kd3 kp4 kd4 kp5 kd5 kp6 kd6 kp7 kd7 kp8 kd8 kp9 kd9 kp10 kd10
  have hw : ∀ p : Beh w3, Below W.heap.size W p.u := fun p => HW.out.trans (p.h.mono HW.out.size)
  have c1 := fun p : Beh w3 => H1.out p.u (hw p)
  have c2 := fun p : Beh w3 => HRP.out p.u
  have c3 := fun p : Beh w3 => H3.out p.u (hw p)
  have c4 := fun p : Beh w3 => H4.out p.u (hw p)
  have c5 := fun p : Beh w3 => HRQ.out p.u
  have c6 := fun p : Beh w3 => H6.out p.u (hw p)
  have c7 := fun p : Beh w3 => H7.out p.u (hw p)
  have c8 := fun p : Beh w3 => H8.out p.u (hw p)
  have c9 := fun p : Beh w3 => H9.out p.u (hw p)
  clear H1 HRP H3 H4 HRQ H6 H7 H8 H9 HP HD HW pl dl hw
  refine wp_region_beh (by kernel_rfl) (by kernel_rfl) ?_
  iterate 4 (quiet_step (exact calls_beh _ (c1 _)))
  iterate 2 (quiet_step (exact calls_beh _ (c2 _)))
  iterate 1 (quiet_step (exact calls_beh _ (c3 _)))
  iterate 6 (quiet_step (exact calls_beh _ (c4 _)))
  iterate 2 (quiet_step (exact calls_beh _ (c2 _)))
  iterate 2 (quiet_step (exact calls_beh _ (c5 _)))
  iterate 1 (quiet_step (exact calls_beh _ (c6 _)))
  iterate 6 (quiet_step (exact calls_beh _ (c7 _)))
  iterate 4 (quiet_step (exact calls_beh _ (c8 _)))
  iterate 2 (quiet_step (exact calls_beh _ (c2 _)))
  iterate 1 (quiet_step (exact calls_beh _ (c9 _)))
  iterate 13 (quiet_step (exact calls_beh _ (c9 _)))
  refine wpQuiet_nil ?_
  intro _ hw'
  obtain ⟨⟨W2, hBW⟩, hw''⟩ := hw'
  subst hw''
  have HB2 := Lib.hid (HB.out.trans (hBW.mono HB.out.size))
  clear hBW c1 c2 c3 c4 c5 c6 c7 c8 c9 kp0 kd0 kp1 kd1 kp2 kd2 kp3 kd3 kp4 kd4 kp5 kd5 kp6 kd6 kp7 kd7 kp8 kd8 kp9 kd9 kp10 kd10
  go_wp2
  go_ret
  exact ⟨rfl, HB2.out⟩
end Go.Proofs.YtmlgcjfcbokibaaDoor.Po

namespace Go.Proofs.YtmlgcjfcbokibaaDoor.Po
open Go Go.RowKit

theorem in_put {l : List Int} {k : Nat} {n : Int} (h : ∀ x ∈ l, In64 x) (hn : In64 n) : ∀ x ∈ l.set k n, In64 x := fun x hx => by
  rcases List.mem_or_eq_of_mem_set hx with h1 | h1
  · exact h x h1
  · rw [h1]; exact hn
end Go.Proofs.YtmlgcjfcbokibaaDoor.Po

namespace Go.Proofs.YtmlgcjfcbokibaaDoor.Po
open Go Go.RowKit

set_option maxRecDepth 100000 in
set_option maxHeartbeats 16000000 in
theorem rights_c0 (a0 a1 a2 a3 a4 a5 a6 a7 a8 a9 b0 b1 b2 b3 b4 b5 b6 b7 b8 b9 x0 x1 x2 x3 x4 x5 x6 x7 x8 x9 m0 m1 m2 m3 m4 m5 m6 m7 m8 m9 : Int) (qx : Option Addr) (lx dx : Nat) (ox : Bool) (px : Option Addr) (hsx : List Nat) (cx : Nat) (qy : Option Addr) (ly dy : Nat) (ow : Bool) (py : Option Addr) (hsy : List Nat) (cy : Nat) (t r : List Int) (l lm : Nat) (n : Int) (how : Nat) (hhow : how < 256) (hki : (how : Int) % 12 = 0) (hn : In64 n) (ht : t.length = l) (hr : r.length = lm) (hl : l ≤ 1048576) (hlm : lm ≤ 1048576)
    (hin : ∀ x ∈ [x0, x1, x2, x3, x4, x5, x6, x7, x8, x9], In64 x) (him : ∀ x ∈ [m0, m1, m2, m3, m4, m5, m6, m7, m8, m9], In64 x) (w : World) (hX : Tens w)
    (hwx : ∀ W', Below w.heap.size w W' → Calls Tryd.prog 11 #[.agg #[.int .i64 a0, .int .i64 a1, .int .i64 a2, .int .i64 a3, .int .i64 a4, .int .i64 a5, .int .i64 a6, .int .i64 a7, .int .i64 a8, .int .i64 a9, .slice qx lx dx, .bool ox, .slice px hsx.length cx]] W' fun e w' => ∃ q d, e = .returned (.agg #[.int .i64 x0, .int .i64 x1, .int .i64 x2, .int .i64 x3, .int .i64 x4, .int .i64 x5, .int .i64 x6, .int .i64 x7, .int .i64 x8, .int .i64 x9, .slice q l d]) ∧ Tr (fun _ => False) (.slice q l d) t w' ∧ Below W'.heap.size W' w')
    (hwy : ∀ W', Below w.heap.size w W' → Calls Tryd.prog 11 #[.agg #[.int .i64 b0, .int .i64 b1, .int .i64 b2, .int .i64 b3, .int .i64 b4, .int .i64 b5, .int .i64 b6, .int .i64 b7, .int .i64 b8, .int .i64 b9, .slice qy ly dy, .bool ow, .slice py hsy.length cy]] W' fun e w' => ∃ q d, e = .returned (.agg #[.int .i64 m0, .int .i64 m1, .int .i64 m2, .int .i64 m3, .int .i64 m4, .int .i64 m5, .int .i64 m6, .int .i64 m7, .int .i64 m8, .int .i64 m9, .slice q lm d]) ∧ Tr (fun _ => False) (.slice q lm d) r w' ∧ Below W'.heap.size W' w') :
    Calls Tryd.prog 3 #[.agg #[.int .i64 a0, .int .i64 a1, .int .i64 a2, .int .i64 a3, .int .i64 a4, .int .i64 a5, .int .i64 a6, .int .i64 a7, .int .i64 a8, .int .i64 a9, .slice qx lx dx, .bool ox, .slice px hsx.length cx], .agg #[.int .i64 b0, .int .i64 b1, .int .i64 b2, .int .i64 b3, .int .i64 b4, .int .i64 b5, .int .i64 b6, .int .i64 b7, .int .i64 b8, .int .i64 b9, .slice qy ly dy, .bool ow, .slice py hsy.length cy], .int .u8 (how : Int), .int .i64 n] w fun e w' => e = .returned (.bool true) ∧ Below w.heap.size w w' := by
  obtain ⟨N, hN⟩ : ∃ N, w.heap.size = N := ⟨_, rfl⟩
  have hB0 : Below w.heap.size w ((w.alloc (.cells #[.int .i64 a0, .int .i64 a1, .int .i64 a2, .int .i64 a3, .int .i64 a4, .int .i64 a5, .int .i64 a6, .int .i64 a7, .int .i64 a8, .int .i64 a9, .slice qx lx dx, .bool ox, .slice px hsx.length cx] 27)).alloc (.cells #[.int .i64 b0, .int .i64 b1, .int .i64 b2, .int .i64 b3, .int .i64 b4, .int .i64 b5, .int .i64 b6, .int .i64 b7, .int .i64 b8, .int .i64 b9, .slice qy ly dy, .bool ow, .slice py hsy.length cy] 27)) := ((Below.refl _ _).alloc (Nat.le_refl _) _).alloc (by simp) _
  have HCX : Hid (CellsAt N #[.int .i64 a0, .int .i64 a1, .int .i64 a2, .int .i64 a3, .int .i64 a4, .int .i64 a5, .int .i64 a6, .int .i64 a7, .int .i64 a8, .int .i64 a9, .slice qx lx dx, .bool ox, .slice px hsx.length cx] ((w.alloc (.cells #[.int .i64 a0, .int .i64 a1, .int .i64 a2, .int .i64 a3, .int .i64 a4, .int .i64 a5, .int .i64 a6, .int .i64 a7, .int .i64 a8, .int .i64 a9, .slice qx lx dx, .bool ox, .slice px hsx.length cx] 27)).alloc (.cells #[.int .i64 b0, .int .i64 b1, .int .i64 b2, .int .i64 b3, .int .i64 b4, .int .i64 b5, .int .i64 b6, .int .i64 b7, .int .i64 b8, .int .i64 b9, .slice qy ly dy, .bool ow, .slice py hsy.length cy] 27))) := Lib.hid ((CellsAt.newAt #[.int .i64 a0, .int .i64 a1, .int .i64 a2, .int .i64 a3, .int .i64 a4, .int .i64 a5, .int .i64 a6, .int .i64 a7, .int .i64 a8, .int .i64 a9, .slice qx lx dx, .bool ox, .slice px hsx.length cx] 27 w N hN.symm).past _)
  have HCY : Hid (CellsAt (N + 1) #[.int .i64 b0, .int .i64 b1, .int .i64 b2, .int .i64 b3, .int .i64 b4, .int .i64 b5, .int .i64 b6, .int .i64 b7, .int .i64 b8, .int .i64 b9, .slice qy ly dy, .bool ow, .slice py hsy.length cy] ((w.alloc (.cells #[.int .i64 a0, .int .i64 a1, .int .i64 a2, .int .i64 a3, .int .i64 a4, .int .i64 a5, .int .i64 a6, .int .i64 a7, .int .i64 a8, .int .i64 a9, .slice qx lx dx, .bool ox, .slice px hsx.length cx] 27)).alloc (.cells #[.int .i64 b0, .int .i64 b1, .int .i64 b2, .int .i64 b3, .int .i64 b4, .int .i64 b5, .int .i64 b6, .int .i64 b7, .int .i64 b8, .int .i64 b9, .slice qy ly dy, .bool ow, .slice py hsy.length cy] 27))) := Lib.hid (CellsAt.newAt #[.int .i64 b0, .int .i64 b1, .int .i64 b2, .int .i64 b3, .int .i64 b4, .int .i64 b5, .int .i64 b6, .int .i64 b7, .int .i64 b8, .int .i64 b9, .slice qy ly dy, .bool ow, .slice py hsy.length cy] 27 _ _ (by simp [hN]))
  have HB := Lib.hid hB0
  have HTX := Lib.hid hX
  have hex := fun W hW => examples_any W hW
  have hexc := hex _ (Tens.below hX hB0)
  have HWX := Lib.hid hwx
  have HWY := Lib.hid hwy
  have HNI := Lib.hid hn
  have HIN := Lib.hid hin
  have HIM := Lib.hid him
  have HLT := Lib.hid ht
  have HLR := Lib.hid hr
  clear hB0 hX hex hwx hwy hn hin him ht hr
  go_enter Tryd.func3, Tryd.ntmps3
  go_wp2_with fail
  refine hexc.mono ?_
  rintro e w1 ⟨rfl, hB1⟩
  clear hN hexc
  replace HCX := Lib.hid (HCX.out.below hB1)
  replace HCY := Lib.hid (HCY.out.below hB1)
  replace HB := Lib.hid (HB.out.trans (hB1.mono HB.out.size))
  clear hB1
  have k0 := HCX.out.cell 0 _ rfl
  have k1 := HCX.out.cell 1 _ rfl
  have k2 := HCX.out.cell 2 _ rfl
  have k3 := HCX.out.cell 3 _ rfl
  have k4 := HCX.out.cell 4 _ rfl
  have k5 := HCX.out.cell 5 _ rfl
  have k6 := HCX.out.cell 6 _ rfl
  have k7 := HCX.out.cell 7 _ rfl
  have k8 := HCX.out.cell 8 _ rfl
  have k9 := HCX.out.cell 9 _ rfl
  have k10 := HCX.out.cell 10 _ rfl
  have k11 := HCX.out.cell 11 _ rfl
  have k12 := HCX.out.cell 12 _ rfl
  have kl := HCX.out.lt
  simp only [List.getElem_toArray, List.getElem_cons_zero, List.getElem_cons_succ] at k0 k1 k2 k3 k4 k5 k6 k7 k8 k9 k10 k11 k12
  have hwc := HWX.out w1 HB.out
  go_wp2_with fail
  refine hwc.mono ?_
  rintro e w2 ⟨q, d, rfl, hT, hB1⟩
  clear k0 k1 k2 k3 k4 k5 k6 k7 k8 k9 k10 k11 k12 kl
  replace HCY := Lib.hid (HCY.out.below hB1)
  replace HB := Lib.hid (HB.out.trans (hB1.mono HB.out.size))
  clear hB1 hwc HCX HWX
  have HT := Lib.hid hT
  clear hT
  go_upto_region 28 with fail
  have hBx : Below w2.heap.size w2 (w2.alloc (.cells #[.int .i64 x0, .int .i64 x1, .int .i64 x2, .int .i64 x3, .int .i64 x4, .int .i64 x5, .int .i64 x6, .int .i64 x7, .int .i64 x8, .int .i64 x9, .slice q l d] 24)) := (Below.refl _ _).alloc (Nat.le_refl _) _
  have HP : Hid (CellsAt w2.heap.size #[.int .i64 x0, .int .i64 x1, .int .i64 x2, .int .i64 x3, .int .i64 x4, .int .i64 x5, .int .i64 x6, .int .i64 x7, .int .i64 x8, .int .i64 x9, .slice q l d] (w2.alloc (.cells #[.int .i64 x0, .int .i64 x1, .int .i64 x2, .int .i64 x3, .int .i64 x4, .int .i64 x5, .int .i64 x6, .int .i64 x7, .int .i64 x8, .int .i64 x9, .slice q l d] 24))) := Lib.hid (CellsAt.new _ _ _)
  replace HCY := Lib.hid (HCY.out.below hBx)
  replace HT := Lib.hid (HT.out.below hBx)
  replace HB := Lib.hid (HB.out.trans (hBx.mono HB.out.size))
  clear hBx
  generalize w2.alloc (.cells #[.int .i64 x0, .int .i64 x1, .int .i64 x2, .int .i64 x3, .int .i64 x4, .int .i64 x5, .int .i64 x6, .int .i64 x7, .int .i64 x8, .int .i64 x9, .slice q l d] 24) = W3 at *
  refine rights_28 _ (by kernel_rfl) _ W3 (N + 1) w2.heap.size b0 b1 b2 b3 b4 b5 b6 b7 b8 b9 m0 m1 m2 m3 m4 m5 m6 m7 m8 m9 qy ly dy ow py hsy cy lm r (fun W' h => HWY.out W' (HB.out.trans (h.mono HB.out.size))) HCY.out _ _ _ _ _ _ _ _ _ _ _ _ _ _ _ _ _ _ _ _ _ _ _ _ _ _ _ _ _ _ _ _ _ _ _ _ _ _ _ _ _ _ _ _ _ _ _ _ _ _ _ _ _ _ _ _ _ _ _ _ _ _ _ _ _ _ _ _ _ _ _ _ _ _ _ _ _ _ _ _ _ _ _ _ _ _ _ _ _ _ _ _ _ _ _ _ _ _ _ _ _ _ _ _ _ _ _ _ _ _ _ _ _ _ _ _ _ _ _ _ _ _ _ _ ?_
  intro W' D qm dm z72 z73 hD hR hB'
  rename_i K hK
  refine hK _ _ ?_
  clear hK
  exact rights_29 _ (by kernel_rfl) w W' (N + 1) w2.heap.size D x0 x1 x2 x3 x4 x5 x6 x7 x8 x9 m0 m1 m2 m3 m4 m5 m6 m7 m8 m9 q qm l d lm dm t r HLT.out HLR.out (by omega) hlm HIN.out HIM.out (Tens.below HTX.out (HB.out.trans (hB'.mono HB.out.size))) (HP.out.below hB') (HT.out.below hB') hD hR (HB.out.trans (hB'.mono HB.out.size)) _ _ _ _ _ _ _ _ _ _ _ _ _ _ _ _ _ _ _ _ _ _ _ _ _ _ _ _ _ _ _ _ _ _ _ _ _ _ _ _ _ _ _ _ _ _ _ _ _ _ _ _ _ _ _ _ _ _ _ _ _ _ _ _ _ _ _ _ _ _ _ _ _ _ _ _ _ _ _ _ _ _ _ _ _ _ _ _ _ _ _ _ _ _ _ _ _ _ _ _ _ _ _ _ _ _ _ _ _ _ _ _ _ _ _ _ _ _ _ _ _ _ _
set_option maxRecDepth 100000 in
set_option maxHeartbeats 16000000 in
theorem rights_c1 (a0 a1 a2 a3 a4 a5 a6 a7 a8 a9 b0 b1 b2 b3 b4 b5 b6 b7 b8 b9 x0 x1 x2 x3 x4 x5 x6 x7 x8 x9 m0 m1 m2 m3 m4 m5 m6 m7 m8 m9 : Int) (qx : Option Addr) (lx dx : Nat) (ox : Bool) (px : Option Addr) (hsx : List Nat) (cx : Nat) (qy : Option Addr) (ly dy : Nat) (ow : Bool) (py : Option Addr) (hsy : List Nat) (cy : Nat) (t r : List Int) (l lm : Nat) (n : Int) (how : Nat) (hhow : how < 256) (hki : (how : Int) % 12 = 1) (hn : In64 n) (ht : t.length = l) (hr : r.length = lm) (hl : l ≤ 1048576) (hlm : lm ≤ 1048576)
    (hin : ∀ x ∈ [x0, x1, x2, x3, x4, x5, x6, x7, x8, x9], In64 x) (him : ∀ x ∈ [m0, m1, m2, m3, m4, m5, m6, m7, m8, m9], In64 x) (w : World) (hX : Tens w)
    (hwx : ∀ W', Below w.heap.size w W' → Calls Tryd.prog 11 #[.agg #[.int .i64 a0, .int .i64 a1, .int .i64 a2, .int .i64 a3, .int .i64 a4, .int .i64 a5, .int .i64 a6, .int .i64 a7, .int .i64 a8, .int .i64 a9, .slice qx lx dx, .bool ox, .slice px hsx.length cx]] W' fun e w' => ∃ q d, e = .returned (.agg #[.int .i64 x0, .int .i64 x1, .int .i64 x2, .int .i64 x3, .int .i64 x4, .int .i64 x5, .int .i64 x6, .int .i64 x7, .int .i64 x8, .int .i64 x9, .slice q l d]) ∧ Tr (fun _ => False) (.slice q l d) t w' ∧ Below W'.heap.size W' w')
    (hwy : ∀ W', Below w.heap.size w W' → Calls Tryd.prog 11 #[.agg #[.int .i64 b0, .int .i64 b1, .int .i64 b2, .int .i64 b3, .int .i64 b4, .int .i64 b5, .int .i64 b6, .int .i64 b7, .int .i64 b8, .int .i64 b9, .slice qy ly dy, .bool ow, .slice py hsy.length cy]] W' fun e w' => ∃ q d, e = .returned (.agg #[.int .i64 m0, .int .i64 m1, .int .i64 m2, .int .i64 m3, .int .i64 m4, .int .i64 m5, .int .i64 m6, .int .i64 m7, .int .i64 m8, .int .i64 m9, .slice q lm d]) ∧ Tr (fun _ => False) (.slice q lm d) r w' ∧ Below W'.heap.size W' w') :
    Calls Tryd.prog 3 #[.agg #[.int .i64 a0, .int .i64 a1, .int .i64 a2, .int .i64 a3, .int .i64 a4, .int .i64 a5, .int .i64 a6, .int .i64 a7, .int .i64 a8, .int .i64 a9, .slice qx lx dx, .bool ox, .slice px hsx.length cx], .agg #[.int .i64 b0, .int .i64 b1, .int .i64 b2, .int .i64 b3, .int .i64 b4, .int .i64 b5, .int .i64 b6, .int .i64 b7, .int .i64 b8, .int .i64 b9, .slice qy ly dy, .bool ow, .slice py hsy.length cy], .int .u8 (how : Int), .int .i64 n] w fun e w' => e = .returned (.bool true) ∧ Below w.heap.size w w' := by
  obtain ⟨N, hN⟩ : ∃ N, w.heap.size = N := ⟨_, rfl⟩
  have hB0 : Below w.heap.size w ((w.alloc (.cells #[.int .i64 a0, .int .i64 a1, .int .i64 a2, .int .i64 a3, .int .i64 a4, .int .i64 a5, .int .i64 a6, .int .i64 a7, .int .i64 a8, .int .i64 a9, .slice qx lx dx, .bool ox, .slice px hsx.length cx] 27)).alloc (.cells #[.int .i64 b0, .int .i64 b1, .int .i64 b2, .int .i64 b3, .int .i64 b4, .int .i64 b5, .int .i64 b6, .int .i64 b7, .int .i64 b8, .int .i64 b9, .slice qy ly dy, .bool ow, .slice py hsy.length cy] 27)) := ((Below.refl _ _).alloc (Nat.le_refl _) _).alloc (by simp) _
  have HCX : Hid (CellsAt N #[.int .i64 a0, .int .i64 a1, .int .i64 a2, .int .i64 a3, .int .i64 a4, .int .i64 a5, .int .i64 a6, .int .i64 a7, .int .i64 a8, .int .i64 a9, .slice qx lx dx, .bool ox, .slice px hsx.length cx] ((w.alloc (.cells #[.int .i64 a0, .int .i64 a1, .int .i64 a2, .int .i64 a3, .int .i64 a4, .int .i64 a5, .int .i64 a6, .int .i64 a7, .int .i64 a8, .int .i64 a9, .slice qx lx dx, .bool ox, .slice px hsx.length cx] 27)).alloc (.cells #[.int .i64 b0, .int .i64 b1, .int .i64 b2, .int .i64 b3, .int .i64 b4, .int .i64 b5, .int .i64 b6, .int .i64 b7, .int .i64 b8, .int .i64 b9, .slice qy ly dy, .bool ow, .slice py hsy.length cy] 27))) := Lib.hid ((CellsAt.newAt #[.int .i64 a0, .int .i64 a1, .int .i64 a2, .int .i64 a3, .int .i64 a4, .int .i64 a5, .int .i64 a6, .int .i64 a7, .int .i64 a8, .int .i64 a9, .slice qx lx dx, .bool ox, .slice px hsx.length cx] 27 w N hN.symm).past _)
  have HCY : Hid (CellsAt (N + 1) #[.int .i64 b0, .int .i64 b1, .int .i64 b2, .int .i64 b3, .int .i64 b4, .int .i64 b5, .int .i64 b6, .int .i64 b7, .int .i64 b8, .int .i64 b9, .slice qy ly dy, .bool ow, .slice py hsy.length cy] ((w.alloc (.cells #[.int .i64 a0, .int .i64 a1, .int .i64 a2, .int .i64 a3, .int .i64 a4, .int .i64 a5, .int .i64 a6, .int .i64 a7, .int .i64 a8, .int .i64 a9, .slice qx lx dx, .bool ox, .slice px hsx.length cx] 27)).alloc (.cells #[.int .i64 b0, .int .i64 b1, .int .i64 b2, .int .i64 b3, .int .i64 b4, .int .i64 b5, .int .i64 b6, .int .i64 b7, .int .i64 b8, .int .i64 b9, .slice qy ly dy, .bool ow, .slice py hsy.length cy] 27))) := Lib.hid (CellsAt.newAt #[.int .i64 b0, .int .i64 b1, .int .i64 b2, .int .i64 b3, .int .i64 b4, .int .i64 b5, .int .i64 b6, .int .i64 b7, .int .i64 b8, .int .i64 b9, .slice qy ly dy, .bool ow, .slice py hsy.length cy] 27 _ _ (by simp [hN]))
  have HB := Lib.hid hB0
  have HTX := Lib.hid hX
  have hex := fun W hW => examples_any W hW
  have hexc := hex _ (Tens.below hX hB0)
  have HWX := Lib.hid hwx
  have HWY := Lib.hid hwy
  have HNI := Lib.hid hn
  have HIN := Lib.hid hin
  have HIM := Lib.hid him
  have HLT := Lib.hid ht
  have HLR := Lib.hid hr
  clear hB0 hX hex hwx hwy hn hin him ht hr
  go_enter Tryd.func3, Tryd.ntmps3
  go_wp2_with fail
  refine hexc.mono ?_
  rintro e w1 ⟨rfl, hB1⟩
  clear hN hexc
  replace HCX := Lib.hid (HCX.out.below hB1)
  replace HCY := Lib.hid (HCY.out.below hB1)
  replace HB := Lib.hid (HB.out.trans (hB1.mono HB.out.size))
  clear hB1
  have k0 := HCX.out.cell 0 _ rfl
  have k1 := HCX.out.cell 1 _ rfl
  have k2 := HCX.out.cell 2 _ rfl
  have k3 := HCX.out.cell 3 _ rfl
  have k4 := HCX.out.cell 4 _ rfl
  have k5 := HCX.out.cell 5 _ rfl
  have k6 := HCX.out.cell 6 _ rfl
  have k7 := HCX.out.cell 7 _ rfl
  have k8 := HCX.out.cell 8 _ rfl
  have k9 := HCX.out.cell 9 _ rfl
  have k10 := HCX.out.cell 10 _ rfl
  have k11 := HCX.out.cell 11 _ rfl
  have k12 := HCX.out.cell 12 _ rfl
  have kl := HCX.out.lt
  simp only [List.getElem_toArray, List.getElem_cons_zero, List.getElem_cons_succ] at k0 k1 k2 k3 k4 k5 k6 k7 k8 k9 k10 k11 k12
  have hwc := HWX.out w1 HB.out
  go_wp2_with fail
  refine hwc.mono ?_
  rintro e w2 ⟨q, d, rfl, hT, hB1⟩
  clear k0 k1 k2 k3 k4 k5 k6 k7 k8 k9 k10 k11 k12 kl
  replace HCY := Lib.hid (HCY.out.below hB1)
  replace HB := Lib.hid (HB.out.trans (hB1.mono HB.out.size))
  clear hB1 hwc HCX HWX
  have HT := Lib.hid hT
  clear hT
  go_upto_region 28 with fail
  have hBx : Below w2.heap.size w2 (w2.alloc (.cells #[.int .i64 n, .int .i64 x1, .int .i64 x2, .int .i64 x3, .int .i64 x4, .int .i64 x5, .int .i64 x6, .int .i64 x7, .int .i64 x8, .int .i64 x9, .slice q l d] 24)) := (Below.refl _ _).alloc (Nat.le_refl _) _
  have HP : Hid (CellsAt w2.heap.size #[.int .i64 n, .int .i64 x1, .int .i64 x2, .int .i64 x3, .int .i64 x4, .int .i64 x5, .int .i64 x6, .int .i64 x7, .int .i64 x8, .int .i64 x9, .slice q l d] (w2.alloc (.cells #[.int .i64 n, .int .i64 x1, .int .i64 x2, .int .i64 x3, .int .i64 x4, .int .i64 x5, .int .i64 x6, .int .i64 x7, .int .i64 x8, .int .i64 x9, .slice q l d] 24))) := Lib.hid (CellsAt.new _ _ _)
  replace HCY := Lib.hid (HCY.out.below hBx)
  replace HT := Lib.hid (HT.out.below hBx)
  replace HB := Lib.hid (HB.out.trans (hBx.mono HB.out.size))
  clear hBx
  generalize w2.alloc (.cells #[.int .i64 n, .int .i64 x1, .int .i64 x2, .int .i64 x3, .int .i64 x4, .int .i64 x5, .int .i64 x6, .int .i64 x7, .int .i64 x8, .int .i64 x9, .slice q l d] 24) = W3 at *
  refine rights_28 _ (by kernel_rfl) _ W3 (N + 1) w2.heap.size b0 b1 b2 b3 b4 b5 b6 b7 b8 b9 m0 m1 m2 m3 m4 m5 m6 m7 m8 m9 qy ly dy ow py hsy cy lm r (fun W' h => HWY.out W' (HB.out.trans (h.mono HB.out.size))) HCY.out _ _ _ _ _ _ _ _ _ _ _ _ _ _ _ _ _ _ _ _ _ _ _ _ _ _ _ _ _ _ _ _ _ _ _ _ _ _ _ _ _ _ _ _ _ _ _ _ _ _ _ _ _ _ _ _ _ _ _ _ _ _ _ _ _ _ _ _ _ _ _ _ _ _ _ _ _ _ _ _ _ _ _ _ _ _ _ _ _ _ _ _ _ _ _ _ _ _ _ _ _ _ _ _ _ _ _ _ _ _ _ _ _ _ _ _ _ _ _ _ _ _ _ _ ?_
  intro W' D qm dm z72 z73 hD hR hB'
  rename_i K hK
  refine hK _ _ ?_
  clear hK
  exact rights_29 _ (by kernel_rfl) w W' (N + 1) w2.heap.size D n x1 x2 x3 x4 x5 x6 x7 x8 x9 m0 m1 m2 m3 m4 m5 m6 m7 m8 m9 q qm l d lm dm t r HLT.out HLR.out (by omega) hlm (in_put (k := 0) HIN.out HNI.out) HIM.out (Tens.below HTX.out (HB.out.trans (hB'.mono HB.out.size))) (HP.out.below hB') (HT.out.below hB') hD hR (HB.out.trans (hB'.mono HB.out.size)) _ _ _ _ _ _ _ _ _ _ _ _ _ _ _ _ _ _ _ _ _ _ _ _ _ _ _ _ _ _ _ _ _ _ _ _ _ _ _ _ _ _ _ _ _ _ _ _ _ _ _ _ _ _ _ _ _ _ _ _ _ _ _ _ _ _ _ _ _ _ _ _ _ _ _ _ _ _ _ _ _ _ _ _ _ _ _ _ _ _ _ _ _ _ _ _ _ _ _ _ _ _ _ _ _ _ _ _ _ _ _ _ _ _ _ _ _ _ _ _ _ _ _
set_option maxRecDepth 100000 in
set_option maxHeartbeats 16000000 in
theorem rights_c2 (a0 a1 a2 a3 a4 a5 a6 a7 a8 a9 b0 b1 b2 b3 b4 b5 b6 b7 b8 b9 x0 x1 x2 x3 x4 x5 x6 x7 x8 x9 m0 m1 m2 m3 m4 m5 m6 m7 m8 m9 : Int) (qx : Option Addr) (lx dx : Nat) (ox : Bool) (px : Option Addr) (hsx : List Nat) (cx : Nat) (qy : Option Addr) (ly dy : Nat) (ow : Bool) (py : Option Addr) (hsy : List Nat) (cy : Nat) (t r : List Int) (l lm : Nat) (n : Int) (how : Nat) (hhow : how < 256) (hki : (how : Int) % 12 = 2) (hn : In64 n) (ht : t.length = l) (hr : r.length = lm) (hl : l ≤ 1048576) (hlm : lm ≤ 1048576)
    (hin : ∀ x ∈ [x0, x1, x2, x3, x4, x5, x6, x7, x8, x9], In64 x) (him : ∀ x ∈ [m0, m1, m2, m3, m4, m5, m6, m7, m8, m9], In64 x) (w : World) (hX : Tens w)
    (hwx : ∀ W', Below w.heap.size w W' → Calls Tryd.prog 11 #[.agg #[.int .i64 a0, .int .i64 a1, .int .i64 a2, .int .i64 a3, .int .i64 a4, .int .i64 a5, .int .i64 a6, .int .i64 a7, .int .i64 a8, .int .i64 a9, .slice qx lx dx, .bool ox, .slice px hsx.length cx]] W' fun e w' => ∃ q d, e = .returned (.agg #[.int .i64 x0, .int .i64 x1, .int .i64 x2, .int .i64 x3, .int .i64 x4, .int .i64 x5, .int .i64 x6, .int .i64 x7, .int .i64 x8, .int .i64 x9, .slice q l d]) ∧ Tr (fun _ => False) (.slice q l d) t w' ∧ Below W'.heap.size W' w')
    (hwy : ∀ W', Below w.heap.size w W' → Calls Tryd.prog 11 #[.agg #[.int .i64 b0, .int .i64 b1, .int .i64 b2, .int .i64 b3, .int .i64 b4, .int .i64 b5, .int .i64 b6, .int .i64 b7, .int .i64 b8, .int .i64 b9, .slice qy ly dy, .bool ow, .slice py hsy.length cy]] W' fun e w' => ∃ q d, e = .returned (.agg #[.int .i64 m0, .int .i64 m1, .int .i64 m2, .int .i64 m3, .int .i64 m4, .int .i64 m5, .int .i64 m6, .int .i64 m7, .int .i64 m8, .int .i64 m9, .slice q lm d]) ∧ Tr (fun _ => False) (.slice q lm d) r w' ∧ Below W'.heap.size W' w') :
    Calls Tryd.prog 3 #[.agg #[.int .i64 a0, .int .i64 a1, .int .i64 a2, .int .i64 a3, .int .i64 a4, .int .i64 a5, .int .i64 a6, .int .i64 a7, .int .i64 a8, .int .i64 a9, .slice qx lx dx, .bool ox, .slice px hsx.length cx], .agg #[.int .i64 b0, .int .i64 b1, .int .i64 b2, .int .i64 b3, .int .i64 b4, .int .i64 b5, .int .i64 b6, .int .i64 b7, .int .i64 b8, .int .i64 b9, .slice qy ly dy, .bool ow, .slice py hsy.length cy], .int .u8 (how : Int), .int .i64 n] w fun e w' => e = .returned (.bool true) ∧ Below w.heap.size w w' := by
  obtain ⟨N, hN⟩ : ∃ N, w.heap.size = N := ⟨_, rfl⟩
  have hB0 : Below w.heap.size w ((w.alloc (.cells #[.int .i64 a0, .int .i64 a1, .int .i64 a2, .int .i64 a3, .int .i64 a4, .int .i64 a5, .int .i64 a6, .int .i64 a7, .int .i64 a8, .int .i64 a9, .slice qx lx dx, .bool ox, .slice px hsx.length cx] 27)).alloc (.cells #[.int .i64 b0, .int .i64 b1, .int .i64 b2, .int .i64 b3, .int .i64 b4, .int .i64 b5, .int .i64 b6, .int .i64 b7, .int .i64 b8, .int .i64 b9, .slice qy ly dy, .bool ow, .slice py hsy.length cy] 27)) := ((Below.refl _ _).alloc (Nat.le_refl _) _).alloc (by simp) _
  have HCX : Hid (CellsAt N #[.int .i64 a0, .int .i64 a1, .int .i64 a2, .int .i64 a3, .int .i64 a4, .int .i64 a5, .int .i64 a6, .int .i64 a7, .int .i64 a8, .int .i64 a9, .slice qx lx dx, .bool ox, .slice px hsx.length cx] ((w.alloc (.cells #[.int .i64 a0, .int .i64 a1, .int .i64 a2, .int .i64 a3, .int .i64 a4, .int .i64 a5, .int .i64 a6, .int .i64 a7, .int .i64 a8, .int .i64 a9, .slice qx lx dx, .bool ox, .slice px hsx.length cx] 27)).alloc (.cells #[.int .i64 b0, .int .i64 b1, .int .i64 b2, .int .i64 b3, .int .i64 b4, .int .i64 b5, .int .i64 b6, .int .i64 b7, .int .i64 b8, .int .i64 b9, .slice qy ly dy, .bool ow, .slice py hsy.length cy] 27))) := Lib.hid ((CellsAt.newAt #[.int .i64 a0, .int .i64 a1, .int .i64 a2, .int .i64 a3, .int .i64 a4, .int .i64 a5, .int .i64 a6, .int .i64 a7, .int .i64 a8, .int .i64 a9, .slice qx lx dx, .bool ox, .slice px hsx.length cx] 27 w N hN.symm).past _)
  have HCY : Hid (CellsAt (N + 1) #[.int .i64 b0, .int .i64 b1, .int .i64 b2, .int .i64 b3, .int .i64 b4, .int .i64 b5, .int .i64 b6, .int .i64 b7, .int .i64 b8, .int .i64 b9, .slice qy ly dy, .bool ow, .slice py hsy.length cy] ((w.alloc (.cells #[.int .i64 a0, .int .i64 a1, .int .i64 a2, .int .i64 a3, .int .i64 a4, .int .i64 a5, .int .i64 a6, .int .i64 a7, .int .i64 a8, .int .i64 a9, .slice qx lx dx, .bool ox, .slice px hsx.length cx] 27)).alloc (.cells #[.int .i64 b0, .int .i64 b1, .int .i64 b2, .int .i64 b3, .int .i64 b4, .int .i64 b5, .int .i64 b6, .int .i64 b7, .int .i64 b8, .int .i64 b9, .slice qy ly dy, .bool ow, .slice py hsy.length cy] 27))) := Lib.hid (CellsAt.newAt #[.int .i64 b0, .int .i64 b1, .int .i64 b2, .int .i64 b3, .int .i64 b4, .int .i64 b5, .int .i64 b6, .int .i64 b7, .int .i64 b8, .int .i64 b9, .slice qy ly dy, .bool ow, .slice py hsy.length cy] 27 _ _ (by simp [hN]))
  have HB := Lib.hid hB0
  have HTX := Lib.hid hX
  have hex := fun W hW => examples_any W hW
  have hexc := hex _ (Tens.below hX hB0)
  have HWX := Lib.hid hwx
  have HWY := Lib.hid hwy
  have HNI := Lib.hid hn
  have HIN := Lib.hid hin
  have HIM := Lib.hid him
  have HLT := Lib.hid ht
  have HLR := Lib.hid hr
  clear hB0 hX hex hwx hwy hn hin him ht hr
  go_enter Tryd.func3, Tryd.ntmps3
  go_wp2_with fail
  refine hexc.mono ?_
  rintro e w1 ⟨rfl, hB1⟩
  clear hN hexc
  replace HCX := Lib.hid (HCX.out.below hB1)
  replace HCY := Lib.hid (HCY.out.below hB1)
  replace HB := Lib.hid (HB.out.trans (hB1.mono HB.out.size))
  clear hB1
  have k0 := HCX.out.cell 0 _ rfl
  have k1 := HCX.out.cell 1 _ rfl
  have k2 := HCX.out.cell 2 _ rfl
  have k3 := HCX.out.cell 3 _ rfl
  have k4 := HCX.out.cell 4 _ rfl
  have k5 := HCX.out.cell 5 _ rfl
  have k6 := HCX.out.cell 6 _ rfl
  have k7 := HCX.out.cell 7 _ rfl
  have k8 := HCX.out.cell 8 _ rfl
  have k9 := HCX.out.cell 9 _ rfl
  have k10 := HCX.out.cell 10 _ rfl
  have k11 := HCX.out.cell 11 _ rfl
  have k12 := HCX.out.cell 12 _ rfl
  have kl := HCX.out.lt
  simp only [List.getElem_toArray, List.getElem_cons_zero, List.getElem_cons_succ] at k0 k1 k2 k3 k4 k5 k6 k7 k8 k9 k10 k11 k12
  have hwc := HWX.out w1 HB.out
  go_wp2_with fail
  refine hwc.mono ?_
  rintro e w2 ⟨q, d, rfl, hT, hB1⟩
  clear k0 k1 k2 k3 k4 k5 k6 k7 k8 k9 k10 k11 k12 kl
  replace HCY := Lib.hid (HCY.out.below hB1)
  replace HB := Lib.hid (HB.out.trans (hB1.mono HB.out.size))
  clear hB1 hwc HCX HWX
  have HT := Lib.hid hT
  clear hT
  go_upto_region 28 with fail
  have hBx : Below w2.heap.size w2 (w2.alloc (.cells #[.int .i64 x0, .int .i64 n, .int .i64 x2, .int .i64 x3, .int .i64 x4, .int .i64 x5, .int .i64 x6, .int .i64 x7, .int .i64 x8, .int .i64 x9, .slice q l d] 24)) := (Below.refl _ _).alloc (Nat.le_refl _) _
  have HP : Hid (CellsAt w2.heap.size #[.int .i64 x0, .int .i64 n, .int .i64 x2, .int .i64 x3, .int .i64 x4, .int .i64 x5, .int .i64 x6, .int .i64 x7, .int .i64 x8, .int .i64 x9, .slice q l d] (w2.alloc (.cells #[.int .i64 x0, .int .i64 n, .int .i64 x2, .int .i64 x3, .int .i64 x4, .int .i64 x5, .int .i64 x6, .int .i64 x7, .int .i64 x8, .int .i64 x9, .slice q l d] 24))) := Lib.hid (CellsAt.new _ _ _)
  replace HCY := Lib.hid (HCY.out.below hBx)
  replace HT := Lib.hid (HT.out.below hBx)
  replace HB := Lib.hid (HB.out.trans (hBx.mono HB.out.size))
  clear hBx
  generalize w2.alloc (.cells #[.int .i64 x0, .int .i64 n, .int .i64 x2, .int .i64 x3, .int .i64 x4, .int .i64 x5, .int .i64 x6, .int .i64 x7, .int .i64 x8, .int .i64 x9, .slice q l d] 24) = W3 at *
  refine rights_28 _ (by kernel_rfl) _ W3 (N + 1) w2.heap.size b0 b1 b2 b3 b4 b5 b6 b7 b8 b9 m0 m1 m2 m3 m4 m5 m6 m7 m8 m9 qy ly dy ow py hsy cy lm r (fun W' h => HWY.out W' (HB.out.trans (h.mono HB.out.size))) HCY.out _ _ _ _ _ _ _ _ _ _ _ _ _ _ _ _ _ _ _ _ _ _ _ _ _ _ _ _ _ _ _ _ _ _ _ _ _ _ _ _ _ _ _ _ _ _ _ _ _ _ _ _ _ _ _ _ _ _ _ _ _ _ _ _ _ _ _ _ _ _ _ _ _ _ _ _ _ _ _ _ _ _ _ _ _ _ _ _ _ _ _ _ _ _ _ _ _ _ _ _ _ _ _ _ _ _ _ _ _ _ _ _ _ _ _ _ _ _ _ _ _ _ _ _ ?_
  intro W' D qm dm z72 z73 hD hR hB'
  rename_i K hK
  refine hK _ _ ?_
  clear hK
  exact rights_29 _ (by kernel_rfl) w W' (N + 1) w2.heap.size D x0 n x2 x3 x4 x5 x6 x7 x8 x9 m0 m1 m2 m3 m4 m5 m6 m7 m8 m9 q qm l d lm dm t r HLT.out HLR.out (by omega) hlm (in_put (k := 1) HIN.out HNI.out) HIM.out (Tens.below HTX.out (HB.out.trans (hB'.mono HB.out.size))) (HP.out.below hB') (HT.out.below hB') hD hR (HB.out.trans (hB'.mono HB.out.size)) _ _ _ _ _ _ _ _ _ _ _ _ _ _ _ _ _ _ _ _ _ _ _ _ _ _ _ _ _ _ _ _ _ _ _ _ _ _ _ _ _ _ _ _ _ _ _ _ _ _ _ _ _ _ _ _ _ _ _ _ _ _ _ _ _ _ _ _ _ _ _ _ _ _ _ _ _ _ _ _ _ _ _ _ _ _ _ _ _ _ _ _ _ _ _ _ _ _ _ _ _ _ _ _ _ _ _ _ _ _ _ _ _ _ _ _ _ _ _ _ _ _ _
set_option maxRecDepth 100000 in
set_option maxHeartbeats 16000000 in
theorem rights_c3 (a0 a1 a2 a3 a4 a5 a6 a7 a8 a9 b0 b1 b2 b3 b4 b5 b6 b7 b8 b9 x0 x1 x2 x3 x4 x5 x6 x7 x8 x9 m0 m1 m2 m3 m4 m5 m6 m7 m8 m9 : Int) (qx : Option Addr) (lx dx : Nat) (ox : Bool) (px : Option Addr) (hsx : List Nat) (cx : Nat) (qy : Option Addr) (ly dy : Nat) (ow : Bool) (py : Option Addr) (hsy : List Nat) (cy : Nat) (t r : List Int) (l lm : Nat) (n : Int) (how : Nat) (hhow : how < 256) (hki : (how : Int) % 12 = 3) (hn : In64 n) (ht : t.length = l) (hr : r.length = lm) (hl : l ≤ 1048576) (hlm : lm ≤ 1048576)
    (hin : ∀ x ∈ [x0, x1, x2, x3, x4, x5, x6, x7, x8, x9], In64 x) (him : ∀ x ∈ [m0, m1, m2, m3, m4, m5, m6, m7, m8, m9], In64 x) (w : World) (hX : Tens w)
    (hwx : ∀ W', Below w.heap.size w W' → Calls Tryd.prog 11 #[.agg #[.int .i64 a0, .int .i64 a1, .int .i64 a2, .int .i64 a3, .int .i64 a4, .int .i64 a5, .int .i64 a6, .int .i64 a7, .int .i64 a8, .int .i64 a9, .slice qx lx dx, .bool ox, .slice px hsx.length cx]] W' fun e w' => ∃ q d, e = .returned (.agg #[.int .i64 x0, .int .i64 x1, .int .i64 x2, .int .i64 x3, .int .i64 x4, .int .i64 x5, .int .i64 x6, .int .i64 x7, .int .i64 x8, .int .i64 x9, .slice q l d]) ∧ Tr (fun _ => False) (.slice q l d) t w' ∧ Below W'.heap.size W' w')
    (hwy : ∀ W', Below w.heap.size w W' → Calls Tryd.prog 11 #[.agg #[.int .i64 b0, .int .i64 b1, .int .i64 b2, .int .i64 b3, .int .i64 b4, .int .i64 b5, .int .i64 b6, .int .i64 b7, .int .i64 b8, .int .i64 b9, .slice qy ly dy, .bool ow, .slice py hsy.length cy]] W' fun e w' => ∃ q d, e = .returned (.agg #[.int .i64 m0, .int .i64 m1, .int .i64 m2, .int .i64 m3, .int .i64 m4, .int .i64 m5, .int .i64 m6, .int .i64 m7, .int .i64 m8, .int .i64 m9, .slice q lm d]) ∧ Tr (fun _ => False) (.slice q lm d) r w' ∧ Below W'.heap.size W' w') :
    Calls Tryd.prog 3 #[.agg #[.int .i64 a0, .int .i64 a1, .int .i64 a2, .int .i64 a3, .int .i64 a4, .int .i64 a5, .int .i64 a6, .int .i64 a7, .int .i64 a8, .int .i64 a9, .slice qx lx dx, .bool ox, .slice px hsx.length cx], .agg #[.int .i64 b0, .int .i64 b1, .int .i64 b2, .int .i64 b3, .int .i64 b4, .int .i64 b5, .int .i64 b6, .int .i64 b7, .int .i64 b8, .int .i64 b9, .slice qy ly dy, .bool ow, .slice py hsy.length cy], .int .u8 (how : Int), .int .i64 n] w fun e w' => e = .returned (.bool true) ∧ Below w.heap.size w w' := by
  obtain ⟨N, hN⟩ : ∃ N, w.heap.size = N := ⟨_, rfl⟩
  have hB0 : Below w.heap.size w ((w.alloc (.cells #[.int .i64 a0, .int .i64 a1, .int .i64 a2, .int .i64 a3, .int .i64 a4, .int .i64 a5, .int .i64 a6, .int .i64 a7, .int .i64 a8, .int .i64 a9, .slice qx lx dx, .bool ox, .slice px hsx.length cx] 27)).alloc (.cells #[.int .i64 b0, .int .i64 b1, .int .i64 b2, .int .i64 b3, .int .i64 b4, .int .i64 b5, .int .i64 b6, .int .i64 b7, .int .i64 b8, .int .i64 b9, .slice qy ly dy, .bool ow, .slice py hsy.length cy] 27)) := ((Below.refl _ _).alloc (Nat.le_refl _) _).alloc (by simp) _
  have HCX : Hid (CellsAt N #[.int .i64 a0, .int .i64 a1, .int .i64 a2, .int .i64 a3, .int .i64 a4, .int .i64 a5, .int .i64 a6, .int .i64 a7, .int .i64 a8, .int .i64 a9, .slice qx lx dx, .bool ox, .slice px hsx.length cx] ((w.alloc (.cells #[.int .i64 a0, .int .i64 a1, .int .i64 a2, .int .i64 a3, .int .i64 a4, .int .i64 a5, .int .i64 a6, .int .i64 a7, .int .i64 a8, .int .i64 a9, .slice qx lx dx, .bool ox, .slice px hsx.length cx] 27)).alloc (.cells #[.int .i64 b0, .int .i64 b1, .int .i64 b2, .int .i64 b3, .int .i64 b4, .int .i64 b5, .int .i64 b6, .int .i64 b7, .int .i64 b8, .int .i64 b9, .slice qy ly dy, .bool ow, .slice py hsy.length cy] 27))) := Lib.hid ((CellsAt.newAt #[.int .i64 a0, .int .i64 a1, .int .i64 a2, .int .i64 a3, .int .i64 a4, .int .i64 a5, .int .i64 a6, .int .i64 a7, .int .i64 a8, .int .i64 a9, .slice qx lx dx, .bool ox, .slice px hsx.length cx] 27 w N hN.symm).past _)
  have HCY : Hid (CellsAt (N + 1) #[.int .i64 b0, .int .i64 b1, .int .i64 b2, .int .i64 b3, .int .i64 b4, .int .i64 b5, .int .i64 b6, .int .i64 b7, .int .i64 b8, .int .i64 b9, .slice qy ly dy, .bool ow, .slice py hsy.length cy] ((w.alloc (.cells #[.int .i64 a0, .int .i64 a1, .int .i64 a2, .int .i64 a3, .int .i64 a4, .int .i64 a5, .int .i64 a6, .int .i64 a7, .int .i64 a8, .int .i64 a9, .slice qx lx dx, .bool ox, .slice px hsx.length cx] 27)).alloc (.cells #[.int .i64 b0, .int .i64 b1, .int .i64 b2, .int .i64 b3, .int .i64 b4, .int .i64 b5, .int .i64 b6, .int .i64 b7, .int .i64 b8, .int .i64 b9, .slice qy ly dy, .bool ow, .slice py hsy.length cy] 27))) := Lib.hid (CellsAt.newAt #[.int .i64 b0, .int .i64 b1, .int .i64 b2, .int .i64 b3, .int .i64 b4, .int .i64 b5, .int .i64 b6, .int .i64 b7, .int .i64 b8, .int .i64 b9, .slice qy ly dy, .bool ow, .slice py hsy.length cy] 27 _ _ (by simp [hN]))
  have HB := Lib.hid hB0
  have HTX := Lib.hid hX
  have hex := fun W hW => examples_any W hW
  have hexc := hex _ (Tens.below hX hB0)
  have HWX := Lib.hid hwx
  have HWY := Lib.hid hwy
  have HNI := Lib.hid hn
  have HIN := Lib.hid hin
  have HIM := Lib.hid him
  have HLT := Lib.hid ht
  have HLR := Lib.hid hr
  clear hB0 hX hex hwx hwy hn hin him ht hr
  go_enter Tryd.func3, Tryd.ntmps3
  go_wp2_with fail
  refine hexc.mono ?_
  rintro e w1 ⟨rfl, hB1⟩
  clear hN hexc
  replace HCX := Lib.hid (HCX.out.below hB1)
  replace HCY := Lib.hid (HCY.out.below hB1)
  replace HB := Lib.hid (HB.out.trans (hB1.mono HB.out.size))
  clear hB1
  have k0 := HCX.out.cell 0 _ rfl
  have k1 := HCX.out.cell 1 _ rfl
  have k2 := HCX.out.cell 2 _ rfl
  have k3 := HCX.out.cell 3 _ rfl
  have k4 := HCX.out.cell 4 _ rfl
  have k5 := HCX.out.cell 5 _ rfl
  have k6 := HCX.out.cell 6 _ rfl
  have k7 := HCX.out.cell 7 _ rfl
  have k8 := HCX.out.cell 8 _ rfl
  have k9 := HCX.out.cell 9 _ rfl
  have k10 := HCX.out.cell 10 _ rfl
  have k11 := HCX.out.cell 11 _ rfl
  have k12 := HCX.out.cell 12 _ rfl
  have kl := HCX.out.lt
  simp only [List.getElem_toArray, List.getElem_cons_zero, List.getElem_cons_succ] at k0 k1 k2 k3 k4 k5 k6 k7 k8 k9 k10 k11 k12
  have hwc := HWX.out w1 HB.out
  go_wp2_with fail
  refine hwc.mono ?_
  rintro e w2 ⟨q, d, rfl, hT, hB1⟩
  clear k0 k1 k2 k3 k4 k5 k6 k7 k8 k9 k10 k11 k12 kl
  replace HCY := Lib.hid (HCY.out.below hB1)
  replace HB := Lib.hid (HB.out.trans (hB1.mono HB.out.size))
  clear hB1 hwc HCX HWX
  have HT := Lib.hid hT
  clear hT
  go_upto_region 28 with fail
  have hBx : Below w2.heap.size w2 (w2.alloc (.cells #[.int .i64 x0, .int .i64 x1, .int .i64 n, .int .i64 x3, .int .i64 x4, .int .i64 x5, .int .i64 x6, .int .i64 x7, .int .i64 x8, .int .i64 x9, .slice q l d] 24)) := (Below.refl _ _).alloc (Nat.le_refl _) _
  have HP : Hid (CellsAt w2.heap.size #[.int .i64 x0, .int .i64 x1, .int .i64 n, .int .i64 x3, .int .i64 x4, .int .i64 x5, .int .i64 x6, .int .i64 x7, .int .i64 x8, .int .i64 x9, .slice q l d] (w2.alloc (.cells #[.int .i64 x0, .int .i64 x1, .int .i64 n, .int .i64 x3, .int .i64 x4, .int .i64 x5, .int .i64 x6, .int .i64 x7, .int .i64 x8, .int .i64 x9, .slice q l d] 24))) := Lib.hid (CellsAt.new _ _ _)
  replace HCY := Lib.hid (HCY.out.below hBx)
  replace HT := Lib.hid (HT.out.below hBx)
  replace HB := Lib.hid (HB.out.trans (hBx.mono HB.out.size))
  clear hBx
  generalize w2.alloc (.cells #[.int .i64 x0, .int .i64 x1, .int .i64 n, .int .i64 x3, .int .i64 x4, .int .i64 x5, .int .i64 x6, .int .i64 x7, .int .i64 x8, .int .i64 x9, .slice q l d] 24) = W3 at *
  refine rights_28 _ (by kernel_rfl) _ W3 (N + 1) w2.heap.size b0 b1 b2 b3 b4 b5 b6 b7 b8 b9 m0 m1 m2 m3 m4 m5 m6 m7 m8 m9 qy ly dy ow py hsy cy lm r (fun W' h => HWY.out W' (HB.out.trans (h.mono HB.out.size))) HCY.out _ _ _ _ _ _ _ _ _ _ _ _ _ _ _ _ _ _ _ _ _ _ _ _ _ _ _ _ _ _ _ _ _ _ _ _ _ _ _ _ _ _ _ _ _ _ _ _ _ _ _ _ _ _ _ _ _ _ _ _ _ _ _ _ _ _ _ _ _ _ _ _ _ _ _ _ _ _ _ _ _ _ _ _ _ _ _ _ _ _ _ _ _ _ _ _ _ _ _ _ _ _ _ _ _ _ _ _ _ _ _ _ _ _ _ _ _ _ _ _ _ _ _ _ ?_
  intro W' D qm dm z72 z73 hD hR hB'
  rename_i K hK
  refine hK _ _ ?_
  clear hK
  exact rights_29 _ (by kernel_rfl) w W' (N + 1) w2.heap.size D x0 x1 n x3 x4 x5 x6 x7 x8 x9 m0 m1 m2 m3 m4 m5 m6 m7 m8 m9 q qm l d lm dm t r HLT.out HLR.out (by omega) hlm (in_put (k := 2) HIN.out HNI.out) HIM.out (Tens.below HTX.out (HB.out.trans (hB'.mono HB.out.size))) (HP.out.below hB') (HT.out.below hB') hD hR (HB.out.trans (hB'.mono HB.out.size)) _ _ _ _ _ _ _ _ _ _ _ _ _ _ _ _ _ _ _ _ _ _ _ _ _ _ _ _ _ _ _ _ _ _ _ _ _ _ _ _ _ _ _ _ _ _ _ _ _ _ _ _ _ _ _ _ _ _ _ _ _ _ _ _ _ _ _ _ _ _ _ _ _ _ _ _ _ _ _ _ _ _ _ _ _ _ _ _ _ _ _ _ _ _ _ _ _ _ _ _ _ _ _ _ _ _ _ _ _ _ _ _ _ _ _ _ _ _ _ _ _ _ _
end Go.Proofs.YtmlgcjfcbokibaaDoor.Po

namespace Go.Proofs.YtmlgcjfcbokibaaDoor.Po
open Go Go.RowKit

set_option maxRecDepth 100000 in
set_option maxHeartbeats 16000000 in
theorem rights_c4 (a0 a1 a2 a3 a4 a5 a6 a7 a8 a9 b0 b1 b2 b3 b4 b5 b6 b7 b8 b9 x0 x1 x2 x3 x4 x5 x6 x7 x8 x9 m0 m1 m2 m3 m4 m5 m6 m7 m8 m9 : Int) (qx : Option Addr) (lx dx : Nat) (ox : Bool) (px : Option Addr) (hsx : List Nat) (cx : Nat) (qy : Option Addr) (ly dy : Nat) (ow : Bool) (py : Option Addr) (hsy : List Nat) (cy : Nat) (t r : List Int) (l lm : Nat) (n : Int) (how : Nat) (hhow : how < 256) (hki : (how : Int) % 12 = 4) (hn : In64 n) (ht : t.length = l) (hr : r.length = lm) (hl : l ≤ 1048576) (hlm : lm ≤ 1048576)
    (hin : ∀ x ∈ [x0, x1, x2, x3, x4, x5, x6, x7, x8, x9], In64 x) (him : ∀ x ∈ [m0, m1, m2, m3, m4, m5, m6, m7, m8, m9], In64 x) (w : World) (hX : Tens w)
    (hwx : ∀ W', Below w.heap.size w W' → Calls Tryd.prog 11 #[.agg #[.int .i64 a0, .int .i64 a1, .int .i64 a2, .int .i64 a3, .int .i64 a4, .int .i64 a5, .int .i64 a6, .int .i64 a7, .int .i64 a8, .int .i64 a9, .slice qx lx dx, .bool ox, .slice px hsx.length cx]] W' fun e w' => ∃ q d, e = .returned (.agg #[.int .i64 x0, .int .i64 x1, .int .i64 x2, .int .i64 x3, .int .i64 x4, .int .i64 x5, .int .i64 x6, .int .i64 x7, .int .i64 x8, .int .i64 x9, .slice q l d]) ∧ Tr (fun _ => False) (.slice q l d) t w' ∧ Below W'.heap.size W' w')
    (hwy : ∀ W', Below w.heap.size w W' → Calls Tryd.prog 11 #[.agg #[.int .i64 b0, .int .i64 b1, .int .i64 b2, .int .i64 b3, .int .i64 b4, .int .i64 b5, .int .i64 b6, .int .i64 b7, .int .i64 b8, .int .i64 b9, .slice qy ly dy, .bool ow, .slice py hsy.length cy]] W' fun e w' => ∃ q d, e = .returned (.agg #[.int .i64 m0, .int .i64 m1, .int .i64 m2, .int .i64 m3, .int .i64 m4, .int .i64 m5, .int .i64 m6, .int .i64 m7, .int .i64 m8, .int .i64 m9, .slice q lm d]) ∧ Tr (fun _ => False) (.slice q lm d) r w' ∧ Below W'.heap.size W' w') :
    Calls Tryd.prog 3 #[.agg #[.int .i64 a0, .int .i64 a1, .int .i64 a2, .int .i64 a3, .int .i64 a4, .int .i64 a5, .int .i64 a6, .int .i64 a7, .int .i64 a8, .int .i64 a9, .slice qx lx dx, .bool ox, .slice px hsx.length cx], .agg #[.int .i64 b0, .int .i64 b1, .int .i64 b2, .int .i64 b3, .int .i64 b4, .int .i64 b5, .int .i64 b6, .int .i64 b7, .int .i64 b8, .int .i64 b9, .slice qy ly dy, .bool ow, .slice py hsy.length cy], .int .u8 (how : Int), .int .i64 n] w fun e w' => e = .returned (.bool true) ∧ Below w.heap.size w w' := by
  obtain ⟨N, hN⟩ : ∃ N, w.heap.size = N := ⟨_, rfl⟩
  have hB0 : Below w.heap.size w ((w.alloc (.cells #[.int .i64 a0, .int .i64 a1, .int .i64 a2, .int .i64 a3, .int .i64 a4, .int .i64 a5, .int .i64 a6, .int .i64 a7, .int .i64 a8, .int .i64 a9, .slice qx lx dx, .bool ox, .slice px hsx.length cx] 27)).alloc (.cells #[.int .i64 b0, .int .i64 b1, .int .i64 b2, .int .i64 b3, .int .i64 b4, .int .i64 b5, .int .i64 b6, .int .i64 b7, .int .i64 b8, .int .i64 b9, .slice qy ly dy, .bool ow, .slice py hsy.length cy] 27)) := ((Below.refl _ _).alloc (Nat.le_refl _) _).alloc (by simp) _
  have HCX : Hid (CellsAt N #[.int .i64 a0, .int .i64 a1, .int .i64 a2, .int .i64 a3, .int .i64 a4, .int .i64 a5, .int .i64 a6, .int .i64 a7, .int .i64 a8, .int .i64 a9, .slice qx lx dx, .bool ox, .slice px hsx.length cx] ((w.alloc (.cells #[.int .i64 a0, .int .i64 a1, .int .i64 a2, .int .i64 a3, .int .i64 a4, .int .i64 a5, .int .i64 a6, .int .i64 a7, .int .i64 a8, .int .i64 a9, .slice qx lx dx, .bool ox, .slice px hsx.length cx] 27)).alloc (.cells #[.int .i64 b0, .int .i64 b1, .int .i64 b2, .int .i64 b3, .int .i64 b4, .int .i64 b5, .int .i64 b6, .int .i64 b7, .int .i64 b8, .int .i64 b9, .slice qy ly dy, .bool ow, .slice py hsy.length cy] 27))) := Lib.hid ((CellsAt.newAt #[.int .i64 a0, .int .i64 a1, .int .i64 a2, .int .i64 a3, .int .i64 a4, .int .i64 a5, .int .i64 a6, .int .i64 a7, .int .i64 a8, .int .i64 a9, .slice qx lx dx, .bool ox, .slice px hsx.length cx] 27 w N hN.symm).past _)
  have HCY : Hid (CellsAt (N + 1) #[.int .i64 b0, .int .i64 b1, .int .i64 b2, .int .i64 b3, .int .i64 b4, .int .i64 b5, .int .i64 b6, .int .i64 b7, .int .i64 b8, .int .i64 b9, .slice qy ly dy, .bool ow, .slice py hsy.length cy] ((w.alloc (.cells #[.int .i64 a0, .int .i64 a1, .int .i64 a2, .int .i64 a3, .int .i64 a4, .int .i64 a5, .int .i64 a6, .int .i64 a7, .int .i64 a8, .int .i64 a9, .slice qx lx dx, .bool ox, .slice px hsx.length cx] 27)).alloc (.cells #[.int .i64 b0, .int .i64 b1, .int .i64 b2, .int .i64 b3, .int .i64 b4, .int .i64 b5, .int .i64 b6, .int .i64 b7, .int .i64 b8, .int .i64 b9, .slice qy ly dy, .bool ow, .slice py hsy.length cy] 27))) := Lib.hid (CellsAt.newAt #[.int .i64 b0, .int .i64 b1, .int .i64 b2, .int .i64 b3, .int .i64 b4, .int .i64 b5, .int .i64 b6, .int .i64 b7, .int .i64 b8, .int .i64 b9, .slice qy ly dy, .bool ow, .slice py hsy.length cy] 27 _ _ (by simp [hN]))
  have HB := Lib.hid hB0
  have HTX := Lib.hid hX
  have hex := fun W hW => examples_any W hW
  have hexc := hex _ (Tens.below hX hB0)
  have HWX := Lib.hid hwx
  have HWY := Lib.hid hwy
  have HNI := Lib.hid hn
  have HIN := Lib.hid hin
  have HIM := Lib.hid him
  have HLT := Lib.hid ht
  have HLR := Lib.hid hr
  clear hB0 hX hex hwx hwy hn hin him ht hr
  go_enter Tryd.func3, Tryd.ntmps3
  go_wp2_with fail
  refine hexc.mono ?_
  rintro e w1 ⟨rfl, hB1⟩
  clear hN hexc
  replace HCX := Lib.hid (HCX.out.below hB1)
  replace HCY := Lib.hid (HCY.out.below hB1)
  replace HB := Lib.hid (HB.out.trans (hB1.mono HB.out.size))
  clear hB1
  have k0 := HCX.out.cell 0 _ rfl
  have k1 := HCX.out.cell 1 _ rfl
  have k2 := HCX.out.cell 2 _ rfl
  have k3 := HCX.out.cell 3 _ rfl
  have k4 := HCX.out.cell 4 _ rfl
  have k5 := HCX.out.cell 5 _ rfl
  have k6 := HCX.out.cell 6 _ rfl
  have k7 := HCX.out.cell 7 _ rfl
  have k8 := HCX.out.cell 8 _ rfl
  have k9 := HCX.out.cell 9 _ rfl
  have k10 := HCX.out.cell 10 _ rfl
  have k11 := HCX.out.cell 11 _ rfl
  have k12 := HCX.out.cell 12 _ rfl
  have kl := HCX.out.lt
  simp only [List.getElem_toArray, List.getElem_cons_zero, List.getElem_cons_succ] at k0 k1 k2 k3 k4 k5 k6 k7 k8 k9 k10 k11 k12
  have hwc := HWX.out w1 HB.out
  go_wp2_with fail
  refine hwc.mono ?_
  rintro e w2 ⟨q, d, rfl, hT, hB1⟩
  clear k0 k1 k2 k3 k4 k5 k6 k7 k8 k9 k10 k11 k12 kl
  replace HCY := Lib.hid (HCY.out.below hB1)
  replace HB := Lib.hid (HB.out.trans (hB1.mono HB.out.size))
  clear hB1 hwc HCX HWX
  have HT := Lib.hid hT
  clear hT
  go_upto_region 28 with fail
  have hBx : Below w2.heap.size w2 (w2.alloc (.cells #[.int .i64 x0, .int .i64 x1, .int .i64 x2, .int .i64 n, .int .i64 x4, .int .i64 x5, .int .i64 x6, .int .i64 x7, .int .i64 x8, .int .i64 x9, .slice q l d] 24)) := (Below.refl _ _).alloc (Nat.le_refl _) _
  have HP : Hid (CellsAt w2.heap.size #[.int .i64 x0, .int .i64 x1, .int .i64 x2, .int .i64 n, .int .i64 x4, .int .i64 x5, .int .i64 x6, .int .i64 x7, .int .i64 x8, .int .i64 x9, .slice q l d] (w2.alloc (.cells #[.int .i64 x0, .int .i64 x1, .int .i64 x2, .int .i64 n, .int .i64 x4, .int .i64 x5, .int .i64 x6, .int .i64 x7, .int .i64 x8, .int .i64 x9, .slice q l d] 24))) := Lib.hid (CellsAt.new _ _ _)
  replace HCY := Lib.hid (HCY.out.below hBx)
  replace HT := Lib.hid (HT.out.below hBx)
  replace HB := Lib.hid (HB.out.trans (hBx.mono HB.out.size))
  clear hBx
  generalize w2.alloc (.cells #[.int .i64 x0, .int .i64 x1, .int .i64 x2, .int .i64 n, .int .i64 x4, .int .i64 x5, .int .i64 x6, .int .i64 x7, .int .i64 x8, .int .i64 x9, .slice q l d] 24) = W3 at *
  refine rights_28 _ (by kernel_rfl) _ W3 (N + 1) w2.heap.size b0 b1 b2 b3 b4 b5 b6 b7 b8 b9 m0 m1 m2 m3 m4 m5 m6 m7 m8 m9 qy ly dy ow py hsy cy lm r (fun W' h => HWY.out W' (HB.out.trans (h.mono HB.out.size))) HCY.out _ _ _ _ _ _ _ _ _ _ _ _ _ _ _ _ _ _ _ _ _ _ _ _ _ _ _ _ _ _ _ _ _ _ _ _ _ _ _ _ _ _ _ _ _ _ _ _ _ _ _ _ _ _ _ _ _ _ _ _ _ _ _ _ _ _ _ _ _ _ _ _ _ _ _ _ _ _ _ _ _ _ _ _ _ _ _ _ _ _ _ _ _ _ _ _ _ _ _ _ _ _ _ _ _ _ _ _ _ _ _ _ _ _ _ _ _ _ _ _ _ _ _ _ ?_
  intro W' D qm dm z72 z73 hD hR hB'
  rename_i K hK
  refine hK _ _ ?_
  clear hK
  exact rights_29 _ (by kernel_rfl) w W' (N + 1) w2.heap.size D x0 x1 x2 n x4 x5 x6 x7 x8 x9 m0 m1 m2 m3 m4 m5 m6 m7 m8 m9 q qm l d lm dm t r HLT.out HLR.out (by omega) hlm (in_put (k := 3) HIN.out HNI.out) HIM.out (Tens.below HTX.out (HB.out.trans (hB'.mono HB.out.size))) (HP.out.below hB') (HT.out.below hB') hD hR (HB.out.trans (hB'.mono HB.out.size)) _ _ _ _ _ _ _ _ _ _ _ _ _ _ _ _ _ _ _ _ _ _ _ _ _ _ _ _ _ _ _ _ _ _ _ _ _ _ _ _ _ _ _ _ _ _ _ _ _ _ _ _ _ _ _ _ _ _ _ _ _ _ _ _ _ _ _ _ _ _ _ _ _ _ _ _ _ _ _ _ _ _ _ _ _ _ _ _ _ _ _ _ _ _ _ _ _ _ _ _ _ _ _ _ _ _ _ _ _ _ _ _ _ _ _ _ _ _ _ _ _ _ _
set_option maxRecDepth 100000 in
set_option maxHeartbeats 16000000 in
theorem rights_c5 (a0 a1 a2 a3 a4 a5 a6 a7 a8 a9 b0 b1 b2 b3 b4 b5 b6 b7 b8 b9 x0 x1 x2 x3 x4 x5 x6 x7 x8 x9 m0 m1 m2 m3 m4 m5 m6 m7 m8 m9 : Int) (qx : Option Addr) (lx dx : Nat) (ox : Bool) (px : Option Addr) (hsx : List Nat) (cx : Nat) (qy : Option Addr) (ly dy : Nat) (ow : Bool) (py : Option Addr) (hsy : List Nat) (cy : Nat) (t r : List Int) (l lm : Nat) (n : Int) (how : Nat) (hhow : how < 256) (hki : (how : Int) % 12 = 5) (hn : In64 n) (ht : t.length = l) (hr : r.length = lm) (hl : l ≤ 1048576) (hlm : lm ≤ 1048576)
    (hin : ∀ x ∈ [x0, x1, x2, x3, x4, x5, x6, x7, x8, x9], In64 x) (him : ∀ x ∈ [m0, m1, m2, m3, m4, m5, m6, m7, m8, m9], In64 x) (w : World) (hX : Tens w)
    (hwx : ∀ W', Below w.heap.size w W' → Calls Tryd.prog 11 #[.agg #[.int .i64 a0, .int .i64 a1, .int .i64 a2, .int .i64 a3, .int .i64 a4, .int .i64 a5, .int .i64 a6, .int .i64 a7, .int .i64 a8, .int .i64 a9, .slice qx lx dx, .bool ox, .slice px hsx.length cx]] W' fun e w' => ∃ q d, e = .returned (.agg #[.int .i64 x0, .int .i64 x1, .int .i64 x2, .int .i64 x3, .int .i64 x4, .int .i64 x5, .int .i64 x6, .int .i64 x7, .int .i64 x8, .int .i64 x9, .slice q l d]) ∧ Tr (fun _ => False) (.slice q l d) t w' ∧ Below W'.heap.size W' w')
    (hwy : ∀ W', Below w.heap.size w W' → Calls Tryd.prog 11 #[.agg #[.int .i64 b0, .int .i64 b1, .int .i64 b2, .int .i64 b3, .int .i64 b4, .int .i64 b5, .int .i64 b6, .int .i64 b7, .int .i64 b8, .int .i64 b9, .slice qy ly dy, .bool ow, .slice py hsy.length cy]] W' fun e w' => ∃ q d, e = .returned (.agg #[.int .i64 m0, .int .i64 m1, .int .i64 m2, .int .i64 m3, .int .i64 m4, .int .i64 m5, .int .i64 m6, .int .i64 m7, .int .i64 m8, .int .i64 m9, .slice q lm d]) ∧ Tr (fun _ => False) (.slice q lm d) r w' ∧ Below W'.heap.size W' w') :
    Calls Tryd.prog 3 #[.agg #[.int .i64 a0, .int .i64 a1, .int .i64 a2, .int .i64 a3, .int .i64 a4, .int .i64 a5, .int .i64 a6, .int .i64 a7, .int .i64 a8, .int .i64 a9, .slice qx lx dx, .bool ox, .slice px hsx.length cx], .agg #[.int .i64 b0, .int .i64 b1, .int .i64 b2, .int .i64 b3, .int .i64 b4, .int .i64 b5, .int .i64 b6, .int .i64 b7, .int .i64 b8, .int .i64 b9, .slice qy ly dy, .bool ow, .slice py hsy.length cy], .int .u8 (how : Int), .int .i64 n] w fun e w' => e = .returned (.bool true) ∧ Below w.heap.size w w' := by
  obtain ⟨N, hN⟩ : ∃ N, w.heap.size = N := ⟨_, rfl⟩
  have hB0 : Below w.heap.size w ((w.alloc (.cells #[.int .i64 a0, .int .i64 a1, .int .i64 a2, .int .i64 a3, .int .i64 a4, .int .i64 a5, .int .i64 a6, .int .i64 a7, .int .i64 a8, .int .i64 a9, .slice qx lx dx, .bool ox, .slice px hsx.length cx] 27)).alloc (.cells #[.int .i64 b0, .int .i64 b1, .int .i64 b2, .int .i64 b3, .int .i64 b4, .int .i64 b5, .int .i64 b6, .int .i64 b7, .int .i64 b8, .int .i64 b9, .slice qy ly dy, .bool ow, .slice py hsy.length cy] 27)) := ((Below.refl _ _).alloc (Nat.le_refl _) _).alloc (by simp) _
  have HCX : Hid (CellsAt N #[.int .i64 a0, .int .i64 a1, .int .i64 a2, .int .i64 a3, .int .i64 a4, .int .i64 a5, .int .i64 a6, .int .i64 a7, .int .i64 a8, .int .i64 a9, .slice qx lx dx, .bool ox, .slice px hsx.length cx] ((w.alloc (.cells #[.int .i64 a0, .int .i64 a1, .int .i64 a2, .int .i64 a3, .int .i64 a4, .int .i64 a5, .int .i64 a6, .int .i64 a7, .int .i64 a8, .int .i64 a9, .slice qx lx dx, .bool ox, .slice px hsx.length cx] 27)).alloc (.cells #[.int .i64 b0, .int .i64 b1, .int .i64 b2, .int .i64 b3, .int .i64 b4, .int .i64 b5, .int .i64 b6, .int .i64 b7, .int .i64 b8, .int .i64 b9, .slice qy ly dy, .bool ow, .slice py hsy.length cy] 27))) := Lib.hid ((CellsAt.newAt #[.int .i64 a0, .int .i64 a1, .int .i64 a2, .int .i64 a3, .int .i64 a4, .int .i64 a5, .int .i64 a6, .int .i64 a7, .int .i64 a8, .int .i64 a9, .slice qx lx dx, .bool ox, .slice px hsx.length cx] 27 w N hN.symm).past _)
  have HCY : Hid (CellsAt (N + 1) #[.int .i64 b0, .int .i64 b1, .int .i64 b2, .int .i64 b3, .int .i64 b4, .int .i64 b5, .int .i64 b6, .int .i64 b7, .int .i64 b8, .int .i64 b9, .slice qy ly dy, .bool ow, .slice py hsy.length cy] ((w.alloc (.cells #[.int .i64 a0, .int .i64 a1, .int .i64 a2, .int .i64 a3, .int .i64 a4, .int .i64 a5, .int .i64 a6, .int .i64 a7, .int .i64 a8, .int .i64 a9, .slice qx lx dx, .bool ox, .slice px hsx.length cx] 27)).alloc (.cells #[.int .i64 b0, .int .i64 b1, .int .i64 b2, .int .i64 b3, .int .i64 b4, .int .i64 b5, .int .i64 b6, .int .i64 b7, .int .i64 b8, .int .i64 b9, .slice qy ly dy, .bool ow, .slice py hsy.length cy] 27))) := Lib.hid (CellsAt.newAt #[.int .i64 b0, .int .i64 b1, .int .i64 b2, .int .i64 b3, .int .i64 b4, .int .i64 b5, .int .i64 b6, .int .i64 b7, .int .i64 b8, .int .i64 b9, .slice qy ly dy, .bool ow, .slice py hsy.length cy] 27 _ _ (by simp [hN]))
  have HB := Lib.hid hB0
  have HTX := Lib.hid hX
  have hex := fun W hW => examples_any W hW
  have hexc := hex _ (Tens.below hX hB0)
  have HWX := Lib.hid hwx
  have HWY := Lib.hid hwy
  have HNI := Lib.hid hn
  have HIN := Lib.hid hin
  have HIM := Lib.hid him
  have HLT := Lib.hid ht
  have HLR := Lib.hid hr
  clear hB0 hX hex hwx hwy hn hin him ht hr
  go_enter Tryd.func3, Tryd.ntmps3
  go_wp2_with fail
  refine hexc.mono ?_
  rintro e w1 ⟨rfl, hB1⟩
  clear hN hexc
  replace HCX := Lib.hid (HCX.out.below hB1)
  replace HCY := Lib.hid (HCY.out.below hB1)
  replace HB := Lib.hid (HB.out.trans (hB1.mono HB.out.size))
  clear hB1
  have k0 := HCX.out.cell 0 _ rfl
  have k1 := HCX.out.cell 1 _ rfl
  have k2 := HCX.out.cell 2 _ rfl
  have k3 := HCX.out.cell 3 _ rfl
  have k4 := HCX.out.cell 4 _ rfl
  have k5 := HCX.out.cell 5 _ rfl
  have k6 := HCX.out.cell 6 _ rfl
  have k7 := HCX.out.cell 7 _ rfl
  have k8 := HCX.out.cell 8 _ rfl
  have k9 := HCX.out.cell 9 _ rfl
  have k10 := HCX.out.cell 10 _ rfl
  have k11 := HCX.out.cell 11 _ rfl
  have k12 := HCX.out.cell 12 _ rfl
  have kl := HCX.out.lt
  simp only [List.getElem_toArray, List.getElem_cons_zero, List.getElem_cons_succ] at k0 k1 k2 k3 k4 k5 k6 k7 k8 k9 k10 k11 k12
  have hwc := HWX.out w1 HB.out
  go_wp2_with fail
  refine hwc.mono ?_
  rintro e w2 ⟨q, d, rfl, hT, hB1⟩
  clear k0 k1 k2 k3 k4 k5 k6 k7 k8 k9 k10 k11 k12 kl
  replace HCY := Lib.hid (HCY.out.below hB1)
  replace HB := Lib.hid (HB.out.trans (hB1.mono HB.out.size))
  clear hB1 hwc HCX HWX
  have HT := Lib.hid hT
  clear hT
  go_upto_region 28 with fail
  have hBx : Below w2.heap.size w2 (w2.alloc (.cells #[.int .i64 x0, .int .i64 x1, .int .i64 x2, .int .i64 x3, .int .i64 n, .int .i64 x5, .int .i64 x6, .int .i64 x7, .int .i64 x8, .int .i64 x9, .slice q l d] 24)) := (Below.refl _ _).alloc (Nat.le_refl _) _
  have HP : Hid (CellsAt w2.heap.size #[.int .i64 x0, .int .i64 x1, .int .i64 x2, .int .i64 x3, .int .i64 n, .int .i64 x5, .int .i64 x6, .int .i64 x7, .int .i64 x8, .int .i64 x9, .slice q l d] (w2.alloc (.cells #[.int .i64 x0, .int .i64 x1, .int .i64 x2, .int .i64 x3, .int .i64 n, .int .i64 x5, .int .i64 x6, .int .i64 x7, .int .i64 x8, .int .i64 x9, .slice q l d] 24))) := Lib.hid (CellsAt.new _ _ _)
  replace HCY := Lib.hid (HCY.out.below hBx)
  replace HT := Lib.hid (HT.out.below hBx)
  replace HB := Lib.hid (HB.out.trans (hBx.mono HB.out.size))
  clear hBx
  generalize w2.alloc (.cells #[.int .i64 x0, .int .i64 x1, .int .i64 x2, .int .i64 x3, .int .i64 n, .int .i64 x5, .int .i64 x6, .int .i64 x7, .int .i64 x8, .int .i64 x9, .slice q l d] 24) = W3 at *
  refine rights_28 _ (by kernel_rfl) _ W3 (N + 1) w2.heap.size b0 b1 b2 b3 b4 b5 b6 b7 b8 b9 m0 m1 m2 m3 m4 m5 m6 m7 m8 m9 qy ly dy ow py hsy cy lm r (fun W' h => HWY.out W' (HB.out.trans (h.mono HB.out.size))) HCY.out _ _ _ _ _ _ _ _ _ _ _ _ _ _ _ _ _ _ _ _ _ _ _ _ _ _ _ _ _ _ _ _ _ _ _ _ _ _ _ _ _ _ _ _ _ _ _ _ _ _ _ _ _ _ _ _ _ _ _ _ _ _ _ _ _ _ _ _ _ _ _ _ _ _ _ _ _ _ _ _ _ _ _ _ _ _ _ _ _ _ _ _ _ _ _ _ _ _ _ _ _ _ _ _ _ _ _ _ _ _ _ _ _ _ _ _ _ _ _ _ _ _ _ _ ?_
  intro W' D qm dm z72 z73 hD hR hB'
  rename_i K hK
  refine hK _ _ ?_
  clear hK
  exact rights_29 _ (by kernel_rfl) w W' (N + 1) w2.heap.size D x0 x1 x2 x3 n x5 x6 x7 x8 x9 m0 m1 m2 m3 m4 m5 m6 m7 m8 m9 q qm l d lm dm t r HLT.out HLR.out (by omega) hlm (in_put (k := 4) HIN.out HNI.out) HIM.out (Tens.below HTX.out (HB.out.trans (hB'.mono HB.out.size))) (HP.out.below hB') (HT.out.below hB') hD hR (HB.out.trans (hB'.mono HB.out.size)) _ _ _ _ _ _ _ _ _ _ _ _ _ _ _ _ _ _ _ _ _ _ _ _ _ _ _ _ _ _ _ _ _ _ _ _ _ _ _ _ _ _ _ _ _ _ _ _ _ _ _ _ _ _ _ _ _ _ _ _ _ _ _ _ _ _ _ _ _ _ _ _ _ _ _ _ _ _ _ _ _ _ _ _ _ _ _ _ _ _ _ _ _ _ _ _ _ _ _ _ _ _ _ _ _ _ _ _ _ _ _ _ _ _ _ _ _ _ _ _ _ _ _
set_option maxRecDepth 100000 in
set_option maxHeartbeats 16000000 in
theorem rights_c6 (a0 a1 a2 a3 a4 a5 a6 a7 a8 a9 b0 b1 b2 b3 b4 b5 b6 b7 b8 b9 x0 x1 x2 x3 x4 x5 x6 x7 x8 x9 m0 m1 m2 m3 m4 m5 m6 m7 m8 m9 : Int) (qx : Option Addr) (lx dx : Nat) (ox : Bool) (px : Option Addr) (hsx : List Nat) (cx : Nat) (qy : Option Addr) (ly dy : Nat) (ow : Bool) (py : Option Addr) (hsy : List Nat) (cy : Nat) (t r : List Int) (l lm : Nat) (n : Int) (how : Nat) (hhow : how < 256) (hki : (how : Int) % 12 = 6) (hn : In64 n) (ht : t.length = l) (hr : r.length = lm) (hl : l ≤ 1048576) (hlm : lm ≤ 1048576)
    (hin : ∀ x ∈ [x0, x1, x2, x3, x4, x5, x6, x7, x8, x9], In64 x) (him : ∀ x ∈ [m0, m1, m2, m3, m4, m5, m6, m7, m8, m9], In64 x) (w : World) (hX : Tens w)
    (hwx : ∀ W', Below w.heap.size w W' → Calls Tryd.prog 11 #[.agg #[.int .i64 a0, .int .i64 a1, .int .i64 a2, .int .i64 a3, .int .i64 a4, .int .i64 a5, .int .i64 a6, .int .i64 a7, .int .i64 a8, .int .i64 a9, .slice qx lx dx, .bool ox, .slice px hsx.length cx]] W' fun e w' => ∃ q d, e = .returned (.agg #[.int .i64 x0, .int .i64 x1, .int .i64 x2, .int .i64 x3, .int .i64 x4, .int .i64 x5, .int .i64 x6, .int .i64 x7, .int .i64 x8, .int .i64 x9, .slice q l d]) ∧ Tr (fun _ => False) (.slice q l d) t w' ∧ Below W'.heap.size W' w')
    (hwy : ∀ W', Below w.heap.size w W' → Calls Tryd.prog 11 #[.agg #[.int .i64 b0, .int .i64 b1, .int .i64 b2, .int .i64 b3, .int .i64 b4, .int .i64 b5, .int .i64 b6, .int .i64 b7, .int .i64 b8, .int .i64 b9, .slice qy ly dy, .bool ow, .slice py hsy.length cy]] W' fun e w' => ∃ q d, e = .returned (.agg #[.int .i64 m0, .int .i64 m1, .int .i64 m2, .int .i64 m3, .int .i64 m4, .int .i64 m5, .int .i64 m6, .int .i64 m7, .int .i64 m8, .int .i64 m9, .slice q lm d]) ∧ Tr (fun _ => False) (.slice q lm d) r w' ∧ Below W'.heap.size W' w') :
    Calls Tryd.prog 3 #[.agg #[.int .i64 a0, .int .i64 a1, .int .i64 a2, .int .i64 a3, .int .i64 a4, .int .i64 a5, .int .i64 a6, .int .i64 a7, .int .i64 a8, .int .i64 a9, .slice qx lx dx, .bool ox, .slice px hsx.length cx], .agg #[.int .i64 b0, .int .i64 b1, .int .i64 b2, .int .i64 b3, .int .i64 b4, .int .i64 b5, .int .i64 b6, .int .i64 b7, .int .i64 b8, .int .i64 b9, .slice qy ly dy, .bool ow, .slice py hsy.length cy], .int .u8 (how : Int), .int .i64 n] w fun e w' => e = .returned (.bool true) ∧ Below w.heap.size w w' := by
  obtain ⟨N, hN⟩ : ∃ N, w.heap.size = N := ⟨_, rfl⟩
  have hB0 : Below w.heap.size w ((w.alloc (.cells #[.int .i64 a0, .int .i64 a1, .int .i64 a2, .int .i64 a3, .int .i64 a4, .int .i64 a5, .int .i64 a6, .int .i64 a7, .int .i64 a8, .int .i64 a9, .slice qx lx dx, .bool ox, .slice px hsx.length cx] 27)).alloc (.cells #[.int .i64 b0, .int .i64 b1, .int .i64 b2, .int .i64 b3, .int .i64 b4, .int .i64 b5, .int .i64 b6, .int .i64 b7, .int .i64 b8, .int .i64 b9, .slice qy ly dy, .bool ow, .slice py hsy.length cy] 27)) := ((Below.refl _ _).alloc (Nat.le_refl _) _).alloc (by simp) _
  have HCX : Hid (CellsAt N #[.int .i64 a0, .int .i64 a1, .int .i64 a2, .int .i64 a3, .int .i64 a4, .int .i64 a5, .int .i64 a6, .int .i64 a7, .int .i64 a8, .int .i64 a9, .slice qx lx dx, .bool ox, .slice px hsx.length cx] ((w.alloc (.cells #[.int .i64 a0, .int .i64 a1, .int .i64 a2, .int .i64 a3, .int .i64 a4, .int .i64 a5, .int .i64 a6, .int .i64 a7, .int .i64 a8, .int .i64 a9, .slice qx lx dx, .bool ox, .slice px hsx.length cx] 27)).alloc (.cells #[.int .i64 b0, .int .i64 b1, .int .i64 b2, .int .i64 b3, .int .i64 b4, .int .i64 b5, .int .i64 b6, .int .i64 b7, .int .i64 b8, .int .i64 b9, .slice qy ly dy, .bool ow, .slice py hsy.length cy] 27))) := Lib.hid ((CellsAt.newAt #[.int .i64 a0, .int .i64 a1, .int .i64 a2, .int .i64 a3, .int .i64 a4, .int .i64 a5, .int .i64 a6, .int .i64 a7, .int .i64 a8, .int .i64 a9, .slice qx lx dx, .bool ox, .slice px hsx.length cx] 27 w N hN.symm).past _)
  have HCY : Hid (CellsAt (N + 1) #[.int .i64 b0, .int .i64 b1, .int .i64 b2, .int .i64 b3, .int .i64 b4, .int .i64 b5, .int .i64 b6, .int .i64 b7, .int .i64 b8, .int .i64 b9, .slice qy ly dy, .bool ow, .slice py hsy.length cy] ((w.alloc (.cells #[.int .i64 a0, .int .i64 a1, .int .i64 a2, .int .i64 a3, .int .i64 a4, .int .i64 a5, .int .i64 a6, .int .i64 a7, .int .i64 a8, .int .i64 a9, .slice qx lx dx, .bool ox, .slice px hsx.length cx] 27)).alloc (.cells #[.int .i64 b0, .int .i64 b1, .int .i64 b2, .int .i64 b3, .int .i64 b4, .int .i64 b5, .int .i64 b6, .int .i64 b7, .int .i64 b8, .int .i64 b9, .slice qy ly dy, .bool ow, .slice py hsy.length cy] 27))) := Lib.hid (CellsAt.newAt #[.int .i64 b0, .int .i64 b1, .int .i64 b2, .int .i64 b3, .int .i64 b4, .int .i64 b5, .int .i64 b6, .int .i64 b7, .int .i64 b8, .int .i64 b9, .slice qy ly dy, .bool ow, .slice py hsy.length cy] 27 _ _ (by simp [hN]))
  have HB := Lib.hid hB0
  have HTX := Lib.hid hX
  have hex := fun W hW => examples_any W hW
  have hexc := hex _ (Tens.below hX hB0)
  have HWX := Lib.hid hwx
  have HWY := Lib.hid hwy
  have HNI := Lib.hid hn
  have HIN := Lib.hid hin
  have HIM := Lib.hid him
  have HLT := Lib.hid ht
  have HLR := Lib.hid hr
  clear hB0 hX hex hwx hwy hn hin him ht hr
  go_enter Tryd.func3, Tryd.ntmps3
  go_wp2_with fail
  refine hexc.mono ?_
  rintro e w1 ⟨rfl, hB1⟩
  clear hN hexc
  replace HCX := Lib.hid (HCX.out.below hB1)
  replace HCY := Lib.hid (HCY.out.below hB1)
  replace HB := Lib.hid (HB.out.trans (hB1.mono HB.out.size))
  clear hB1
  have k0 := HCX.out.cell 0 _ rfl
  have k1 := HCX.out.cell 1 _ rfl
  have k2 := HCX.out.cell 2 _ rfl
  have k3 := HCX.out.cell 3 _ rfl
  have k4 := HCX.out.cell 4 _ rfl
  have k5 := HCX.out.cell 5 _ rfl
  have k6 := HCX.out.cell 6 _ rfl
  have k7 := HCX.out.cell 7 _ rfl
  have k8 := HCX.out.cell 8 _ rfl
  have k9 := HCX.out.cell 9 _ rfl
  have k10 := HCX.out.cell 10 _ rfl
  have k11 := HCX.out.cell 11 _ rfl
  have k12 := HCX.out.cell 12 _ rfl
  have kl := HCX.out.lt
  simp only [List.getElem_toArray, List.getElem_cons_zero, List.getElem_cons_succ] at k0 k1 k2 k3 k4 k5 k6 k7 k8 k9 k10 k11 k12
  have hwc := HWX.out w1 HB.out
  go_wp2_with fail
  refine hwc.mono ?_
  rintro e w2 ⟨q, d, rfl, hT, hB1⟩
  clear k0 k1 k2 k3 k4 k5 k6 k7 k8 k9 k10 k11 k12 kl
  replace HCY := Lib.hid (HCY.out.below hB1)
  replace HB := Lib.hid (HB.out.trans (hB1.mono HB.out.size))
  clear hB1 hwc HCX HWX
  have HT := Lib.hid hT
  clear hT
  go_upto_region 28 with fail
  have hBx : Below w2.heap.size w2 (w2.alloc (.cells #[.int .i64 x0, .int .i64 x1, .int .i64 x2, .int .i64 x3, .int .i64 x4, .int .i64 n, .int .i64 x6, .int .i64 x7, .int .i64 x8, .int .i64 x9, .slice q l d] 24)) := (Below.refl _ _).alloc (Nat.le_refl _) _
  have HP : Hid (CellsAt w2.heap.size #[.int .i64 x0, .int .i64 x1, .int .i64 x2, .int .i64 x3, .int .i64 x4, .int .i64 n, .int .i64 x6, .int .i64 x7, .int .i64 x8, .int .i64 x9, .slice q l d] (w2.alloc (.cells #[.int .i64 x0, .int .i64 x1, .int .i64 x2, .int .i64 x3, .int .i64 x4, .int .i64 n, .int .i64 x6, .int .i64 x7, .int .i64 x8, .int .i64 x9, .slice q l d] 24))) := Lib.hid (CellsAt.new _ _ _)
  replace HCY := Lib.hid (HCY.out.below hBx)
  replace HT := Lib.hid (HT.out.below hBx)
  replace HB := Lib.hid (HB.out.trans (hBx.mono HB.out.size))
  clear hBx
  generalize w2.alloc (.cells #[.int .i64 x0, .int .i64 x1, .int .i64 x2, .int .i64 x3, .int .i64 x4, .int .i64 n, .int .i64 x6, .int .i64 x7, .int .i64 x8, .int .i64 x9, .slice q l d] 24) = W3 at *
  refine rights_28 _ (by kernel_rfl) _ W3 (N + 1) w2.heap.size b0 b1 b2 b3 b4 b5 b6 b7 b8 b9 m0 m1 m2 m3 m4 m5 m6 m7 m8 m9 qy ly dy ow py hsy cy lm r (fun W' h => HWY.out W' (HB.out.trans (h.mono HB.out.size))) HCY.out _ _ _ _ _ _ _ _ _ _ _ _ _ _ _ _ _ _ _ _ _ _ _ _ _ _ _ _ _ _ _ _ _ _ _ _ _ _ _ _ _ _ _ _ _ _ _ _ _ _ _ _ _ _ _ _ _ _ _ _ _ _ _ _ _ _ _ _ _ _ _ _ _ _ _ _ _ _ _ _ _ _ _ _ _ _ _ _ _ _ _ _ _ _ _ _ _ _ _ _ _ _ _ _ _ _ _ _ _ _ _ _ _ _ _ _ _ _ _ _ _ _ _ _ ?_
  intro W' D qm dm z72 z73 hD hR hB'
  rename_i K hK
  refine hK _ _ ?_
  clear hK
  exact rights_29 _ (by kernel_rfl) w W' (N + 1) w2.heap.size D x0 x1 x2 x3 x4 n x6 x7 x8 x9 m0 m1 m2 m3 m4 m5 m6 m7 m8 m9 q qm l d lm dm t r HLT.out HLR.out (by omega) hlm (in_put (k := 5) HIN.out HNI.out) HIM.out (Tens.below HTX.out (HB.out.trans (hB'.mono HB.out.size))) (HP.out.below hB') (HT.out.below hB') hD hR (HB.out.trans (hB'.mono HB.out.size)) _ _ _ _ _ _ _ _ _ _ _ _ _ _ _ _ _ _ _ _ _ _ _ _ _ _ _ _ _ _ _ _ _ _ _ _ _ _ _ _ _ _ _ _ _ _ _ _ _ _ _ _ _ _ _ _ _ _ _ _ _ _ _ _ _ _ _ _ _ _ _ _ _ _ _ _ _ _ _ _ _ _ _ _ _ _ _ _ _ _ _ _ _ _ _ _ _ _ _ _ _ _ _ _ _ _ _ _ _ _ _ _ _ _ _ _ _ _ _ _ _ _ _
set_option maxRecDepth 100000 in
set_option maxHeartbeats 16000000 in
theorem rights_c7 (a0 a1 a2 a3 a4 a5 a6 a7 a8 a9 b0 b1 b2 b3 b4 b5 b6 b7 b8 b9 x0 x1 x2 x3 x4 x5 x6 x7 x8 x9 m0 m1 m2 m3 m4 m5 m6 m7 m8 m9 : Int) (qx : Option Addr) (lx dx : Nat) (ox : Bool) (px : Option Addr) (hsx : List Nat) (cx : Nat) (qy : Option Addr) (ly dy : Nat) (ow : Bool) (py : Option Addr) (hsy : List Nat) (cy : Nat) (t r : List Int) (l lm : Nat) (n : Int) (how : Nat) (hhow : how < 256) (hki : (how : Int) % 12 = 7) (hn : In64 n) (ht : t.length = l) (hr : r.length = lm) (hl : l ≤ 1048576) (hlm : lm ≤ 1048576)
    (hin : ∀ x ∈ [x0, x1, x2, x3, x4, x5, x6, x7, x8, x9], In64 x) (him : ∀ x ∈ [m0, m1, m2, m3, m4, m5, m6, m7, m8, m9], In64 x) (w : World) (hX : Tens w)
    (hwx : ∀ W', Below w.heap.size w W' → Calls Tryd.prog 11 #[.agg #[.int .i64 a0, .int .i64 a1, .int .i64 a2, .int .i64 a3, .int .i64 a4, .int .i64 a5, .int .i64 a6, .int .i64 a7, .int .i64 a8, .int .i64 a9, .slice qx lx dx, .bool ox, .slice px hsx.length cx]] W' fun e w' => ∃ q d, e = .returned (.agg #[.int .i64 x0, .int .i64 x1, .int .i64 x2, .int .i64 x3, .int .i64 x4, .int .i64 x5, .int .i64 x6, .int .i64 x7, .int .i64 x8, .int .i64 x9, .slice q l d]) ∧ Tr (fun _ => False) (.slice q l d) t w' ∧ Below W'.heap.size W' w')
    (hwy : ∀ W', Below w.heap.size w W' → Calls Tryd.prog 11 #[.agg #[.int .i64 b0, .int .i64 b1, .int .i64 b2, .int .i64 b3, .int .i64 b4, .int .i64 b5, .int .i64 b6, .int .i64 b7, .int .i64 b8, .int .i64 b9, .slice qy ly dy, .bool ow, .slice py hsy.length cy]] W' fun e w' => ∃ q d, e = .returned (.agg #[.int .i64 m0, .int .i64 m1, .int .i64 m2, .int .i64 m3, .int .i64 m4, .int .i64 m5, .int .i64 m6, .int .i64 m7, .int .i64 m8, .int .i64 m9, .slice q lm d]) ∧ Tr (fun _ => False) (.slice q lm d) r w' ∧ Below W'.heap.size W' w') :
    Calls Tryd.prog 3 #[.agg #[.int .i64 a0, .int .i64 a1, .int .i64 a2, .int .i64 a3, .int .i64 a4, .int .i64 a5, .int .i64 a6, .int .i64 a7, .int .i64 a8, .int .i64 a9, .slice qx lx dx, .bool ox, .slice px hsx.length cx], .agg #[.int .i64 b0, .int .i64 b1, .int .i64 b2, .int .i64 b3, .int .i64 b4, .int .i64 b5, .int .i64 b6, .int .i64 b7, .int .i64 b8, .int .i64 b9, .slice qy ly dy, .bool ow, .slice py hsy.length cy], .int .u8 (how : Int), .int .i64 n] w fun e w' => e = .returned (.bool true) ∧ Below w.heap.size w w' := by
  obtain ⟨N, hN⟩ : ∃ N, w.heap.size = N := ⟨_, rfl⟩
  have hB0 : Below w.heap.size w ((w.alloc (.cells #[.int .i64 a0, .int .i64 a1, .int .i64 a2, .int .i64 a3, .int .i64 a4, .int .i64 a5, .int .i64 a6, .int .i64 a7, .int .i64 a8, .int .i64 a9, .slice qx lx dx, .bool ox, .slice px hsx.length cx] 27)).alloc (.cells #[.int .i64 b0, .int .i64 b1, .int .i64 b2, .int .i64 b3, .int .i64 b4, .int .i64 b5, .int .i64 b6, .int .i64 b7, .int .i64 b8, .int .i64 b9, .slice qy ly dy, .bool ow, .slice py hsy.length cy] 27)) := ((Below.refl _ _).alloc (Nat.le_refl _) _).alloc (by simp) _
  have HCX : Hid (CellsAt N #[.int .i64 a0, .int .i64 a1, .int .i64 a2, .int .i64 a3, .int .i64 a4, .int .i64 a5, .int .i64 a6, .int .i64 a7, .int .i64 a8, .int .i64 a9, .slice qx lx dx, .bool ox, .slice px hsx.length cx] ((w.alloc (.cells #[.int .i64 a0, .int .i64 a1, .int .i64 a2, .int .i64 a3, .int .i64 a4, .int .i64 a5, .int .i64 a6, .int .i64 a7, .int .i64 a8, .int .i64 a9, .slice qx lx dx, .bool ox, .slice px hsx.length cx] 27)).alloc (.cells #[.int .i64 b0, .int .i64 b1, .int .i64 b2, .int .i64 b3, .int .i64 b4, .int .i64 b5, .int .i64 b6, .int .i64 b7, .int .i64 b8, .int .i64 b9, .slice qy ly dy, .bool ow, .slice py hsy.length cy] 27))) := Lib.hid ((CellsAt.newAt #[.int .i64 a0, .int .i64 a1, .int .i64 a2, .int .i64 a3, .int .i64 a4, .int .i64 a5, .int .i64 a6, .int .i64 a7, .int .i64 a8, .int .i64 a9, .slice qx lx dx, .bool ox, .slice px hsx.length cx] 27 w N hN.symm).past _)
  have HCY : Hid (CellsAt (N + 1) #[.int .i64 b0, .int .i64 b1, .int .i64 b2, .int .i64 b3, .int .i64 b4, .int .i64 b5, .int .i64 b6, .int .i64 b7, .int .i64 b8, .int .i64 b9, .slice qy ly dy, .bool ow, .slice py hsy.length cy] ((w.alloc (.cells #[.int .i64 a0, .int .i64 a1, .int .i64 a2, .int .i64 a3, .int .i64 a4, .int .i64 a5, .int .i64 a6, .int .i64 a7, .int .i64 a8, .int .i64 a9, .slice qx lx dx, .bool ox, .slice px hsx.length cx] 27)).alloc (.cells #[.int .i64 b0, .int .i64 b1, .int .i64 b2, .int .i64 b3, .int .i64 b4, .int .i64 b5, .int .i64 b6, .int .i64 b7, .int .i64 b8, .int .i64 b9, .slice qy ly dy, .bool ow, .slice py hsy.length cy] 27))) := Lib.hid (CellsAt.newAt #[.int .i64 b0, .int .i64 b1, .int .i64 b2, .int .i64 b3, .int .i64 b4, .int .i64 b5, .int .i64 b6, .int .i64 b7, .int .i64 b8, .int .i64 b9, .slice qy ly dy, .bool ow, .slice py hsy.length cy] 27 _ _ (by simp [hN]))
  have HB := Lib.hid hB0
  have HTX := Lib.hid hX
  have hex := fun W hW => examples_any W hW
  have hexc := hex _ (Tens.below hX hB0)
  have HWX := Lib.hid hwx
  have HWY := Lib.hid hwy
  have HNI := Lib.hid hn
  have HIN := Lib.hid hin
  have HIM := Lib.hid him
  have HLT := Lib.hid ht
  have HLR := Lib.hid hr
  clear hB0 hX hex hwx hwy hn hin him ht hr
  go_enter Tryd.func3, Tryd.ntmps3
  go_wp2_with fail
  refine hexc.mono ?_
  rintro e w1 ⟨rfl, hB1⟩
  clear hN hexc
  replace HCX := Lib.hid (HCX.out.below hB1)
  replace HCY := Lib.hid (HCY.out.below hB1)
  replace HB := Lib.hid (HB.out.trans (hB1.mono HB.out.size))
  clear hB1
  have k0 := HCX.out.cell 0 _ rfl
  have k1 := HCX.out.cell 1 _ rfl
  have k2 := HCX.out.cell 2 _ rfl
  have k3 := HCX.out.cell 3 _ rfl
  have k4 := HCX.out.cell 4 _ rfl
  have k5 := HCX.out.cell 5 _ rfl
  have k6 := HCX.out.cell 6 _ rfl
  have k7 := HCX.out.cell 7 _ rfl
  have k8 := HCX.out.cell 8 _ rfl
  have k9 := HCX.out.cell 9 _ rfl
  have k10 := HCX.out.cell 10 _ rfl
  have k11 := HCX.out.cell 11 _ rfl
  have k12 := HCX.out.cell 12 _ rfl
  have kl := HCX.out.lt
  simp only [List.getElem_toArray, List.getElem_cons_zero, List.getElem_cons_succ] at k0 k1 k2 k3 k4 k5 k6 k7 k8 k9 k10 k11 k12
  have hwc := HWX.out w1 HB.out
  go_wp2_with fail
  refine hwc.mono ?_
  rintro e w2 ⟨q, d, rfl, hT, hB1⟩
  clear k0 k1 k2 k3 k4 k5 k6 k7 k8 k9 k10 k11 k12 kl
  replace HCY := Lib.hid (HCY.out.below hB1)
  replace HB := Lib.hid (HB.out.trans (hB1.mono HB.out.size))
  clear hB1 hwc HCX HWX
  have HT := Lib.hid hT
  clear hT
  go_upto_region 28 with fail
  have hBx : Below w2.heap.size w2 (w2.alloc (.cells #[.int .i64 x0, .int .i64 x1, .int .i64 x2, .int .i64 x3, .int .i64 x4, .int .i64 x5, .int .i64 n, .int .i64 x7, .int .i64 x8, .int .i64 x9, .slice q l d] 24)) := (Below.refl _ _).alloc (Nat.le_refl _) _
  have HP : Hid (CellsAt w2.heap.size #[.int .i64 x0, .int .i64 x1, .int .i64 x2, .int .i64 x3, .int .i64 x4, .int .i64 x5, .int .i64 n, .int .i64 x7, .int .i64 x8, .int .i64 x9, .slice q l d] (w2.alloc (.cells #[.int .i64 x0, .int .i64 x1, .int .i64 x2, .int .i64 x3, .int .i64 x4, .int .i64 x5, .int .i64 n, .int .i64 x7, .int .i64 x8, .int .i64 x9, .slice q l d] 24))) := Lib.hid (CellsAt.new _ _ _)
  replace HCY := Lib.hid (HCY.out.below hBx)
  replace HT := Lib.hid (HT.out.below hBx)
  replace HB := Lib.hid (HB.out.trans (hBx.mono HB.out.size))
  clear hBx
  generalize w2.alloc (.cells #[.int .i64 x0, .int .i64 x1, .int .i64 x2, .int .i64 x3, .int .i64 x4, .int .i64 x5, .int .i64 n, .int .i64 x7, .int .i64 x8, .int .i64 x9, .slice q l d] 24) = W3 at *
  refine rights_28 _ (by kernel_rfl) _ W3 (N + 1) w2.heap.size b0 b1 b2 b3 b4 b5 b6 b7 b8 b9 m0 m1 m2 m3 m4 m5 m6 m7 m8 m9 qy ly dy ow py hsy cy lm r (fun W' h => HWY.out W' (HB.out.trans (h.mono HB.out.size))) HCY.out _ _ _ _ _ _ _ _ _ _ _ _ _ _ _ _ _ _ _ _ _ _ _ _ _ _ _ _ _ _ _ _ _ _ _ _ _ _ _ _ _ _ _ _ _ _ _ _ _ _ _ _ _ _ _ _ _ _ _ _ _ _ _ _ _ _ _ _ _ _ _ _ _ _ _ _ _ _ _ _ _ _ _ _ _ _ _ _ _ _ _ _ _ _ _ _ _ _ _ _ _ _ _ _ _ _ _ _ _ _ _ _ _ _ _ _ _ _ _ _ _ _ _ _ ?_
  intro W' D qm dm z72 z73 hD hR hB'
  rename_i K hK
  refine hK _ _ ?_
  clear hK
  exact rights_29 _ (by kernel_rfl) w W' (N + 1) w2.heap.size D x0 x1 x2 x3 x4 x5 n x7 x8 x9 m0 m1 m2 m3 m4 m5 m6 m7 m8 m9 q qm l d lm dm t r HLT.out HLR.out (by omega) hlm (in_put (k := 6) HIN.out HNI.out) HIM.out (Tens.below HTX.out (HB.out.trans (hB'.mono HB.out.size))) (HP.out.below hB') (HT.out.below hB') hD hR (HB.out.trans (hB'.mono HB.out.size)) _ _ _ _ _ _ _ _ _ _ _ _ _ _ _ _ _ _ _ _ _ _ _ _ _ _ _ _ _ _ _ _ _ _ _ _ _ _ _ _ _ _ _ _ _ _ _ _ _ _ _ _ _ _ _ _ _ _ _ _ _ _ _ _ _ _ _ _ _ _ _ _ _ _ _ _ _ _ _ _ _ _ _ _ _ _ _ _ _ _ _ _ _ _ _ _ _ _ _ _ _ _ _ _ _ _ _ _ _ _ _ _ _ _ _ _ _ _ _ _ _ _ _
end Go.Proofs.YtmlgcjfcbokibaaDoor.Po

namespace Go.Proofs.YtmlgcjfcbokibaaDoor.Po
open Go Go.RowKit

set_option maxRecDepth 100000 in
set_option maxHeartbeats 16000000 in
theorem rights_c8 (a0 a1 a2 a3 a4 a5 a6 a7 a8 a9 b0 b1 b2 b3 b4 b5 b6 b7 b8 b9 x0 x1 x2 x3 x4 x5 x6 x7 x8 x9 m0 m1 m2 m3 m4 m5 m6 m7 m8 m9 : Int) (qx : Option Addr) (lx dx : Nat) (ox : Bool) (px : Option Addr) (hsx : List Nat) (cx : Nat) (qy : Option Addr) (ly dy : Nat) (ow : Bool) (py : Option Addr) (hsy : List Nat) (cy : Nat) (t r : List Int) (l lm : Nat) (n : Int) (how : Nat) (hhow : how < 256) (hki : (how : Int) % 12 = 8) (hn : In64 n) (ht : t.length = l) (hr : r.length = lm) (hl : l ≤ 1048576) (hlm : lm ≤ 1048576)
    (hin : ∀ x ∈ [x0, x1, x2, x3, x4, x5, x6, x7, x8, x9], In64 x) (him : ∀ x ∈ [m0, m1, m2, m3, m4, m5, m6, m7, m8, m9], In64 x) (w : World) (hX : Tens w)
    (hwx : ∀ W', Below w.heap.size w W' → Calls Tryd.prog 11 #[.agg #[.int .i64 a0, .int .i64 a1, .int .i64 a2, .int .i64 a3, .int .i64 a4, .int .i64 a5, .int .i64 a6, .int .i64 a7, .int .i64 a8, .int .i64 a9, .slice qx lx dx, .bool ox, .slice px hsx.length cx]] W' fun e w' => ∃ q d, e = .returned (.agg #[.int .i64 x0, .int .i64 x1, .int .i64 x2, .int .i64 x3, .int .i64 x4, .int .i64 x5, .int .i64 x6, .int .i64 x7, .int .i64 x8, .int .i64 x9, .slice q l d]) ∧ Tr (fun _ => False) (.slice q l d) t w' ∧ Below W'.heap.size W' w')
    (hwy : ∀ W', Below w.heap.size w W' → Calls Tryd.prog 11 #[.agg #[.int .i64 b0, .int .i64 b1, .int .i64 b2, .int .i64 b3, .int .i64 b4, .int .i64 b5, .int .i64 b6, .int .i64 b7, .int .i64 b8, .int .i64 b9, .slice qy ly dy, .bool ow, .slice py hsy.length cy]] W' fun e w' => ∃ q d, e = .returned (.agg #[.int .i64 m0, .int .i64 m1, .int .i64 m2, .int .i64 m3, .int .i64 m4, .int .i64 m5, .int .i64 m6, .int .i64 m7, .int .i64 m8, .int .i64 m9, .slice q lm d]) ∧ Tr (fun _ => False) (.slice q lm d) r w' ∧ Below W'.heap.size W' w') :
    Calls Tryd.prog 3 #[.agg #[.int .i64 a0, .int .i64 a1, .int .i64 a2, .int .i64 a3, .int .i64 a4, .int .i64 a5, .int .i64 a6, .int .i64 a7, .int .i64 a8, .int .i64 a9, .slice qx lx dx, .bool ox, .slice px hsx.length cx], .agg #[.int .i64 b0, .int .i64 b1, .int .i64 b2, .int .i64 b3, .int .i64 b4, .int .i64 b5, .int .i64 b6, .int .i64 b7, .int .i64 b8, .int .i64 b9, .slice qy ly dy, .bool ow, .slice py hsy.length cy], .int .u8 (how : Int), .int .i64 n] w fun e w' => e = .returned (.bool true) ∧ Below w.heap.size w w' := by
  obtain ⟨N, hN⟩ : ∃ N, w.heap.size = N := ⟨_, rfl⟩
  have hB0 : Below w.heap.size w ((w.alloc (.cells #[.int .i64 a0, .int .i64 a1, .int .i64 a2, .int .i64 a3, .int .i64 a4, .int .i64 a5, .int .i64 a6, .int .i64 a7, .int .i64 a8, .int .i64 a9, .slice qx lx dx, .bool ox, .slice px hsx.length cx] 27)).alloc (.cells #[.int .i64 b0, .int .i64 b1, .int .i64 b2, .int .i64 b3, .int .i64 b4, .int .i64 b5, .int .i64 b6, .int .i64 b7, .int .i64 b8, .int .i64 b9, .slice qy ly dy, .bool ow, .slice py hsy.length cy] 27)) := ((Below.refl _ _).alloc (Nat.le_refl _) _).alloc (by simp) _
  have HCX : Hid (CellsAt N #[.int .i64 a0, .int .i64 a1, .int .i64 a2, .int .i64 a3, .int .i64 a4, .int .i64 a5, .int .i64 a6, .int .i64 a7, .int .i64 a8, .int .i64 a9, .slice qx lx dx, .bool ox, .slice px hsx.length cx] ((w.alloc (.cells #[.int .i64 a0, .int .i64 a1, .int .i64 a2, .int .i64 a3, .int .i64 a4, .int .i64 a5, .int .i64 a6, .int .i64 a7, .int .i64 a8, .int .i64 a9, .slice qx lx dx, .bool ox, .slice px hsx.length cx] 27)).alloc (.cells #[.int .i64 b0, .int .i64 b1, .int .i64 b2, .int .i64 b3, .int .i64 b4, .int .i64 b5, .int .i64 b6, .int .i64 b7, .int .i64 b8, .int .i64 b9, .slice qy ly dy, .bool ow, .slice py hsy.length cy] 27))) := Lib.hid ((CellsAt.newAt #[.int .i64 a0, .int .i64 a1, .int .i64 a2, .int .i64 a3, .int .i64 a4, .int .i64 a5, .int .i64 a6, .int .i64 a7, .int .i64 a8, .int .i64 a9, .slice qx lx dx, .bool ox, .slice px hsx.length cx] 27 w N hN.symm).past _)
  have HCY : Hid (CellsAt (N + 1) #[.int .i64 b0, .int .i64 b1, .int .i64 b2, .int .i64 b3, .int .i64 b4, .int .i64 b5, .int .i64 b6, .int .i64 b7, .int .i64 b8, .int .i64 b9, .slice qy ly dy, .bool ow, .slice py hsy.length cy] ((w.alloc (.cells #[.int .i64 a0, .int .i64 a1, .int .i64 a2, .int .i64 a3, .int .i64 a4, .int .i64 a5, .int .i64 a6, .int .i64 a7, .int .i64 a8, .int .i64 a9, .slice qx lx dx, .bool ox, .slice px hsx.length cx] 27)).alloc (.cells #[.int .i64 b0, .int .i64 b1, .int .i64 b2, .int .i64 b3, .int .i64 b4, .int .i64 b5, .int .i64 b6, .int .i64 b7, .int .i64 b8, .int .i64 b9, .slice qy ly dy, .bool ow, .slice py hsy.length cy] 27))) := Lib.hid (CellsAt.newAt #[.int .i64 b0, .int .i64 b1, .int .i64 b2, .int .i64 b3, .int .i64 b4, .int .i64 b5, .int .i64 b6, .int .i64 b7, .int .i64 b8, .int .i64 b9, .slice qy ly dy, .bool ow, .slice py hsy.length cy] 27 _ _ (by simp [hN]))
  have HB := Lib.hid hB0
  have HTX := Lib.hid hX
  have hex := fun W hW => examples_any W hW
  have hexc := hex _ (Tens.below hX hB0)
  have HWX := Lib.hid hwx
  have HWY := Lib.hid hwy
  have HNI := Lib.hid hn
  have HIN := Lib.hid hin
  have HIM := Lib.hid him
  have HLT := Lib.hid ht
  have HLR := Lib.hid hr
  clear hB0 hX hex hwx hwy hn hin him ht hr
  go_enter Tryd.func3, Tryd.ntmps3
  go_wp2_with fail
  refine hexc.mono ?_
  rintro e w1 ⟨rfl, hB1⟩
  clear hN hexc
  replace HCX := Lib.hid (HCX.out.below hB1)
  replace HCY := Lib.hid (HCY.out.below hB1)
  replace HB := Lib.hid (HB.out.trans (hB1.mono HB.out.size))
  clear hB1
  have k0 := HCX.out.cell 0 _ rfl
  have k1 := HCX.out.cell 1 _ rfl
  have k2 := HCX.out.cell 2 _ rfl
  have k3 := HCX.out.cell 3 _ rfl
  have k4 := HCX.out.cell 4 _ rfl
  have k5 := HCX.out.cell 5 _ rfl
  have k6 := HCX.out.cell 6 _ rfl
  have k7 := HCX.out.cell 7 _ rfl
  have k8 := HCX.out.cell 8 _ rfl
  have k9 := HCX.out.cell 9 _ rfl
  have k10 := HCX.out.cell 10 _ rfl
  have k11 := HCX.out.cell 11 _ rfl
  have k12 := HCX.out.cell 12 _ rfl
  have kl := HCX.out.lt
  simp only [List.getElem_toArray, List.getElem_cons_zero, List.getElem_cons_succ] at k0 k1 k2 k3 k4 k5 k6 k7 k8 k9 k10 k11 k12
  have hwc := HWX.out w1 HB.out
  go_wp2_with fail
  refine hwc.mono ?_
  rintro e w2 ⟨q, d, rfl, hT, hB1⟩
  clear k0 k1 k2 k3 k4 k5 k6 k7 k8 k9 k10 k11 k12 kl
  replace HCY := Lib.hid (HCY.out.below hB1)
  replace HB := Lib.hid (HB.out.trans (hB1.mono HB.out.size))
  clear hB1 hwc HCX HWX
  have HT := Lib.hid hT
  clear hT
  go_upto_region 28 with fail
  have hBx : Below w2.heap.size w2 (w2.alloc (.cells #[.int .i64 x0, .int .i64 x1, .int .i64 x2, .int .i64 x3, .int .i64 x4, .int .i64 x5, .int .i64 x6, .int .i64 n, .int .i64 x8, .int .i64 x9, .slice q l d] 24)) := (Below.refl _ _).alloc (Nat.le_refl _) _
  have HP : Hid (CellsAt w2.heap.size #[.int .i64 x0, .int .i64 x1, .int .i64 x2, .int .i64 x3, .int .i64 x4, .int .i64 x5, .int .i64 x6, .int .i64 n, .int .i64 x8, .int .i64 x9, .slice q l d] (w2.alloc (.cells #[.int .i64 x0, .int .i64 x1, .int .i64 x2, .int .i64 x3, .int .i64 x4, .int .i64 x5, .int .i64 x6, .int .i64 n, .int .i64 x8, .int .i64 x9, .slice q l d] 24))) := Lib.hid (CellsAt.new _ _ _)
  replace HCY := Lib.hid (HCY.out.below hBx)
  replace HT := Lib.hid (HT.out.below hBx)
  replace HB := Lib.hid (HB.out.trans (hBx.mono HB.out.size))
  clear hBx
  generalize w2.alloc (.cells #[.int .i64 x0, .int .i64 x1, .int .i64 x2, .int .i64 x3, .int .i64 x4, .int .i64 x5, .int .i64 x6, .int .i64 n, .int .i64 x8, .int .i64 x9, .slice q l d] 24) = W3 at *
  refine rights_28 _ (by kernel_rfl) _ W3 (N + 1) w2.heap.size b0 b1 b2 b3 b4 b5 b6 b7 b8 b9 m0 m1 m2 m3 m4 m5 m6 m7 m8 m9 qy ly dy ow py hsy cy lm r (fun W' h => HWY.out W' (HB.out.trans (h.mono HB.out.size))) HCY.out _ _ _ _ _ _ _ _ _ _ _ _ _ _ _ _ _ _ _ _ _ _ _ _ _ _ _ _ _ _ _ _ _ _ _ _ _ _ _ _ _ _ _ _ _ _ _ _ _ _ _ _ _ _ _ _ _ _ _ _ _ _ _ _ _ _ _ _ _ _ _ _ _ _ _ _ _ _ _ _ _ _ _ _ _ _ _ _ _ _ _ _ _ _ _ _ _ _ _ _ _ _ _ _ _ _ _ _ _ _ _ _ _ _ _ _ _ _ _ _ _ _ _ _ ?_
  intro W' D qm dm z72 z73 hD hR hB'
  rename_i K hK
  refine hK _ _ ?_
  clear hK
  exact rights_29 _ (by kernel_rfl) w W' (N + 1) w2.heap.size D x0 x1 x2 x3 x4 x5 x6 n x8 x9 m0 m1 m2 m3 m4 m5 m6 m7 m8 m9 q qm l d lm dm t r HLT.out HLR.out (by omega) hlm (in_put (k := 7) HIN.out HNI.out) HIM.out (Tens.below HTX.out (HB.out.trans (hB'.mono HB.out.size))) (HP.out.below hB') (HT.out.below hB') hD hR (HB.out.trans (hB'.mono HB.out.size)) _ _ _ _ _ _ _ _ _ _ _ _ _ _ _ _ _ _ _ _ _ _ _ _ _ _ _ _ _ _ _ _ _ _ _ _ _ _ _ _ _ _ _ _ _ _ _ _ _ _ _ _ _ _ _ _ _ _ _ _ _ _ _ _ _ _ _ _ _ _ _ _ _ _ _ _ _ _ _ _ _ _ _ _ _ _ _ _ _ _ _ _ _ _ _ _ _ _ _ _ _ _ _ _ _ _ _ _ _ _ _ _ _ _ _ _ _ _ _ _ _ _ _
set_option maxRecDepth 100000 in
set_option maxHeartbeats 16000000 in
theorem rights_c9 (a0 a1 a2 a3 a4 a5 a6 a7 a8 a9 b0 b1 b2 b3 b4 b5 b6 b7 b8 b9 x0 x1 x2 x3 x4 x5 x6 x7 x8 x9 m0 m1 m2 m3 m4 m5 m6 m7 m8 m9 : Int) (qx : Option Addr) (lx dx : Nat) (ox : Bool) (px : Option Addr) (hsx : List Nat) (cx : Nat) (qy : Option Addr) (ly dy : Nat) (ow : Bool) (py : Option Addr) (hsy : List Nat) (cy : Nat) (t r : List Int) (l lm : Nat) (n : Int) (how : Nat) (hhow : how < 256) (hki : (how : Int) % 12 = 9) (hn : In64 n) (ht : t.length = l) (hr : r.length = lm) (hl : l ≤ 1048576) (hlm : lm ≤ 1048576)
    (hin : ∀ x ∈ [x0, x1, x2, x3, x4, x5, x6, x7, x8, x9], In64 x) (him : ∀ x ∈ [m0, m1, m2, m3, m4, m5, m6, m7, m8, m9], In64 x) (w : World) (hX : Tens w)
    (hwx : ∀ W', Below w.heap.size w W' → Calls Tryd.prog 11 #[.agg #[.int .i64 a0, .int .i64 a1, .int .i64 a2, .int .i64 a3, .int .i64 a4, .int .i64 a5, .int .i64 a6, .int .i64 a7, .int .i64 a8, .int .i64 a9, .slice qx lx dx, .bool ox, .slice px hsx.length cx]] W' fun e w' => ∃ q d, e = .returned (.agg #[.int .i64 x0, .int .i64 x1, .int .i64 x2, .int .i64 x3, .int .i64 x4, .int .i64 x5, .int .i64 x6, .int .i64 x7, .int .i64 x8, .int .i64 x9, .slice q l d]) ∧ Tr (fun _ => False) (.slice q l d) t w' ∧ Below W'.heap.size W' w')
    (hwy : ∀ W', Below w.heap.size w W' → Calls Tryd.prog 11 #[.agg #[.int .i64 b0, .int .i64 b1, .int .i64 b2, .int .i64 b3, .int .i64 b4, .int .i64 b5, .int .i64 b6, .int .i64 b7, .int .i64 b8, .int .i64 b9, .slice qy ly dy, .bool ow, .slice py hsy.length cy]] W' fun e w' => ∃ q d, e = .returned (.agg #[.int .i64 m0, .int .i64 m1, .int .i64 m2, .int .i64 m3, .int .i64 m4, .int .i64 m5, .int .i64 m6, .int .i64 m7, .int .i64 m8, .int .i64 m9, .slice q lm d]) ∧ Tr (fun _ => False) (.slice q lm d) r w' ∧ Below W'.heap.size W' w') :
    Calls Tryd.prog 3 #[.agg #[.int .i64 a0, .int .i64 a1, .int .i64 a2, .int .i64 a3, .int .i64 a4, .int .i64 a5, .int .i64 a6, .int .i64 a7, .int .i64 a8, .int .i64 a9, .slice qx lx dx, .bool ox, .slice px hsx.length cx], .agg #[.int .i64 b0, .int .i64 b1, .int .i64 b2, .int .i64 b3, .int .i64 b4, .int .i64 b5, .int .i64 b6, .int .i64 b7, .int .i64 b8, .int .i64 b9, .slice qy ly dy, .bool ow, .slice py hsy.length cy], .int .u8 (how : Int), .int .i64 n] w fun e w' => e = .returned (.bool true) ∧ Below w.heap.size w w' := by
  obtain ⟨N, hN⟩ : ∃ N, w.heap.size = N := ⟨_, rfl⟩
  have hB0 : Below w.heap.size w ((w.alloc (.cells #[.int .i64 a0, .int .i64 a1, .int .i64 a2, .int .i64 a3, .int .i64 a4, .int .i64 a5, .int .i64 a6, .int .i64 a7, .int .i64 a8, .int .i64 a9, .slice qx lx dx, .bool ox, .slice px hsx.length cx] 27)).alloc (.cells #[.int .i64 b0, .int .i64 b1, .int .i64 b2, .int .i64 b3, .int .i64 b4, .int .i64 b5, .int .i64 b6, .int .i64 b7, .int .i64 b8, .int .i64 b9, .slice qy ly dy, .bool ow, .slice py hsy.length cy] 27)) := ((Below.refl _ _).alloc (Nat.le_refl _) _).alloc (by simp) _
  have HCX : Hid (CellsAt N #[.int .i64 a0, .int .i64 a1, .int .i64 a2, .int .i64 a3, .int .i64 a4, .int .i64 a5, .int .i64 a6, .int .i64 a7, .int .i64 a8, .int .i64 a9, .slice qx lx dx, .bool ox, .slice px hsx.length cx] ((w.alloc (.cells #[.int .i64 a0, .int .i64 a1, .int .i64 a2, .int .i64 a3, .int .i64 a4, .int .i64 a5, .int .i64 a6, .int .i64 a7, .int .i64 a8, .int .i64 a9, .slice qx lx dx, .bool ox, .slice px hsx.length cx] 27)).alloc (.cells #[.int .i64 b0, .int .i64 b1, .int .i64 b2, .int .i64 b3, .int .i64 b4, .int .i64 b5, .int .i64 b6, .int .i64 b7, .int .i64 b8, .int .i64 b9, .slice qy ly dy, .bool ow, .slice py hsy.length cy] 27))) := Lib.hid ((CellsAt.newAt #[.int .i64 a0, .int .i64 a1, .int .i64 a2, .int .i64 a3, .int .i64 a4, .int .i64 a5, .int .i64 a6, .int .i64 a7, .int .i64 a8, .int .i64 a9, .slice qx lx dx, .bool ox, .slice px hsx.length cx] 27 w N hN.symm).past _)
  have HCY : Hid (CellsAt (N + 1) #[.int .i64 b0, .int .i64 b1, .int .i64 b2, .int .i64 b3, .int .i64 b4, .int .i64 b5, .int .i64 b6, .int .i64 b7, .int .i64 b8, .int .i64 b9, .slice qy ly dy, .bool ow, .slice py hsy.length cy] ((w.alloc (.cells #[.int .i64 a0, .int .i64 a1, .int .i64 a2, .int .i64 a3, .int .i64 a4, .int .i64 a5, .int .i64 a6, .int .i64 a7, .int .i64 a8, .int .i64 a9, .slice qx lx dx, .bool ox, .slice px hsx.length cx] 27)).alloc (.cells #[.int .i64 b0, .int .i64 b1, .int .i64 b2, .int .i64 b3, .int .i64 b4, .int .i64 b5, .int .i64 b6, .int .i64 b7, .int .i64 b8, .int .i64 b9, .slice qy ly dy, .bool ow, .slice py hsy.length cy] 27))) := Lib.hid (CellsAt.newAt #[.int .i64 b0, .int .i64 b1, .int .i64 b2, .int .i64 b3, .int .i64 b4, .int .i64 b5, .int .i64 b6, .int .i64 b7, .int .i64 b8, .int .i64 b9, .slice qy ly dy, .bool ow, .slice py hsy.length cy] 27 _ _ (by simp [hN]))
  have HB := Lib.hid hB0
  have HTX := Lib.hid hX
  have hex := fun W hW => examples_any W hW
  have hexc := hex _ (Tens.below hX hB0)
  have HWX := Lib.hid hwx
  have HWY := Lib.hid hwy
  have HNI := Lib.hid hn
  have HIN := Lib.hid hin
  have HIM := Lib.hid him
  have HLT := Lib.hid ht
  have HLR := Lib.hid hr
  clear hB0 hX hex hwx hwy hn hin him ht hr
  go_enter Tryd.func3, Tryd.ntmps3
  go_wp2_with fail
  refine hexc.mono ?_
  rintro e w1 ⟨rfl, hB1⟩
  clear hN hexc
  replace HCX := Lib.hid (HCX.out.below hB1)
  replace HCY := Lib.hid (HCY.out.below hB1)
  replace HB := Lib.hid (HB.out.trans (hB1.mono HB.out.size))
  clear hB1
  have k0 := HCX.out.cell 0 _ rfl
  have k1 := HCX.out.cell 1 _ rfl
  have k2 := HCX.out.cell 2 _ rfl
  have k3 := HCX.out.cell 3 _ rfl
  have k4 := HCX.out.cell 4 _ rfl
  have k5 := HCX.out.cell 5 _ rfl
  have k6 := HCX.out.cell 6 _ rfl
  have k7 := HCX.out.cell 7 _ rfl
  have k8 := HCX.out.cell 8 _ rfl
  have k9 := HCX.out.cell 9 _ rfl
  have k10 := HCX.out.cell 10 _ rfl
  have k11 := HCX.out.cell 11 _ rfl
  have k12 := HCX.out.cell 12 _ rfl
  have kl := HCX.out.lt
  simp only [List.getElem_toArray, List.getElem_cons_zero, List.getElem_cons_succ] at k0 k1 k2 k3 k4 k5 k6 k7 k8 k9 k10 k11 k12
  have hwc := HWX.out w1 HB.out
  go_wp2_with fail
  refine hwc.mono ?_
  rintro e w2 ⟨q, d, rfl, hT, hB1⟩
  clear k0 k1 k2 k3 k4 k5 k6 k7 k8 k9 k10 k11 k12 kl
  replace HCY := Lib.hid (HCY.out.below hB1)
  replace HB := Lib.hid (HB.out.trans (hB1.mono HB.out.size))
  clear hB1 hwc HCX HWX
  have HT := Lib.hid hT
  clear hT
  go_upto_region 28 with fail
  have hBx : Below w2.heap.size w2 (w2.alloc (.cells #[.int .i64 x0, .int .i64 x1, .int .i64 x2, .int .i64 x3, .int .i64 x4, .int .i64 x5, .int .i64 x6, .int .i64 x7, .int .i64 n, .int .i64 x9, .slice q l d] 24)) := (Below.refl _ _).alloc (Nat.le_refl _) _
  have HP : Hid (CellsAt w2.heap.size #[.int .i64 x0, .int .i64 x1, .int .i64 x2, .int .i64 x3, .int .i64 x4, .int .i64 x5, .int .i64 x6, .int .i64 x7, .int .i64 n, .int .i64 x9, .slice q l d] (w2.alloc (.cells #[.int .i64 x0, .int .i64 x1, .int .i64 x2, .int .i64 x3, .int .i64 x4, .int .i64 x5, .int .i64 x6, .int .i64 x7, .int .i64 n, .int .i64 x9, .slice q l d] 24))) := Lib.hid (CellsAt.new _ _ _)
  replace HCY := Lib.hid (HCY.out.below hBx)
  replace HT := Lib.hid (HT.out.below hBx)
  replace HB := Lib.hid (HB.out.trans (hBx.mono HB.out.size))
  clear hBx
  generalize w2.alloc (.cells #[.int .i64 x0, .int .i64 x1, .int .i64 x2, .int .i64 x3, .int .i64 x4, .int .i64 x5, .int .i64 x6, .int .i64 x7, .int .i64 n, .int .i64 x9, .slice q l d] 24) = W3 at *
  refine rights_28 _ (by kernel_rfl) _ W3 (N + 1) w2.heap.size b0 b1 b2 b3 b4 b5 b6 b7 b8 b9 m0 m1 m2 m3 m4 m5 m6 m7 m8 m9 qy ly dy ow py hsy cy lm r (fun W' h => HWY.out W' (HB.out.trans (h.mono HB.out.size))) HCY.out _ _ _ _ _ _ _ _ _ _ _ _ _ _ _ _ _ _ _ _ _ _ _ _ _ _ _ _ _ _ _ _ _ _ _ _ _ _ _ _ _ _ _ _ _ _ _ _ _ _ _ _ _ _ _ _ _ _ _ _ _ _ _ _ _ _ _ _ _ _ _ _ _ _ _ _ _ _ _ _ _ _ _ _ _ _ _ _ _ _ _ _ _ _ _ _ _ _ _ _ _ _ _ _ _ _ _ _ _ _ _ _ _ _ _ _ _ _ _ _ _ _ _ _ ?_
  intro W' D qm dm z72 z73 hD hR hB'
  rename_i K hK
  refine hK _ _ ?_
  clear hK
  exact rights_29 _ (by kernel_rfl) w W' (N + 1) w2.heap.size D x0 x1 x2 x3 x4 x5 x6 x7 n x9 m0 m1 m2 m3 m4 m5 m6 m7 m8 m9 q qm l d lm dm t r HLT.out HLR.out (by omega) hlm (in_put (k := 8) HIN.out HNI.out) HIM.out (Tens.below HTX.out (HB.out.trans (hB'.mono HB.out.size))) (HP.out.below hB') (HT.out.below hB') hD hR (HB.out.trans (hB'.mono HB.out.size)) _ _ _ _ _ _ _ _ _ _ _ _ _ _ _ _ _ _ _ _ _ _ _ _ _ _ _ _ _ _ _ _ _ _ _ _ _ _ _ _ _ _ _ _ _ _ _ _ _ _ _ _ _ _ _ _ _ _ _ _ _ _ _ _ _ _ _ _ _ _ _ _ _ _ _ _ _ _ _ _ _ _ _ _ _ _ _ _ _ _ _ _ _ _ _ _ _ _ _ _ _ _ _ _ _ _ _ _ _ _ _ _ _ _ _ _ _ _ _ _ _ _ _
set_option maxRecDepth 100000 in
set_option maxHeartbeats 16000000 in
theorem rights_c10 (a0 a1 a2 a3 a4 a5 a6 a7 a8 a9 b0 b1 b2 b3 b4 b5 b6 b7 b8 b9 x0 x1 x2 x3 x4 x5 x6 x7 x8 x9 m0 m1 m2 m3 m4 m5 m6 m7 m8 m9 : Int) (qx : Option Addr) (lx dx : Nat) (ox : Bool) (px : Option Addr) (hsx : List Nat) (cx : Nat) (qy : Option Addr) (ly dy : Nat) (ow : Bool) (py : Option Addr) (hsy : List Nat) (cy : Nat) (t r : List Int) (l lm : Nat) (n : Int) (how : Nat) (hhow : how < 256) (hki : (how : Int) % 12 = 10) (hn : In64 n) (ht : t.length = l) (hr : r.length = lm) (hl : l ≤ 1048576) (hlm : lm ≤ 1048576)
    (hin : ∀ x ∈ [x0, x1, x2, x3, x4, x5, x6, x7, x8, x9], In64 x) (him : ∀ x ∈ [m0, m1, m2, m3, m4, m5, m6, m7, m8, m9], In64 x) (w : World) (hX : Tens w)
    (hwx : ∀ W', Below w.heap.size w W' → Calls Tryd.prog 11 #[.agg #[.int .i64 a0, .int .i64 a1, .int .i64 a2, .int .i64 a3, .int .i64 a4, .int .i64 a5, .int .i64 a6, .int .i64 a7, .int .i64 a8, .int .i64 a9, .slice qx lx dx, .bool ox, .slice px hsx.length cx]] W' fun e w' => ∃ q d, e = .returned (.agg #[.int .i64 x0, .int .i64 x1, .int .i64 x2, .int .i64 x3, .int .i64 x4, .int .i64 x5, .int .i64 x6, .int .i64 x7, .int .i64 x8, .int .i64 x9, .slice q l d]) ∧ Tr (fun _ => False) (.slice q l d) t w' ∧ Below W'.heap.size W' w')
    (hwy : ∀ W', Below w.heap.size w W' → Calls Tryd.prog 11 #[.agg #[.int .i64 b0, .int .i64 b1, .int .i64 b2, .int .i64 b3, .int .i64 b4, .int .i64 b5, .int .i64 b6, .int .i64 b7, .int .i64 b8, .int .i64 b9, .slice qy ly dy, .bool ow, .slice py hsy.length cy]] W' fun e w' => ∃ q d, e = .returned (.agg #[.int .i64 m0, .int .i64 m1, .int .i64 m2, .int .i64 m3, .int .i64 m4, .int .i64 m5, .int .i64 m6, .int .i64 m7, .int .i64 m8, .int .i64 m9, .slice q lm d]) ∧ Tr (fun _ => False) (.slice q lm d) r w' ∧ Below W'.heap.size W' w') :
    Calls Tryd.prog 3 #[.agg #[.int .i64 a0, .int .i64 a1, .int .i64 a2, .int .i64 a3, .int .i64 a4, .int .i64 a5, .int .i64 a6, .int .i64 a7, .int .i64 a8, .int .i64 a9, .slice qx lx dx, .bool ox, .slice px hsx.length cx], .agg #[.int .i64 b0, .int .i64 b1, .int .i64 b2, .int .i64 b3, .int .i64 b4, .int .i64 b5, .int .i64 b6, .int .i64 b7, .int .i64 b8, .int .i64 b9, .slice qy ly dy, .bool ow, .slice py hsy.length cy], .int .u8 (how : Int), .int .i64 n] w fun e w' => e = .returned (.bool true) ∧ Below w.heap.size w w' := by
  obtain ⟨N, hN⟩ : ∃ N, w.heap.size = N := ⟨_, rfl⟩
  have hB0 : Below w.heap.size w ((w.alloc (.cells #[.int .i64 a0, .int .i64 a1, .int .i64 a2, .int .i64 a3, .int .i64 a4, .int .i64 a5, .int .i64 a6, .int .i64 a7, .int .i64 a8, .int .i64 a9, .slice qx lx dx, .bool ox, .slice px hsx.length cx] 27)).alloc (.cells #[.int .i64 b0, .int .i64 b1, .int .i64 b2, .int .i64 b3, .int .i64 b4, .int .i64 b5, .int .i64 b6, .int .i64 b7, .int .i64 b8, .int .i64 b9, .slice qy ly dy, .bool ow, .slice py hsy.length cy] 27)) := ((Below.refl _ _).alloc (Nat.le_refl _) _).alloc (by simp) _
  have HCX : Hid (CellsAt N #[.int .i64 a0, .int .i64 a1, .int .i64 a2, .int .i64 a3, .int .i64 a4, .int .i64 a5, .int .i64 a6, .int .i64 a7, .int .i64 a8, .int .i64 a9, .slice qx lx dx, .bool ox, .slice px hsx.length cx] ((w.alloc (.cells #[.int .i64 a0, .int .i64 a1, .int .i64 a2, .int .i64 a3, .int .i64 a4, .int .i64 a5, .int .i64 a6, .int .i64 a7, .int .i64 a8, .int .i64 a9, .slice qx lx dx, .bool ox, .slice px hsx.length cx] 27)).alloc (.cells #[.int .i64 b0, .int .i64 b1, .int .i64 b2, .int .i64 b3, .int .i64 b4, .int .i64 b5, .int .i64 b6, .int .i64 b7, .int .i64 b8, .int .i64 b9, .slice qy ly dy, .bool ow, .slice py hsy.length cy] 27))) := Lib.hid ((CellsAt.newAt #[.int .i64 a0, .int .i64 a1, .int .i64 a2, .int .i64 a3, .int .i64 a4, .int .i64 a5, .int .i64 a6, .int .i64 a7, .int .i64 a8, .int .i64 a9, .slice qx lx dx, .bool ox, .slice px hsx.length cx] 27 w N hN.symm).past _)
  have HCY : Hid (CellsAt (N + 1) #[.int .i64 b0, .int .i64 b1, .int .i64 b2, .int .i64 b3, .int .i64 b4, .int .i64 b5, .int .i64 b6, .int .i64 b7, .int .i64 b8, .int .i64 b9, .slice qy ly dy, .bool ow, .slice py hsy.length cy] ((w.alloc (.cells #[.int .i64 a0, .int .i64 a1, .int .i64 a2, .int .i64 a3, .int .i64 a4, .int .i64 a5, .int .i64 a6, .int .i64 a7, .int .i64 a8, .int .i64 a9, .slice qx lx dx, .bool ox, .slice px hsx.length cx] 27)).alloc (.cells #[.int .i64 b0, .int .i64 b1, .int .i64 b2, .int .i64 b3, .int .i64 b4, .int .i64 b5, .int .i64 b6, .int .i64 b7, .int .i64 b8, .int .i64 b9, .slice qy ly dy, .bool ow, .slice py hsy.length cy] 27))) := Lib.hid (CellsAt.newAt #[.int .i64 b0, .int .i64 b1, .int .i64 b2, .int .i64 b3, .int .i64 b4, .int .i64 b5, .int .i64 b6, .int .i64 b7, .int .i64 b8, .int .i64 b9, .slice qy ly dy, .bool ow, .slice py hsy.length cy] 27 _ _ (by simp [hN]))
  have HB := Lib.hid hB0
  have HTX := Lib.hid hX
  have hex := fun W hW => examples_any W hW
  have hexc := hex _ (Tens.below hX hB0)
  have HWX := Lib.hid hwx
  have HWY := Lib.hid hwy
  have HNI := Lib.hid hn
  have HIN := Lib.hid hin
  have HIM := Lib.hid him
  have HLT := Lib.hid ht
  have HLR := Lib.hid hr
  clear hB0 hX hex hwx hwy hn hin him ht hr
  go_enter Tryd.func3, Tryd.ntmps3
  go_wp2_with fail
  refine hexc.mono ?_
  rintro e w1 ⟨rfl, hB1⟩
  clear hN hexc
  replace HCX := Lib.hid (HCX.out.below hB1)
  replace HCY := Lib.hid (HCY.out.below hB1)
  replace HB := Lib.hid (HB.out.trans (hB1.mono HB.out.size))
  clear hB1
  have k0 := HCX.out.cell 0 _ rfl
  have k1 := HCX.out.cell 1 _ rfl
  have k2 := HCX.out.cell 2 _ rfl
  have k3 := HCX.out.cell 3 _ rfl
  have k4 := HCX.out.cell 4 _ rfl
  have k5 := HCX.out.cell 5 _ rfl
  have k6 := HCX.out.cell 6 _ rfl
  have k7 := HCX.out.cell 7 _ rfl
  have k8 := HCX.out.cell 8 _ rfl
  have k9 := HCX.out.cell 9 _ rfl
  have k10 := HCX.out.cell 10 _ rfl
  have k11 := HCX.out.cell 11 _ rfl
  have k12 := HCX.out.cell 12 _ rfl
  have kl := HCX.out.lt
  simp only [List.getElem_toArray, List.getElem_cons_zero, List.getElem_cons_succ] at k0 k1 k2 k3 k4 k5 k6 k7 k8 k9 k10 k11 k12
  have hwc := HWX.out w1 HB.out
  go_wp2_with fail
  refine hwc.mono ?_
  rintro e w2 ⟨q, d, rfl, hT, hB1⟩
  clear k0 k1 k2 k3 k4 k5 k6 k7 k8 k9 k10 k11 k12 kl
  replace HCY := Lib.hid (HCY.out.below hB1)
  replace HB := Lib.hid (HB.out.trans (hB1.mono HB.out.size))
  clear hB1 hwc HCX HWX
  have HT := Lib.hid hT
  clear hT
  go_upto_region 28 with fail
  have hBx : Below w2.heap.size w2 (w2.alloc (.cells #[.int .i64 x0, .int .i64 x1, .int .i64 x2, .int .i64 x3, .int .i64 x4, .int .i64 x5, .int .i64 x6, .int .i64 x7, .int .i64 x8, .int .i64 n, .slice q l d] 24)) := (Below.refl _ _).alloc (Nat.le_refl _) _
  have HP : Hid (CellsAt w2.heap.size #[.int .i64 x0, .int .i64 x1, .int .i64 x2, .int .i64 x3, .int .i64 x4, .int .i64 x5, .int .i64 x6, .int .i64 x7, .int .i64 x8, .int .i64 n, .slice q l d] (w2.alloc (.cells #[.int .i64 x0, .int .i64 x1, .int .i64 x2, .int .i64 x3, .int .i64 x4, .int .i64 x5, .int .i64 x6, .int .i64 x7, .int .i64 x8, .int .i64 n, .slice q l d] 24))) := Lib.hid (CellsAt.new _ _ _)
  replace HCY := Lib.hid (HCY.out.below hBx)
  replace HT := Lib.hid (HT.out.below hBx)
  replace HB := Lib.hid (HB.out.trans (hBx.mono HB.out.size))
  clear hBx
  generalize w2.alloc (.cells #[.int .i64 x0, .int .i64 x1, .int .i64 x2, .int .i64 x3, .int .i64 x4, .int .i64 x5, .int .i64 x6, .int .i64 x7, .int .i64 x8, .int .i64 n, .slice q l d] 24) = W3 at *
  refine rights_28 _ (by kernel_rfl) _ W3 (N + 1) w2.heap.size b0 b1 b2 b3 b4 b5 b6 b7 b8 b9 m0 m1 m2 m3 m4 m5 m6 m7 m8 m9 qy ly dy ow py hsy cy lm r (fun W' h => HWY.out W' (HB.out.trans (h.mono HB.out.size))) HCY.out _ _ _ _ _ _ _ _ _ _ _ _ _ _ _ _ _ _ _ _ _ _ _ _ _ _ _ _ _ _ _ _ _ _ _ _ _ _ _ _ _ _ _ _ _ _ _ _ _ _ _ _ _ _ _ _ _ _ _ _ _ _ _ _ _ _ _ _ _ _ _ _ _ _ _ _ _ _ _ _ _ _ _ _ _ _ _ _ _ _ _ _ _ _ _ _ _ _ _ _ _ _ _ _ _ _ _ _ _ _ _ _ _ _ _ _ _ _ _ _ _ _ _ _ ?_
  intro W' D qm dm z72 z73 hD hR hB'
  rename_i K hK
  refine hK _ _ ?_
  clear hK
  exact rights_29 _ (by kernel_rfl) w W' (N + 1) w2.heap.size D x0 x1 x2 x3 x4 x5 x6 x7 x8 n m0 m1 m2 m3 m4 m5 m6 m7 m8 m9 q qm l d lm dm t r HLT.out HLR.out (by omega) hlm (in_put (k := 9) HIN.out HNI.out) HIM.out (Tens.below HTX.out (HB.out.trans (hB'.mono HB.out.size))) (HP.out.below hB') (HT.out.below hB') hD hR (HB.out.trans (hB'.mono HB.out.size)) _ _ _ _ _ _ _ _ _ _ _ _ _ _ _ _ _ _ _ _ _ _ _ _ _ _ _ _ _ _ _ _ _ _ _ _ _ _ _ _ _ _ _ _ _ _ _ _ _ _ _ _ _ _ _ _ _ _ _ _ _ _ _ _ _ _ _ _ _ _ _ _ _ _ _ _ _ _ _ _ _ _ _ _ _ _ _ _ _ _ _ _ _ _ _ _ _ _ _ _ _ _ _ _ _ _ _ _ _ _ _ _ _ _ _ _ _ _ _ _ _ _ _
set_option maxRecDepth 100000 in
set_option maxHeartbeats 16000000 in
theorem rights_c11 (a0 a1 a2 a3 a4 a5 a6 a7 a8 a9 b0 b1 b2 b3 b4 b5 b6 b7 b8 b9 x0 x1 x2 x3 x4 x5 x6 x7 x8 x9 m0 m1 m2 m3 m4 m5 m6 m7 m8 m9 : Int) (qx : Option Addr) (lx dx : Nat) (ox : Bool) (px : Option Addr) (hsx : List Nat) (cx : Nat) (qy : Option Addr) (ly dy : Nat) (ow : Bool) (py : Option Addr) (hsy : List Nat) (cy : Nat) (t r : List Int) (l lm : Nat) (n : Int) (how : Nat) (hhow : how < 256) (hki : (how : Int) % 12 = 11) (hn : In64 n) (ht : t.length = l) (hr : r.length = lm) (hl : l ≤ 1048576) (hlm : lm ≤ 1048576)
    (hin : ∀ x ∈ [x0, x1, x2, x3, x4, x5, x6, x7, x8, x9], In64 x) (him : ∀ x ∈ [m0, m1, m2, m3, m4, m5, m6, m7, m8, m9], In64 x) (w : World) (hX : Tens w)
    (hwx : ∀ W', Below w.heap.size w W' → Calls Tryd.prog 11 #[.agg #[.int .i64 a0, .int .i64 a1, .int .i64 a2, .int .i64 a3, .int .i64 a4, .int .i64 a5, .int .i64 a6, .int .i64 a7, .int .i64 a8, .int .i64 a9, .slice qx lx dx, .bool ox, .slice px hsx.length cx]] W' fun e w' => ∃ q d, e = .returned (.agg #[.int .i64 x0, .int .i64 x1, .int .i64 x2, .int .i64 x3, .int .i64 x4, .int .i64 x5, .int .i64 x6, .int .i64 x7, .int .i64 x8, .int .i64 x9, .slice q l d]) ∧ Tr (fun _ => False) (.slice q l d) t w' ∧ Below W'.heap.size W' w')
    (hwy : ∀ W', Below w.heap.size w W' → Calls Tryd.prog 11 #[.agg #[.int .i64 b0, .int .i64 b1, .int .i64 b2, .int .i64 b3, .int .i64 b4, .int .i64 b5, .int .i64 b6, .int .i64 b7, .int .i64 b8, .int .i64 b9, .slice qy ly dy, .bool ow, .slice py hsy.length cy]] W' fun e w' => ∃ q d, e = .returned (.agg #[.int .i64 m0, .int .i64 m1, .int .i64 m2, .int .i64 m3, .int .i64 m4, .int .i64 m5, .int .i64 m6, .int .i64 m7, .int .i64 m8, .int .i64 m9, .slice q lm d]) ∧ Tr (fun _ => False) (.slice q lm d) r w' ∧ Below W'.heap.size W' w') :
    Calls Tryd.prog 3 #[.agg #[.int .i64 a0, .int .i64 a1, .int .i64 a2, .int .i64 a3, .int .i64 a4, .int .i64 a5, .int .i64 a6, .int .i64 a7, .int .i64 a8, .int .i64 a9, .slice qx lx dx, .bool ox, .slice px hsx.length cx], .agg #[.int .i64 b0, .int .i64 b1, .int .i64 b2, .int .i64 b3, .int .i64 b4, .int .i64 b5, .int .i64 b6, .int .i64 b7, .int .i64 b8, .int .i64 b9, .slice qy ly dy, .bool ow, .slice py hsy.length cy], .int .u8 (how : Int), .int .i64 n] w fun e w' => e = .returned (.bool true) ∧ Below w.heap.size w w' := by
  obtain ⟨N, hN⟩ : ∃ N, w.heap.size = N := ⟨_, rfl⟩
  have hB0 : Below w.heap.size w ((w.alloc (.cells #[.int .i64 a0, .int .i64 a1, .int .i64 a2, .int .i64 a3, .int .i64 a4, .int .i64 a5, .int .i64 a6, .int .i64 a7, .int .i64 a8, .int .i64 a9, .slice qx lx dx, .bool ox, .slice px hsx.length cx] 27)).alloc (.cells #[.int .i64 b0, .int .i64 b1, .int .i64 b2, .int .i64 b3, .int .i64 b4, .int .i64 b5, .int .i64 b6, .int .i64 b7, .int .i64 b8, .int .i64 b9, .slice qy ly dy, .bool ow, .slice py hsy.length cy] 27)) := ((Below.refl _ _).alloc (Nat.le_refl _) _).alloc (by simp) _
  have HCX : Hid (CellsAt N #[.int .i64 a0, .int .i64 a1, .int .i64 a2, .int .i64 a3, .int .i64 a4, .int .i64 a5, .int .i64 a6, .int .i64 a7, .int .i64 a8, .int .i64 a9, .slice qx lx dx, .bool ox, .slice px hsx.length cx] ((w.alloc (.cells #[.int .i64 a0, .int .i64 a1, .int .i64 a2, .int .i64 a3, .int .i64 a4, .int .i64 a5, .int .i64 a6, .int .i64 a7, .int .i64 a8, .int .i64 a9, .slice qx lx dx, .bool ox, .slice px hsx.length cx] 27)).alloc (.cells #[.int .i64 b0, .int .i64 b1, .int .i64 b2, .int .i64 b3, .int .i64 b4, .int .i64 b5, .int .i64 b6, .int .i64 b7, .int .i64 b8, .int .i64 b9, .slice qy ly dy, .bool ow, .slice py hsy.length cy] 27))) := Lib.hid ((CellsAt.newAt #[.int .i64 a0, .int .i64 a1, .int .i64 a2, .int .i64 a3, .int .i64 a4, .int .i64 a5, .int .i64 a6, .int .i64 a7, .int .i64 a8, .int .i64 a9, .slice qx lx dx, .bool ox, .slice px hsx.length cx] 27 w N hN.symm).past _)
  have HCY : Hid (CellsAt (N + 1) #[.int .i64 b0, .int .i64 b1, .int .i64 b2, .int .i64 b3, .int .i64 b4, .int .i64 b5, .int .i64 b6, .int .i64 b7, .int .i64 b8, .int .i64 b9, .slice qy ly dy, .bool ow, .slice py hsy.length cy] ((w.alloc (.cells #[.int .i64 a0, .int .i64 a1, .int .i64 a2, .int .i64 a3, .int .i64 a4, .int .i64 a5, .int .i64 a6, .int .i64 a7, .int .i64 a8, .int .i64 a9, .slice qx lx dx, .bool ox, .slice px hsx.length cx] 27)).alloc (.cells #[.int .i64 b0, .int .i64 b1, .int .i64 b2, .int .i64 b3, .int .i64 b4, .int .i64 b5, .int .i64 b6, .int .i64 b7, .int .i64 b8, .int .i64 b9, .slice qy ly dy, .bool ow, .slice py hsy.length cy] 27))) := Lib.hid (CellsAt.newAt #[.int .i64 b0, .int .i64 b1, .int .i64 b2, .int .i64 b3, .int .i64 b4, .int .i64 b5, .int .i64 b6, .int .i64 b7, .int .i64 b8, .int .i64 b9, .slice qy ly dy, .bool ow, .slice py hsy.length cy] 27 _ _ (by simp [hN]))
  have HB := Lib.hid hB0
  have HTX := Lib.hid hX
  have hex := fun W hW => examples_any W hW
  have hexc := hex _ (Tens.below hX hB0)
  have HWX := Lib.hid hwx
  have HWY := Lib.hid hwy
  have HNI := Lib.hid hn
  have HIN := Lib.hid hin
  have HIM := Lib.hid him
  have HLT := Lib.hid ht
  have HLR := Lib.hid hr
  clear hB0 hX hex hwx hwy hn hin him ht hr
  go_enter Tryd.func3, Tryd.ntmps3
  go_wp2_with fail
  refine hexc.mono ?_
  rintro e w1 ⟨rfl, hB1⟩
  clear hN hexc
  replace HCX := Lib.hid (HCX.out.below hB1)
  replace HCY := Lib.hid (HCY.out.below hB1)
  replace HB := Lib.hid (HB.out.trans (hB1.mono HB.out.size))
  clear hB1
  have k0 := HCX.out.cell 0 _ rfl
  have k1 := HCX.out.cell 1 _ rfl
  have k2 := HCX.out.cell 2 _ rfl
  have k3 := HCX.out.cell 3 _ rfl
  have k4 := HCX.out.cell 4 _ rfl
  have k5 := HCX.out.cell 5 _ rfl
  have k6 := HCX.out.cell 6 _ rfl
  have k7 := HCX.out.cell 7 _ rfl
  have k8 := HCX.out.cell 8 _ rfl
  have k9 := HCX.out.cell 9 _ rfl
  have k10 := HCX.out.cell 10 _ rfl
  have k11 := HCX.out.cell 11 _ rfl
  have k12 := HCX.out.cell 12 _ rfl
  have kl := HCX.out.lt
  simp only [List.getElem_toArray, List.getElem_cons_zero, List.getElem_cons_succ] at k0 k1 k2 k3 k4 k5 k6 k7 k8 k9 k10 k11 k12
  have hwc := HWX.out w1 HB.out
  go_wp2_with fail
  refine hwc.mono ?_
  rintro e w2 ⟨q, d, rfl, hT, hB1⟩
  clear k0 k1 k2 k3 k4 k5 k6 k7 k8 k9 k10 k11 k12 kl
  replace HCY := Lib.hid (HCY.out.below hB1)
  replace HB := Lib.hid (HB.out.trans (hB1.mono HB.out.size))
  clear hB1 hwc HCX HWX
  have HT := Lib.hid hT
  clear hT
  have hBx : Below w2.heap.size w2 (w2.alloc (.cells #[.int .i64 x0, .int .i64 x1, .int .i64 x2, .int .i64 x3, .int .i64 x4, .int .i64 x5, .int .i64 x6, .int .i64 x7, .int .i64 x8, .int .i64 x9, .slice q l d] 24)) := (Below.refl _ _).alloc (Nat.le_refl _) _
  have hP1 : CellsAt w2.heap.size #[.int .i64 x0, .int .i64 x1, .int .i64 x2, .int .i64 x3, .int .i64 x4, .int .i64 x5, .int .i64 x6, .int .i64 x7, .int .i64 x8, .int .i64 x9, .slice q l d] (w2.alloc (.cells #[.int .i64 x0, .int .i64 x1, .int .i64 x2, .int .i64 x3, .int .i64 x4, .int .i64 x5, .int .i64 x6, .int .i64 x7, .int .i64 x8, .int .i64 x9, .slice q l d] 24)) := CellsAt.new _ _ _
  have hT1 := HT.out.below hBx
  have hB1 := HB.out.trans (hBx.mono HB.out.size)
  have hY1 := HCY.out.below hBx
  obtain ⟨v1, w3, hr1, hG1⟩ := append_tr 22 (OwnI.nil (w2.alloc (.cells #[.int .i64 x0, .int .i64 x1, .int .i64 x2, .int .i64 x3, .int .i64 x4, .int .i64 x5, .int .i64 x6, .int .i64 x7, .int .i64 x8, .int .i64 x9, .slice q l d] 24)).heap.size (w2.alloc (.cells #[.int .i64 x0, .int .i64 x1, .int .i64 x2, .int .i64 x3, .int .i64 x4, .int .i64 x5, .int .i64 x6, .int .i64 x7, .int .i64 x8, .int .i64 x9, .slice q l d] 24))) hT1 (by rw [HLT.out]; simp; omega) (Nat.le_refl _)
  rw [List.nil_append] at hG1
  have hlow1 := hG1.low (N := (w2.alloc (.cells #[.int .i64 x0, .int .i64 x1, .int .i64 x2, .int .i64 x3, .int .i64 x4, .int .i64 x5, .int .i64 x6, .int .i64 x7, .int .i64 x8, .int .i64 x9, .slice q l d] 24)).heap.size) (fun g hg => by cases hg) (Nat.le_refl _)
  have hsz := hlow1.size
  have hPlt : w2.heap.size < (w2.alloc (.cells #[.int .i64 x0, .int .i64 x1, .int .i64 x2, .int .i64 x3, .int .i64 x4, .int .i64 x5, .int .i64 x6, .int .i64 x7, .int .i64 x8, .int .i64 x9, .slice q l d] 24)).heap.size := hP1.lt
  obtain ⟨v2, w4, hr2, hG2⟩ := append_I 22 hG1.1 n (by rw [HLT.out]; omega) hsz
  have hlow2 := hG2.low (N := (w2.alloc (.cells #[.int .i64 x0, .int .i64 x1, .int .i64 x2, .int .i64 x3, .int .i64 x4, .int .i64 x5, .int .i64 x6, .int .i64 x7, .int .i64 x8, .int .i64 x9, .slice q l d] 24)).heap.size) (fun g hg => (hG1.1.lt hg).1) hsz
  have hlow := hlow1.trans hlow2
  obtain ⟨q2, d2, rfl⟩ : ∃ q2 d2, v2 = .slice q2 (l + 1) d2 := by
    obtain ⟨q2, d2, e⟩ := hG2.1.len
    rw [List.length_append, HLT.out] at e
    exact ⟨q2, d2, e⟩
  obtain ⟨q1, d1, rfl⟩ : ∃ q1 d1, v1 = .slice q1 l d1 := by
    obtain ⟨q1, d1, e⟩ := hG1.1.len
    rw [HLT.out] at e
    exact ⟨q1, d1, e⟩
  have hin2 : ∀ x ∈ t ++ [n], In64 x := fun x hx => by
    rcases List.mem_append.1 hx with h | h
    · exact hT1.in64 x h
    · rw [List.mem_singleton.1 h]; exact HNI.out
  have hP4 := CellsAt.belowAt hP1 hlow hPlt
  have hT4 : Tr (fun j => j = w2.heap.size) (.slice q2 (l + 1) d2) (t ++ [n]) w4 := hG2.1.tr (fun g hg e => by omega) hin2
  have hM : Mov (fun j => j = w2.heap.size) w4 (w4.setCell ⟨w2.heap.size, 10, none⟩ (.slice q2 (l + 1) d2)) := Mov.set (S := fun j => j = w2.heap.size) (Mov.refl _ _) rfl 10 _
  have HP : Hid (CellsAt w2.heap.size #[.int .i64 x0, .int .i64 x1, .int .i64 x2, .int .i64 x3, .int .i64 x4, .int .i64 x5, .int .i64 x6, .int .i64 x7, .int .i64 x8, .int .i64 x9, .slice q2 (l + 1) d2] (w4.setCell ⟨w2.heap.size, 10, none⟩ (.slice q2 (l + 1) d2))) := Lib.hid (hP4.set 10 (.slice q2 (l + 1) d2) (by simp))
  have HT4 : Hid (Tr (fun _ => False) (.slice q2 (l + 1) d2) (t ++ [n]) (w4.setCell ⟨w2.heap.size, 10, none⟩ (.slice q2 (l + 1) d2))) := Lib.hid ((hT4.mov hM (fun j h _ => h)).weak (fun j h _ => h.elim))
  have hyl : N + 1 < w2.heap.size := HCY.out.lt
  have HY4 := Lib.hid (cells_mov (CellsAt.belowAt hY1 hlow (by omega)) hM (by omega))
  have hwl : w.heap.size ≤ w2.heap.size := HB.out.size
  have HB4 := Lib.hid ((hB1.trans (hlow.mono (by omega))).trans (hM.below (N := w.heap.size) (fun j h => by omega) (by have := hlow.size; omega)))
  have c10 : w4.cell? ⟨w2.heap.size, 10, none⟩ = some (.slice q l d) := hP4.cell 10 _ rfl
  have f10 : w4.frozen? ⟨w2.heap.size, 10, none⟩ = false := hP4.fro 10 (.slice q l d) rfl
  have l10 := hP4.lt
  have HR1 := Lib.hid hr1
  have HR2 := Lib.hid hr2
  have hll : (t ++ [n]).length = l + 1 := by rw [List.length_append, HLT.out]; rfl
  have HLL := Lib.hid hll
  clear hBx hP1 hT1 hB1 hY1 hG1 hlow1 hsz hPlt hG2 hlow2 hlow hin2 hP4 hT4 hM hyl hwl hr1 hr2 hll HT HCY HB
  go_upto_region 28 with (first | (at_builtin; refine Lib.wpList_append_run _ rfl _ _ _ _ rfl _ _ rfl rfl _ _ HR1.out ?_) | (at_builtin; refine Lib.wpList_append_run _ rfl _ _ _ _ rfl _ _ rfl rfl _ _ HR2.out ?_))
  clear c10 f10 l10 HR1 HR2
  generalize w4.setCell ⟨w2.heap.size, 10, none⟩ (.slice q2 (l + 1) d2) = W3 at *
  refine rights_28 _ (by kernel_rfl) _ W3 (N + 1) w2.heap.size b0 b1 b2 b3 b4 b5 b6 b7 b8 b9 m0 m1 m2 m3 m4 m5 m6 m7 m8 m9 qy ly dy ow py hsy cy lm r (fun W' h => HWY.out W' (HB4.out.trans (h.mono HB4.out.size))) HY4.out _ _ _ _ _ _ _ _ _ _ _ _ _ _ _ _ _ _ _ _ _ _ _ _ _ _ _ _ _ _ _ _ _ _ _ _ _ _ _ _ _ _ _ _ _ _ _ _ _ _ _ _ _ _ _ _ _ _ _ _ _ _ _ _ _ _ _ _ _ _ _ _ _ _ _ _ _ _ _ _ _ _ _ _ _ _ _ _ _ _ _ _ _ _ _ _ _ _ _ _ _ _ _ _ _ _ _ _ _ _ _ _ _ _ _ _ _ _ _ _ _ _ _ _ ?_
  intro W' D qm dm z72 z73 hD hR hB'
  rename_i K hK
  refine hK _ _ ?_
  clear hK
  exact rights_29 _ (by kernel_rfl) w W' (N + 1) w2.heap.size D x0 x1 x2 x3 x4 x5 x6 x7 x8 x9 m0 m1 m2 m3 m4 m5 m6 m7 m8 m9 q2 qm (l + 1) d2 lm dm (t ++ [n]) r HLL.out HLR.out (by omega) hlm HIN.out HIM.out (Tens.below HTX.out (HB4.out.trans (hB'.mono HB4.out.size))) (HP.out.below hB') (HT4.out.below hB') hD hR (HB4.out.trans (hB'.mono HB4.out.size)) _ _ _ _ _ _ _ _ _ _ _ _ _ _ _ _ _ _ _ _ _ _ _ _ _ _ _ _ _ _ _ _ _ _ _ _ _ _ _ _ _ _ _ _ _ _ _ _ _ _ _ _ _ _ _ _ _ _ _ _ _ _ _ _ _ _ _ _ _ _ _ _ _ _ _ _ _ _ _ _ _ _ _ _ _ _ _ _ _ _ _ _ _ _ _ _ _ _ _ _ _ _ _ _ _ _ _ _ _ _ _ _ _ _ _ _ _ _ _ _ _ _ _
end Go.Proofs.YtmlgcjfcbokibaaDoor.Po

namespace Go.Proofs.YtmlgcjfcbokibaaDoor.Po
open Go Go.RowKit

set_option maxRecDepth 100000 in
theorem PolicyRights_walk (x y : WishV) (how : Int) (hh : (Lit.int .u8 how).wf = true) (n : Int) (hn : (Lit.int .i64 n).wf = true) (w : World) (hX : Tens w) (hx : x.fits w) (sx : x.t.length ≤ 1048576) (hy : y.fits w) (sy : y.t.length ≤ 1048576) :
    Calls Tryd.prog 3 #[.agg x.vals, .agg y.vals, .int .u8 how, .int .i64 n] w fun e w' => e = .returned (.bool true) ∧ Below w.heap.size w w' := by
  have gh : 0 ≤ how ∧ how ≤ 255 := by simpa [Lit.wf, IntKind.min, IntKind.max, IntKind.signed, IntKind.bits] using hh
  obtain ⟨h, rfl⟩ : ∃ h : Nat, how = h := ⟨how.toNat, by omega⟩
  have hwx : ∀ W', Below w.heap.size w W' → _ := fun W' hb => wish_ends x W' (hx.below hb)
  have hwy : ∀ W', Below w.heap.size w W' → _ := fun W' hb => wish_ends y W' (hy.below hb)
  have hin := wN_in hx
  have him := wN_in hy
  have hlx := wT_len sx
  have hly := wT_len sy
  obtain ⟨x0, x1, x2, x3, x4, x5, x6, x7, x8, x9, ex⟩ := ten_of (wN_len hx)
  obtain ⟨m0, m1, m2, m3, m4, m5, m6, m7, m8, m9, ey⟩ := ten_of (wN_len hy)
  obtain ⟨t, et⟩ : ∃ t, wT x = t := ⟨_, rfl⟩
  obtain ⟨r, er⟩ : ∃ t, wT y = t := ⟨_, rfl⟩
  rw [ex, et] at hwx
  rw [ey, er] at hwy
  rw [ex] at hin
  rw [ey] at him
  rw [et] at hlx
  rw [er] at hly
  obtain ⟨nx, qx, tx', dx, ox, px, hsx, cx⟩ := x
  obtain ⟨ny, qy, ty, dy, oy, py, hsy, cy⟩ := y
  obtain ⟨a0, a1, a2, a3, a4, a5, a6, a7, a8, a9, rfl⟩ := ten_of hx.len
  obtain ⟨b0, b1, b2, b3, b4, b5, b6, b7, b8, b9, rfl⟩ := ten_of hy.len
  have hni := in64_wf hn
  have hlt : h < 256 := by omega
  rcases (show (h : Int) % 12 = 0 ∨ (h : Int) % 12 = 1 ∨ (h : Int) % 12 = 2 ∨ (h : Int) % 12 = 3 ∨ (h : Int) % 12 = 4 ∨ (h : Int) % 12 = 5 ∨ (h : Int) % 12 = 6 ∨ (h : Int) % 12 = 7 ∨ (h : Int) % 12 = 8 ∨ (h : Int) % 12 = 9 ∨ (h : Int) % 12 = 10 ∨ (h : Int) % 12 = 11 by omega) with hk | hk | hk | hk | hk | hk | hk | hk | hk | hk | hk | hk
  · exact rights_c0 a0 a1 a2 a3 a4 a5 a6 a7 a8 a9 b0 b1 b2 b3 b4 b5 b6 b7 b8 b9 x0 x1 x2 x3 x4 x5 x6 x7 x8 x9 m0 m1 m2 m3 m4 m5 m6 m7 m8 m9 qx tx'.length dx ox px hsx cx qy ty.length dy oy py hsy cy t r t.length r.length n h hlt hk hni rfl rfl hlx hly hin him w hX hwx hwy
  · exact rights_c1 a0 a1 a2 a3 a4 a5 a6 a7 a8 a9 b0 b1 b2 b3 b4 b5 b6 b7 b8 b9 x0 x1 x2 x3 x4 x5 x6 x7 x8 x9 m0 m1 m2 m3 m4 m5 m6 m7 m8 m9 qx tx'.length dx ox px hsx cx qy ty.length dy oy py hsy cy t r t.length r.length n h hlt hk hni rfl rfl hlx hly hin him w hX hwx hwy
  · exact rights_c2 a0 a1 a2 a3 a4 a5 a6 a7 a8 a9 b0 b1 b2 b3 b4 b5 b6 b7 b8 b9 x0 x1 x2 x3 x4 x5 x6 x7 x8 x9 m0 m1 m2 m3 m4 m5 m6 m7 m8 m9 qx tx'.length dx ox px hsx cx qy ty.length dy oy py hsy cy t r t.length r.length n h hlt hk hni rfl rfl hlx hly hin him w hX hwx hwy
  · exact rights_c3 a0 a1 a2 a3 a4 a5 a6 a7 a8 a9 b0 b1 b2 b3 b4 b5 b6 b7 b8 b9 x0 x1 x2 x3 x4 x5 x6 x7 x8 x9 m0 m1 m2 m3 m4 m5 m6 m7 m8 m9 qx tx'.length dx ox px hsx cx qy ty.length dy oy py hsy cy t r t.length r.length n h hlt hk hni rfl rfl hlx hly hin him w hX hwx hwy
  · exact rights_c4 a0 a1 a2 a3 a4 a5 a6 a7 a8 a9 b0 b1 b2 b3 b4 b5 b6 b7 b8 b9 x0 x1 x2 x3 x4 x5 x6 x7 x8 x9 m0 m1 m2 m3 m4 m5 m6 m7 m8 m9 qx tx'.length dx ox px hsx cx qy ty.length dy oy py hsy cy t r t.length r.length n h hlt hk hni rfl rfl hlx hly hin him w hX hwx hwy
  · exact rights_c5 a0 a1 a2 a3 a4 a5 a6 a7 a8 a9 b0 b1 b2 b3 b4 b5 b6 b7 b8 b9 x0 x1 x2 x3 x4 x5 x6 x7 x8 x9 m0 m1 m2 m3 m4 m5 m6 m7 m8 m9 qx tx'.length dx ox px hsx cx qy ty.length dy oy py hsy cy t r t.length r.length n h hlt hk hni rfl rfl hlx hly hin him w hX hwx hwy
  · exact rights_c6 a0 a1 a2 a3 a4 a5 a6 a7 a8 a9 b0 b1 b2 b3 b4 b5 b6 b7 b8 b9 x0 x1 x2 x3 x4 x5 x6 x7 x8 x9 m0 m1 m2 m3 m4 m5 m6 m7 m8 m9 qx tx'.length dx ox px hsx cx qy ty.length dy oy py hsy cy t r t.length r.length n h hlt hk hni rfl rfl hlx hly hin him w hX hwx hwy
  · exact rights_c7 a0 a1 a2 a3 a4 a5 a6 a7 a8 a9 b0 b1 b2 b3 b4 b5 b6 b7 b8 b9 x0 x1 x2 x3 x4 x5 x6 x7 x8 x9 m0 m1 m2 m3 m4 m5 m6 m7 m8 m9 qx tx'.length dx ox px hsx cx qy ty.length dy oy py hsy cy t r t.length r.length n h hlt hk hni rfl rfl hlx hly hin him w hX hwx hwy
  · exact rights_c8 a0 a1 a2 a3 a4 a5 a6 a7 a8 a9 b0 b1 b2 b3 b4 b5 b6 b7 b8 b9 x0 x1 x2 x3 x4 x5 x6 x7 x8 x9 m0 m1 m2 m3 m4 m5 m6 m7 m8 m9 qx tx'.length dx ox px hsx cx qy ty.length dy oy py hsy cy t r t.length r.length n h hlt hk hni rfl rfl hlx hly hin him w hX hwx hwy
  · exact rights_c9 a0 a1 a2 a3 a4 a5 a6 a7 a8 a9 b0 b1 b2 b3 b4 b5 b6 b7 b8 b9 x0 x1 x2 x3 x4 x5 x6 x7 x8 x9 m0 m1 m2 m3 m4 m5 m6 m7 m8 m9 qx tx'.length dx ox px hsx cx qy ty.length dy oy py hsy cy t r t.length r.length n h hlt hk hni rfl rfl hlx hly hin him w hX hwx hwy
  · exact rights_c10 a0 a1 a2 a3 a4 a5 a6 a7 a8 a9 b0 b1 b2 b3 b4 b5 b6 b7 b8 b9 x0 x1 x2 x3 x4 x5 x6 x7 x8 x9 m0 m1 m2 m3 m4 m5 m6 m7 m8 m9 qx tx'.length dx ox px hsx cx qy ty.length dy oy py hsy cy t r t.length r.length n h hlt hk hni rfl rfl hlx hly hin him w hX hwx hwy
  · exact rights_c11 a0 a1 a2 a3 a4 a5 a6 a7 a8 a9 b0 b1 b2 b3 b4 b5 b6 b7 b8 b9 x0 x1 x2 x3 x4 x5 x6 x7 x8 x9 m0 m1 m2 m3 m4 m5 m6 m7 m8 m9 qx tx'.length dx ox px hsx cx qy ty.length dy oy py hsy cy t r t.length r.length n h hlt hk hni rfl rfl hlx hly hin him w hX hwx hwy
end Go.Proofs.YtmlgcjfcbokibaaDoor.Po

