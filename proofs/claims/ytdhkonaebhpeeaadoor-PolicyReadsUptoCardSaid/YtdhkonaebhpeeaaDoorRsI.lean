/- PolicyReads: what a text, and bytes, are read as, on both sides; what follows the switch. PolicyReads: the switch. PolicyReads: walked. -/
import Derived.Test.YtdhkonaebhpeeaaDoorRsG
import Derived.Test.YtdhkonaebhpeeaaDoorRsE
import Derived.Test.YtdhkonaebhpeeaaDoorRsH
import Derived.Test.YtdhkonaebhpeeaaDoorRtC
import Derived.Test.YtdhkonaebhpeeaaDoorRtD
import Derived.Test.YtdhkonaebhpeeaaDoorRtG
import Derived.Test.YtdhkonaebhpeeaaDoorPoGt
import Derived.Test.YtdhkonaebhpeeaaDoorPoEx
namespace Go.Proofs.YtdhkonaebhpeeaaDoor.Po
open Go Go.RowKit

theorem right_ten {n t : List Int} (h : rightZ n t = true) : n.length = 10 ∧ t.length ≤ 3 := by
  obtain ⟨h1, h2, h3, h4, h5⟩ := right_in h
  obtain ⟨a, b, c, d, e, f, g, i, j, k, rfl⟩ := bound_ten h5
  exact ⟨rfl, h4⟩
theorem readZ_good (s : List UInt8) : (readZ s).1.length = 10 ∧ (readZ s).2.1.length ≤ 3 := by
  unfold readZ
  split
  · exact ⟨rfl, by decide⟩
  · split
    · exact ⟨rfl, by decide⟩
    · rename_i st _
      by_cases h : rightZ st.n st.t = true
      · rw [if_pos h]; exact right_ten h
      · rw [if_neg h]; exact ⟨rfl, by decide⟩
/-- What bytes are got as, with what is told where they are none. -/
def getA (s : List UInt8) : List Int × List Int × List UInt8 × Bool := match getZ s with
  | none => (zeroN, [], [], false)
  | some x => (x.1, x.2.1, x.2.2, true)
theorem getA_good (s : List UInt8) : (getA s).1.length = 10 ∧ (getA s).2.1.length ≤ 3 := by
  unfold getA getZ
  split
  · exact ⟨rfl, by decide⟩
  · rename_i x hx
    split at hx
    · cases hx
    · split at hx
      · rename_i h
        cases hx
        exact right_ten h
      · cases hx
theorem read_lit (s : List UInt8) (n0 n1 n2 n3 n4 n5 n6 n7 n8 n9 : Int) (t : List Int) (l k : Nat) (h : readZ s = ([n0, n1, n2, n3, n4, n5, n6, n7, n8, n9], t, k)) (htl : t.length = l) (hl : s.length ≤ 1099511627776) (W : World) :
    Calls Tryd.prog 23 #[.string (tx s)] W fun e w' => ∃ p c, e = .returned (.tuple #[.agg #[.int .i64 n0, .int .i64 n1, .int .i64 n2, .int .i64 n3, .int .i64 n4, .int .i64 n5, .int .i64 n6, .int .i64 n7, .int .i64 n8, .int .i64 n9, .slice p l c], .int .i64 (k : Int)]) ∧ Tr (fun _ => False) (.slice p l c) t w' ∧ Below W.heap.size W w' := by
  subst htl
  exact read_at s _ t k h hl W
theorem rread_lit (s : List UInt8) (n0 n1 n2 n3 n4 n5 n6 n7 n8 n9 : Int) (t : List Int) (l k : Nat) (h : readZ s = ([n0, n1, n2, n3, n4, n5, n6, n7, n8, n9], t, k)) (htl : t.length = l) (hl : s.length ≤ 1099511627776) (W : World) :
    Calls Tryd.prog 24 #[.string (tx s)] W fun e w' => ∃ p c, e = .returned (.tuple #[.agg #[.int .i64 n0, .int .i64 n1, .int .i64 n2, .int .i64 n3, .int .i64 n4, .int .i64 n5, .int .i64 n6, .int .i64 n7, .int .i64 n8, .int .i64 n9, .slice p l c], .int .i64 (k : Int)]) ∧ Tr (fun _ => False) (.slice p l c) t w' ∧ Below W.heap.size W w' := by
  subst htl
  refine (ref_read_any s hl W).mono ?_
  rintro e w' ⟨v, rfl, hT, hB⟩
  rw [h] at hT ⊢
  obtain ⟨p, c, rfl⟩ := hT.len
  exact ⟨p, c, rfl, hT, hB⟩
theorem get_lit (s : List UInt8) (g0 g1 g2 g3 g4 g5 g6 g7 g8 g9 : Int) (t : List Int) (l : Nat) (r : List UInt8) (ok : Bool) (h : getA s = ([g0, g1, g2, g3, g4, g5, g6, g7, g8, g9], t, r, ok)) (htl : t.length = l) (hl : s.length ≤ 9223372036854775807) (W : World) :
    Calls Tryd.prog 25 #[.string (tx s)] W fun e w' => ∃ p c, e = .returned (.tuple #[.agg #[.int .i64 g0, .int .i64 g1, .int .i64 g2, .int .i64 g3, .int .i64 g4, .int .i64 g5, .int .i64 g6, .int .i64 g7, .int .i64 g8, .int .i64 g9, .slice p l c], .string (tx r), .bool ok]) ∧ Tr (fun _ => False) (.slice p l c) t w' ∧ Below W.heap.size W w' := by
  subst htl
  refine (get_any s hl W).mono ?_
  rintro e w' ⟨v, rfl, hT, hB⟩
  unfold getA at h
  cases hg : getZ s with
  | none =>
    rw [hg] at h
    cases h
    exact ⟨none, 0, rfl, Tr.nil _ _, hB⟩
  | some x =>
    obtain ⟨xn, xt, xr⟩ := x
    rw [hg] at h hT
    cases h
    obtain ⟨p, c, rfl⟩ := hT.len
    exact ⟨p, c, rfl, hT.weak (fun _ h _ => h.elim), hB⟩
theorem rget_lit (s : List UInt8) (g0 g1 g2 g3 g4 g5 g6 g7 g8 g9 : Int) (t : List Int) (l : Nat) (r : List UInt8) (ok : Bool) (h : getA s = ([g0, g1, g2, g3, g4, g5, g6, g7, g8, g9], t, r, ok)) (htl : t.length = l) (hl : s.length ≤ 9223372036854775807) (W : World) :
    Calls Tryd.prog 26 #[.string (tx s)] W fun e w' => ∃ p c, e = .returned (.tuple #[.agg #[.int .i64 g0, .int .i64 g1, .int .i64 g2, .int .i64 g3, .int .i64 g4, .int .i64 g5, .int .i64 g6, .int .i64 g7, .int .i64 g8, .int .i64 g9, .slice p l c], .string (tx r), .bool ok]) ∧ Tr (fun _ => False) (.slice p l c) t w' ∧ Below W.heap.size W w' := by
  subst htl
  refine (ref_get_any s hl W).mono ?_
  rintro e w' ⟨v, rfl, hT, hB⟩
  unfold getA at h
  cases hg : getZ s with
  | none =>
    rw [hg] at h
    cases h
    exact ⟨none, 0, rfl, Tr.nil _ _, hB⟩
  | some x =>
    obtain ⟨xn, xt, xr⟩ := x
    rw [hg] at h hT
    cases h
    obtain ⟨p, c, rfl⟩ := hT.len
    exact ⟨p, c, rfl, hT, hB⟩
theorem rsame_lit (n0 n1 n2 n3 n4 n5 n6 n7 n8 n9 : Int) (t : List Int) (l : Nat) (htl : t.length = l) (hl : l ≤ 3) (p q : Option Addr) (c d : Nat) (W : World) (h1 : Tr (fun _ => False) (.slice p l c) t W) (h2 : Tr (fun _ => False) (.slice q l d) t W) :
    Calls Tryd.prog 18 #[.agg #[.int .i64 n0, .int .i64 n1, .int .i64 n2, .int .i64 n3, .int .i64 n4, .int .i64 n5, .int .i64 n6, .int .i64 n7, .int .i64 n8, .int .i64 n9, .slice p l c], .agg #[.int .i64 n0, .int .i64 n1, .int .i64 n2, .int .i64 n3, .int .i64 n4, .int .i64 n5, .int .i64 n6, .int .i64 n7, .int .i64 n8, .int .i64 n9, .slice q l d]] W fun e w' => e = .returned (.bool true) ∧ Below W.heap.size W w' := by
  subst htl
  have := ref_same [n0, n1, n2, n3, n4, n5, n6, n7, n8, n9] [n0, n1, n2, n3, n4, n5, n6, n7, n8, n9] t t p q c d rfl rfl (by omega) (by omega) W h1 h2
  rwa [decide_eq_true ⟨rfl, rfl⟩] at this
set_option maxRecDepth 100000 in
set_option maxHeartbeats 16000000 in
theorem reads_12 (C0 : Code) (hC0 : Tryd.f4.body.bind (findG 12) = some C0) (Q : Exit → Act → World → Prop) (W : World) (P own : Nat) (p0 z : Int) (S b : ByteArray) (x0 x1 x2 x3 x4 x5 x6 x7 x8 x9 : Int) (q : Option Addr) (l d : Nat) (t : List Int) (ht : t.length = l) (hl : l ≤ 1048576)
    (hP : CellsAt P #[.int .i64 x0, .int .i64 x1, .int .i64 x2, .int .i64 x3, .int .i64 x4, .int .i64 x5, .int .i64 x6, .int .i64 x7, .int .i64 x8, .int .i64 x9, .slice q l d] W) (hT : Tr (fun _ => False) (.slice q l d) t W) (s0 s6 s7 s8 s9 s10 s11 s12 s15 s16 s17 s18 s19 s20 s21 s22 s23 s24 s25 s26 s27 s28 s29 s30 s31 s32 s33 s34 s35 s36 s37 s38 s39 s40 s41 s42 s43 s44 s45 s46 s47 s48 s49 s50 s51 s52 s53 s54 s55 s56 s57 s58 s59 s60 s61 s62 s63 s64 s65 s66 s67 s68 s69 s70 s71 s72 s73 s74 s75 s76 s77 s78 s79 s80 s81 s82 s83 s84 s85 s86 s87 s88 s89 s90 s91 s92 s93 s94 s95 s96 s97 s98 s99 s100 s101 s102 s103 s104 s105 s106 s107 s108 s109 s110 s111 s112 s113 s114 s115 s116 s117 s118 s119 s120 s121 : Value)
    (hQ : ∀ (W' : World) (Y : ByteArray) (z16 z57 z58 z59 z60 z61 z62 : Value), Y.size ≤ 105 → Below W.heap.size W W' → Q .normal { tmps := (s0 :: .string S :: .int .u8 (own : Int) :: .int .i64 p0 :: .int .u8 z :: .string b :: s6 :: s7 :: s8 :: s9 :: s10 :: s11 :: s12 :: .bool true :: .pointer (some ⟨P, 0, none⟩) :: .string Y :: z16 :: s17 :: s18 :: s19 :: s20 :: s21 :: s22 :: s23 :: s24 :: s25 :: s26 :: s27 :: s28 :: s29 :: s30 :: s31 :: s32 :: s33 :: s34 :: s35 :: s36 :: s37 :: s38 :: s39 :: s40 :: s41 :: s42 :: s43 :: s44 :: s45 :: s46 :: s47 :: s48 :: s49 :: s50 :: s51 :: s52 :: s53 :: s54 :: s55 :: s56 :: z57 :: z58 :: z59 :: z60 :: z61 :: z62 :: s63 :: s64 :: s65 :: s66 :: s67 :: s68 :: s69 :: s70 :: s71 :: s72 :: s73 :: s74 :: s75 :: s76 :: s77 :: s78 :: s79 :: s80 :: s81 :: s82 :: s83 :: s84 :: s85 :: s86 :: s87 :: s88 :: s89 :: s90 :: s91 :: s92 :: s93 :: s94 :: s95 :: s96 :: s97 :: s98 :: s99 :: s100 :: s101 :: s102 :: s103 :: s104 :: s105 :: s106 :: s107 :: s108 :: s109 :: s110 :: s111 :: s112 :: s113 :: s114 :: s115 :: s116 :: s117 :: s118 :: s119 :: s120 :: s121 :: []).toArray, defers := [] } W') :
    Code.wp Tryd.prog C0 Q { tmps := (s0 :: .string S :: .int .u8 (own : Int) :: .int .i64 p0 :: .int .u8 z :: .string b :: s6 :: s7 :: s8 :: s9 :: s10 :: s11 :: s12 :: .bool true :: .pointer (some ⟨P, 0, none⟩) :: s15 :: s16 :: s17 :: s18 :: s19 :: s20 :: s21 :: s22 :: s23 :: s24 :: s25 :: s26 :: s27 :: s28 :: s29 :: s30 :: s31 :: s32 :: s33 :: s34 :: s35 :: s36 :: s37 :: s38 :: s39 :: s40 :: s41 :: s42 :: s43 :: s44 :: s45 :: s46 :: s47 :: s48 :: s49 :: s50 :: s51 :: s52 :: s53 :: s54 :: s55 :: s56 :: s57 :: s58 :: s59 :: s60 :: s61 :: s62 :: s63 :: s64 :: s65 :: s66 :: s67 :: s68 :: s69 :: s70 :: s71 :: s72 :: s73 :: s74 :: s75 :: s76 :: s77 :: s78 :: s79 :: s80 :: s81 :: s82 :: s83 :: s84 :: s85 :: s86 :: s87 :: s88 :: s89 :: s90 :: s91 :: s92 :: s93 :: s94 :: s95 :: s96 :: s97 :: s98 :: s99 :: s100 :: s101 :: s102 :: s103 :: s104 :: s105 :: s106 :: s107 :: s108 :: s109 :: s110 :: s111 :: s112 :: s113 :: s114 :: s115 :: s116 :: s117 :: s118 :: s119 :: s120 :: s121 :: []).toArray, defers := [] } W := by
  cases hC0
  obtain ⟨Y, ok, hY, hput⟩ : ∃ (Y : ByteArray) (ok : Bool), Y.size ≤ 105 ∧ (if rightZ [x0, x1, x2, x3, x4, x5, x6, x7, x8, x9] t then Value.tuple #[.string (tx (putZ [x0, x1, x2, x3, x4, x5, x6, x7, x8, x9] t)), .bool true] else Value.tuple #[.string ⟨#[]⟩, .bool false]) = .tuple #[.string Y, .bool ok] := by
    by_cases h : rightZ [x0, x1, x2, x3, x4, x5, x6, x7, x8, x9] t = true
    · refine ⟨tx (putZ [x0, x1, x2, x3, x4, x5, x6, x7, x8, x9] t), true, ?_, by rw [if_pos h]⟩
      rw [tx_len, put_len h]
      have := (right_ten h).2
      omega
    · exact ⟨⟨#[]⟩, false, by decide, by rw [if_neg h]⟩
  have hRP : Calls Tryd.prog 14 #[.agg #[.int .i64 x0, .int .i64 x1, .int .i64 x2, .int .i64 x3, .int .i64 x4, .int .i64 x5, .int .i64 x6, .int .i64 x7, .int .i64 x8, .int .i64 x9, .slice q l d]] W fun e w' => e = .returned (.agg #[.int .i64 x0, .int .i64 x1, .int .i64 x2, .int .i64 x3, .int .i64 x4, .int .i64 x5, .int .i64 x6, .int .i64 x7, .int .i64 x8, .int .i64 x9, .slice q l d]) ∧ Below W.heap.size W w' := refpol_any [x0, x1, x2, x3, x4, x5, x6, x7, x8, x9] q l d W rfl
  have HPT : Hid (∀ W', Below W.heap.size W W' → Calls Tryd.prog 13 #[.agg #[.int .i64 x0, .int .i64 x1, .int .i64 x2, .int .i64 x3, .int .i64 x4, .int .i64 x5, .int .i64 x6, .int .i64 x7, .int .i64 x8, .int .i64 x9, .slice q l d]] W' fun e w' => e = .returned (.tuple #[.string Y, .bool ok]) ∧ Below W'.heap.size W' w') := Lib.hid (fun W' h => by
    have := ref_put_in x0 x1 x2 x3 x4 x5 x6 x7 x8 x9 q l d t ht W' (by omega) (hT.below h)
    rwa [hput] at this)
  have HP := Lib.hid hP
  have HYS := Lib.hid hY
  clear hP hT hput ht hl hY
  have k0 := HP.out.cell 0 _ rfl
  have k1 := HP.out.cell 1 _ rfl
  have k2 := HP.out.cell 2 _ rfl
  have k3 := HP.out.cell 3 _ rfl
  have k4 := HP.out.cell 4 _ rfl
  have k5 := HP.out.cell 5 _ rfl
  have k6 := HP.out.cell 6 _ rfl
  have k7 := HP.out.cell 7 _ rfl
  have k8 := HP.out.cell 8 _ rfl
  have k9 := HP.out.cell 9 _ rfl
  have k10 := HP.out.cell 10 _ rfl
  have kl := HP.out.lt
  simp only [List.getElem_toArray, List.getElem_cons_zero, List.getElem_cons_succ] at k0 k1 k2 k3 k4 k5 k6 k7 k8 k9 k10
  go_wp2_with fail
  refine hRP.mono ?_
  rintro e w1 ⟨rfl, hB1⟩
  clear k0 k1 k2 k3 k4 k5 k6 k7 k8 k9 k10 kl
  have HB := Lib.hid hB1
  have hpt := HPT.out _ hB1
  clear hB1 hRP HP HPT
  go_wp2_with fail
  refine hpt.mono ?_
  rintro e w2 ⟨rfl, hB1⟩
  replace HB : Hid (Below W.heap.size W w2) := Lib.hid (HB.out.trans (hB1.mono HB.out.size))
  clear hB1 hpt
  go_wp2_with fail
  exact hQ _ _ _ _ _ _ _ _ _ HYS.out HB.out
set_option maxRecDepth 100000 in
set_option maxHeartbeats 16000000 in
theorem reads_13 (C0 : Code) (hC0 : Tryd.f4.body.bind (findR 13) = some C0) (w W : World) (P own : Nat) (p0 z : Int) (S b Y : ByteArray) (hSS : S.size ≤ 1099511627776) (hbb0 : b.size ≤ 1048576) (hYY : Y.size ≤ 105) (hp0 : -9223372036854775808 ≤ p0) (hp1 : p0 ≤ 9223372036854775807) (z0 : 0 ≤ z) (z1 : z < 256) (hB : Below w.heap.size w W) (s0 s6 s7 s8 s9 s10 s11 s12 s16 s17 s18 s19 s20 s21 s22 s23 s24 s25 s26 s27 s28 s29 s30 s31 s32 s33 s34 s35 s36 s37 s38 s39 s40 s41 s42 s43 s44 s45 s46 s47 s48 s49 s50 s51 s52 s53 s54 s55 s56 s57 s58 s59 s60 s61 s62 s63 s64 s65 s66 s67 s68 s69 s70 s71 s72 s73 s74 s75 s76 s77 s78 s79 s80 s81 s82 s83 s84 s85 s86 s87 s88 s89 s90 s91 s92 s93 s94 s95 s96 s97 s98 s99 s100 s101 s102 s103 s104 s105 s106 s107 s108 s109 s110 s111 s112 s113 s114 s115 s116 s117 s118 s119 s120 s121 : Value) :
    Code.wp Tryd.prog C0 (bodyPost Tryd.prog Tryd.f4 fun e w' => e = .returned (.bool true) ∧ Below w.heap.size w w') { tmps := (s0 :: .string S :: .int .u8 (own : Int) :: .int .i64 p0 :: .int .u8 z :: .string b :: s6 :: s7 :: s8 :: s9 :: s10 :: s11 :: s12 :: .bool true :: .pointer (some ⟨P, 0, none⟩) :: .string Y :: s16 :: s17 :: s18 :: s19 :: s20 :: s21 :: s22 :: s23 :: s24 :: s25 :: s26 :: s27 :: s28 :: s29 :: s30 :: s31 :: s32 :: s33 :: s34 :: s35 :: s36 :: s37 :: s38 :: s39 :: s40 :: s41 :: s42 :: s43 :: s44 :: s45 :: s46 :: s47 :: s48 :: s49 :: s50 :: s51 :: s52 :: s53 :: s54 :: s55 :: s56 :: s57 :: s58 :: s59 :: s60 :: s61 :: s62 :: s63 :: s64 :: s65 :: s66 :: s67 :: s68 :: s69 :: s70 :: s71 :: s72 :: s73 :: s74 :: s75 :: s76 :: s77 :: s78 :: s79 :: s80 :: s81 :: s82 :: s83 :: s84 :: s85 :: s86 :: s87 :: s88 :: s89 :: s90 :: s91 :: s92 :: s93 :: s94 :: s95 :: s96 :: s97 :: s98 :: s99 :: s100 :: s101 :: s102 :: s103 :: s104 :: s105 :: s106 :: s107 :: s108 :: s109 :: s110 :: s111 :: s112 :: s113 :: s114 :: s115 :: s116 :: s117 :: s118 :: s119 :: s120 :: s121 :: []).toArray, defers := [] } W := by
  cases hC0
  obtain ⟨r, hr⟩ : ∃ r : Nat, (own : Int) % 8 = r := ⟨((own : Int) % 8).toNat, by omega⟩
  have hr8 : (r : Int) < 8 := by omega
  have hcat : (Y ++ b).size ≤ 1048681 := by rw [ByteArray.size_append]; omega
  have hbd := fun W => bend_any (Y ++ b) (by omega) p0 z hp0 hp1 z0 z1 W
  have hov : (9223372036854775807 < Y.size + b.size) = False := by simp; omega
  have HSS := Lib.hid hSS
  have HCT := Lib.hid hcat
  have HB := Lib.hid hB
  have HBB := Lib.hid hbb0
  clear hSS hcat hB hp0 hp1 z0 z1 hYY hbb0
  have h67 : (r : Int) < 6 ∨ 6 ≤ (r : Int) := by omega
  rcases h67 with h6 | h6
  case' inl =>
    go_wp2_with fail
    refine (hbd _).mono ?_
    rintro e w1 ⟨b', rfl, hb', hB1⟩
    have hB := HB.out.trans (hB1.mono HB.out.size)
    have hSS := HSS.out
    have hbb : b'.size ≤ 9223372036854775807 := by have := HCT.out; omega
    clear hB1 hb' hbd hov h6 hr8 hr HB HSS HCT HBB
  case' inr =>
    obtain ⟨b', rfl⟩ : ∃ b', b' = b := ⟨b, rfl⟩
    clear hbd hov
    have hB := HB.out
    have hSS := HSS.out
    have hbb : b'.size ≤ 9223372036854775807 := by have := HBB.out; omega
    clear HB HSS HCT HBB
  all_goals
    obtain ⟨s, hs⟩ : ∃ s, tx s = S := ⟨S.data.toList, tx_list S⟩
    obtain ⟨bl, hbl⟩ : ∃ s, tx s = b' := ⟨b'.data.toList, tx_list b'⟩
    subst hs hbl
    rw [tx_len] at hSS hbb
    obtain ⟨⟨rn, rt, rk⟩, hrz⟩ : ∃ x, readZ s = x := ⟨_, rfl⟩
    obtain ⟨⟨gn, gt, gr, gk⟩, hgz⟩ : ∃ x, getA bl = x := ⟨_, rfl⟩
    obtain ⟨ra, rb⟩ := readZ_good s
    obtain ⟨ga, gb⟩ := getA_good bl
    rw [hrz] at ra rb
    rw [hgz] at ga gb
    have rb : rt.length ≤ 3 := rb
    have gb : gt.length ≤ 3 := gb
    obtain ⟨n0, n1, n2, n3, n4, n5, n6, n7, n8, n9, rfl⟩ := ten_of ra
    obtain ⟨g0, g1, g2, g3, g4, g5, g6, g7, g8, g9, rfl⟩ := ten_of ga
    obtain ⟨lr, hlr⟩ : ∃ l, rt.length = l := ⟨_, rfl⟩
    obtain ⟨lg, hlg⟩ : ∃ l, gt.length = l := ⟨_, rfl⟩
    obtain ⟨R, hR⟩ : ∃ R, tx gr = R := ⟨_, rfl⟩
    have hrr : (R.toList == R.toList) = true := beq_self_eq_true _
    have hkk : ((rk : Int) == (rk : Int)) = true := beq_self_eq_true _
    have hgk : (gk == gk) = true := beq_self_eq_true _
    have c1 := fun W => read_lit s n0 n1 n2 n3 n4 n5 n6 n7 n8 n9 rt lr rk hrz hlr hSS W
    have C2 := Lib.hid (fun W => rread_lit s n0 n1 n2 n3 n4 n5 n6 n7 n8 n9 rt lr rk hrz hlr hSS W)
    have C3 := Lib.hid (fun W => get_lit bl g0 g1 g2 g3 g4 g5 g6 g7 g8 g9 gt lg gr gk hgz hlg hbb W)
    have C4 := Lib.hid (fun W => rget_lit bl g0 g1 g2 g3 g4 g5 g6 g7 g8 g9 gt lg gr gk hgz hlg hbb W)
    rw [hR] at C3 C4
    have HLR := Lib.hid hlr
    have HLG := Lib.hid hlg
    have HR2 : Hid (lr ≤ 3) := Lib.hid (by omega)
    have HG2 : Hid (lg ≤ 3) := Lib.hid (by omega)
    obtain ⟨SS, hSX⟩ : ∃ S, tx s = S := ⟨_, rfl⟩
    obtain ⟨BB, hBX⟩ : ∃ S, tx bl = S := ⟨_, rfl⟩
    rw [hSX] at c1 C2 ⊢
    rw [hBX] at C3 C4 ⊢
    clear hSX hBX hR hrz hgz hlr hlg ra ga rb gb hSS hbb
    have HB := Lib.hid hB
    clear hB
    go_wp2_with fail
    refine (c1 _).mono ?_
    rintro e w1 ⟨pa, ca, rfl, hT, hB1⟩
    have hBx : Below w1.heap.size w1 (w1.alloc (.cells #[.int .i64 n0, .int .i64 n1, .int .i64 n2, .int .i64 n3, .int .i64 n4, .int .i64 n5, .int .i64 n6, .int .i64 n7, .int .i64 n8, .int .i64 n9, .slice pa lr ca] 24)) := (Below.refl _ _).alloc (Nat.le_refl _) _
    have hBy := hB1.trans (hBx.mono hB1.size)
    replace HB := Lib.hid (HB.out.trans (hBy.mono HB.out.size))
    have HAT := Lib.hid (hT.below hBx)
    have HAP : Hid (CellsAt w1.heap.size #[.int .i64 n0, .int .i64 n1, .int .i64 n2, .int .i64 n3, .int .i64 n4, .int .i64 n5, .int .i64 n6, .int .i64 n7, .int .i64 n8, .int .i64 n9, .slice pa lr ca] (w1.alloc (.cells #[.int .i64 n0, .int .i64 n1, .int .i64 n2, .int .i64 n3, .int .i64 n4, .int .i64 n5, .int .i64 n6, .int .i64 n7, .int .i64 n8, .int .i64 n9, .slice pa lr ca] 24))) := Lib.hid (CellsAt.new _ _ _)
    clear hT hB1 hBx hBy c1
    obtain ⟨QA, hQA⟩ : ∃ q, w1.heap.size = q := ⟨_, rfl⟩
    rw [hQA] at HAP
    go_upto_region 16 with fail
    generalize w1.alloc (.cells #[.int .i64 n0, .int .i64 n1, .int .i64 n2, .int .i64 n3, .int .i64 n4, .int .i64 n5, .int .i64 n6, .int .i64 n7, .int .i64 n8, .int .i64 n9, .slice pa lr ca] 24) = v1 at *
    clear hQA
    have c2 := C2.out
    clear C2
    go_wp2_with fail
    refine (c2 _).mono ?_
    rintro e w2 ⟨pb, cb, rfl, hT, hB1⟩
    have hBx : Below w2.heap.size w2 (w2.alloc (.cells #[.int .i64 n0, .int .i64 n1, .int .i64 n2, .int .i64 n3, .int .i64 n4, .int .i64 n5, .int .i64 n6, .int .i64 n7, .int .i64 n8, .int .i64 n9, .slice pb lr cb] 33)) := (Below.refl _ _).alloc (Nat.le_refl _) _
    have hBy := hB1.trans (hBx.mono hB1.size)
    replace HAT := Lib.hid (HAT.out.below hBy)
    replace HAP := Lib.hid (HAP.out.below hBy)
    replace HB := Lib.hid (HB.out.trans (hBy.mono HB.out.size))
    have HB2T := Lib.hid (hT.below hBx)
    have HB2P : Hid (CellsAt w2.heap.size #[.int .i64 n0, .int .i64 n1, .int .i64 n2, .int .i64 n3, .int .i64 n4, .int .i64 n5, .int .i64 n6, .int .i64 n7, .int .i64 n8, .int .i64 n9, .slice pb lr cb] (w2.alloc (.cells #[.int .i64 n0, .int .i64 n1, .int .i64 n2, .int .i64 n3, .int .i64 n4, .int .i64 n5, .int .i64 n6, .int .i64 n7, .int .i64 n8, .int .i64 n9, .slice pb lr cb] 33))) := Lib.hid (CellsAt.new _ _ _)
    clear hT hB1 hBx hBy c2
    obtain ⟨QB, hQB⟩ : ∃ q, w2.heap.size = q := ⟨_, rfl⟩
    rw [hQB] at HB2P
    go_upto_region 17 with fail
    generalize w2.alloc (.cells #[.int .i64 n0, .int .i64 n1, .int .i64 n2, .int .i64 n3, .int .i64 n4, .int .i64 n5, .int .i64 n6, .int .i64 n7, .int .i64 n8, .int .i64 n9, .slice pb lr cb] 33) = v2 at *
    clear hQB
    have c3 := C3.out
    clear C3
    go_wp2_with fail
    refine (c3 _).mono ?_
    rintro e w3 ⟨pc, cc, rfl, hT, hB1⟩
    have hBx : Below w3.heap.size w3 (w3.alloc (.cells #[.int .i64 g0, .int .i64 g1, .int .i64 g2, .int .i64 g3, .int .i64 g4, .int .i64 g5, .int .i64 g6, .int .i64 g7, .int .i64 g8, .int .i64 g9, .slice pc lg cc] 24)) := (Below.refl _ _).alloc (Nat.le_refl _) _
    have hBy := hB1.trans (hBx.mono hB1.size)
    replace HAT := Lib.hid (HAT.out.below hBy)
    replace HAP := Lib.hid (HAP.out.below hBy)
    replace HB2T := Lib.hid (HB2T.out.below hBy)
    replace HB2P := Lib.hid (HB2P.out.below hBy)
    replace HB := Lib.hid (HB.out.trans (hBy.mono HB.out.size))
    have HCT := Lib.hid (hT.below hBx)
    have HCP : Hid (CellsAt w3.heap.size #[.int .i64 g0, .int .i64 g1, .int .i64 g2, .int .i64 g3, .int .i64 g4, .int .i64 g5, .int .i64 g6, .int .i64 g7, .int .i64 g8, .int .i64 g9, .slice pc lg cc] (w3.alloc (.cells #[.int .i64 g0, .int .i64 g1, .int .i64 g2, .int .i64 g3, .int .i64 g4, .int .i64 g5, .int .i64 g6, .int .i64 g7, .int .i64 g8, .int .i64 g9, .slice pc lg cc] 24))) := Lib.hid (CellsAt.new _ _ _)
    clear hT hB1 hBx hBy c3
    obtain ⟨QC, hQC⟩ : ∃ q, w3.heap.size = q := ⟨_, rfl⟩
    rw [hQC] at HCP
    go_upto_region 18 with fail
    generalize w3.alloc (.cells #[.int .i64 g0, .int .i64 g1, .int .i64 g2, .int .i64 g3, .int .i64 g4, .int .i64 g5, .int .i64 g6, .int .i64 g7, .int .i64 g8, .int .i64 g9, .slice pc lg cc] 24) = v3 at *
    clear hQC
    have c4 := C4.out
    clear C4
    go_wp2_with fail
    refine (c4 _).mono ?_
    rintro e w4 ⟨pd, cd, rfl, hT, hB1⟩
    have hBx : Below w4.heap.size w4 (w4.alloc (.cells #[.int .i64 g0, .int .i64 g1, .int .i64 g2, .int .i64 g3, .int .i64 g4, .int .i64 g5, .int .i64 g6, .int .i64 g7, .int .i64 g8, .int .i64 g9, .slice pd lg cd] 33)) := (Below.refl _ _).alloc (Nat.le_refl _) _
    have hBy := hB1.trans (hBx.mono hB1.size)
    replace HAT := Lib.hid (HAT.out.below hBy)
    replace HAP := Lib.hid (HAP.out.below hBy)
    replace HB2T := Lib.hid (HB2T.out.below hBy)
    replace HB2P := Lib.hid (HB2P.out.below hBy)
    replace HCT := Lib.hid (HCT.out.below hBy)
    replace HCP := Lib.hid (HCP.out.below hBy)
    replace HB := Lib.hid (HB.out.trans (hBy.mono HB.out.size))
    have HDT := Lib.hid (hT.below hBx)
    have HDP : Hid (CellsAt w4.heap.size #[.int .i64 g0, .int .i64 g1, .int .i64 g2, .int .i64 g3, .int .i64 g4, .int .i64 g5, .int .i64 g6, .int .i64 g7, .int .i64 g8, .int .i64 g9, .slice pd lg cd] (w4.alloc (.cells #[.int .i64 g0, .int .i64 g1, .int .i64 g2, .int .i64 g3, .int .i64 g4, .int .i64 g5, .int .i64 g6, .int .i64 g7, .int .i64 g8, .int .i64 g9, .slice pd lg cd] 33))) := Lib.hid (CellsAt.new _ _ _)
    clear hT hB1 hBx hBy c4
    obtain ⟨QD, hQD⟩ : ∃ q, w4.heap.size = q := ⟨_, rfl⟩
    rw [hQD] at HDP
    go_upto_region 19 with fail
    generalize w4.alloc (.cells #[.int .i64 g0, .int .i64 g1, .int .i64 g2, .int .i64 g3, .int .i64 g4, .int .i64 g5, .int .i64 g6, .int .i64 g7, .int .i64 g8, .int .i64 g9, .slice pd lg cd] 33) = v4 at *
    clear hQD
    have s1 : ∀ p : Beh v4, Calls Tryd.prog 14 #[.agg #[.int .i64 n0, .int .i64 n1, .int .i64 n2, .int .i64 n3, .int .i64 n4, .int .i64 n5, .int .i64 n6, .int .i64 n7, .int .i64 n8, .int .i64 n9, .slice pa lr ca]] p.u fun e w' => e = .returned (.agg #[.int .i64 n0, .int .i64 n1, .int .i64 n2, .int .i64 n3, .int .i64 n4, .int .i64 n5, .int .i64 n6, .int .i64 n7, .int .i64 n8, .int .i64 n9, .slice pa lr ca]) ∧ Below p.u.heap.size p.u w' := fun p => refpol_any [n0, n1, n2, n3, n4, n5, n6, n7, n8, n9] pa lr ca p.u rfl
    have s2 : ∀ p : Beh v4, Calls Tryd.prog 18 #[.agg #[.int .i64 n0, .int .i64 n1, .int .i64 n2, .int .i64 n3, .int .i64 n4, .int .i64 n5, .int .i64 n6, .int .i64 n7, .int .i64 n8, .int .i64 n9, .slice pa lr ca], .agg #[.int .i64 n0, .int .i64 n1, .int .i64 n2, .int .i64 n3, .int .i64 n4, .int .i64 n5, .int .i64 n6, .int .i64 n7, .int .i64 n8, .int .i64 n9, .slice pb lr cb]] p.u fun e w' => e = .returned (.bool true) ∧ Below p.u.heap.size p.u w' := fun p => rsame_lit n0 n1 n2 n3 n4 n5 n6 n7 n8 n9 rt lr HLR.out HR2.out pa pb ca cb p.u (HAT.out.below p.h) (HB2T.out.below p.h)
    have s3 : ∀ p : Beh v4, Calls Tryd.prog 14 #[.agg #[.int .i64 g0, .int .i64 g1, .int .i64 g2, .int .i64 g3, .int .i64 g4, .int .i64 g5, .int .i64 g6, .int .i64 g7, .int .i64 g8, .int .i64 g9, .slice pc lg cc]] p.u fun e w' => e = .returned (.agg #[.int .i64 g0, .int .i64 g1, .int .i64 g2, .int .i64 g3, .int .i64 g4, .int .i64 g5, .int .i64 g6, .int .i64 g7, .int .i64 g8, .int .i64 g9, .slice pc lg cc]) ∧ Below p.u.heap.size p.u w' := fun p => refpol_any [g0, g1, g2, g3, g4, g5, g6, g7, g8, g9] pc lg cc p.u rfl
    have s4 : ∀ p : Beh v4, Calls Tryd.prog 18 #[.agg #[.int .i64 g0, .int .i64 g1, .int .i64 g2, .int .i64 g3, .int .i64 g4, .int .i64 g5, .int .i64 g6, .int .i64 g7, .int .i64 g8, .int .i64 g9, .slice pc lg cc], .agg #[.int .i64 g0, .int .i64 g1, .int .i64 g2, .int .i64 g3, .int .i64 g4, .int .i64 g5, .int .i64 g6, .int .i64 g7, .int .i64 g8, .int .i64 g9, .slice pd lg cd]] p.u fun e w' => e = .returned (.bool true) ∧ Below p.u.heap.size p.u w' := fun p => rsame_lit g0 g1 g2 g3 g4 g5 g6 g7 g8 g9 gt lg HLG.out HG2.out pc pd cc cd p.u (HCT.out.below p.h) (HDT.out.below p.h)
    have al := HAP.out.lt
    have bl' := HB2P.out.lt
    have cl := HCP.out.lt
    have dl := HDP.out.lt
    have ka0 := fun p => Beh.cell al (HAP.out.cell 0 _ rfl) p
    have kb0 := fun p => Beh.cell bl' (HB2P.out.cell 0 _ rfl) p
    have kc0 := fun p => Beh.cell cl (HCP.out.cell 0 _ rfl) p
    have kd0 := fun p => Beh.cell dl (HDP.out.cell 0 _ rfl) p
    have ka1 := fun p => Beh.cell al (HAP.out.cell 1 _ rfl) p
    have kb1 := fun p => Beh.cell bl' (HB2P.out.cell 1 _ rfl) p
    have kc1 := fun p => Beh.cell cl (HCP.out.cell 1 _ rfl) p
    have kd1 := fun p => Beh.cell dl (HDP.out.cell 1 _ rfl) p
    have ka2 := fun p => Beh.cell al (HAP.out.cell 2 _ rfl) p
    have kb2 := fun p => Beh.cell bl' (HB2P.out.cell 2 _ rfl) p
    have kc2 := fun p => Beh.cell cl (HCP.out.cell 2 _ rfl) p
    have kd2 := fun p => Beh.cell dl (HDP.out.cell 2 _ rfl) p
    have ka3 := fun p => Beh.cell al (HAP.out.cell 3 _ rfl) p
    have kb3 := fun p => Beh.cell bl' (HB2P.out.cell 3 _ rfl) p
    have kc3 := fun p => Beh.cell cl (HCP.out.cell 3 _ rfl) p
    have kd3 := fun p => Beh.cell dl (HDP.out.cell 3 _ rfl) p
    have ka4 := fun p => Beh.cell al (HAP.out.cell 4 _ rfl) p
    have kb4 := fun p => Beh.cell bl' (HB2P.out.cell 4 _ rfl) p
    have kc4 := fun p => Beh.cell cl (HCP.out.cell 4 _ rfl) p
    have kd4 := fun p => Beh.cell dl (HDP.out.cell 4 _ rfl) p
    have ka5 := fun p => Beh.cell al (HAP.out.cell 5 _ rfl) p
    have kb5 := fun p => Beh.cell bl' (HB2P.out.cell 5 _ rfl) p
    have kc5 := fun p => Beh.cell cl (HCP.out.cell 5 _ rfl) p
    have kd5 := fun p => Beh.cell dl (HDP.out.cell 5 _ rfl) p
    have ka6 := fun p => Beh.cell al (HAP.out.cell 6 _ rfl) p
    have kb6 := fun p => Beh.cell bl' (HB2P.out.cell 6 _ rfl) p
    have kc6 := fun p => Beh.cell cl (HCP.out.cell 6 _ rfl) p
    have kd6 := fun p => Beh.cell dl (HDP.out.cell 6 _ rfl) p
    have ka7 := fun p => Beh.cell al (HAP.out.cell 7 _ rfl) p
    have kb7 := fun p => Beh.cell bl' (HB2P.out.cell 7 _ rfl) p
    have kc7 := fun p => Beh.cell cl (HCP.out.cell 7 _ rfl) p
    have kd7 := fun p => Beh.cell dl (HDP.out.cell 7 _ rfl) p
    have ka8 := fun p => Beh.cell al (HAP.out.cell 8 _ rfl) p
    have kb8 := fun p => Beh.cell bl' (HB2P.out.cell 8 _ rfl) p
    have kc8 := fun p => Beh.cell cl (HCP.out.cell 8 _ rfl) p
    have kd8 := fun p => Beh.cell dl (HDP.out.cell 8 _ rfl) p
    have ka9 := fun p => Beh.cell al (HAP.out.cell 9 _ rfl) p
    have kb9 := fun p => Beh.cell bl' (HB2P.out.cell 9 _ rfl) p
    have kc9 := fun p => Beh.cell cl (HCP.out.cell 9 _ rfl) p
    have kd9 := fun p => Beh.cell dl (HDP.out.cell 9 _ rfl) p
    have ka10 := fun p => Beh.cell al (HAP.out.cell 10 _ rfl) p
    have kb10 := fun p => Beh.cell bl' (HB2P.out.cell 10 _ rfl) p
    have kc10 := fun p => Beh.cell cl (HCP.out.cell 10 _ rfl) p
    have kd10 := fun p => Beh.cell dl (HDP.out.cell 10 _ rfl) p
    simp only [List.getElem_toArray, List.getElem_cons_zero, List.getElem_cons_succ] at ka0 kb0 kc0 kd0 ka1 kb1 kc1 kd1 ka2 kb2 kc2 kd2 ka3 kb3 kc3 kd3 ka4 kb4 kc4 kd4 ka5 kb5 kc5 kd5 ka6 kb6 kc6 kd6 ka7 kb7 kc7 kd7 ka8 kb8 kc8 kd8 ka9 kb9 kc9 kd9 ka10 kb10 kc10 kd10
    clear HAP HB2P HCP HDP HAT HB2T HCT HDT al bl' cl dl HLR HLG HR2 HG2
    refine wp_region_beh (by kernel_rfl) (by kernel_rfl) ?_
    iterate 4 (quiet_step (exact calls_beh _ (s1 _)))
    iterate 9 (quiet_step (exact calls_beh _ (s2 _)))
    iterate 2 (quiet_step (exact calls_beh _ (s3 _)))
    iterate 14 (quiet_step (exact calls_beh _ (s4 _)))
    refine wpQuiet_nil ?_
    intro _ hw'
    obtain ⟨⟨W2, hBW⟩, hw''⟩ := hw'
    subst hw''
    have HB9 := Lib.hid (HB.out.trans (hBW.mono HB.out.size))
    clear hBW s1 s2 s3 s4 ka0 kb0 kc0 kd0 ka1 kb1 kc1 kd1 ka2 kb2 kc2 kd2 ka3 kb3 kc3 kd3 ka4 kb4 kc4 kd4 ka5 kb5 kc5 kd5 ka6 kb6 kc6 kd6 ka7 kb7 kc7 kd7 ka8 kb8 kc8 kd8 ka9 kb9 kc9 kd9 ka10 kb10 kc10 kd10
    go_wp2
    go_ret
    exact ⟨rfl, HB9.out⟩

end Go.Proofs.YtdhkonaebhpeeaaDoor.Po

namespace Go.Proofs.YtdhkonaebhpeeaaDoor.Po
open Go Go.RowKit

set_option maxRecDepth 100000 in
set_option maxHeartbeats 16000000 in
theorem reads_c0 (a0 a1 a2 a3 a4 a5 a6 a7 a8 a9 x0 x1 x2 x3 x4 x5 x6 x7 x8 x9 : Int) (qx : Option Addr) (lx dx : Nat) (ox : Bool) (px : Option Addr) (hsx : List Nat) (cx : Nat) (t : List Int) (l : Nat) (S b : ByteArray) (own : Nat) (p0 z : Int) (hown : own < 256) (hki : (own : Int) % 4 = 0) (ht : t.length = l) (hl : l ≤ 1048576)
    (hSS : S.size ≤ 1048576) (hbb : b.size ≤ 1048576) (hp0 : -9223372036854775808 ≤ p0) (hp1 : p0 ≤ 9223372036854775807) (z0 : 0 ≤ z) (z1 : z < 256)
    (hin : ∀ x ∈ [x0, x1, x2, x3, x4, x5, x6, x7, x8, x9], In64 x) (htin : ∀ x ∈ t, In64 x) (w : World) (hX : Tens w)
    (hwx : ∀ W', Below w.heap.size w W' → Calls Tryd.prog 11 #[.agg #[.int .i64 a0, .int .i64 a1, .int .i64 a2, .int .i64 a3, .int .i64 a4, .int .i64 a5, .int .i64 a6, .int .i64 a7, .int .i64 a8, .int .i64 a9, .slice qx lx dx, .bool ox, .slice px hsx.length cx]] W' fun e w' => ∃ q d, e = .returned (.agg #[.int .i64 x0, .int .i64 x1, .int .i64 x2, .int .i64 x3, .int .i64 x4, .int .i64 x5, .int .i64 x6, .int .i64 x7, .int .i64 x8, .int .i64 x9, .slice q l d]) ∧ Tr (fun _ => False) (.slice q l d) t w' ∧ Below W'.heap.size W' w') :
    Calls Tryd.prog 4 #[.agg #[.int .i64 a0, .int .i64 a1, .int .i64 a2, .int .i64 a3, .int .i64 a4, .int .i64 a5, .int .i64 a6, .int .i64 a7, .int .i64 a8, .int .i64 a9, .slice qx lx dx, .bool ox, .slice px hsx.length cx], .string S, .int .u8 (own : Int), .int .i64 p0, .int .u8 z, .string b] w fun e w' => e = .returned (.bool true) ∧ Below w.heap.size w w' := by
  obtain ⟨N, hN⟩ : ∃ N, w.heap.size = N := ⟨_, rfl⟩
  have hB0 : Below w.heap.size w (w.alloc (.cells #[.int .i64 a0, .int .i64 a1, .int .i64 a2, .int .i64 a3, .int .i64 a4, .int .i64 a5, .int .i64 a6, .int .i64 a7, .int .i64 a8, .int .i64 a9, .slice qx lx dx, .bool ox, .slice px hsx.length cx] 27)) := (Below.refl _ _).alloc (Nat.le_refl _) _
  have HCX : Hid (CellsAt N #[.int .i64 a0, .int .i64 a1, .int .i64 a2, .int .i64 a3, .int .i64 a4, .int .i64 a5, .int .i64 a6, .int .i64 a7, .int .i64 a8, .int .i64 a9, .slice qx lx dx, .bool ox, .slice px hsx.length cx] (w.alloc (.cells #[.int .i64 a0, .int .i64 a1, .int .i64 a2, .int .i64 a3, .int .i64 a4, .int .i64 a5, .int .i64 a6, .int .i64 a7, .int .i64 a8, .int .i64 a9, .slice qx lx dx, .bool ox, .slice px hsx.length cx] 27))) := Lib.hid (CellsAt.newAt #[.int .i64 a0, .int .i64 a1, .int .i64 a2, .int .i64 a3, .int .i64 a4, .int .i64 a5, .int .i64 a6, .int .i64 a7, .int .i64 a8, .int .i64 a9, .slice qx lx dx, .bool ox, .slice px hsx.length cx] 27 w N hN.symm)
  have HB := Lib.hid hB0
  have hex := fun W hW => examples_any W hW
  have hexc := hex _ (Tens.below hX hB0)
  have HWX := Lib.hid hwx
  have HIN := Lib.hid hin
  have HLT := Lib.hid ht
  have HSS := Lib.hid hSS
  have HBB := Lib.hid hbb
  have HP0 := Lib.hid hp0
  have HP1 := Lib.hid hp1
  have HZ0 := Lib.hid z0
  have HZ1 := Lib.hid z1
  have htl : (textZ [x0, x1, x2, x3, x4, x5, x6, x7, x8, x9] t).length ≤ 286 + 21 * l := by rw [← ht]; exact text_len rfl hin htin
  have HTL := Lib.hid htl
  clear hB0 hX hex hwx hin ht hSS hbb hp0 hp1 z0 z1 htl htin
  go_enter Tryd.func4, Tryd.ntmps4
  go_wp2_with fail
  refine hexc.mono ?_
  rintro e w1 ⟨rfl, hB1⟩
  clear hN hexc
  replace HCX := Lib.hid (HCX.out.below hB1)
  replace HB := Lib.hid (HB.out.trans (hB1.mono HB.out.size))
  clear hB1
  have k0 := HCX.out.cell 0 _ rfl
  have k1 := HCX.out.cell 1 _ rfl
  have k2 := HCX.out.cell 2 _ rfl
  have k3 := HCX.out.cell 3 _ rfl
  have k4 := HCX.out.cell 4 _ rfl
  have k5 := HCX.out.cell 5 _ rfl
  have k6 := HCX.out.cell 6 _ rfl
  have k7 := HCX.out.cell 7 _ rfl
  have k8 := HCX.out.cell 8 _ rfl
  have k9 := HCX.out.cell 9 _ rfl
  have k10 := HCX.out.cell 10 _ rfl
  have k11 := HCX.out.cell 11 _ rfl
  have k12 := HCX.out.cell 12 _ rfl
  have kl := HCX.out.lt
  simp only [List.getElem_toArray, List.getElem_cons_zero, List.getElem_cons_succ] at k0 k1 k2 k3 k4 k5 k6 k7 k8 k9 k10 k11 k12
  have hwc := HWX.out w1 HB.out
  go_wp2_with fail
  refine hwc.mono ?_
  rintro e w2 ⟨q, d, rfl, hT, hB1⟩
  clear k0 k1 k2 k3 k4 k5 k6 k7 k8 k9 k10 k11 k12 kl
  have hBx : Below w2.heap.size w2 (w2.alloc (.cells #[.int .i64 x0, .int .i64 x1, .int .i64 x2, .int .i64 x3, .int .i64 x4, .int .i64 x5, .int .i64 x6, .int .i64 x7, .int .i64 x8, .int .i64 x9, .slice q l d] 24)) := (Below.refl _ _).alloc (Nat.le_refl _) _
  have HP : Hid (CellsAt w2.heap.size #[.int .i64 x0, .int .i64 x1, .int .i64 x2, .int .i64 x3, .int .i64 x4, .int .i64 x5, .int .i64 x6, .int .i64 x7, .int .i64 x8, .int .i64 x9, .slice q l d] (w2.alloc (.cells #[.int .i64 x0, .int .i64 x1, .int .i64 x2, .int .i64 x3, .int .i64 x4, .int .i64 x5, .int .i64 x6, .int .i64 x7, .int .i64 x8, .int .i64 x9, .slice q l d] 24))) := Lib.hid (CellsAt.new _ _ _)
  have HT := Lib.hid (hT.below hBx)
  replace HB := Lib.hid (HB.out.trans ((hB1.trans (hBx.mono hB1.size)).mono HB.out.size))
  clear hBx hB1 hT hwc HCX HWX
  obtain ⟨P, hPP⟩ : ∃ P, w2.heap.size = P := ⟨_, rfl⟩
  rw [hPP] at HP
  go_upto_region 12 with fail
  generalize w2.alloc (.cells #[.int .i64 x0, .int .i64 x1, .int .i64 x2, .int .i64 x3, .int .i64 x4, .int .i64 x5, .int .i64 x6, .int .i64 x7, .int .i64 x8, .int .i64 x9, .slice q l d] 24) = W3 at *
  clear hPP
  refine reads_12 _ (by kernel_rfl) _ W3 P own p0 z S b x0 x1 x2 x3 x4 x5 x6 x7 x8 x9 q l d t HLT.out hl HP.out HT.out _ _ _ _ _ _ _ _ _ _ _ _ _ _ _ _ _ _ _ _ _ _ _ _ _ _ _ _ _ _ _ _ _ _ _ _ _ _ _ _ _ _ _ _ _ _ _ _ _ _ _ _ _ _ _ _ _ _ _ _ _ _ _ _ _ _ _ _ _ _ _ _ _ _ _ _ _ _ _ _ _ _ _ _ _ _ _ _ _ _ _ _ _ _ _ _ _ _ _ _ _ _ _ _ _ _ _ _ _ _ _ _ _ _ _ ?_
  intro W' Y z16 z57 z58 z59 z60 z61 z62 hY hB'
  rename_i K hK
  refine hK _ _ ?_
  clear hK
  exact reads_13 _ (by kernel_rfl) w W' P own p0 z S b Y (by have := HSS.out; omega) HBB.out hY HP0.out HP1.out HZ0.out HZ1.out (HB.out.trans (hB'.mono HB.out.size)) _ _ _ _ _ _ _ _ _ _ _ _ _ _ _ _ _ _ _ _ _ _ _ _ _ _ _ _ _ _ _ _ _ _ _ _ _ _ _ _ _ _ _ _ _ _ _ _ _ _ _ _ _ _ _ _ _ _ _ _ _ _ _ _ _ _ _ _ _ _ _ _ _ _ _ _ _ _ _ _ _ _ _ _ _ _ _ _ _ _ _ _ _ _ _ _ _ _ _ _ _ _ _ _ _ _ _ _ _ _ _ _ _ _
set_option maxRecDepth 100000 in
set_option maxHeartbeats 16000000 in
theorem reads_c1 (a0 a1 a2 a3 a4 a5 a6 a7 a8 a9 x0 x1 x2 x3 x4 x5 x6 x7 x8 x9 : Int) (qx : Option Addr) (lx dx : Nat) (ox : Bool) (px : Option Addr) (hsx : List Nat) (cx : Nat) (t : List Int) (l : Nat) (S b : ByteArray) (own : Nat) (p0 z : Int) (hown : own < 256) (hki : (own : Int) % 4 = 1) (ht : t.length = l) (hl : l ≤ 1048576)
    (hSS : S.size ≤ 1048576) (hbb : b.size ≤ 1048576) (hp0 : -9223372036854775808 ≤ p0) (hp1 : p0 ≤ 9223372036854775807) (z0 : 0 ≤ z) (z1 : z < 256)
    (hin : ∀ x ∈ [x0, x1, x2, x3, x4, x5, x6, x7, x8, x9], In64 x) (htin : ∀ x ∈ t, In64 x) (w : World) (hX : Tens w)
    (hwx : ∀ W', Below w.heap.size w W' → Calls Tryd.prog 11 #[.agg #[.int .i64 a0, .int .i64 a1, .int .i64 a2, .int .i64 a3, .int .i64 a4, .int .i64 a5, .int .i64 a6, .int .i64 a7, .int .i64 a8, .int .i64 a9, .slice qx lx dx, .bool ox, .slice px hsx.length cx]] W' fun e w' => ∃ q d, e = .returned (.agg #[.int .i64 x0, .int .i64 x1, .int .i64 x2, .int .i64 x3, .int .i64 x4, .int .i64 x5, .int .i64 x6, .int .i64 x7, .int .i64 x8, .int .i64 x9, .slice q l d]) ∧ Tr (fun _ => False) (.slice q l d) t w' ∧ Below W'.heap.size W' w') :
    Calls Tryd.prog 4 #[.agg #[.int .i64 a0, .int .i64 a1, .int .i64 a2, .int .i64 a3, .int .i64 a4, .int .i64 a5, .int .i64 a6, .int .i64 a7, .int .i64 a8, .int .i64 a9, .slice qx lx dx, .bool ox, .slice px hsx.length cx], .string S, .int .u8 (own : Int), .int .i64 p0, .int .u8 z, .string b] w fun e w' => e = .returned (.bool true) ∧ Below w.heap.size w w' := by
  obtain ⟨N, hN⟩ : ∃ N, w.heap.size = N := ⟨_, rfl⟩
  have hB0 : Below w.heap.size w (w.alloc (.cells #[.int .i64 a0, .int .i64 a1, .int .i64 a2, .int .i64 a3, .int .i64 a4, .int .i64 a5, .int .i64 a6, .int .i64 a7, .int .i64 a8, .int .i64 a9, .slice qx lx dx, .bool ox, .slice px hsx.length cx] 27)) := (Below.refl _ _).alloc (Nat.le_refl _) _
  have HCX : Hid (CellsAt N #[.int .i64 a0, .int .i64 a1, .int .i64 a2, .int .i64 a3, .int .i64 a4, .int .i64 a5, .int .i64 a6, .int .i64 a7, .int .i64 a8, .int .i64 a9, .slice qx lx dx, .bool ox, .slice px hsx.length cx] (w.alloc (.cells #[.int .i64 a0, .int .i64 a1, .int .i64 a2, .int .i64 a3, .int .i64 a4, .int .i64 a5, .int .i64 a6, .int .i64 a7, .int .i64 a8, .int .i64 a9, .slice qx lx dx, .bool ox, .slice px hsx.length cx] 27))) := Lib.hid (CellsAt.newAt #[.int .i64 a0, .int .i64 a1, .int .i64 a2, .int .i64 a3, .int .i64 a4, .int .i64 a5, .int .i64 a6, .int .i64 a7, .int .i64 a8, .int .i64 a9, .slice qx lx dx, .bool ox, .slice px hsx.length cx] 27 w N hN.symm)
  have HB := Lib.hid hB0
  have hex := fun W hW => examples_any W hW
  have hexc := hex _ (Tens.below hX hB0)
  have HWX := Lib.hid hwx
  have HIN := Lib.hid hin
  have HLT := Lib.hid ht
  have HSS := Lib.hid hSS
  have HBB := Lib.hid hbb
  have HP0 := Lib.hid hp0
  have HP1 := Lib.hid hp1
  have HZ0 := Lib.hid z0
  have HZ1 := Lib.hid z1
  have htl : (textZ [x0, x1, x2, x3, x4, x5, x6, x7, x8, x9] t).length ≤ 286 + 21 * l := by rw [← ht]; exact text_len rfl hin htin
  have HTL := Lib.hid htl
  clear hB0 hX hex hwx hin ht hSS hbb hp0 hp1 z0 z1 htl htin
  go_enter Tryd.func4, Tryd.ntmps4
  go_wp2_with fail
  refine hexc.mono ?_
  rintro e w1 ⟨rfl, hB1⟩
  clear hN hexc
  replace HCX := Lib.hid (HCX.out.below hB1)
  replace HB := Lib.hid (HB.out.trans (hB1.mono HB.out.size))
  clear hB1
  have k0 := HCX.out.cell 0 _ rfl
  have k1 := HCX.out.cell 1 _ rfl
  have k2 := HCX.out.cell 2 _ rfl
  have k3 := HCX.out.cell 3 _ rfl
  have k4 := HCX.out.cell 4 _ rfl
  have k5 := HCX.out.cell 5 _ rfl
  have k6 := HCX.out.cell 6 _ rfl
  have k7 := HCX.out.cell 7 _ rfl
  have k8 := HCX.out.cell 8 _ rfl
  have k9 := HCX.out.cell 9 _ rfl
  have k10 := HCX.out.cell 10 _ rfl
  have k11 := HCX.out.cell 11 _ rfl
  have k12 := HCX.out.cell 12 _ rfl
  have kl := HCX.out.lt
  simp only [List.getElem_toArray, List.getElem_cons_zero, List.getElem_cons_succ] at k0 k1 k2 k3 k4 k5 k6 k7 k8 k9 k10 k11 k12
  have hwc := HWX.out w1 HB.out
  go_wp2_with fail
  refine hwc.mono ?_
  rintro e w2 ⟨q, d, rfl, hT, hB1⟩
  clear k0 k1 k2 k3 k4 k5 k6 k7 k8 k9 k10 k11 k12 kl
  have hBx : Below w2.heap.size w2 (w2.alloc (.cells #[.int .i64 x0, .int .i64 x1, .int .i64 x2, .int .i64 x3, .int .i64 x4, .int .i64 x5, .int .i64 x6, .int .i64 x7, .int .i64 x8, .int .i64 x9, .slice q l d] 24)) := (Below.refl _ _).alloc (Nat.le_refl _) _
  have HP : Hid (CellsAt w2.heap.size #[.int .i64 x0, .int .i64 x1, .int .i64 x2, .int .i64 x3, .int .i64 x4, .int .i64 x5, .int .i64 x6, .int .i64 x7, .int .i64 x8, .int .i64 x9, .slice q l d] (w2.alloc (.cells #[.int .i64 x0, .int .i64 x1, .int .i64 x2, .int .i64 x3, .int .i64 x4, .int .i64 x5, .int .i64 x6, .int .i64 x7, .int .i64 x8, .int .i64 x9, .slice q l d] 24))) := Lib.hid (CellsAt.new _ _ _)
  have HT := Lib.hid (hT.below hBx)
  replace HB := Lib.hid (HB.out.trans ((hB1.trans (hBx.mono hB1.size)).mono HB.out.size))
  clear hBx hB1 hT hwc HCX HWX
  obtain ⟨P, hPP⟩ : ∃ P, w2.heap.size = P := ⟨_, rfl⟩
  rw [hPP] at HP
  have hRP : Calls Tryd.prog 14 #[.agg #[.int .i64 x0, .int .i64 x1, .int .i64 x2, .int .i64 x3, .int .i64 x4, .int .i64 x5, .int .i64 x6, .int .i64 x7, .int .i64 x8, .int .i64 x9, .slice q l d]] (w2.alloc (.cells #[.int .i64 x0, .int .i64 x1, .int .i64 x2, .int .i64 x3, .int .i64 x4, .int .i64 x5, .int .i64 x6, .int .i64 x7, .int .i64 x8, .int .i64 x9, .slice q l d] 24)) fun e w' => e = .returned (.agg #[.int .i64 x0, .int .i64 x1, .int .i64 x2, .int .i64 x3, .int .i64 x4, .int .i64 x5, .int .i64 x6, .int .i64 x7, .int .i64 x8, .int .i64 x9, .slice q l d]) ∧ Below (w2.alloc (.cells #[.int .i64 x0, .int .i64 x1, .int .i64 x2, .int .i64 x3, .int .i64 x4, .int .i64 x5, .int .i64 x6, .int .i64 x7, .int .i64 x8, .int .i64 x9, .slice q l d] 24)).heap.size (w2.alloc (.cells #[.int .i64 x0, .int .i64 x1, .int .i64 x2, .int .i64 x3, .int .i64 x4, .int .i64 x5, .int .i64 x6, .int .i64 x7, .int .i64 x8, .int .i64 x9, .slice q l d] 24)) w' := refpol_any [x0, x1, x2, x3, x4, x5, x6, x7, x8, x9] q l d _ rfl
  have hTX : ∀ W', Below (w2.alloc (.cells #[.int .i64 x0, .int .i64 x1, .int .i64 x2, .int .i64 x3, .int .i64 x4, .int .i64 x5, .int .i64 x6, .int .i64 x7, .int .i64 x8, .int .i64 x9, .slice q l d] 24)).heap.size (w2.alloc (.cells #[.int .i64 x0, .int .i64 x1, .int .i64 x2, .int .i64 x3, .int .i64 x4, .int .i64 x5, .int .i64 x6, .int .i64 x7, .int .i64 x8, .int .i64 x9, .slice q l d] 24)) W' → Calls Tryd.prog 20 #[.agg #[.int .i64 x0, .int .i64 x1, .int .i64 x2, .int .i64 x3, .int .i64 x4, .int .i64 x5, .int .i64 x6, .int .i64 x7, .int .i64 x8, .int .i64 x9, .slice q l d]] W' fun e w' => e = .returned (.string (tx (textZ [x0, x1, x2, x3, x4, x5, x6, x7, x8, x9] t))) ∧ Below W'.heap.size W' w' := fun W' h => ref_text_in x0 x1 x2 x3 x4 x5 x6 x7 x8 x9 q l d t HLT.out W' HIN.out (by omega) (HT.out.below h)
  have HTX := Lib.hid hTX
  obtain ⟨TT, hTT⟩ : ∃ S, tx (textZ [x0, x1, x2, x3, x4, x5, x6, x7, x8, x9] t) = S := ⟨_, rfl⟩
  have hts : TT.size ≤ 286 + 21 * l := by rw [← hTT, tx_len]; exact HTL.out
  rw [hTT] at HTX
  have HTS := Lib.hid hts
  have HRP := Lib.hid hRP
  clear hTT hTX hts hRP
  have k0 := HP.out.cell 0 _ rfl
  have k1 := HP.out.cell 1 _ rfl
  have k2 := HP.out.cell 2 _ rfl
  have k3 := HP.out.cell 3 _ rfl
  have k4 := HP.out.cell 4 _ rfl
  have k5 := HP.out.cell 5 _ rfl
  have k6 := HP.out.cell 6 _ rfl
  have k7 := HP.out.cell 7 _ rfl
  have k8 := HP.out.cell 8 _ rfl
  have k9 := HP.out.cell 9 _ rfl
  have k10 := HP.out.cell 10 _ rfl
  have kl := HP.out.lt
  simp only [List.getElem_toArray, List.getElem_cons_zero, List.getElem_cons_succ] at k0 k1 k2 k3 k4 k5 k6 k7 k8 k9 k10
  rw [← hPP] at kl k0 k1 k2 k3 k4 k5 k6 k7 k8 k9 k10
  go_upto_region 7 with fail
  rw [hPP] at kl k0 k1 k2 k3 k4 k5 k6 k7 k8 k9 k10
  generalize hW3 : w2.alloc (.cells #[.int .i64 x0, .int .i64 x1, .int .i64 x2, .int .i64 x3, .int .i64 x4, .int .i64 x5, .int .i64 x6, .int .i64 x7, .int .i64 x8, .int .i64 x9, .slice q l d] 24) = W3 at *
  have hrp := HRP.out
  clear hPP HRP hW3
  go_wp2_with fail
  refine hrp.mono ?_
  rintro e w4 ⟨rfl, hB1⟩
  clear k0 k1 k2 k3 k4 k5 k6 k7 k8 k9 k10 kl
  replace HP := Lib.hid (HP.out.below hB1)
  replace HT := Lib.hid (HT.out.below hB1)
  replace HB := Lib.hid (HB.out.trans (hB1.mono HB.out.size))
  have htx := HTX.out _ hB1
  clear hrp hB1 HTX
  go_wp2_with fail
  refine htx.mono ?_
  rintro e w5 ⟨rfl, hB1⟩
  replace HP := Lib.hid (HP.out.below hB1)
  replace HT := Lib.hid (HT.out.below hB1)
  replace HB := Lib.hid (HB.out.trans (hB1.mono HB.out.size))
  clear htx hB1
  have hbd := fun W => bend_any TT (by have := HTS.out; omega) p0 z HP0.out HP1.out HZ0.out HZ1.out W
  go_wp2_with fail
  refine (hbd _).mono ?_
  rintro e w6 ⟨S', rfl, hS', hB1⟩
  replace HP := Lib.hid (HP.out.below hB1)
  replace HT := Lib.hid (HT.out.below hB1)
  replace HB := Lib.hid (HB.out.trans (hB1.mono HB.out.size))
  have HS' : Hid (S'.size ≤ 1099511627776) := Lib.hid (by have := HTS.out; omega)
  clear hbd hB1 hS'
  go_upto_region 12 with fail
  refine reads_12 _ (by kernel_rfl) _ _ P own p0 z S' b x0 x1 x2 x3 x4 x5 x6 x7 x8 x9 q l d t HLT.out hl HP.out HT.out _ _ _ _ _ _ _ _ _ _ _ _ _ _ _ _ _ _ _ _ _ _ _ _ _ _ _ _ _ _ _ _ _ _ _ _ _ _ _ _ _ _ _ _ _ _ _ _ _ _ _ _ _ _ _ _ _ _ _ _ _ _ _ _ _ _ _ _ _ _ _ _ _ _ _ _ _ _ _ _ _ _ _ _ _ _ _ _ _ _ _ _ _ _ _ _ _ _ _ _ _ _ _ _ _ _ _ _ _ _ _ _ _ _ _ ?_
  intro W' Y z16 z57 z58 z59 z60 z61 z62 hY hB'
  rename_i K hK
  refine hK _ _ ?_
  clear hK
  exact reads_13 _ (by kernel_rfl) w W' P own p0 z S' b Y HS'.out HBB.out hY HP0.out HP1.out HZ0.out HZ1.out (HB.out.trans (hB'.mono HB.out.size)) _ _ _ _ _ _ _ _ _ _ _ _ _ _ _ _ _ _ _ _ _ _ _ _ _ _ _ _ _ _ _ _ _ _ _ _ _ _ _ _ _ _ _ _ _ _ _ _ _ _ _ _ _ _ _ _ _ _ _ _ _ _ _ _ _ _ _ _ _ _ _ _ _ _ _ _ _ _ _ _ _ _ _ _ _ _ _ _ _ _ _ _ _ _ _ _ _ _ _ _ _ _ _ _ _ _ _ _ _ _ _ _ _ _
set_option maxRecDepth 100000 in
set_option maxHeartbeats 16000000 in
theorem reads_c2 (a0 a1 a2 a3 a4 a5 a6 a7 a8 a9 x0 x1 x2 x3 x4 x5 x6 x7 x8 x9 : Int) (qx : Option Addr) (lx dx : Nat) (ox : Bool) (px : Option Addr) (hsx : List Nat) (cx : Nat) (t : List Int) (l : Nat) (S b : ByteArray) (own : Nat) (p0 z : Int) (hown : own < 256) (hki : (own : Int) % 4 = 2) (ht : t.length = l) (hl : l ≤ 1048576)
    (hSS : S.size ≤ 1048576) (hbb : b.size ≤ 1048576) (hp0 : -9223372036854775808 ≤ p0) (hp1 : p0 ≤ 9223372036854775807) (z0 : 0 ≤ z) (z1 : z < 256)
    (hin : ∀ x ∈ [x0, x1, x2, x3, x4, x5, x6, x7, x8, x9], In64 x) (htin : ∀ x ∈ t, In64 x) (w : World) (hX : Tens w)
    (hwx : ∀ W', Below w.heap.size w W' → Calls Tryd.prog 11 #[.agg #[.int .i64 a0, .int .i64 a1, .int .i64 a2, .int .i64 a3, .int .i64 a4, .int .i64 a5, .int .i64 a6, .int .i64 a7, .int .i64 a8, .int .i64 a9, .slice qx lx dx, .bool ox, .slice px hsx.length cx]] W' fun e w' => ∃ q d, e = .returned (.agg #[.int .i64 x0, .int .i64 x1, .int .i64 x2, .int .i64 x3, .int .i64 x4, .int .i64 x5, .int .i64 x6, .int .i64 x7, .int .i64 x8, .int .i64 x9, .slice q l d]) ∧ Tr (fun _ => False) (.slice q l d) t w' ∧ Below W'.heap.size W' w') :
    Calls Tryd.prog 4 #[.agg #[.int .i64 a0, .int .i64 a1, .int .i64 a2, .int .i64 a3, .int .i64 a4, .int .i64 a5, .int .i64 a6, .int .i64 a7, .int .i64 a8, .int .i64 a9, .slice qx lx dx, .bool ox, .slice px hsx.length cx], .string S, .int .u8 (own : Int), .int .i64 p0, .int .u8 z, .string b] w fun e w' => e = .returned (.bool true) ∧ Below w.heap.size w w' := by
  obtain ⟨N, hN⟩ : ∃ N, w.heap.size = N := ⟨_, rfl⟩
  have hB0 : Below w.heap.size w (w.alloc (.cells #[.int .i64 a0, .int .i64 a1, .int .i64 a2, .int .i64 a3, .int .i64 a4, .int .i64 a5, .int .i64 a6, .int .i64 a7, .int .i64 a8, .int .i64 a9, .slice qx lx dx, .bool ox, .slice px hsx.length cx] 27)) := (Below.refl _ _).alloc (Nat.le_refl _) _
  have HCX : Hid (CellsAt N #[.int .i64 a0, .int .i64 a1, .int .i64 a2, .int .i64 a3, .int .i64 a4, .int .i64 a5, .int .i64 a6, .int .i64 a7, .int .i64 a8, .int .i64 a9, .slice qx lx dx, .bool ox, .slice px hsx.length cx] (w.alloc (.cells #[.int .i64 a0, .int .i64 a1, .int .i64 a2, .int .i64 a3, .int .i64 a4, .int .i64 a5, .int .i64 a6, .int .i64 a7, .int .i64 a8, .int .i64 a9, .slice qx lx dx, .bool ox, .slice px hsx.length cx] 27))) := Lib.hid (CellsAt.newAt #[.int .i64 a0, .int .i64 a1, .int .i64 a2, .int .i64 a3, .int .i64 a4, .int .i64 a5, .int .i64 a6, .int .i64 a7, .int .i64 a8, .int .i64 a9, .slice qx lx dx, .bool ox, .slice px hsx.length cx] 27 w N hN.symm)
  have HB := Lib.hid hB0
  have hex := fun W hW => examples_any W hW
  have hexc := hex _ (Tens.below hX hB0)
  have HWX := Lib.hid hwx
  have HIN := Lib.hid hin
  have HLT := Lib.hid ht
  have HSS := Lib.hid hSS
  have HBB := Lib.hid hbb
  have HP0 := Lib.hid hp0
  have HP1 := Lib.hid hp1
  have HZ0 := Lib.hid z0
  have HZ1 := Lib.hid z1
  have htl : (textZ [x0, x1, x2, x3, x4, x5, x6, x7, x8, x9] t).length ≤ 286 + 21 * l := by rw [← ht]; exact text_len rfl hin htin
  have HTL := Lib.hid htl
  clear hB0 hX hex hwx hin ht hSS hbb hp0 hp1 z0 z1 htl htin
  go_enter Tryd.func4, Tryd.ntmps4
  go_wp2_with fail
  refine hexc.mono ?_
  rintro e w1 ⟨rfl, hB1⟩
  clear hN hexc
  replace HCX := Lib.hid (HCX.out.below hB1)
  replace HB := Lib.hid (HB.out.trans (hB1.mono HB.out.size))
  clear hB1
  have k0 := HCX.out.cell 0 _ rfl
  have k1 := HCX.out.cell 1 _ rfl
  have k2 := HCX.out.cell 2 _ rfl
  have k3 := HCX.out.cell 3 _ rfl
  have k4 := HCX.out.cell 4 _ rfl
  have k5 := HCX.out.cell 5 _ rfl
  have k6 := HCX.out.cell 6 _ rfl
  have k7 := HCX.out.cell 7 _ rfl
  have k8 := HCX.out.cell 8 _ rfl
  have k9 := HCX.out.cell 9 _ rfl
  have k10 := HCX.out.cell 10 _ rfl
  have k11 := HCX.out.cell 11 _ rfl
  have k12 := HCX.out.cell 12 _ rfl
  have kl := HCX.out.lt
  simp only [List.getElem_toArray, List.getElem_cons_zero, List.getElem_cons_succ] at k0 k1 k2 k3 k4 k5 k6 k7 k8 k9 k10 k11 k12
  have hwc := HWX.out w1 HB.out
  go_wp2_with fail
  refine hwc.mono ?_
  rintro e w2 ⟨q, d, rfl, hT, hB1⟩
  clear k0 k1 k2 k3 k4 k5 k6 k7 k8 k9 k10 k11 k12 kl
  have hBx : Below w2.heap.size w2 (w2.alloc (.cells #[.int .i64 x0, .int .i64 x1, .int .i64 x2, .int .i64 x3, .int .i64 x4, .int .i64 x5, .int .i64 x6, .int .i64 x7, .int .i64 x8, .int .i64 x9, .slice q l d] 24)) := (Below.refl _ _).alloc (Nat.le_refl _) _
  have HP : Hid (CellsAt w2.heap.size #[.int .i64 x0, .int .i64 x1, .int .i64 x2, .int .i64 x3, .int .i64 x4, .int .i64 x5, .int .i64 x6, .int .i64 x7, .int .i64 x8, .int .i64 x9, .slice q l d] (w2.alloc (.cells #[.int .i64 x0, .int .i64 x1, .int .i64 x2, .int .i64 x3, .int .i64 x4, .int .i64 x5, .int .i64 x6, .int .i64 x7, .int .i64 x8, .int .i64 x9, .slice q l d] 24))) := Lib.hid (CellsAt.new _ _ _)
  have HT := Lib.hid (hT.below hBx)
  replace HB := Lib.hid (HB.out.trans ((hB1.trans (hBx.mono hB1.size)).mono HB.out.size))
  clear hBx hB1 hT hwc HCX HWX
  obtain ⟨P, hPP⟩ : ∃ P, w2.heap.size = P := ⟨_, rfl⟩
  rw [hPP] at HP
  have hRP : Calls Tryd.prog 14 #[.agg #[.int .i64 x0, .int .i64 x1, .int .i64 x2, .int .i64 x3, .int .i64 x4, .int .i64 x5, .int .i64 x6, .int .i64 x7, .int .i64 x8, .int .i64 x9, .slice q l d]] (w2.alloc (.cells #[.int .i64 x0, .int .i64 x1, .int .i64 x2, .int .i64 x3, .int .i64 x4, .int .i64 x5, .int .i64 x6, .int .i64 x7, .int .i64 x8, .int .i64 x9, .slice q l d] 24)) fun e w' => e = .returned (.agg #[.int .i64 x0, .int .i64 x1, .int .i64 x2, .int .i64 x3, .int .i64 x4, .int .i64 x5, .int .i64 x6, .int .i64 x7, .int .i64 x8, .int .i64 x9, .slice q l d]) ∧ Below (w2.alloc (.cells #[.int .i64 x0, .int .i64 x1, .int .i64 x2, .int .i64 x3, .int .i64 x4, .int .i64 x5, .int .i64 x6, .int .i64 x7, .int .i64 x8, .int .i64 x9, .slice q l d] 24)).heap.size (w2.alloc (.cells #[.int .i64 x0, .int .i64 x1, .int .i64 x2, .int .i64 x3, .int .i64 x4, .int .i64 x5, .int .i64 x6, .int .i64 x7, .int .i64 x8, .int .i64 x9, .slice q l d] 24)) w' := refpol_any [x0, x1, x2, x3, x4, x5, x6, x7, x8, x9] q l d _ rfl
  have hTX : ∀ W', Below (w2.alloc (.cells #[.int .i64 x0, .int .i64 x1, .int .i64 x2, .int .i64 x3, .int .i64 x4, .int .i64 x5, .int .i64 x6, .int .i64 x7, .int .i64 x8, .int .i64 x9, .slice q l d] 24)).heap.size (w2.alloc (.cells #[.int .i64 x0, .int .i64 x1, .int .i64 x2, .int .i64 x3, .int .i64 x4, .int .i64 x5, .int .i64 x6, .int .i64 x7, .int .i64 x8, .int .i64 x9, .slice q l d] 24)) W' → Calls Tryd.prog 20 #[.agg #[.int .i64 x0, .int .i64 x1, .int .i64 x2, .int .i64 x3, .int .i64 x4, .int .i64 x5, .int .i64 x6, .int .i64 x7, .int .i64 x8, .int .i64 x9, .slice q l d]] W' fun e w' => e = .returned (.string (tx (textZ [x0, x1, x2, x3, x4, x5, x6, x7, x8, x9] t))) ∧ Below W'.heap.size W' w' := fun W' h => ref_text_in x0 x1 x2 x3 x4 x5 x6 x7 x8 x9 q l d t HLT.out W' HIN.out (by omega) (HT.out.below h)
  have HTX := Lib.hid hTX
  obtain ⟨TT, hTT⟩ : ∃ S, tx (textZ [x0, x1, x2, x3, x4, x5, x6, x7, x8, x9] t) = S := ⟨_, rfl⟩
  have hts : TT.size ≤ 286 + 21 * l := by rw [← hTT, tx_len]; exact HTL.out
  rw [hTT] at HTX
  have HTS := Lib.hid hts
  have HRP := Lib.hid hRP
  clear hTT hTX hts hRP
  have k0 := HP.out.cell 0 _ rfl
  have k1 := HP.out.cell 1 _ rfl
  have k2 := HP.out.cell 2 _ rfl
  have k3 := HP.out.cell 3 _ rfl
  have k4 := HP.out.cell 4 _ rfl
  have k5 := HP.out.cell 5 _ rfl
  have k6 := HP.out.cell 6 _ rfl
  have k7 := HP.out.cell 7 _ rfl
  have k8 := HP.out.cell 8 _ rfl
  have k9 := HP.out.cell 9 _ rfl
  have k10 := HP.out.cell 10 _ rfl
  have kl := HP.out.lt
  simp only [List.getElem_toArray, List.getElem_cons_zero, List.getElem_cons_succ] at k0 k1 k2 k3 k4 k5 k6 k7 k8 k9 k10
  rw [← hPP] at kl k0 k1 k2 k3 k4 k5 k6 k7 k8 k9 k10
  go_upto_region 9 with fail
  rw [hPP] at kl k0 k1 k2 k3 k4 k5 k6 k7 k8 k9 k10
  generalize hW3 : w2.alloc (.cells #[.int .i64 x0, .int .i64 x1, .int .i64 x2, .int .i64 x3, .int .i64 x4, .int .i64 x5, .int .i64 x6, .int .i64 x7, .int .i64 x8, .int .i64 x9, .slice q l d] 24) = W3 at *
  have hrp := HRP.out
  clear hPP HRP hW3
  go_wp2_with fail
  refine hrp.mono ?_
  rintro e w4 ⟨rfl, hB1⟩
  clear k0 k1 k2 k3 k4 k5 k6 k7 k8 k9 k10 kl
  replace HP := Lib.hid (HP.out.below hB1)
  replace HT := Lib.hid (HT.out.below hB1)
  replace HB := Lib.hid (HB.out.trans (hB1.mono HB.out.size))
  have htx := HTX.out _ hB1
  clear hrp hB1 HTX
  go_wp2_with fail
  refine htx.mono ?_
  rintro e w5 ⟨rfl, hB1⟩
  replace HP := Lib.hid (HP.out.below hB1)
  replace HT := Lib.hid (HT.out.below hB1)
  replace HB := Lib.hid (HB.out.trans (hB1.mono HB.out.size))
  clear htx hB1
  have hbd := fun W => words_any TT (by have := HTS.out; omega) p0 HP0.out HP1.out W
  go_wp2_with fail
  refine (hbd _).mono ?_
  rintro e w6 ⟨S', rfl, hS', rfl⟩
  have HS' : Hid (S'.size ≤ 1099511627776) := Lib.hid (by have := HTS.out; omega)
  clear hbd hS'
  go_upto_region 12 with fail
  refine reads_12 _ (by kernel_rfl) _ _ P own p0 z S' b x0 x1 x2 x3 x4 x5 x6 x7 x8 x9 q l d t HLT.out hl HP.out HT.out _ _ _ _ _ _ _ _ _ _ _ _ _ _ _ _ _ _ _ _ _ _ _ _ _ _ _ _ _ _ _ _ _ _ _ _ _ _ _ _ _ _ _ _ _ _ _ _ _ _ _ _ _ _ _ _ _ _ _ _ _ _ _ _ _ _ _ _ _ _ _ _ _ _ _ _ _ _ _ _ _ _ _ _ _ _ _ _ _ _ _ _ _ _ _ _ _ _ _ _ _ _ _ _ _ _ _ _ _ _ _ _ _ _ _ ?_
  intro W' Y z16 z57 z58 z59 z60 z61 z62 hY hB'
  rename_i K hK
  refine hK _ _ ?_
  clear hK
  exact reads_13 _ (by kernel_rfl) w W' P own p0 z S' b Y HS'.out HBB.out hY HP0.out HP1.out HZ0.out HZ1.out (HB.out.trans (hB'.mono HB.out.size)) _ _ _ _ _ _ _ _ _ _ _ _ _ _ _ _ _ _ _ _ _ _ _ _ _ _ _ _ _ _ _ _ _ _ _ _ _ _ _ _ _ _ _ _ _ _ _ _ _ _ _ _ _ _ _ _ _ _ _ _ _ _ _ _ _ _ _ _ _ _ _ _ _ _ _ _ _ _ _ _ _ _ _ _ _ _ _ _ _ _ _ _ _ _ _ _ _ _ _ _ _ _ _ _ _ _ _ _ _ _ _ _ _ _
set_option maxRecDepth 100000 in
set_option maxHeartbeats 16000000 in
theorem reads_c3 (a0 a1 a2 a3 a4 a5 a6 a7 a8 a9 x0 x1 x2 x3 x4 x5 x6 x7 x8 x9 : Int) (qx : Option Addr) (lx dx : Nat) (ox : Bool) (px : Option Addr) (hsx : List Nat) (cx : Nat) (t : List Int) (l : Nat) (S b : ByteArray) (own : Nat) (p0 z : Int) (hown : own < 256) (hki : (own : Int) % 4 = 3) (ht : t.length = l) (hl : l ≤ 1048576)
    (hSS : S.size ≤ 1048576) (hbb : b.size ≤ 1048576) (hp0 : -9223372036854775808 ≤ p0) (hp1 : p0 ≤ 9223372036854775807) (z0 : 0 ≤ z) (z1 : z < 256)
    (hin : ∀ x ∈ [x0, x1, x2, x3, x4, x5, x6, x7, x8, x9], In64 x) (htin : ∀ x ∈ t, In64 x) (w : World) (hX : Tens w)
    (hwx : ∀ W', Below w.heap.size w W' → Calls Tryd.prog 11 #[.agg #[.int .i64 a0, .int .i64 a1, .int .i64 a2, .int .i64 a3, .int .i64 a4, .int .i64 a5, .int .i64 a6, .int .i64 a7, .int .i64 a8, .int .i64 a9, .slice qx lx dx, .bool ox, .slice px hsx.length cx]] W' fun e w' => ∃ q d, e = .returned (.agg #[.int .i64 x0, .int .i64 x1, .int .i64 x2, .int .i64 x3, .int .i64 x4, .int .i64 x5, .int .i64 x6, .int .i64 x7, .int .i64 x8, .int .i64 x9, .slice q l d]) ∧ Tr (fun _ => False) (.slice q l d) t w' ∧ Below W'.heap.size W' w') :
    Calls Tryd.prog 4 #[.agg #[.int .i64 a0, .int .i64 a1, .int .i64 a2, .int .i64 a3, .int .i64 a4, .int .i64 a5, .int .i64 a6, .int .i64 a7, .int .i64 a8, .int .i64 a9, .slice qx lx dx, .bool ox, .slice px hsx.length cx], .string S, .int .u8 (own : Int), .int .i64 p0, .int .u8 z, .string b] w fun e w' => e = .returned (.bool true) ∧ Below w.heap.size w w' := by
  obtain ⟨N, hN⟩ : ∃ N, w.heap.size = N := ⟨_, rfl⟩
  have hB0 : Below w.heap.size w (w.alloc (.cells #[.int .i64 a0, .int .i64 a1, .int .i64 a2, .int .i64 a3, .int .i64 a4, .int .i64 a5, .int .i64 a6, .int .i64 a7, .int .i64 a8, .int .i64 a9, .slice qx lx dx, .bool ox, .slice px hsx.length cx] 27)) := (Below.refl _ _).alloc (Nat.le_refl _) _
  have HCX : Hid (CellsAt N #[.int .i64 a0, .int .i64 a1, .int .i64 a2, .int .i64 a3, .int .i64 a4, .int .i64 a5, .int .i64 a6, .int .i64 a7, .int .i64 a8, .int .i64 a9, .slice qx lx dx, .bool ox, .slice px hsx.length cx] (w.alloc (.cells #[.int .i64 a0, .int .i64 a1, .int .i64 a2, .int .i64 a3, .int .i64 a4, .int .i64 a5, .int .i64 a6, .int .i64 a7, .int .i64 a8, .int .i64 a9, .slice qx lx dx, .bool ox, .slice px hsx.length cx] 27))) := Lib.hid (CellsAt.newAt #[.int .i64 a0, .int .i64 a1, .int .i64 a2, .int .i64 a3, .int .i64 a4, .int .i64 a5, .int .i64 a6, .int .i64 a7, .int .i64 a8, .int .i64 a9, .slice qx lx dx, .bool ox, .slice px hsx.length cx] 27 w N hN.symm)
  have HB := Lib.hid hB0
  have hex := fun W hW => examples_any W hW
  have hexc := hex _ (Tens.below hX hB0)
  have HWX := Lib.hid hwx
  have HIN := Lib.hid hin
  have HLT := Lib.hid ht
  have HSS := Lib.hid hSS
  have HBB := Lib.hid hbb
  have HP0 := Lib.hid hp0
  have HP1 := Lib.hid hp1
  have HZ0 := Lib.hid z0
  have HZ1 := Lib.hid z1
  have htl : (textZ [x0, x1, x2, x3, x4, x5, x6, x7, x8, x9] t).length ≤ 286 + 21 * l := by rw [← ht]; exact text_len rfl hin htin
  have HTL := Lib.hid htl
  clear hB0 hX hex hwx hin ht hSS hbb hp0 hp1 z0 z1 htl htin
  go_enter Tryd.func4, Tryd.ntmps4
  go_wp2_with fail
  refine hexc.mono ?_
  rintro e w1 ⟨rfl, hB1⟩
  clear hN hexc
  replace HCX := Lib.hid (HCX.out.below hB1)
  replace HB := Lib.hid (HB.out.trans (hB1.mono HB.out.size))
  clear hB1
  have k0 := HCX.out.cell 0 _ rfl
  have k1 := HCX.out.cell 1 _ rfl
  have k2 := HCX.out.cell 2 _ rfl
  have k3 := HCX.out.cell 3 _ rfl
  have k4 := HCX.out.cell 4 _ rfl
  have k5 := HCX.out.cell 5 _ rfl
  have k6 := HCX.out.cell 6 _ rfl
  have k7 := HCX.out.cell 7 _ rfl
  have k8 := HCX.out.cell 8 _ rfl
  have k9 := HCX.out.cell 9 _ rfl
  have k10 := HCX.out.cell 10 _ rfl
  have k11 := HCX.out.cell 11 _ rfl
  have k12 := HCX.out.cell 12 _ rfl
  have kl := HCX.out.lt
  simp only [List.getElem_toArray, List.getElem_cons_zero, List.getElem_cons_succ] at k0 k1 k2 k3 k4 k5 k6 k7 k8 k9 k10 k11 k12
  have hwc := HWX.out w1 HB.out
  go_wp2_with fail
  refine hwc.mono ?_
  rintro e w2 ⟨q, d, rfl, hT, hB1⟩
  clear k0 k1 k2 k3 k4 k5 k6 k7 k8 k9 k10 k11 k12 kl
  have hBx : Below w2.heap.size w2 (w2.alloc (.cells #[.int .i64 x0, .int .i64 x1, .int .i64 x2, .int .i64 x3, .int .i64 x4, .int .i64 x5, .int .i64 x6, .int .i64 x7, .int .i64 x8, .int .i64 x9, .slice q l d] 24)) := (Below.refl _ _).alloc (Nat.le_refl _) _
  have HP : Hid (CellsAt w2.heap.size #[.int .i64 x0, .int .i64 x1, .int .i64 x2, .int .i64 x3, .int .i64 x4, .int .i64 x5, .int .i64 x6, .int .i64 x7, .int .i64 x8, .int .i64 x9, .slice q l d] (w2.alloc (.cells #[.int .i64 x0, .int .i64 x1, .int .i64 x2, .int .i64 x3, .int .i64 x4, .int .i64 x5, .int .i64 x6, .int .i64 x7, .int .i64 x8, .int .i64 x9, .slice q l d] 24))) := Lib.hid (CellsAt.new _ _ _)
  have HT := Lib.hid (hT.below hBx)
  replace HB := Lib.hid (HB.out.trans ((hB1.trans (hBx.mono hB1.size)).mono HB.out.size))
  clear hBx hB1 hT hwc HCX HWX
  obtain ⟨P, hPP⟩ : ∃ P, w2.heap.size = P := ⟨_, rfl⟩
  rw [hPP] at HP
  have hRP : Calls Tryd.prog 14 #[.agg #[.int .i64 x0, .int .i64 x1, .int .i64 x2, .int .i64 x3, .int .i64 x4, .int .i64 x5, .int .i64 x6, .int .i64 x7, .int .i64 x8, .int .i64 x9, .slice q l d]] (w2.alloc (.cells #[.int .i64 x0, .int .i64 x1, .int .i64 x2, .int .i64 x3, .int .i64 x4, .int .i64 x5, .int .i64 x6, .int .i64 x7, .int .i64 x8, .int .i64 x9, .slice q l d] 24)) fun e w' => e = .returned (.agg #[.int .i64 x0, .int .i64 x1, .int .i64 x2, .int .i64 x3, .int .i64 x4, .int .i64 x5, .int .i64 x6, .int .i64 x7, .int .i64 x8, .int .i64 x9, .slice q l d]) ∧ Below (w2.alloc (.cells #[.int .i64 x0, .int .i64 x1, .int .i64 x2, .int .i64 x3, .int .i64 x4, .int .i64 x5, .int .i64 x6, .int .i64 x7, .int .i64 x8, .int .i64 x9, .slice q l d] 24)).heap.size (w2.alloc (.cells #[.int .i64 x0, .int .i64 x1, .int .i64 x2, .int .i64 x3, .int .i64 x4, .int .i64 x5, .int .i64 x6, .int .i64 x7, .int .i64 x8, .int .i64 x9, .slice q l d] 24)) w' := refpol_any [x0, x1, x2, x3, x4, x5, x6, x7, x8, x9] q l d _ rfl
  have hTX : ∀ W', Below (w2.alloc (.cells #[.int .i64 x0, .int .i64 x1, .int .i64 x2, .int .i64 x3, .int .i64 x4, .int .i64 x5, .int .i64 x6, .int .i64 x7, .int .i64 x8, .int .i64 x9, .slice q l d] 24)).heap.size (w2.alloc (.cells #[.int .i64 x0, .int .i64 x1, .int .i64 x2, .int .i64 x3, .int .i64 x4, .int .i64 x5, .int .i64 x6, .int .i64 x7, .int .i64 x8, .int .i64 x9, .slice q l d] 24)) W' → Calls Tryd.prog 20 #[.agg #[.int .i64 x0, .int .i64 x1, .int .i64 x2, .int .i64 x3, .int .i64 x4, .int .i64 x5, .int .i64 x6, .int .i64 x7, .int .i64 x8, .int .i64 x9, .slice q l d]] W' fun e w' => e = .returned (.string (tx (textZ [x0, x1, x2, x3, x4, x5, x6, x7, x8, x9] t))) ∧ Below W'.heap.size W' w' := fun W' h => ref_text_in x0 x1 x2 x3 x4 x5 x6 x7 x8 x9 q l d t HLT.out W' HIN.out (by omega) (HT.out.below h)
  have HTX := Lib.hid hTX
  obtain ⟨TT, hTT⟩ : ∃ S, tx (textZ [x0, x1, x2, x3, x4, x5, x6, x7, x8, x9] t) = S := ⟨_, rfl⟩
  have hts : TT.size ≤ 286 + 21 * l := by rw [← hTT, tx_len]; exact HTL.out
  rw [hTT] at HTX
  have HTS := Lib.hid hts
  have HRP := Lib.hid hRP
  clear hTT hTX hts hRP
  have k0 := HP.out.cell 0 _ rfl
  have k1 := HP.out.cell 1 _ rfl
  have k2 := HP.out.cell 2 _ rfl
  have k3 := HP.out.cell 3 _ rfl
  have k4 := HP.out.cell 4 _ rfl
  have k5 := HP.out.cell 5 _ rfl
  have k6 := HP.out.cell 6 _ rfl
  have k7 := HP.out.cell 7 _ rfl
  have k8 := HP.out.cell 8 _ rfl
  have k9 := HP.out.cell 9 _ rfl
  have k10 := HP.out.cell 10 _ rfl
  have kl := HP.out.lt
  simp only [List.getElem_toArray, List.getElem_cons_zero, List.getElem_cons_succ] at k0 k1 k2 k3 k4 k5 k6 k7 k8 k9 k10
  rw [← hPP] at kl k0 k1 k2 k3 k4 k5 k6 k7 k8 k9 k10
  go_upto_region 11 with fail
  rw [hPP] at kl k0 k1 k2 k3 k4 k5 k6 k7 k8 k9 k10
  generalize hW3 : w2.alloc (.cells #[.int .i64 x0, .int .i64 x1, .int .i64 x2, .int .i64 x3, .int .i64 x4, .int .i64 x5, .int .i64 x6, .int .i64 x7, .int .i64 x8, .int .i64 x9, .slice q l d] 24) = W3 at *
  have hrp := HRP.out
  clear hPP HRP hW3
  have hov1 : (9223372036854775807 < S.size + 1) = False := by have := HSS.out; simp; omega
  have hov2 : (9223372036854775807 < S.size + 1 + TT.size) = False := by have := HSS.out; have := HTS.out; simp; omega
  go_wp2_with fail
  refine hrp.mono ?_
  rintro e w4 ⟨rfl, hB1⟩
  clear k0 k1 k2 k3 k4 k5 k6 k7 k8 k9 k10 kl
  replace HP := Lib.hid (HP.out.below hB1)
  replace HT := Lib.hid (HT.out.below hB1)
  replace HB := Lib.hid (HB.out.trans (hB1.mono HB.out.size))
  have htx := HTX.out _ hB1
  clear hrp hB1 HTX
  go_wp2_with fail
  refine htx.mono ?_
  rintro e w5 ⟨rfl, hB1⟩
  replace HP := Lib.hid (HP.out.below hB1)
  replace HT := Lib.hid (HT.out.below hB1)
  replace HB := Lib.hid (HB.out.trans (hB1.mono HB.out.size))
  clear htx hB1
  have HS' : Hid ((S ++ (⟨#[32]⟩ : ByteArray) ++ TT).size ≤ 1099511627776) := Lib.hid (by have := HTS.out; have := HSS.out; rw [ByteArray.size_append, ByteArray.size_append]; have e : (⟨#[32]⟩ : ByteArray).size = 1 := rfl; omega)
  go_upto_region 12 with fail
  clear hov1 hov2
  refine reads_12 _ (by kernel_rfl) _ _ P own p0 z (S ++ (⟨#[32]⟩ : ByteArray) ++ TT) b x0 x1 x2 x3 x4 x5 x6 x7 x8 x9 q l d t HLT.out hl HP.out HT.out _ _ _ _ _ _ _ _ _ _ _ _ _ _ _ _ _ _ _ _ _ _ _ _ _ _ _ _ _ _ _ _ _ _ _ _ _ _ _ _ _ _ _ _ _ _ _ _ _ _ _ _ _ _ _ _ _ _ _ _ _ _ _ _ _ _ _ _ _ _ _ _ _ _ _ _ _ _ _ _ _ _ _ _ _ _ _ _ _ _ _ _ _ _ _ _ _ _ _ _ _ _ _ _ _ _ _ _ _ _ _ _ _ _ _ ?_
  intro W' Y z16 z57 z58 z59 z60 z61 z62 hY hB'
  rename_i K hK
  refine hK _ _ ?_
  clear hK
  exact reads_13 _ (by kernel_rfl) w W' P own p0 z (S ++ (⟨#[32]⟩ : ByteArray) ++ TT) b Y HS'.out HBB.out hY HP0.out HP1.out HZ0.out HZ1.out (HB.out.trans (hB'.mono HB.out.size)) _ _ _ _ _ _ _ _ _ _ _ _ _ _ _ _ _ _ _ _ _ _ _ _ _ _ _ _ _ _ _ _ _ _ _ _ _ _ _ _ _ _ _ _ _ _ _ _ _ _ _ _ _ _ _ _ _ _ _ _ _ _ _ _ _ _ _ _ _ _ _ _ _ _ _ _ _ _ _ _ _ _ _ _ _ _ _ _ _ _ _ _ _ _ _ _ _ _ _ _ _ _ _ _ _ _ _ _ _ _ _ _ _ _
end Go.Proofs.YtdhkonaebhpeeaaDoor.Po

namespace Go.Proofs.YtdhkonaebhpeeaaDoor.Po
open Go Go.RowKit

theorem small_string {H : Type} {ds : List (DataW H)} (hk : Rows.uptoSmall H ds = true) (j : Nat) {s : ByteArray} (hd : ds[j]? = some (.lit (.string s.data.toList))) : s.size ≤ 1048576 := by
  have h2 := small_at hk j hd
  have h3 : Rows.uptoBulk (DataW.lit (H := H) (.string s.data.toList)) = s.data.toList.length + 1 := by simp [Rows.uptoBulk]
  have h4 : s.data.toList.length = s.size := by rw [Array.length_toList]; rfl
  omega
set_option maxRecDepth 100000 in
theorem PolicyReads_walk (x : WishV) (S : ByteArray) (hS : S.size ≤ 1048576) (own : Int) (ho : (Lit.int .u8 own).wf = true) (p0 : Int) (hp : (Lit.int .i64 p0).wf = true) (z : Int) (hz : (Lit.int .u8 z).wf = true) (b : ByteArray) (hb : b.size ≤ 1048576) (w : World) (hX : Tens w) (hx : x.fits w) (sx : x.t.length ≤ 1048576) :
    Calls Tryd.prog 4 #[.agg x.vals, .string S, .int .u8 own, .int .i64 p0, .int .u8 z, .string b] w fun e w' => e = .returned (.bool true) ∧ Below w.heap.size w w' := by
  have go : 0 ≤ own ∧ own ≤ 255 := by simpa [Lit.wf, IntKind.min, IntKind.max, IntKind.signed, IntKind.bits] using ho
  have gz : 0 ≤ z ∧ z ≤ 255 := by simpa [Lit.wf, IntKind.min, IntKind.max, IntKind.signed, IntKind.bits] using hz
  have gp : -9223372036854775808 ≤ p0 ∧ p0 ≤ 9223372036854775807 := by simpa [Lit.wf, IntKind.min, IntKind.max, IntKind.signed, IntKind.bits] using hp
  obtain ⟨h, rfl⟩ : ∃ h : Nat, own = h := ⟨own.toNat, by omega⟩
  have hwx : ∀ W', Below w.heap.size w W' → _ := fun W' hb => wish_ends x W' (hx.below hb)
  have hin := wN_in hx
  have htin := wT_in hx
  have hlx := wT_len sx
  obtain ⟨x0, x1, x2, x3, x4, x5, x6, x7, x8, x9, ex⟩ := ten_of (wN_len hx)
  obtain ⟨t, et⟩ : ∃ t, wT x = t := ⟨_, rfl⟩
  rw [ex, et] at hwx
  rw [ex] at hin
  rw [et] at hlx htin
  obtain ⟨nx, qx, tx', dx, ox, px, hsx, cx⟩ := x
  obtain ⟨a0, a1, a2, a3, a4, a5, a6, a7, a8, a9, rfl⟩ := ten_of hx.len
  have hlt : h < 256 := by omega
  rcases (show (h : Int) % 4 = 0 ∨ (h : Int) % 4 = 1 ∨ (h : Int) % 4 = 2 ∨ (h : Int) % 4 = 3 by omega) with hk | hk | hk | hk
  · exact reads_c0 a0 a1 a2 a3 a4 a5 a6 a7 a8 a9 x0 x1 x2 x3 x4 x5 x6 x7 x8 x9 qx tx'.length dx ox px hsx cx t t.length S b h p0 z hlt hk rfl hlx hS hb gp.1 gp.2 gz.1 (by omega) hin htin w hX hwx
  · exact reads_c1 a0 a1 a2 a3 a4 a5 a6 a7 a8 a9 x0 x1 x2 x3 x4 x5 x6 x7 x8 x9 qx tx'.length dx ox px hsx cx t t.length S b h p0 z hlt hk rfl hlx hS hb gp.1 gp.2 gz.1 (by omega) hin htin w hX hwx
  · exact reads_c2 a0 a1 a2 a3 a4 a5 a6 a7 a8 a9 x0 x1 x2 x3 x4 x5 x6 x7 x8 x9 qx tx'.length dx ox px hsx cx t t.length S b h p0 z hlt hk rfl hlx hS hb gp.1 gp.2 gz.1 (by omega) hin htin w hX hwx
  · exact reads_c3 a0 a1 a2 a3 a4 a5 a6 a7 a8 a9 x0 x1 x2 x3 x4 x5 x6 x7 x8 x9 qx tx'.length dx ox px hsx cx t t.length S b h p0 z hlt hk rfl hlx hS hb gp.1 gp.2 gz.1 (by omega) hin htin w hX hwx
end Go.Proofs.YtdhkonaebhpeeaaDoor.Po

