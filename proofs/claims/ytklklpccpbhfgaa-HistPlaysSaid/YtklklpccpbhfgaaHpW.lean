/- HistPlays: one histogram is made, filled, and merged into another: both sides. HistPlays, walked. -/
import Derived.Test.YtklklpccpbhfgaaHpR
import Derived.Deep.Cut
import Derived.Deep.CutBlock
namespace Go.Proofs.Ytklklpccpbhfgaa
open Go Go.RowKit

set_option maxRecDepth 100000 in
set_option maxHeartbeats 16000000 in
theorem plays_close (C : Code) (hC0 : Try.f3.body.bind (findG 34) = some C) (Q : Exit → Act → World → Prop) (B P k G Y b base : Nat) (v u x y : Value) (l m : List Hit) (w0 w1 w : World) (hO : Two B P k v u l l base w0 w1) (hI : Two G Y b x y m m w1.heap.size w1 w) (s0 s1 s2 s3 s4 s5 s6 s7 s8 s9 s10 s11 s12 s13 s15 s17 s18 s19 s21 s23 s24 s25 s26 s27 s28 s29 s30 s31 s32 s33 s34 s35 s36 s37 s38 s39 s40 s41 s42 s43 s44 s45 s46 s47 s48 s49 s50 s51 s52 s53 s54 s55 s56 s57 s58 s59 s60 s61 s62 s63 s64 s65 s66 s67 s68 s69 s70 s71 s72 s73 s74 s75 s76 s77 s78 s79 s80 s81 s82 s83 s84 s85 s86 s87 s88 s89 s90 s91 s92 s93 s94 s95 s96 s97 s98 s99 s100 s101 s102 s103 s104 s105 s106 s107 s108 s109 s110 s111 s112 s113 s114 s115 s116 s117 s118 s119 s120 s121 s122 s123 s124 s125 s126 s127 s128 s129 s130 s131 s132 s133 s134 s135 s136 s137 s138 s139 s140 s141 s142 s143 s144 s145 s146 s147 s148 s149 s150 s151 s152 s153 s154 s155 s156 s157 s158 s159 s160 s161 s162 s163 s164 s165 s166 s167 s168 s169 s170 s171 s172 s173 s174 s175 s176 s177 s178 s179 s180 s181 s182 s183 s184 s185 s186 s187 s188 s189 s190 s191 s192 s193 s194 s195 s196 s197 s198 s199 s200 s201 s202 s203 s204 s205 s206 s207 s208 s209 s210 s211 s212 s213 s214 s215 s216 s217 s218 s219 s220 s221 s222 s223 s224 s225 : Value)
    (hQ : ∀ wc (z152 z153 z154 z155 z156 z157 : Value), (∃ v' u', Two B P k v' u' (mrgL k b l m) (mrgL k b l m) base w0 wc) → Q .normal { tmps := (s0 :: s1 :: s2 :: s3 :: s4 :: s5 :: s6 :: s7 :: s8 :: s9 :: s10 :: s11 :: s12 :: s13 :: .pointer (some ⟨B, 0, none⟩) :: s15 :: .pointer (some ⟨P, 0, none⟩) :: s17 :: s18 :: s19 :: .pointer (some ⟨G, 0, none⟩) :: s21 :: .pointer (some ⟨Y, 0, none⟩) :: s23 :: s24 :: s25 :: s26 :: s27 :: s28 :: s29 :: s30 :: s31 :: s32 :: s33 :: s34 :: s35 :: s36 :: s37 :: s38 :: s39 :: s40 :: s41 :: s42 :: s43 :: s44 :: s45 :: s46 :: s47 :: s48 :: s49 :: s50 :: s51 :: s52 :: s53 :: s54 :: s55 :: s56 :: s57 :: s58 :: s59 :: s60 :: s61 :: s62 :: s63 :: s64 :: s65 :: s66 :: s67 :: s68 :: s69 :: s70 :: s71 :: s72 :: s73 :: s74 :: s75 :: s76 :: s77 :: s78 :: s79 :: s80 :: s81 :: s82 :: s83 :: s84 :: s85 :: s86 :: s87 :: s88 :: s89 :: s90 :: s91 :: s92 :: s93 :: s94 :: s95 :: s96 :: s97 :: s98 :: s99 :: s100 :: s101 :: s102 :: s103 :: s104 :: s105 :: s106 :: s107 :: s108 :: s109 :: s110 :: s111 :: s112 :: s113 :: s114 :: s115 :: s116 :: s117 :: s118 :: s119 :: s120 :: s121 :: s122 :: s123 :: s124 :: s125 :: s126 :: s127 :: s128 :: s129 :: s130 :: s131 :: s132 :: s133 :: s134 :: s135 :: s136 :: s137 :: s138 :: s139 :: s140 :: s141 :: s142 :: s143 :: s144 :: s145 :: s146 :: s147 :: s148 :: s149 :: s150 :: s151 :: z152 :: z153 :: z154 :: z155 :: z156 :: z157 :: .bool false :: s159 :: s160 :: s161 :: s162 :: s163 :: s164 :: s165 :: s166 :: s167 :: s168 :: s169 :: s170 :: s171 :: s172 :: s173 :: s174 :: s175 :: s176 :: s177 :: s178 :: s179 :: s180 :: s181 :: s182 :: s183 :: s184 :: s185 :: s186 :: s187 :: s188 :: s189 :: s190 :: s191 :: s192 :: s193 :: s194 :: s195 :: s196 :: s197 :: s198 :: s199 :: s200 :: s201 :: s202 :: s203 :: s204 :: s205 :: s206 :: s207 :: s208 :: s209 :: s210 :: s211 :: s212 :: s213 :: s214 :: s215 :: s216 :: s217 :: s218 :: s219 :: s220 :: s221 :: s222 :: s223 :: s224 :: s225 :: []).toArray, defers := [] } wc) :
    Code.wp Try.prog C Q { tmps := (s0 :: s1 :: s2 :: s3 :: s4 :: s5 :: s6 :: s7 :: s8 :: s9 :: s10 :: s11 :: s12 :: s13 :: .pointer (some ⟨B, 0, none⟩) :: s15 :: .pointer (some ⟨P, 0, none⟩) :: s17 :: s18 :: s19 :: .pointer (some ⟨G, 0, none⟩) :: s21 :: .pointer (some ⟨Y, 0, none⟩) :: s23 :: s24 :: s25 :: s26 :: s27 :: s28 :: s29 :: s30 :: s31 :: s32 :: s33 :: s34 :: s35 :: s36 :: s37 :: s38 :: s39 :: s40 :: s41 :: s42 :: s43 :: s44 :: s45 :: s46 :: s47 :: s48 :: s49 :: s50 :: s51 :: s52 :: s53 :: s54 :: s55 :: s56 :: s57 :: s58 :: s59 :: s60 :: s61 :: s62 :: s63 :: s64 :: s65 :: s66 :: s67 :: s68 :: s69 :: s70 :: s71 :: s72 :: s73 :: s74 :: s75 :: s76 :: s77 :: s78 :: s79 :: s80 :: s81 :: s82 :: s83 :: s84 :: s85 :: s86 :: s87 :: s88 :: s89 :: s90 :: s91 :: s92 :: s93 :: s94 :: s95 :: s96 :: s97 :: s98 :: s99 :: s100 :: s101 :: s102 :: s103 :: s104 :: s105 :: s106 :: s107 :: s108 :: s109 :: s110 :: s111 :: s112 :: s113 :: s114 :: s115 :: s116 :: s117 :: s118 :: s119 :: s120 :: s121 :: s122 :: s123 :: s124 :: s125 :: s126 :: s127 :: s128 :: s129 :: s130 :: s131 :: s132 :: s133 :: s134 :: s135 :: s136 :: s137 :: s138 :: s139 :: s140 :: s141 :: s142 :: s143 :: s144 :: s145 :: s146 :: s147 :: s148 :: s149 :: s150 :: s151 :: s152 :: s153 :: s154 :: s155 :: s156 :: s157 :: s158 :: s159 :: s160 :: s161 :: s162 :: s163 :: s164 :: s165 :: s166 :: s167 :: s168 :: s169 :: s170 :: s171 :: s172 :: s173 :: s174 :: s175 :: s176 :: s177 :: s178 :: s179 :: s180 :: s181 :: s182 :: s183 :: s184 :: s185 :: s186 :: s187 :: s188 :: s189 :: s190 :: s191 :: s192 :: s193 :: s194 :: s195 :: s196 :: s197 :: s198 :: s199 :: s200 :: s201 :: s202 :: s203 :: s204 :: s205 :: s206 :: s207 :: s208 :: s209 :: s210 :: s211 :: s212 :: s213 :: s214 :: s215 :: s216 :: s217 :: s218 :: s219 :: s220 :: s221 :: s222 :: s223 :: s224 :: s225 :: []).toArray, defers := [] } w := by
  cases hC0
  obtain ⟨hO2, hap, _, hap2, _⟩ := hO.over hI
  have hm := merge_step hO2.size hO2.t hI.t
  have HY := Lib.hid hI.x
  have HT := Lib.hid hO2
  have HAP := Lib.hid hap2
  have HAY := Lib.hid hO
  have hap4 := (hO.over hI).2.2.1
  have HAY := Lib.hid hap4
  have hrm : ∀ W u0 v0, Two B P k v0 u0 (mrgL k b l m) l base w0 W → Hs w1.heap.size 83 Y b y m W → Calls Try.prog 17 #[.pointer (some ⟨P, 0, none⟩), .pointer (some ⟨Y, 0, none⟩)] W (Left base 83 P k u0 (mrgL k b l m) (.int .i64 (mrgC k b l m)) W) := fun W u0 v0 h g => ref_merge_step h.size h.x g
  have HRM := Lib.hid hrm
  clear hO hI hO2 hap hap2 hap4 hrm
  have HQ := Lib.hid hQ
  clear hQ
  obtain ⟨r, hr⟩ : ∃ r, mrgL k b l m = r := ⟨_, rfl⟩
  obtain ⟨c, hc⟩ : ∃ c, mrgC k b l m = c := ⟨_, rfl⟩
  rw [hr] at HQ hm HRM
  rw [hc] at hm HRM
  clear hr hc
  go_wp2_with fail
  refine hm.mono ?_
  rintro e w2 hL
  obtain ⟨rfl, v2, h2, hY2⟩ := HT.out.stepI HY.out HAP.out hL
  have H2 := Lib.hid h2
  have hm2 := HRM.out _ _ _ h2 hY2
  clear hm hL h2 hY2 HRM HY HT
  go_wp2_with fail
  refine hm2.mono ?_
  rintro e w3 hL
  obtain ⟨rfl, u3, h3⟩ := H2.out.stepX hL
  have H3 := Lib.hid h3
  clear hm2 hL h3 H2
  go_wp2
  exact HQ.out _ _ _ _ _ _ _ ⟨_, _, H3.out⟩

/-- The first region of a piece of code, in loops too. -/
def leftB : Code → Option Nat
  | .region i _ _ => some i
  | .seq a _ => leftB a
  | .block _ a => leftB a
  | .loop a => leftB a
  | .scope a => leftB a
  | _ => none
/-- The outermost block that begins with region n. -/
def findB (n : Nat) : Code → Option Code
  | .block i a => match leftB a == some n with
    | true => some (.block i a)
    | false => findB n a
  | .seq a b => match findB n a with
    | some c => some c
    | none => findB n b
  | .cond _ a b => match findB n a with
    | some c => some c
    | none => findB n b
  | .loop a => findB n a
  | .scope a => findB n a
  | _ => none

set_option maxRecDepth 100000 in
set_option maxHeartbeats 32000000 in
theorem plays_fill (C : Code) (hC0 : Try.f3.body.bind (findB 30) = some C) (Q : Exit → Act → World → Prop) (k G Y X dk : Nat) (x0 y0 : Value) (dn : Int) (lp : Option Addr) (zs : List Int) (lcap : Nat) (db : Int) (w1 w : World) (hk : dk < 256) (hll : zs.length ≤ 9223372036854775807) (hX : CellsAt X #[.int .u8 dk, .int .i64 dn, .slice lp zs.length lcap, .int .i64 db] w1) (hL : Ints lp zs w1) (hI : Two G Y k x0 y0 [] [] w1.heap.size w1 w) (s0 s1 s2 s3 s4 s5 s6 s7 s8 s9 s10 s11 s12 s13 s14 s15 s16 s17 s19 s21 s24 s25 s26 s27 s28 s29 s30 s31 s32 s33 s34 s35 s36 s37 s38 s39 s40 s41 s42 s43 s44 s45 s46 s47 s48 s49 s50 s51 s52 s53 s54 s55 s56 s57 s58 s59 s60 s61 s62 s63 s64 s65 s66 s67 s68 s69 s70 s71 s72 s73 s74 s75 s76 s77 s78 s79 s80 s81 s82 s83 s84 s85 s86 s87 s88 s89 s90 s91 s92 s93 s94 s95 s96 s97 s98 s99 s100 s101 s102 s103 s104 s105 s106 s107 s108 s109 s110 s111 s112 s113 s114 s115 s116 s117 s118 s119 s120 s121 s122 s123 s124 s125 s126 s127 s128 s129 s130 s131 s132 s133 s134 s135 s136 s137 s138 s139 s140 s141 s142 s143 s144 s145 s146 s147 s148 s149 s150 s151 s152 s153 s154 s155 s156 s157 s158 s159 s160 s161 s162 s163 s164 s165 s166 s167 s168 s169 s170 s171 s172 s173 s174 s175 s176 s177 s178 s179 s180 s181 s182 s183 s184 s185 s186 s187 s188 s189 s190 s191 s192 s193 s194 s195 s196 s197 s198 s199 s200 s201 s202 s203 s204 s205 s206 s207 s208 s209 s210 s211 s212 s213 s214 s215 s216 s217 s218 s219 s220 s221 s222 s223 s224 s225 : Value)
    (hQ : ∀ wc (z23 z123 z124 z125 z126 z127 z128 z129 z130 z131 z132 z133 z134 z135 z136 z137 z138 z139 z140 z141 z142 z143 z144 z145 z146 z147 z148 z149 z150 z151 : Value), (∃ x y m, Two G Y k x y m m w1.heap.size w1 wc) → Q .normal { tmps := (s0 :: s1 :: s2 :: s3 :: s4 :: s5 :: s6 :: s7 :: s8 :: s9 :: s10 :: s11 :: s12 :: s13 :: s14 :: s15 :: s16 :: s17 :: .pointer (some ⟨X, 0, none⟩) :: s19 :: .pointer (some ⟨G, 0, none⟩) :: s21 :: .pointer (some ⟨Y, 0, none⟩) :: z23 :: s24 :: s25 :: s26 :: s27 :: s28 :: s29 :: s30 :: s31 :: s32 :: s33 :: s34 :: s35 :: s36 :: s37 :: s38 :: s39 :: s40 :: s41 :: s42 :: s43 :: s44 :: s45 :: s46 :: s47 :: s48 :: s49 :: s50 :: s51 :: s52 :: s53 :: s54 :: s55 :: s56 :: s57 :: s58 :: s59 :: s60 :: s61 :: s62 :: s63 :: s64 :: s65 :: s66 :: s67 :: s68 :: s69 :: s70 :: s71 :: s72 :: s73 :: s74 :: s75 :: s76 :: s77 :: s78 :: s79 :: s80 :: s81 :: s82 :: s83 :: s84 :: s85 :: s86 :: s87 :: s88 :: s89 :: s90 :: s91 :: s92 :: s93 :: s94 :: s95 :: s96 :: s97 :: s98 :: s99 :: s100 :: s101 :: s102 :: s103 :: s104 :: s105 :: s106 :: s107 :: s108 :: s109 :: s110 :: s111 :: s112 :: s113 :: s114 :: s115 :: s116 :: s117 :: s118 :: s119 :: s120 :: s121 :: s122 :: z123 :: z124 :: z125 :: z126 :: z127 :: z128 :: z129 :: z130 :: z131 :: z132 :: z133 :: z134 :: z135 :: z136 :: z137 :: z138 :: z139 :: z140 :: z141 :: z142 :: z143 :: z144 :: z145 :: z146 :: z147 :: z148 :: z149 :: z150 :: z151 :: s152 :: s153 :: s154 :: s155 :: s156 :: s157 :: s158 :: s159 :: s160 :: s161 :: s162 :: s163 :: s164 :: s165 :: s166 :: s167 :: s168 :: s169 :: s170 :: s171 :: s172 :: s173 :: s174 :: s175 :: s176 :: s177 :: s178 :: s179 :: s180 :: s181 :: s182 :: s183 :: s184 :: s185 :: s186 :: s187 :: s188 :: s189 :: s190 :: s191 :: s192 :: s193 :: s194 :: s195 :: s196 :: s197 :: s198 :: s199 :: s200 :: s201 :: s202 :: s203 :: s204 :: s205 :: s206 :: s207 :: s208 :: s209 :: s210 :: s211 :: s212 :: s213 :: s214 :: s215 :: s216 :: s217 :: s218 :: s219 :: s220 :: s221 :: s222 :: s223 :: s224 :: s225 :: []).toArray, defers := [] } wc) :
    Code.wp Try.prog C Q { tmps := (s0 :: s1 :: s2 :: s3 :: s4 :: s5 :: s6 :: s7 :: s8 :: s9 :: s10 :: s11 :: s12 :: s13 :: s14 :: s15 :: s16 :: s17 :: .pointer (some ⟨X, 0, none⟩) :: s19 :: .pointer (some ⟨G, 0, none⟩) :: s21 :: .pointer (some ⟨Y, 0, none⟩) :: .int .i64 0 :: s24 :: s25 :: s26 :: s27 :: s28 :: s29 :: s30 :: s31 :: s32 :: s33 :: s34 :: s35 :: s36 :: s37 :: s38 :: s39 :: s40 :: s41 :: s42 :: s43 :: s44 :: s45 :: s46 :: s47 :: s48 :: s49 :: s50 :: s51 :: s52 :: s53 :: s54 :: s55 :: s56 :: s57 :: s58 :: s59 :: s60 :: s61 :: s62 :: s63 :: s64 :: s65 :: s66 :: s67 :: s68 :: s69 :: s70 :: s71 :: s72 :: s73 :: s74 :: s75 :: s76 :: s77 :: s78 :: s79 :: s80 :: s81 :: s82 :: s83 :: s84 :: s85 :: s86 :: s87 :: s88 :: s89 :: s90 :: s91 :: s92 :: s93 :: s94 :: s95 :: s96 :: s97 :: s98 :: s99 :: s100 :: s101 :: s102 :: s103 :: s104 :: s105 :: s106 :: s107 :: s108 :: s109 :: s110 :: s111 :: s112 :: s113 :: s114 :: s115 :: s116 :: s117 :: s118 :: s119 :: s120 :: s121 :: s122 :: s123 :: s124 :: s125 :: s126 :: s127 :: s128 :: s129 :: s130 :: s131 :: s132 :: s133 :: s134 :: s135 :: s136 :: s137 :: s138 :: s139 :: s140 :: s141 :: s142 :: s143 :: s144 :: s145 :: s146 :: s147 :: s148 :: s149 :: s150 :: s151 :: s152 :: s153 :: s154 :: s155 :: s156 :: s157 :: s158 :: s159 :: s160 :: s161 :: s162 :: s163 :: s164 :: s165 :: s166 :: s167 :: s168 :: s169 :: s170 :: s171 :: s172 :: s173 :: s174 :: s175 :: s176 :: s177 :: s178 :: s179 :: s180 :: s181 :: s182 :: s183 :: s184 :: s185 :: s186 :: s187 :: s188 :: s189 :: s190 :: s191 :: s192 :: s193 :: s194 :: s195 :: s196 :: s197 :: s198 :: s199 :: s200 :: s201 :: s202 :: s203 :: s204 :: s205 :: s206 :: s207 :: s208 :: s209 :: s210 :: s211 :: s212 :: s213 :: s214 :: s215 :: s216 :: s217 :: s218 :: s219 :: s220 :: s221 :: s222 :: s223 :: s224 :: s225 :: []).toArray, defers := [] } w := by
  cases hC0
  have HX := Lib.hid hX
  have HL := Lib.hid hL
  have HI := Lib.hid hI
  have HQ := Lib.hid hQ
  obtain ⟨n, hn⟩ : ∃ n, zs.length = n := ⟨_, rfl⟩
  have HN := Lib.hid hn
  have hn2 : n ≤ 9223372036854775807 := hn ▸ hll
  have hrd : ∀ W, Below w1.heap.size w1 W → W.cell? ⟨X, 2, none⟩ = some (.slice lp n lcap) := fun W h => by rw [← hn]; exact (hX.belowAt h hX.lt).cell 2 _ rfl
  have HRD := Lib.hid hrd
  clear hX hL hI hll hrd hn hQ
  go_wp2
  go_loopg [23] (min n 10) (fun g i1 wx => ∃ (j : Nat) (x y : Value) (m : List Hit), j + g = min n 10 ∧ i1 = .int .i64 j ∧ Two G Y k x y m m w1.heap.size w1 wx)
  case atStart => exact ⟨0, _, _, [], by omega, rfl, HI.out⟩
  case round =>
    obtain ⟨j, x, y, m, hjg, rfl, hT⟩ := hrel
    have HT := Lib.hid hT
    have hc2 := HRD.out _ hT.b
    clear hT
    cases gk with
    | zero =>
      have hend : ¬ (j < n) ∨ (j < n ∧ ¬ (j < 10)) := by omega
      clear hjg
      rcases hend with hend | ⟨hend1, hend⟩
      all_goals
        go_wp2
        exact HQ.out _ _ _ _ _ _ _ _ _ _ _ _ _ _ _ _ _ _ _ _ _ _ _ _ _ _ _ _ _ _ _ ⟨_, _, _, HT.out⟩
    | succ g =>
      have hj1 : j < n := by omega
      have hj2 : j < 10 := by omega
      have hji : (j : Int) < (n : Int) := by omega
      obtain ⟨D, o, hlp, hDl, hdc, hz⟩ := HL.out j (by rw [HN.out]; exact hj1)
      have HDC := Lib.hid hdc
      have HZ := Lib.hid hz
      have HDL := Lib.hid hDl
      subst hlp
      clear hdc hz hDl
      go_upto_region 32 with fail
      refine plays_g _ (by kernel_rfl) _ G Y k _ X dk x y m m dn D o n lcap db j _ w1 _ hk HZ.out hj1 (HN.out ▸ HX.out) HX.out.lt HDL.out HDC.out HT.out _ _ _ _ _ _ _ _ _ _ _ _ _ _ _ _ _ _ _ _ _ _ _ _ _ _ _ _ _ _ _ _ _ _ _ _ _ _ _ _ _ _ _ _ _ _ _ _ _ _ _ _ _ _ _ _ _ _ _ _ _ _ _ _ _ _ _ _ _ _ _ _ _ _ _ _ _ _ _ _ _ _ _ _ _ _ _ _ _ _ _ _ _ _ _ _ _ _ _ _ _ _ _ _ _ _ _ _ _ _ _ _ _ _ _ _ _ _ _ _ _ _ _ _ _ _ _ _ _ _ _ _ _ _ _ _ _ _ _ _ _ _ _ _ _ _ _ _ _ _ _ _ _ _ _ _ _ _ _ _ _ _ _ _ _ _ _ _ _ _ _ _ _ _ _ _ _ _ _ _ _ _ _ _ _ _ _ _ _ _ _ _ _ _ _ _ _ _ _ _ _ _ _ _ _ _ _ _ _ _ _ _ _ _ _ _ _ _ _ _ _ _ _ ?_
      intro wc hc
      obtain ⟨x', hc⟩ := hc
      have HT2 := Lib.hid hc
      clear hc hc2 HT
      go_upto_region 33 with fail
      refine plays_y _ (by kernel_rfl) _ G Y k _ X dk x' y _ m dn D o n lcap db j _ w1 _ hk HZ.out hj1 (HN.out ▸ HX.out) HX.out.lt HDL.out HDC.out HT2.out _ _ _ _ _ _ _ _ _ _ _ _ _ _ _ _ _ _ _ _ _ _ _ _ _ _ _ _ _ _ _ _ _ _ _ _ _ _ _ _ _ _ _ _ _ _ _ _ _ _ _ _ _ _ _ _ _ _ _ _ _ _ _ _ _ _ _ _ _ _ _ _ _ _ _ _ _ _ _ _ _ _ _ _ _ _ _ _ _ _ _ _ _ _ _ _ _ _ _ _ _ _ _ _ _ _ _ _ _ _ _ _ _ _ _ _ _ _ _ _ _ _ _ _ _ _ _ _ _ _ _ _ _ _ _ _ _ _ _ _ _ _ _ _ _ _ _ _ _ _ _ _ _ _ _ _ _ _ _ _ _ _ _ _ _ _ _ _ _ _ _ _ _ _ _ _ _ _ _ _ _ _ _ _ _ _ _ _ _ _ _ _ _ _ _ _ _ _ _ _ _ _ _ _ _ _ _ _ _ _ _ _ _ _ _ _ _ _ _ _ _ _ _ ?_
      intro wd hc
      obtain ⟨y', hc⟩ := hc
      have HT3 := Lib.hid hc
      clear hc HT2
      go_wp2
      go_roundg g
      case measure => omega
      case rel => exact ⟨j + 1, _, _, _, by omega, by go_num, HT3.out⟩

end Go.Proofs.Ytklklpccpbhfgaa

namespace Go.Proofs.Ytklklpccpbhfgaa
open Go Go.RowKit

theorem tmod_bd8 (n : Int) : -8 < n.tmod 8 ∧ n.tmod 8 < 8 := by
  have h1 := Int.tmod_lt_of_pos n (show (0 : Int) < 8 by decide)
  have h2 := Int.tmod_lt_of_pos (-n) (show (0 : Int) < 8 by decide)
  rw [Int.neg_tmod] at h2
  omega
set_option maxRecDepth 100000 in
set_option maxHeartbeats 64000000 in
theorem plays_any (bits : Int) (hb : (Lit.int .i64 bits).wf = true) (near : Bool) (p : Option Addr) (n cap : Nat) (hn : n ≤ 9223372036854775807) (r : Nat) (hr : r < 18446744073709551616) (num : Nat) (hnum : num < 18446744073709551616) (den : Nat) (hden : den < 18446744073709551616) (w : World) (hD : Deeds p n w) :
    Calls Try.prog 3 #[.int .i64 bits, .bool near, .slice p n cap, .int .u64 r, .int .u64 num, .int .u64 den] w fun e w' => e = .returned (.bool true) ∧ Below w.heap.size w w' := by
  have hx := wf_i64 hb
  clear hb
  have HD := Lib.hid hD
  clear hD
  have hcase : (near = false ∧ (bits < 0 ∨ 4 < bits)) ∨ (near = false ∧ ∃ k : Nat, bits = k ∧ k ≤ 4) ∨ (near = true ∧ ∃ y k r' n' d' : Nat, IntKind.u64.wrap bits = (y : Int) ∧ (y : Int) % 5 = (k : Int) ∧ k ≤ 4 ∧ (r : Int) % 70 = r' ∧ r' < 70 ∧ (num : Int) % 110 = n' ∧ n' < 110 ∧ (den : Int) % 100 = d' ∧ d' < 100) := by
    cases near with
    | true =>
      refine .inr (.inr ⟨rfl, ?_⟩)
      have h1 : 0 ≤ IntKind.u64.wrap bits := by
        unfold IntKind.wrap
        simp [IntKind.signed, IntKind.bits]
        omega
      exact ⟨(IntKind.u64.wrap bits).toNat, (IntKind.u64.wrap bits).toNat % 5, r % 70, num % 110, den % 100, by omega, by omega, by omega, by omega, by omega, by omega, by omega, by omega, by omega⟩
    | false =>
      by_cases h : bits < 0 ∨ 4 < bits
      · exact .inl ⟨rfl, h⟩
      · exact .inr (.inl ⟨rfl, bits.toNat, by omega, by omega⟩)
  rcases hcase with ⟨rfl, hout⟩ | ⟨rfl, k, rfl, hk4⟩ | ⟨rfl, y, k, r', n', d', hy, hk, hk4, hr1, hr2, hn1, hn2, hd1, hd2⟩
  · have hno := new_out bits hout
    have hro := ref_new_out bits hout
    have HN := Lib.hid hout
    clear hout
    go_enter Try.func3, Try.ntmps3
    go_wp2_with fail
    refine (examples_any _).mono ?_
    rintro e W1 ⟨rfl, hB⟩
    go_wp2_with fail
    refine (hno _).mono ?_
    rintro e W2 ⟨rfl, hB2⟩
    have HB := Lib.hid (below_on hB hB2 (Nat.le_refl _))
    clear hB hB2
    go_wp2_with fail
    refine (hro _).mono ?_
    rintro e W3 ⟨rfl, rfl⟩
    go_wp2
    go_ret
    exact ⟨rfl, HB.out⟩
  case' inr.inl =>
    clear hx
    have hR64 := Lib.hid hr
  case' inr.inr =>
    have hk2 : IntKind.i64.wrap (k : Int) = (k : Int) := IntWalk.i64_in _ (by omega)
    have hk3 : IntKind.u64.wrap (k : Int) = (k : Int) := IntWalk.u64_in _ (by omega)
    have hr3 : IntKind.u64.wrap (r' : Int) = (r' : Int) := IntWalk.u64_in _ (by omega)
    have hn3 : IntKind.u64.wrap (n' : Int) = (n' : Int) := IntWalk.u64_in _ (by omega)
    have hd3 : IntKind.u64.wrap (d' : Int) = (d' : Int) := IntWalk.u64_in _ (by omega)
    have hR64 : Hid (r' < 18446744073709551616) := Lib.hid (by omega)
  all_goals
    have hnew := new_any k hk4
    have hrnew := ref_new_any k hk4
    have HK4 := Lib.hid hk4
    go_enter Try.func3, Try.ntmps3
    go_wp2_with fail
    refine (examples_any _).mono ?_
    rintro e W1 ⟨rfl, hB1⟩
    go_wp2_with fail
    refine (hnew _).mono ?_
    rintro e W2 ⟨B, rfl, hB2, _, hT2⟩
    go_wp2_with fail
    refine (hrnew _).mono ?_
    rintro e W3 ⟨P, rfl, hB3, hX3⟩
    have HTW := Lib.hid (Two.start hB1 hT2 hB2 hX3 hB3)
    clear hB1 hB2 hB3 hT2 hX3 hnew hrnew hk4
    go_upto_block 0 with fail
    go_cut [17] from 73 to 158 (fun x17 wx => ∃ (v u : Value) (l : List Hit), Two B P k v u l l w.heap.size w wx)
    case rest =>
      rename_i K hK
      refine hK _ _ ?_
      obtain ⟨v, u, l, hT⟩ := hcut
      exact plays_tail _ (by kernel_rfl) w _ B P k v u l _ _ _ hR64.out hT _ _ _ _ _ _ _ _ _ _ _ _ _ _ _ _ _ _ _ _ _ _ _ _ _ _ _ _ _ _ _ _ _ _ _ _ _ _ _ _ _ _ _ _ _ _ _ _ _ _ _ _ _ _ _ _ _ _ _ _ _ _ _ _ _ _ _ _ _ _ _ _ _ _ _ _ _ _ _ _ _ _ _ _ _ _ _ _ _ _ _ _ _ _ _ _ _ _ _ _ _ _ _ _ _ _ _ _ _ _ _ _ _ _ _ _ _ _ _ _ _ _ _ _ _ _ _ _ _ _ _ _ _ _ _ _ _ _ _ _ _ _ _ _ _ _ _ _ _ _ _ _ _ _ _ _ _ _ _ _ _ _ _ _ _ _ _ _ _ _ _ _ _ _ _ _ _ _ _ _ _ _ _ _ _ _ _ _ _ _ _ _ _ _ _ _ _ _ _ _ _ _ _ _ _ _ _ _ _ _ _ _ _ _ _ _ _ _ _ _
    case first =>
      have HRR := Lib.hid hR64
      clear hR64
      go_wp2
      go_loopg [17] (min n 60) (fun g i1 wx => ∃ (q : Nat) (v u : Value) (l : List Hit), q + g = min n 60 ∧ i1 = .int .i64 q ∧ Two B P k v u l l w.heap.size w wx)
      case atStart => exact ⟨0, _, _, [], by omega, rfl, HTW.out⟩
      case round =>
        obtain ⟨q, v, u, l, hqg, rfl, hTW⟩ := hrel
        have HT := Lib.hid hTW
        clear hTW
        cases gk with
        | zero =>
          have hend : ¬ (q < n) ∨ (q < n ∧ ¬ (q < 60)) := by omega
          clear hqg
          rcases hend with hend | ⟨hend1, hend⟩
          all_goals
            go_wp2
            go_meet
            case rel => exact ⟨v, u, l, HT.out⟩
        | succ g =>
          have hq1 : q < n := by omega
          have hq2 : q < 60 := by omega
          have hqi : (q : Int) < (n : Int) := by omega
          obtain ⟨D, o, d, rfl, hDl, hd, hf⟩ := HD.out q hq1
          obtain ⟨dk, dn, lp, zs, lcap, db⟩ := d
          obtain ⟨hdk, hdn, hll, hin, hdb⟩ := hf
          simp only at hdk hdn hll hin hdb
          have HIN : Hid (Ints lp zs _) := Lib.hid (hin.below HT.out.b)
          have e0 := (HT.out.b.cell (p := ⟨D, o + q * 4, none⟩) hDl).trans (hd 0 _ rfl)
          have e1 := (HT.out.b.cell (p := ⟨D, o + q * 4 + 1, none⟩) hDl).trans (hd 1 _ rfl)
          have e2 := (HT.out.b.cell (p := ⟨D, o + q * 4 + 2, none⟩) hDl).trans (hd 2 _ rfl)
          have e3 := (HT.out.b.cell (p := ⟨D, o + q * 4 + 3, none⟩) hDl).trans (hd 3 _ rfl)
          go_upto_region 19 with fail
          have HTr := Lib.hid (Tri.start HT.out #[.int .u8 dk, .int .i64 dn, .slice lp zs.length lcap, .int .i64 db] 34)
          have HIW := Lib.hid (HIN.out.below ((Below.refl _ _).alloc (Nat.le_refl _) (.cells #[.int .u8 dk, .int .i64 dn, .slice lp zs.length lcap, .int .i64 db] 34)))
          clear e0 e1 e2 e3 hd HIN HT hin hDl
          generalize wr.alloc _ = W9 at *
          generalize wr.heap.size = X at *
          have kx0 := HTr.out.c.cell 0 _ rfl
          have kx3 := HTr.out.c.cell 3 _ rfl
          obtain ⟨k8, hk8⟩ : ∃ k8, dk % 8 = k8 := ⟨_, rfl⟩
          have hk8i : (dk : Int) % 8 = (k8 : Int) := by omega
          have r8 : IntKind.u8.wrap (k8 : Int) = (k8 : Int) := IntWalk.u8_in _ (by omega)
          clear hk8
          by_cases h6 : k8 = 6
          · have t6 : ((k8 : Int) != 6) = false := by subst h6; rfl
            have hbb : ∃ b : Nat, b ≤ 4 ∧ ((db.tmod 8 = 0 ∧ ∃ y2 : Nat, IntKind.u64.wrap db = (y2 : Int) ∧ (y2 : Int) % 5 = (b : Int)) ∨ (db.tmod 8 ≠ 0 ∧ b = k)) := by
              by_cases hm : db.tmod 8 = 0
              · have h1 : 0 ≤ IntKind.u64.wrap db := by
                  unfold IntKind.wrap
                  simp [IntKind.signed, IntKind.bits]
                  omega
                exact ⟨(IntKind.u64.wrap db).toNat % 5, by omega, .inl ⟨hm, (IntKind.u64.wrap db).toNat, by omega, by omega⟩⟩
              · exact ⟨k, HK4.out, .inr ⟨hm, rfl⟩⟩
            obtain ⟨b, hb4, hbb⟩ := hbb
            have hnb := new_any b hb4
            have hrnb := ref_new_any b hb4
            rcases hbb with ⟨hm, y2, hy2, hb5⟩ | ⟨hm, rfl⟩
            case' inl =>
              have b1 : IntKind.u64.wrap (b : Int) = (b : Int) := IntWalk.u64_in _ (by omega)
              have b2 : IntKind.i64.wrap (b : Int) = (b : Int) := IntWalk.i64_in _ (by omega)
            case' inr =>
              have hb1 := tmod_bd8 db
              obtain ⟨t, ht⟩ : ∃ t, db.tmod 8 = t := ⟨_, rfl⟩
              rw [ht] at hb1 hm
              have t0 : (t == 0) = false := by simpa using hm
              have t1 : wrap64 t = t := by unfold wrap64; omega
              have t2 : IntKind.i64.wrap t = t := IntWalk.i64_in _ (by omega)
              clear hm hb1
            all_goals
              clear hb4
              go_wp2_with fail
              refine (hnb _).mono ?_
              rintro e W4 ⟨G, rfl, hB4, _, hG⟩
              have HB4 := Lib.hid hB4
              have HG := Lib.hid hG
              clear hnb hB4 hG kx0 kx3
              go_wp2_with fail
              refine (hrnb _).mono ?_
              rintro e W5 ⟨Y, rfl, hB5, hY⟩
              have HI := Lib.hid (Two.start (Below.refl _ _) HG.out HB4.out hY hB5)
              clear hrnb hB5 hY HB4 HG
              go_upto_block 2 with fail
              refine plays_fill _ (by kernel_rfl) _ _ G Y X dk _ _ dn lp zs lcap db W9 _ hdk hll HTr.out.c HIW.out HI.out _ _ _ _ _ _ _ _ _ _ _ _ _ _ _ _ _ _ _ _ _ _ _ _ _ _ _ _ _ _ _ _ _ _ _ _ _ _ _ _ _ _ _ _ _ _ _ _ _ _ _ _ _ _ _ _ _ _ _ _ _ _ _ _ _ _ _ _ _ _ _ _ _ _ _ _ _ _ _ _ _ _ _ _ _ _ _ _ _ _ _ _ _ _ _ _ _ _ _ _ _ _ _ _ _ _ _ _ _ _ _ _ _ _ _ _ _ _ _ _ _ _ _ _ _ _ _ _ _ _ _ _ _ _ _ _ _ _ _ _ _ _ _ _ _ _ _ _ _ _ _ _ _ _ _ _ _ _ _ _ _ _ _ _ _ _ _ _ _ _ _ _ _ _ _ _ _ _ _ _ _ _ _ _ _ _ _ _ _ _ _ _ _ _ _ _ _ _ _ _ _ _ _ _ _ _ _ _ _ _ _ _ _ _ _ _ _ _ _ _ _ _ ?_
              intro wc z23 z123 z124 z125 z126 z127 z128 z129 z130 z131 z132 z133 z134 z135 z136 z137 z138 z139 z140 z141 z142 z143 z144 z145 z146 z147 z148 z149 z150 z151 hz
              obtain ⟨x', y', m, hz⟩ := hz
              have HZ := Lib.hid hz
              clear hz HI
              go_upto_region 34 with fail
              refine plays_close _ (by kernel_rfl) _ B P _ G Y _ _ v u _ _ l m w W9 _ HTr.out.two HZ.out _ _ _ _ _ _ _ _ _ _ _ _ _ _ _ _ _ _ _ _ _ _ _ _ _ _ _ _ _ _ _ _ _ _ _ _ _ _ _ _ _ _ _ _ _ _ _ _ _ _ _ _ _ _ _ _ _ _ _ _ _ _ _ _ _ _ _ _ _ _ _ _ _ _ _ _ _ _ _ _ _ _ _ _ _ _ _ _ _ _ _ _ _ _ _ _ _ _ _ _ _ _ _ _ _ _ _ _ _ _ _ _ _ _ _ _ _ _ _ _ _ _ _ _ _ _ _ _ _ _ _ _ _ _ _ _ _ _ _ _ _ _ _ _ _ _ _ _ _ _ _ _ _ _ _ _ _ _ _ _ _ _ _ _ _ _ _ _ _ _ _ _ _ _ _ _ _ _ _ _ _ _ _ _ _ _ _ _ _ _ _ _ _ _ _ _ _ _ _ _ _ _ _ _ _ _ _ _ _ _ _ _ _ _ _ _ _ _ _ _ _ _ ?_
              intro wd z152 z153 z154 z155 z156 z157 hz
              obtain ⟨v', u', hz⟩ := hz
              have HZ2 := Lib.hid hz
              clear hz HZ
              go_wp2
              go_roundg g
              case measure => omega
              case rel => exact ⟨q + 1, _, _, _, by omega, by go_num, HZ2.out⟩
          · have t6 : ((k8 : Int) != 6) = true := by simp; omega
            clear h6
            go_upto_region 20 with fail
            refine plays_add _ (by kernel_rfl) _ B P k _ X dk v u l dn lp zs.length lcap db w W9 hdk hdn HTr.out _ _ _ _ _ _ _ _ _ _ _ _ _ _ _ _ _ _ _ _ _ _ _ _ _ _ _ _ _ _ _ _ _ _ _ _ _ _ _ _ _ _ _ _ _ _ _ _ _ _ _ _ _ _ _ _ _ _ _ _ _ _ _ _ _ _ _ _ _ _ _ _ _ _ _ _ _ _ _ _ _ _ _ _ _ _ _ _ _ _ _ _ _ _ _ _ _ _ _ _ _ _ _ _ _ _ _ _ _ _ _ _ _ _ _ _ _ _ _ _ _ _ _ _ _ _ _ _ _ _ _ _ _ _ _ _ _ _ _ _ _ _ _ _ _ _ _ _ _ _ _ _ _ _ _ _ _ _ _ _ _ _ _ _ _ _ _ _ _ _ _ _ _ _ _ _ _ _ _ _ _ _ _ _ _ _ _ _ _ _ _ _ _ _ _ _ _ _ _ _ _ _ _ _ _ _ _ _ _ _ _ _ _ _ _ _ _ _ _ _ _ _ _ ?_
            intro wc hz
            obtain ⟨v', u', hz⟩ := hz
            have HZ := Lib.hid hz.two
            clear hz kx0 kx3
            go_wp2
            go_roundg g
            case measure => omega
            case rel => exact ⟨q + 1, _, _, _, by omega, by go_num, HZ.out⟩
theorem wf_u64n {a : Int} (h : (Lit.int .u64 a).wf = true) : ∃ n : Nat, a = n ∧ n < 18446744073709551616 := by
  have hx : 0 ≤ a ∧ a ≤ 18446744073709551615 := by simpa [Lit.wf, IntKind.min, IntKind.max, IntKind.signed, IntKind.bits] using h
  exact ⟨a.toNat, by omega, by omega⟩
theorem HistPlays_walk (bits : Int) (hb : (Lit.int .i64 bits).wf = true) (near : Bool) (p : Option Addr) (n cap : Nat) (hn : n ≤ 9223372036854775807) (r : Int) (hr : (Lit.int .u64 r).wf = true) (num : Int) (hnum : (Lit.int .u64 num).wf = true) (den : Int) (hden : (Lit.int .u64 den).wf = true) (w : World) (hD : Deeds p n w) :
    Calls Try.prog 3 #[.int .i64 bits, .bool near, .slice p n cap, .int .u64 r, .int .u64 num, .int .u64 den] w fun e w' => e = .returned (.bool true) ∧ Below w.heap.size w w' := by
  obtain ⟨r, rfl, h1⟩ := wf_u64n hr
  obtain ⟨num, rfl, h2⟩ := wf_u64n hnum
  obtain ⟨den, rfl, h3⟩ := wf_u64n hden
  exact plays_any bits hb near p n cap hn r h1 num h2 den h3 w hD
end Go.Proofs.Ytklklpccpbhfgaa

