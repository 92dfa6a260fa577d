/- TopOf: one thing of the top is another one: arms 4, 6, 7. -/
import Derived.Test.YtnkhieackclniaaTOfA
namespace Go.Proofs.Ytnkhieackclniaa
open Go Go.RowKit

set_option maxRecDepth 100000 in
set_option maxHeartbeats 16000000 in
theorem of_switch4 (C : Code) (hC : Try.f4.body.bind (findC 94) = some C) (w W3 wr : World) (r sm N g i cap how : Nat) (pos : Int) (s : List Itm)
    (hW3 : Below w.heap.size w W3) (hNN : W3.heap.size = N) (hB2 : Below N W3 wr) (hI2 : Its N 51 (.slice (some ⟨g, 0, none⟩) i cap) s wr) (hLN : s.length = i) (hs16 : i ≤ 16) (hi0 : ¬ i = 0) (hF : Fit s) (hsn9 : sm ≤ 4611686018427387904) (hhow : how < 256)
    (s3 s4 s7 s8 s9 s10 s11 s12 s13 s14 s15 s16 s17 s18 s19 s20 s21 s22 s23 s24 s25 s26 s27 s28 s29 s30 s31 s32 s33 s34 s35 s36 s37 s38 s39 s40 s41 s42 s43 s44 s45 s46 s47 s48 s49 s50 s51 s52 s53 s54 s55 s56 s57 s58 s59 s60 s61 s62 s63 s64 s65 s66 s67 s68 s69 s70 s71 s72 s73 s74 s75 s76 s77 s78 s79 s80 s81 s82 s83 s84 s85 s86 s87 s88 s89 s90 s91 s92 s93 s95 s96 s97 s98 s99 s100 s101 s102 s103 s104 s105 s106 s107 s108 s109 s110 s111 s112 s113 s114 s115 s116 s117 s118 s119 s120 s121 s122 s123 s124 s125 s126 s127 s128 s129 s130 s131 s132 s133 s134 s135 s136 s137 s138 s139 s140 s141 s142 s143 s144 s145 s146 s147 s148 s149 s150 s151 s152 s153 s154 s155 s156 s157 s158 s159 s160 s161 s162 s163 s164 s165 s166 s167 s168 s169 s170 s171 s172 s173 s174 s175 s176 s177 s178 s179 s180 s181 s182 s183 s184 s185 s186 s187 s188 s189 s190 s191 s192 s193 s194 s195 s196 s197 s198 s199 s200 s201 s202 s203 s204 s205 s206 s207 s208 s209 s210 s211 s212 : Value) (K : Act → World → Prop) (Q' : Exit → Act → World → Prop)
    (hK : ∀ (u1 u2 u20 u95 u96 u97 u98 u99 u100 u101 u102 u103 u104 u105 u106 u107 u108 u109 u110 u111 u112 u113 u114 u115 u116 u117 u118 u119 u120 u121 u122 u123 u124 u125 u126 u127 u128 u129 u130 u131 u132 u133 u134 u135 u136 u137 u138 u139 u140 u141 u142 u143 u144 u145 u146 u147 u148 u149 u150 u151 u152 u153 u154 u155 u156 u157 u158 u159 u160 u161 u162 u163 u164 u165 u166 u167 u168 u169 u170 u171 u172 u173 u174 u175 u176 u177 u178 u179 u180 u181 u182 u183 u184 u185 u186 u187 u188 u189 u190 u191 u192 u193 u194 u195 u196 u197 u198 u199 u200 u201 u202 u203 u204 u205 u206 u207 u208 u209 u210 u211 u212 : Value) (wx : World), OfRel w (.int .i64 r) u1 u2 wx → K { tmps := (.int .i64 r :: u1 :: u2 :: s3 :: s4 :: .int .u8 how :: .int .i64 pos :: s7 :: s8 :: s9 :: s10 :: s11 :: s12 :: s13 :: s14 :: s15 :: s16 :: s17 :: s18 :: s19 :: u20 :: s21 :: s22 :: s23 :: s24 :: s25 :: s26 :: s27 :: s28 :: s29 :: s30 :: s31 :: s32 :: s33 :: s34 :: s35 :: s36 :: s37 :: s38 :: s39 :: s40 :: s41 :: s42 :: s43 :: s44 :: s45 :: s46 :: s47 :: s48 :: s49 :: s50 :: s51 :: s52 :: s53 :: s54 :: s55 :: s56 :: s57 :: s58 :: s59 :: s60 :: s61 :: s62 :: s63 :: s64 :: s65 :: s66 :: s67 :: s68 :: s69 :: s70 :: s71 :: s72 :: s73 :: s74 :: s75 :: s76 :: s77 :: s78 :: s79 :: s80 :: s81 :: s82 :: s83 :: s84 :: s85 :: s86 :: s87 :: s88 :: s89 :: s90 :: s91 :: s92 :: s93 :: .bool true :: u95 :: u96 :: u97 :: u98 :: u99 :: u100 :: u101 :: u102 :: u103 :: u104 :: u105 :: u106 :: u107 :: u108 :: u109 :: u110 :: u111 :: u112 :: u113 :: u114 :: u115 :: u116 :: u117 :: u118 :: u119 :: u120 :: u121 :: u122 :: u123 :: u124 :: u125 :: u126 :: u127 :: u128 :: u129 :: u130 :: u131 :: u132 :: u133 :: u134 :: u135 :: u136 :: u137 :: u138 :: u139 :: u140 :: u141 :: u142 :: u143 :: u144 :: u145 :: u146 :: u147 :: u148 :: u149 :: u150 :: u151 :: u152 :: u153 :: u154 :: u155 :: u156 :: u157 :: u158 :: u159 :: u160 :: u161 :: u162 :: u163 :: u164 :: u165 :: u166 :: u167 :: u168 :: u169 :: u170 :: u171 :: u172 :: u173 :: u174 :: u175 :: u176 :: u177 :: u178 :: u179 :: u180 :: u181 :: u182 :: u183 :: u184 :: u185 :: u186 :: u187 :: u188 :: u189 :: u190 :: u191 :: u192 :: u193 :: u194 :: u195 :: u196 :: u197 :: u198 :: u199 :: u200 :: u201 :: u202 :: u203 :: u204 :: u205 :: u206 :: u207 :: u208 :: u209 :: u210 :: u211 :: u212 :: []).toArray, defers := [] } wx) (h8 : how % 8 = 4) :
    Code.wp Try.prog C (Exit.then K Q') { tmps := (.int .i64 r :: .int .u64 sm :: .slice (some ⟨g, 0, none⟩) i cap :: s3 :: s4 :: .int .u8 how :: .int .i64 pos :: s7 :: s8 :: s9 :: s10 :: s11 :: s12 :: s13 :: s14 :: s15 :: s16 :: s17 :: s18 :: s19 :: s20 :: s21 :: s22 :: s23 :: s24 :: s25 :: s26 :: s27 :: s28 :: s29 :: s30 :: s31 :: s32 :: s33 :: s34 :: s35 :: s36 :: s37 :: s38 :: s39 :: s40 :: s41 :: s42 :: s43 :: s44 :: s45 :: s46 :: s47 :: s48 :: s49 :: s50 :: s51 :: s52 :: s53 :: s54 :: s55 :: s56 :: s57 :: s58 :: s59 :: s60 :: s61 :: s62 :: s63 :: s64 :: s65 :: s66 :: s67 :: s68 :: s69 :: s70 :: s71 :: s72 :: s73 :: s74 :: s75 :: s76 :: s77 :: s78 :: s79 :: s80 :: s81 :: s82 :: s83 :: s84 :: s85 :: s86 :: s87 :: s88 :: s89 :: s90 :: s91 :: s92 :: s93 :: .bool true :: s95 :: s96 :: s97 :: s98 :: s99 :: s100 :: s101 :: s102 :: s103 :: s104 :: s105 :: s106 :: s107 :: s108 :: s109 :: s110 :: s111 :: s112 :: s113 :: s114 :: s115 :: s116 :: s117 :: s118 :: s119 :: s120 :: s121 :: s122 :: s123 :: s124 :: s125 :: s126 :: s127 :: s128 :: s129 :: s130 :: s131 :: s132 :: s133 :: s134 :: s135 :: s136 :: s137 :: s138 :: s139 :: s140 :: s141 :: s142 :: s143 :: s144 :: s145 :: s146 :: s147 :: s148 :: s149 :: s150 :: s151 :: s152 :: s153 :: s154 :: s155 :: s156 :: s157 :: s158 :: s159 :: s160 :: s161 :: s162 :: s163 :: s164 :: s165 :: s166 :: s167 :: s168 :: s169 :: s170 :: s171 :: s172 :: s173 :: s174 :: s175 :: s176 :: s177 :: s178 :: s179 :: s180 :: s181 :: s182 :: s183 :: s184 :: s185 :: s186 :: s187 :: s188 :: s189 :: s190 :: s191 :: s192 :: s193 :: s194 :: s195 :: s196 :: s197 :: s198 :: s199 :: s200 :: s201 :: s202 :: s203 :: s204 :: s205 :: s206 :: s207 :: s208 :: s209 :: s210 :: s211 :: s212 :: []).toArray, defers := [] } wr := by
  cases hC
  have HW3 := Lib.hid hW3
  have HNN := Lib.hid hNN
  have HB2 := Lib.hid hB2
  have HI2 := Lib.hid hI2
  have HLN := Lib.hid hLN
  have HF := Lib.hid hF
  have HKK := Lib.hid hK
  have HSN := Lib.hid hsn9
  obtain ⟨g', cap', hv, hgN, hgw, hcap1, hcap2, hcell, hfro⟩ := hI2.form_pos (by rw [HLN.out]; omega)
  simp only [Value.slice.injEq, Option.some.injEq, Addr.mk.injEq] at hv
  obtain ⟨⟨rfl, hdrop1⟩, hdrop2, rfl⟩ := hv
  rw [HLN.out] at hcap1
  clear hW3 hNN hB2 hI2 hLN hF hK hdrop1 hdrop2
  obtain ⟨y, hy⟩ : ∃ y : Nat, IntKind.u64.wrap pos = (y : Int) := ⟨(IntKind.u64.wrap pos).toNat, by rw [IntKind.wrap_u64]; omega⟩
  obtain ⟨k, hk⟩ : ∃ k : Nat, y % i = k := ⟨_, rfl⟩
  have hki : k < i := by rw [← hk]; exact Nat.mod_lt _ (by omega)
  have hkI : (y : Int) % (i : Int) = (k : Int) := by rw [← hk]; push_cast; rfl
  have hkn : (k : Int) < (i : Int) := by omega
  have hn1 : (0 : Int) < (i : Int) := by omega
  have hiw : IntKind.u64.wrap (i : Int) = (i : Int) := IntWalk.u64_in _ (by omega)
  have hkw : IntKind.i64.wrap (k : Int) = (k : Int) := IntWalk.i64_in _ (by omega)
  have hi00 : ((i : Int) == 0) = false := by simp; omega
  have hi01 : ¬ (i : Int) = 0 := by omega
  have hkl : k < s.length := by rw [HLN.out]; exact hki
  obtain ⟨x0, x1, x2⟩ := hcell k hkl
  have q0 := hfro (k * 3)
  have q1 := hfro (k * 3 + 1)
  have q2 := hfro (k * 3 + 2)
  obtain ⟨y0, y1, y2⟩ := hcell 0 (by omega)
  rw [Nat.zero_mul] at y0 y1 y2
  have z0 := hfro 0
  have z1 := hfro (0 + 1)
  have z2 := hfro (0 + 2)
  have HFIN : Hid (∀ (sn' : Nat) (l' : List Itm) (w2 : World), l'.length = i → Its N 51 (.slice (some ⟨g, 0, none⟩) i cap) l' w2 → Below N W3 w2 → Fit l' → sn' < 18446744073709551616 → OfRel w (.int .i64 r) (.int .u64 sn') (.slice (some ⟨g, 0, none⟩) i cap) w2) :=
    Lib.hid fun sn' l' w2 h1 h2 h3 h4 h5 => ofRel_of HW3.out HNN.out h3 h2 h1 hs16 hcap1 hcap2 h4 h5
  have hkf := fit_at HF.out k hkl
  have hzf := fit_at HF.out 0 (by omega)
  clear hcell hfro hk
  have HK := Lib.hid hkf
  have HZ := Lib.hid hzf
  have HKL := Lib.hid hkl
  have HGN := Lib.hid hgN
  clear hkf hzf hkl hgN
  have hh : (how : Int) % 8 = 4 := by omega
  have hs1 : (sm : Int) + 1 = ((sm + 1 : Nat) : Int) := by omega
  have HE := Lib.hid (HFIN.out (sm + 1) s _ HLN.out HI2.out HB2.out HF.out (by omega))
  generalize sm + 1 = sm1 at *
  go_wp2
  apply HKK.out
  exact HE.out

set_option maxRecDepth 100000 in
set_option maxHeartbeats 16000000 in
theorem of_switch6 (C : Code) (hC : Try.f4.body.bind (findC 94) = some C) (w W3 wr : World) (r sm N g i cap how : Nat) (pos : Int) (s : List Itm)
    (hW3 : Below w.heap.size w W3) (hNN : W3.heap.size = N) (hB2 : Below N W3 wr) (hI2 : Its N 51 (.slice (some ⟨g, 0, none⟩) i cap) s wr) (hLN : s.length = i) (hs16 : i ≤ 16) (hi0 : ¬ i = 0) (hF : Fit s) (hsn9 : sm ≤ 4611686018427387904) (hhow : how < 256)
    (s3 s4 s7 s8 s9 s10 s11 s12 s13 s14 s15 s16 s17 s18 s19 s20 s21 s22 s23 s24 s25 s26 s27 s28 s29 s30 s31 s32 s33 s34 s35 s36 s37 s38 s39 s40 s41 s42 s43 s44 s45 s46 s47 s48 s49 s50 s51 s52 s53 s54 s55 s56 s57 s58 s59 s60 s61 s62 s63 s64 s65 s66 s67 s68 s69 s70 s71 s72 s73 s74 s75 s76 s77 s78 s79 s80 s81 s82 s83 s84 s85 s86 s87 s88 s89 s90 s91 s92 s93 s95 s96 s97 s98 s99 s100 s101 s102 s103 s104 s105 s106 s107 s108 s109 s110 s111 s112 s113 s114 s115 s116 s117 s118 s119 s120 s121 s122 s123 s124 s125 s126 s127 s128 s129 s130 s131 s132 s133 s134 s135 s136 s137 s138 s139 s140 s141 s142 s143 s144 s145 s146 s147 s148 s149 s150 s151 s152 s153 s154 s155 s156 s157 s158 s159 s160 s161 s162 s163 s164 s165 s166 s167 s168 s169 s170 s171 s172 s173 s174 s175 s176 s177 s178 s179 s180 s181 s182 s183 s184 s185 s186 s187 s188 s189 s190 s191 s192 s193 s194 s195 s196 s197 s198 s199 s200 s201 s202 s203 s204 s205 s206 s207 s208 s209 s210 s211 s212 : Value) (K : Act → World → Prop) (Q' : Exit → Act → World → Prop)
    (hK : ∀ (u1 u2 u20 u95 u96 u97 u98 u99 u100 u101 u102 u103 u104 u105 u106 u107 u108 u109 u110 u111 u112 u113 u114 u115 u116 u117 u118 u119 u120 u121 u122 u123 u124 u125 u126 u127 u128 u129 u130 u131 u132 u133 u134 u135 u136 u137 u138 u139 u140 u141 u142 u143 u144 u145 u146 u147 u148 u149 u150 u151 u152 u153 u154 u155 u156 u157 u158 u159 u160 u161 u162 u163 u164 u165 u166 u167 u168 u169 u170 u171 u172 u173 u174 u175 u176 u177 u178 u179 u180 u181 u182 u183 u184 u185 u186 u187 u188 u189 u190 u191 u192 u193 u194 u195 u196 u197 u198 u199 u200 u201 u202 u203 u204 u205 u206 u207 u208 u209 u210 u211 u212 : Value) (wx : World), OfRel w (.int .i64 r) u1 u2 wx → K { tmps := (.int .i64 r :: u1 :: u2 :: s3 :: s4 :: .int .u8 how :: .int .i64 pos :: s7 :: s8 :: s9 :: s10 :: s11 :: s12 :: s13 :: s14 :: s15 :: s16 :: s17 :: s18 :: s19 :: u20 :: s21 :: s22 :: s23 :: s24 :: s25 :: s26 :: s27 :: s28 :: s29 :: s30 :: s31 :: s32 :: s33 :: s34 :: s35 :: s36 :: s37 :: s38 :: s39 :: s40 :: s41 :: s42 :: s43 :: s44 :: s45 :: s46 :: s47 :: s48 :: s49 :: s50 :: s51 :: s52 :: s53 :: s54 :: s55 :: s56 :: s57 :: s58 :: s59 :: s60 :: s61 :: s62 :: s63 :: s64 :: s65 :: s66 :: s67 :: s68 :: s69 :: s70 :: s71 :: s72 :: s73 :: s74 :: s75 :: s76 :: s77 :: s78 :: s79 :: s80 :: s81 :: s82 :: s83 :: s84 :: s85 :: s86 :: s87 :: s88 :: s89 :: s90 :: s91 :: s92 :: s93 :: .bool true :: u95 :: u96 :: u97 :: u98 :: u99 :: u100 :: u101 :: u102 :: u103 :: u104 :: u105 :: u106 :: u107 :: u108 :: u109 :: u110 :: u111 :: u112 :: u113 :: u114 :: u115 :: u116 :: u117 :: u118 :: u119 :: u120 :: u121 :: u122 :: u123 :: u124 :: u125 :: u126 :: u127 :: u128 :: u129 :: u130 :: u131 :: u132 :: u133 :: u134 :: u135 :: u136 :: u137 :: u138 :: u139 :: u140 :: u141 :: u142 :: u143 :: u144 :: u145 :: u146 :: u147 :: u148 :: u149 :: u150 :: u151 :: u152 :: u153 :: u154 :: u155 :: u156 :: u157 :: u158 :: u159 :: u160 :: u161 :: u162 :: u163 :: u164 :: u165 :: u166 :: u167 :: u168 :: u169 :: u170 :: u171 :: u172 :: u173 :: u174 :: u175 :: u176 :: u177 :: u178 :: u179 :: u180 :: u181 :: u182 :: u183 :: u184 :: u185 :: u186 :: u187 :: u188 :: u189 :: u190 :: u191 :: u192 :: u193 :: u194 :: u195 :: u196 :: u197 :: u198 :: u199 :: u200 :: u201 :: u202 :: u203 :: u204 :: u205 :: u206 :: u207 :: u208 :: u209 :: u210 :: u211 :: u212 :: []).toArray, defers := [] } wx) (h8 : how % 8 = 6) :
    Code.wp Try.prog C (Exit.then K Q') { tmps := (.int .i64 r :: .int .u64 sm :: .slice (some ⟨g, 0, none⟩) i cap :: s3 :: s4 :: .int .u8 how :: .int .i64 pos :: s7 :: s8 :: s9 :: s10 :: s11 :: s12 :: s13 :: s14 :: s15 :: s16 :: s17 :: s18 :: s19 :: s20 :: s21 :: s22 :: s23 :: s24 :: s25 :: s26 :: s27 :: s28 :: s29 :: s30 :: s31 :: s32 :: s33 :: s34 :: s35 :: s36 :: s37 :: s38 :: s39 :: s40 :: s41 :: s42 :: s43 :: s44 :: s45 :: s46 :: s47 :: s48 :: s49 :: s50 :: s51 :: s52 :: s53 :: s54 :: s55 :: s56 :: s57 :: s58 :: s59 :: s60 :: s61 :: s62 :: s63 :: s64 :: s65 :: s66 :: s67 :: s68 :: s69 :: s70 :: s71 :: s72 :: s73 :: s74 :: s75 :: s76 :: s77 :: s78 :: s79 :: s80 :: s81 :: s82 :: s83 :: s84 :: s85 :: s86 :: s87 :: s88 :: s89 :: s90 :: s91 :: s92 :: s93 :: .bool true :: s95 :: s96 :: s97 :: s98 :: s99 :: s100 :: s101 :: s102 :: s103 :: s104 :: s105 :: s106 :: s107 :: s108 :: s109 :: s110 :: s111 :: s112 :: s113 :: s114 :: s115 :: s116 :: s117 :: s118 :: s119 :: s120 :: s121 :: s122 :: s123 :: s124 :: s125 :: s126 :: s127 :: s128 :: s129 :: s130 :: s131 :: s132 :: s133 :: s134 :: s135 :: s136 :: s137 :: s138 :: s139 :: s140 :: s141 :: s142 :: s143 :: s144 :: s145 :: s146 :: s147 :: s148 :: s149 :: s150 :: s151 :: s152 :: s153 :: s154 :: s155 :: s156 :: s157 :: s158 :: s159 :: s160 :: s161 :: s162 :: s163 :: s164 :: s165 :: s166 :: s167 :: s168 :: s169 :: s170 :: s171 :: s172 :: s173 :: s174 :: s175 :: s176 :: s177 :: s178 :: s179 :: s180 :: s181 :: s182 :: s183 :: s184 :: s185 :: s186 :: s187 :: s188 :: s189 :: s190 :: s191 :: s192 :: s193 :: s194 :: s195 :: s196 :: s197 :: s198 :: s199 :: s200 :: s201 :: s202 :: s203 :: s204 :: s205 :: s206 :: s207 :: s208 :: s209 :: s210 :: s211 :: s212 :: []).toArray, defers := [] } wr := by
  cases hC
  have HW3 := Lib.hid hW3
  have HNN := Lib.hid hNN
  have HB2 := Lib.hid hB2
  have HI2 := Lib.hid hI2
  have HLN := Lib.hid hLN
  have HF := Lib.hid hF
  have HKK := Lib.hid hK
  have HSN := Lib.hid hsn9
  obtain ⟨g', cap', hv, hgN, hgw, hcap1, hcap2, hcell, hfro⟩ := hI2.form_pos (by rw [HLN.out]; omega)
  simp only [Value.slice.injEq, Option.some.injEq, Addr.mk.injEq] at hv
  obtain ⟨⟨rfl, hdrop1⟩, hdrop2, rfl⟩ := hv
  rw [HLN.out] at hcap1
  clear hW3 hNN hB2 hI2 hLN hF hK hdrop1 hdrop2
  obtain ⟨y, hy⟩ : ∃ y : Nat, IntKind.u64.wrap pos = (y : Int) := ⟨(IntKind.u64.wrap pos).toNat, by rw [IntKind.wrap_u64]; omega⟩
  obtain ⟨k, hk⟩ : ∃ k : Nat, y % i = k := ⟨_, rfl⟩
  have hki : k < i := by rw [← hk]; exact Nat.mod_lt _ (by omega)
  have hkI : (y : Int) % (i : Int) = (k : Int) := by rw [← hk]; push_cast; rfl
  have hkn : (k : Int) < (i : Int) := by omega
  have hn1 : (0 : Int) < (i : Int) := by omega
  have hiw : IntKind.u64.wrap (i : Int) = (i : Int) := IntWalk.u64_in _ (by omega)
  have hkw : IntKind.i64.wrap (k : Int) = (k : Int) := IntWalk.i64_in _ (by omega)
  have hi00 : ((i : Int) == 0) = false := by simp; omega
  have hi01 : ¬ (i : Int) = 0 := by omega
  have hkl : k < s.length := by rw [HLN.out]; exact hki
  obtain ⟨x0, x1, x2⟩ := hcell k hkl
  have q0 := hfro (k * 3)
  have q1 := hfro (k * 3 + 1)
  have q2 := hfro (k * 3 + 2)
  obtain ⟨y0, y1, y2⟩ := hcell 0 (by omega)
  rw [Nat.zero_mul] at y0 y1 y2
  have z0 := hfro 0
  have z1 := hfro (0 + 1)
  have z2 := hfro (0 + 2)
  have HFIN : Hid (∀ (sn' : Nat) (l' : List Itm) (w2 : World), l'.length = i → Its N 51 (.slice (some ⟨g, 0, none⟩) i cap) l' w2 → Below N W3 w2 → Fit l' → sn' < 18446744073709551616 → OfRel w (.int .i64 r) (.int .u64 sn') (.slice (some ⟨g, 0, none⟩) i cap) w2) :=
    Lib.hid fun sn' l' w2 h1 h2 h3 h4 h5 => ofRel_of HW3.out HNN.out h3 h2 h1 hs16 hcap1 hcap2 h4 h5
  have hkf := fit_at HF.out k hkl
  have hzf := fit_at HF.out 0 (by omega)
  clear hcell hfro hk
  have HK := Lib.hid hkf
  have HZ := Lib.hid hzf
  have HKL := Lib.hid hkl
  have HGN := Lib.hid hgN
  clear hkf hzf hkl hgN
  have hh : (how : Int) % 8 = 6 := by omega
  by_cases hc1 : cap = 1
  · subst hc1
    obtain rfl : i = 1 := by omega
    go_wp2
    apply HKK.out
    exact ⟨r, sm, some ⟨g, 0, none⟩, [], 0, rfl, rfl, rfl, by omega, by simp, by omega, by simp, fun _ h => by simp at h, fun _ h => by simp at h, HW3.out.trans (HB2.out.mono (by rw [← HNN.out]; exact HW3.out.size))⟩
  · have hcap3 : cap ≤ 9223372036854775807 := hcap2
    have hc2 : 1 < cap := by omega
    have hc3 : ¬ (cap : Int) - 1 = 0 := by omega
    have hc4 : ((cap : Int) - 1 == 0) = false := by simp; omega
    have hc5 : ¬ cap - 1 = 0 := by omega
    have HT := Lib.hid (tail_rd HI2.out HLN.out (by omega))
    have HE : Hid (OfRel w (.int .i64 r) (.int .u64 sm) (.slice (some ⟨g, 3, none⟩) (i - 1) (cap - 1)) wr) := Lib.hid ⟨r, sm, some ⟨g, 3, none⟩, s.drop 1, cap - 1, rfl, rfl, by rw [List.length_drop, HLN.out], by omega, by rw [List.length_drop, HLN.out]; omega, by omega, by rw [List.length_drop, HLN.out]; omega, fun x hx => HF.out x (List.mem_of_mem_drop hx), HT.out, HW3.out.trans (HB2.out.mono (by rw [← HNN.out]; exact HW3.out.size))⟩
    go_wp2
    all_goals
      apply HKK.out
      exact HE.out

set_option maxRecDepth 100000 in
set_option maxHeartbeats 16000000 in
theorem of_switch7 (C : Code) (hC : Try.f4.body.bind (findC 94) = some C) (w W3 wr : World) (r sm N g i cap how : Nat) (pos : Int) (s : List Itm)
    (hW3 : Below w.heap.size w W3) (hNN : W3.heap.size = N) (hB2 : Below N W3 wr) (hI2 : Its N 51 (.slice (some ⟨g, 0, none⟩) i cap) s wr) (hLN : s.length = i) (hs16 : i ≤ 16) (hi0 : ¬ i = 0) (hF : Fit s) (hsn9 : sm ≤ 4611686018427387904) (hhow : how < 256)
    (s3 s4 s7 s8 s9 s10 s11 s12 s13 s14 s15 s16 s17 s18 s19 s20 s21 s22 s23 s24 s25 s26 s27 s28 s29 s30 s31 s32 s33 s34 s35 s36 s37 s38 s39 s40 s41 s42 s43 s44 s45 s46 s47 s48 s49 s50 s51 s52 s53 s54 s55 s56 s57 s58 s59 s60 s61 s62 s63 s64 s65 s66 s67 s68 s69 s70 s71 s72 s73 s74 s75 s76 s77 s78 s79 s80 s81 s82 s83 s84 s85 s86 s87 s88 s89 s90 s91 s92 s93 s95 s96 s97 s98 s99 s100 s101 s102 s103 s104 s105 s106 s107 s108 s109 s110 s111 s112 s113 s114 s115 s116 s117 s118 s119 s120 s121 s122 s123 s124 s125 s126 s127 s128 s129 s130 s131 s132 s133 s134 s135 s136 s137 s138 s139 s140 s141 s142 s143 s144 s145 s146 s147 s148 s149 s150 s151 s152 s153 s154 s155 s156 s157 s158 s159 s160 s161 s162 s163 s164 s165 s166 s167 s168 s169 s170 s171 s172 s173 s174 s175 s176 s177 s178 s179 s180 s181 s182 s183 s184 s185 s186 s187 s188 s189 s190 s191 s192 s193 s194 s195 s196 s197 s198 s199 s200 s201 s202 s203 s204 s205 s206 s207 s208 s209 s210 s211 s212 : Value) (K : Act → World → Prop) (Q' : Exit → Act → World → Prop)
    (hK : ∀ (u1 u2 u20 u95 u96 u97 u98 u99 u100 u101 u102 u103 u104 u105 u106 u107 u108 u109 u110 u111 u112 u113 u114 u115 u116 u117 u118 u119 u120 u121 u122 u123 u124 u125 u126 u127 u128 u129 u130 u131 u132 u133 u134 u135 u136 u137 u138 u139 u140 u141 u142 u143 u144 u145 u146 u147 u148 u149 u150 u151 u152 u153 u154 u155 u156 u157 u158 u159 u160 u161 u162 u163 u164 u165 u166 u167 u168 u169 u170 u171 u172 u173 u174 u175 u176 u177 u178 u179 u180 u181 u182 u183 u184 u185 u186 u187 u188 u189 u190 u191 u192 u193 u194 u195 u196 u197 u198 u199 u200 u201 u202 u203 u204 u205 u206 u207 u208 u209 u210 u211 u212 : Value) (wx : World), OfRel w (.int .i64 r) u1 u2 wx → K { tmps := (.int .i64 r :: u1 :: u2 :: s3 :: s4 :: .int .u8 how :: .int .i64 pos :: s7 :: s8 :: s9 :: s10 :: s11 :: s12 :: s13 :: s14 :: s15 :: s16 :: s17 :: s18 :: s19 :: u20 :: s21 :: s22 :: s23 :: s24 :: s25 :: s26 :: s27 :: s28 :: s29 :: s30 :: s31 :: s32 :: s33 :: s34 :: s35 :: s36 :: s37 :: s38 :: s39 :: s40 :: s41 :: s42 :: s43 :: s44 :: s45 :: s46 :: s47 :: s48 :: s49 :: s50 :: s51 :: s52 :: s53 :: s54 :: s55 :: s56 :: s57 :: s58 :: s59 :: s60 :: s61 :: s62 :: s63 :: s64 :: s65 :: s66 :: s67 :: s68 :: s69 :: s70 :: s71 :: s72 :: s73 :: s74 :: s75 :: s76 :: s77 :: s78 :: s79 :: s80 :: s81 :: s82 :: s83 :: s84 :: s85 :: s86 :: s87 :: s88 :: s89 :: s90 :: s91 :: s92 :: s93 :: .bool true :: u95 :: u96 :: u97 :: u98 :: u99 :: u100 :: u101 :: u102 :: u103 :: u104 :: u105 :: u106 :: u107 :: u108 :: u109 :: u110 :: u111 :: u112 :: u113 :: u114 :: u115 :: u116 :: u117 :: u118 :: u119 :: u120 :: u121 :: u122 :: u123 :: u124 :: u125 :: u126 :: u127 :: u128 :: u129 :: u130 :: u131 :: u132 :: u133 :: u134 :: u135 :: u136 :: u137 :: u138 :: u139 :: u140 :: u141 :: u142 :: u143 :: u144 :: u145 :: u146 :: u147 :: u148 :: u149 :: u150 :: u151 :: u152 :: u153 :: u154 :: u155 :: u156 :: u157 :: u158 :: u159 :: u160 :: u161 :: u162 :: u163 :: u164 :: u165 :: u166 :: u167 :: u168 :: u169 :: u170 :: u171 :: u172 :: u173 :: u174 :: u175 :: u176 :: u177 :: u178 :: u179 :: u180 :: u181 :: u182 :: u183 :: u184 :: u185 :: u186 :: u187 :: u188 :: u189 :: u190 :: u191 :: u192 :: u193 :: u194 :: u195 :: u196 :: u197 :: u198 :: u199 :: u200 :: u201 :: u202 :: u203 :: u204 :: u205 :: u206 :: u207 :: u208 :: u209 :: u210 :: u211 :: u212 :: []).toArray, defers := [] } wx) (h8 : how % 8 = 7) :
    Code.wp Try.prog C (Exit.then K Q') { tmps := (.int .i64 r :: .int .u64 sm :: .slice (some ⟨g, 0, none⟩) i cap :: s3 :: s4 :: .int .u8 how :: .int .i64 pos :: s7 :: s8 :: s9 :: s10 :: s11 :: s12 :: s13 :: s14 :: s15 :: s16 :: s17 :: s18 :: s19 :: s20 :: s21 :: s22 :: s23 :: s24 :: s25 :: s26 :: s27 :: s28 :: s29 :: s30 :: s31 :: s32 :: s33 :: s34 :: s35 :: s36 :: s37 :: s38 :: s39 :: s40 :: s41 :: s42 :: s43 :: s44 :: s45 :: s46 :: s47 :: s48 :: s49 :: s50 :: s51 :: s52 :: s53 :: s54 :: s55 :: s56 :: s57 :: s58 :: s59 :: s60 :: s61 :: s62 :: s63 :: s64 :: s65 :: s66 :: s67 :: s68 :: s69 :: s70 :: s71 :: s72 :: s73 :: s74 :: s75 :: s76 :: s77 :: s78 :: s79 :: s80 :: s81 :: s82 :: s83 :: s84 :: s85 :: s86 :: s87 :: s88 :: s89 :: s90 :: s91 :: s92 :: s93 :: .bool true :: s95 :: s96 :: s97 :: s98 :: s99 :: s100 :: s101 :: s102 :: s103 :: s104 :: s105 :: s106 :: s107 :: s108 :: s109 :: s110 :: s111 :: s112 :: s113 :: s114 :: s115 :: s116 :: s117 :: s118 :: s119 :: s120 :: s121 :: s122 :: s123 :: s124 :: s125 :: s126 :: s127 :: s128 :: s129 :: s130 :: s131 :: s132 :: s133 :: s134 :: s135 :: s136 :: s137 :: s138 :: s139 :: s140 :: s141 :: s142 :: s143 :: s144 :: s145 :: s146 :: s147 :: s148 :: s149 :: s150 :: s151 :: s152 :: s153 :: s154 :: s155 :: s156 :: s157 :: s158 :: s159 :: s160 :: s161 :: s162 :: s163 :: s164 :: s165 :: s166 :: s167 :: s168 :: s169 :: s170 :: s171 :: s172 :: s173 :: s174 :: s175 :: s176 :: s177 :: s178 :: s179 :: s180 :: s181 :: s182 :: s183 :: s184 :: s185 :: s186 :: s187 :: s188 :: s189 :: s190 :: s191 :: s192 :: s193 :: s194 :: s195 :: s196 :: s197 :: s198 :: s199 :: s200 :: s201 :: s202 :: s203 :: s204 :: s205 :: s206 :: s207 :: s208 :: s209 :: s210 :: s211 :: s212 :: []).toArray, defers := [] } wr := by
  cases hC
  have HW3 := Lib.hid hW3
  have HNN := Lib.hid hNN
  have HB2 := Lib.hid hB2
  have HI2 := Lib.hid hI2
  have HLN := Lib.hid hLN
  have HF := Lib.hid hF
  have HKK := Lib.hid hK
  have HSN := Lib.hid hsn9
  obtain ⟨g', cap', hv, hgN, hgw, hcap1, hcap2, hcell, hfro⟩ := hI2.form_pos (by rw [HLN.out]; omega)
  simp only [Value.slice.injEq, Option.some.injEq, Addr.mk.injEq] at hv
  obtain ⟨⟨rfl, hdrop1⟩, hdrop2, rfl⟩ := hv
  rw [HLN.out] at hcap1
  clear hW3 hNN hB2 hI2 hLN hF hK hdrop1 hdrop2
  obtain ⟨y, hy⟩ : ∃ y : Nat, IntKind.u64.wrap pos = (y : Int) := ⟨(IntKind.u64.wrap pos).toNat, by rw [IntKind.wrap_u64]; omega⟩
  obtain ⟨k, hk⟩ : ∃ k : Nat, y % i = k := ⟨_, rfl⟩
  have hki : k < i := by rw [← hk]; exact Nat.mod_lt _ (by omega)
  have hkI : (y : Int) % (i : Int) = (k : Int) := by rw [← hk]; push_cast; rfl
  have hkn : (k : Int) < (i : Int) := by omega
  have hn1 : (0 : Int) < (i : Int) := by omega
  have hiw : IntKind.u64.wrap (i : Int) = (i : Int) := IntWalk.u64_in _ (by omega)
  have hkw : IntKind.i64.wrap (k : Int) = (k : Int) := IntWalk.i64_in _ (by omega)
  have hi00 : ((i : Int) == 0) = false := by simp; omega
  have hi01 : ¬ (i : Int) = 0 := by omega
  have hkl : k < s.length := by rw [HLN.out]; exact hki
  obtain ⟨x0, x1, x2⟩ := hcell k hkl
  have q0 := hfro (k * 3)
  have q1 := hfro (k * 3 + 1)
  have q2 := hfro (k * 3 + 2)
  obtain ⟨y0, y1, y2⟩ := hcell 0 (by omega)
  rw [Nat.zero_mul] at y0 y1 y2
  have z0 := hfro 0
  have z1 := hfro (0 + 1)
  have z2 := hfro (0 + 2)
  have HFIN : Hid (∀ (sn' : Nat) (l' : List Itm) (w2 : World), l'.length = i → Its N 51 (.slice (some ⟨g, 0, none⟩) i cap) l' w2 → Below N W3 w2 → Fit l' → sn' < 18446744073709551616 → OfRel w (.int .i64 r) (.int .u64 sn') (.slice (some ⟨g, 0, none⟩) i cap) w2) :=
    Lib.hid fun sn' l' w2 h1 h2 h3 h4 h5 => ofRel_of HW3.out HNN.out h3 h2 h1 hs16 hcap1 hcap2 h4 h5
  have hkf := fit_at HF.out k hkl
  have hzf := fit_at HF.out 0 (by omega)
  clear hcell hfro hk
  have HK := Lib.hid hkf
  have HZ := Lib.hid hzf
  have HKL := Lib.hid hkl
  have HGN := Lib.hid hgN
  clear hkf hzf hkl hgN
  have hh : (how : Int) % 8 = 7 := by omega
  go_wp2
  apply HKK.out
  exact HFIN.out sm s _ HLN.out HI2.out HB2.out HF.out (by omega)

end Go.Proofs.Ytnkhieackclniaa
