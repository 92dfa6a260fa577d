/- TopOf: what follows its first part. -/
import Derived.Test.YtnkhieackclniaaTOfA
namespace Go.Proofs.Ytnkhieackclniaa
open Go Go.RowKit

set_option maxRecDepth 100000 in
set_option maxHeartbeats 64000000 in
theorem of_rest (C : Code) (hC : Try.f4.body.bind (findR 33) = some C) (w wc : World) (s0 s1 s2 s3 s4 s5 s6 s7 s8 s9 s10 s11 s12 s13 s14 s16 s17 s18 s19 s20 s21 s22 s23 s24 s25 s26 s27 s28 s29 s30 s31 s32 s33 s34 s35 s36 s37 s38 s39 s40 s41 s42 s43 s44 s45 s46 s47 s48 s49 s50 s51 s52 s53 s54 s55 s56 s57 s58 s59 s60 s61 s62 s63 s64 s65 s66 s67 s68 s69 s70 s71 s72 s73 s74 s75 s76 s77 s78 s79 s80 s81 s82 s83 s84 s85 s86 s87 s88 s89 s90 s91 s92 s93 s94 s95 s96 s97 s98 s99 s100 s101 s102 s103 s104 s105 s106 s107 s108 s109 s110 s111 s112 s113 s114 s115 s116 s117 s118 s119 s120 s121 s122 s123 s124 s125 s126 s127 s128 s129 s130 s131 s132 s133 s134 s135 s136 s137 s138 s139 s140 s141 s142 s143 s144 s145 s146 s147 s148 s149 s150 s151 s152 s153 s154 s155 s156 s157 s158 s159 s160 s161 s162 s163 s164 s165 s166 s167 s168 s169 s170 s171 s172 s173 s174 s175 s176 s177 s178 s179 s180 s181 s182 s183 s184 s185 s186 s187 s188 s189 s190 s191 s192 s193 s194 s195 s196 s197 s198 s199 s200 s201 s202 s203 s204 s205 s206 s207 s208 s209 s210 s211 s212 : Value) (hcut : OfRel w s0 s1 s2 wc) :
    Code.wp Try.prog C (bodyPost Try.prog Try.f4 fun e w' => e = .returned (.bool true) ∧ Below w.heap.size w w') { tmps := (s0 :: s1 :: s2 :: s3 :: s4 :: s5 :: s6 :: s7 :: s8 :: s9 :: s10 :: s11 :: s12 :: s13 :: s14 :: .bool true :: s16 :: s17 :: s18 :: s19 :: s20 :: s21 :: s22 :: s23 :: s24 :: s25 :: s26 :: s27 :: s28 :: s29 :: s30 :: s31 :: s32 :: s33 :: s34 :: s35 :: s36 :: s37 :: s38 :: s39 :: s40 :: s41 :: s42 :: s43 :: s44 :: s45 :: s46 :: s47 :: s48 :: s49 :: s50 :: s51 :: s52 :: s53 :: s54 :: s55 :: s56 :: s57 :: s58 :: s59 :: s60 :: s61 :: s62 :: s63 :: s64 :: s65 :: s66 :: s67 :: s68 :: s69 :: s70 :: s71 :: s72 :: s73 :: s74 :: s75 :: s76 :: s77 :: s78 :: s79 :: s80 :: s81 :: s82 :: s83 :: s84 :: s85 :: s86 :: s87 :: s88 :: s89 :: s90 :: s91 :: s92 :: s93 :: s94 :: s95 :: s96 :: s97 :: s98 :: s99 :: s100 :: s101 :: s102 :: s103 :: s104 :: s105 :: s106 :: s107 :: s108 :: s109 :: s110 :: s111 :: s112 :: s113 :: s114 :: s115 :: s116 :: s117 :: s118 :: s119 :: s120 :: s121 :: s122 :: s123 :: s124 :: s125 :: s126 :: s127 :: s128 :: s129 :: s130 :: s131 :: s132 :: s133 :: s134 :: s135 :: s136 :: s137 :: s138 :: s139 :: s140 :: s141 :: s142 :: s143 :: s144 :: s145 :: s146 :: s147 :: s148 :: s149 :: s150 :: s151 :: s152 :: s153 :: s154 :: s155 :: s156 :: s157 :: s158 :: s159 :: s160 :: s161 :: s162 :: s163 :: s164 :: s165 :: s166 :: s167 :: s168 :: s169 :: s170 :: s171 :: s172 :: s173 :: s174 :: s175 :: s176 :: s177 :: s178 :: s179 :: s180 :: s181 :: s182 :: s183 :: s184 :: s185 :: s186 :: s187 :: s188 :: s189 :: s190 :: s191 :: s192 :: s193 :: s194 :: s195 :: s196 :: s197 :: s198 :: s199 :: s200 :: s201 :: s202 :: s203 :: s204 :: s205 :: s206 :: s207 :: s208 :: s209 :: s210 :: s211 :: s212 :: []).toArray, defers := [] } wc := by
  cases hC
  obtain ⟨x', sn', p', l', cap', rfl, rfl, rfl, hsn', hlc', hcm', hb32', hf', hr', hB'⟩ := hcut
  have HF' := Lib.hid hf'
  have HB' := Lib.hid hB'
  have hmax' : l'.length ≤ 9223372036854775807 := by omega
  have hrefs := fun (W : World) (hW : Rd p' l' W) => refs_any p' l' cap' hb32' W hW
  have HR' := Lib.hid hr'
  clear hf' hB' hr'
  by_cases hout : x' < 1 ∨ 16 < x'
  · have h1 := of_room x' hout
    have h2 := ref_of_room x' hout
    clear hout
    have hrf := hrefs wc HR'.out
    clear hrefs
    go_wp2_with fail
    refine (h1 sn' p' _ cap' _).mono ?_
    rintro e W2 ⟨rfl, rfl⟩
    go_wp2_with fail
    refine hrf.mono ?_
    rintro e W3 ⟨v3, rfl, hI3, hB3⟩
    obtain ⟨q3, c3, hv3, _, _⟩ := hI3.cap
    subst hv3
    have HB3 := Lib.hid (below_on HB'.out hB3 (Nat.le_refl _))
    clear hI3 hB3 hrf
    go_wp2_with fail
    refine (h2 sn' q3 _ c3 _).mono ?_
    rintro e W4 ⟨rfl, rfl⟩
    go_wp2
    go_ret
    exact ⟨rfl, HB3.out⟩
  · obtain ⟨r, rfl⟩ : ∃ r : Nat, x' = r := ⟨x'.toNat, by omega⟩
    have h1 : 1 ≤ r := by omega
    have h16 : r ≤ 16 := by omega
    have hof := of_any r h1 h16 sn' p' l' cap' hmax' HF'.out wc HR'.out
    clear hout
    go_wp2_with fail
    refine hof.mono ?_
    rintro e W2 ⟨hB2, hres⟩
    have hrf := hrefs W2 (HR'.out.below hB2)
    have HB2 := Lib.hid (below_on HB'.out hB2 (Nat.le_refl _))
    clear hrefs hof hB2
    rcases hres with ⟨hno, rfl⟩ | ⟨hok, B, v, rfl, hT⟩
    · have HNO := Lib.hid hno
      clear hno
      go_wp2_with fail
      refine hrf.mono ?_
      rintro e W3 ⟨v3, rfl, hI3, hB3⟩
      obtain ⟨q3, c3, hv3, _, _⟩ := hI3.cap
      subst hv3
      have HB3 := Lib.hid (below_on HB2.out hB3 (Nat.le_refl _))
      have hro := ref_of_any r h1 h16 sn' hsn' q3 l' c3 HF'.out W3 hI3
      clear hI3 hB3 hrf
      go_wp2_with fail
      refine hro.mono ?_
      rintro e W4 ⟨hB4, hres⟩
      rcases hres with ⟨_, rfl⟩ | ⟨hok, _⟩
      · have HB4 := Lib.hid (below_on HB3.out hB4 (Nat.le_refl _))
        clear hB4 hro
        go_wp2
        go_ret
        exact ⟨rfl, HB4.out⟩
      · exact absurd hok HNO.out
    · have HOK := Lib.hid hok
      have HT := Lib.hid hT
      clear hok hT
      go_wp2_with fail
      refine hrf.mono ?_
      rintro e W3 ⟨v3, rfl, hI3, hB3⟩
      obtain ⟨q3, c3, hv3, _, _⟩ := hI3.cap
      subst hv3
      have HB3 := Lib.hid (below_on HB2.out hB3 (Nat.le_refl _))
      have HT3 := Lib.hid (HT.out.below hB3)
      have hro := ref_of_any r h1 h16 sn' hsn' q3 l' c3 HF'.out W3 hI3
      clear hI3 hB3 hrf
      go_wp2_with fail
      refine hro.mono ?_
      rintro e W4 ⟨hB4, hres⟩
      rcases hres with ⟨hno, _⟩ | ⟨_, Q, u, rfl, hX⟩
      · exact absurd HOK.out hno
      have HB4 := Lib.hid (below_on HB3.out hB4 (Nat.le_refl _))
      have HT4 := Lib.hid (HT3.out.below hB4)
      have HX4 := Lib.hid hX
      clear hB4 hro hX
      go_wp2_with fail
      refine (items_any HT4.out).mono ?_
      rintro e W5 ⟨v5, s, rfl, hI5, hp5, hto5, hB5⟩
      obtain ⟨p5, c5, hv5, _, _⟩ := hI5.cap
      subst hv5
      have hsl : s.length ≤ 16 := by rw [hp5.length_eq]; exact Nat.le_trans HT4.out.inv.len HT4.out.inv.hi
      have HB5 := Lib.hid (below_on HB4.out hB5 (Nat.le_refl _))
      have HT5 := Lib.hid (HT4.out.below hB5)
      have HX5 := Lib.hid (HX4.out.below hB5)
      have hrf := refs_any p5 s c5 (by omega) W5 hI5.rd
      have HP := Lib.hid hp5
      have HTO := Lib.hid hto5
      have HND : Hid ((s.map (·.name)).Nodup) := Lib.hid ((hp5.map _).nodup_iff.2 HT4.out.inv.nd)
      clear hI5 hp5 hto5 hB5
      go_wp2_with fail
      refine hrf.mono ?_
      rintro e W6 ⟨v6, rfl, hI6, hB6⟩
      have HI6 := Lib.hid hI6
      have HB6 := Lib.hid (below_on HB5.out hB6 (Nat.le_refl _))
      have HT6 := Lib.hid (HT5.out.below hB6)
      have HX6 := Lib.hid (HX5.out.below hB6)
      clear hI6 hB6 hrf
      go_wp2_with fail
      refine (ref_items_any HX6.out).mono ?_
      rintro e W7 ⟨v7, s2, rfl, hI7, hp7, hto7, hB7⟩
      obtain rfl : s = s2 := told_unique HTO.out hto7 (HP.out.trans hp7.symm) HND.out
      have hI67 := HI6.out.below hB7
      obtain ⟨q6, c6, hv6, _, _⟩ := hI67.cap
      obtain ⟨q7, c7, hv7, _, _⟩ := hI7.cap
      subst hv6 hv7
      have hsa := same_any q6 q7 s c6 c7 (by omega) W7 hI67.rd hI7.rd
      have HB7 := Lib.hid (below_on HB6.out hB7 (Nat.le_refl _))
      have HT7 := Lib.hid (HT6.out.below hB7)
      have HX7 := Lib.hid (HX6.out.below hB7)
      clear hI7 hp7 hto7 hB7 hI67
      go_wp2_with fail
      refine hsa.mono ?_
      rintro e W8 ⟨rfl, hB8⟩
      have HB8 := Lib.hid (below_on HB7.out hB8 (Nat.le_refl _))
      have HT8 := Lib.hid (HT7.out.below hB8)
      have HX8 := Lib.hid (HX7.out.below hB8)
      clear hB8 hsa
      have hse := seen_walk HT8.out
      rw [HOK.out.2.2.2.2.2.1] at hse
      go_wp2_with fail
      refine hse.mono ?_
      rintro e W9 ⟨rfl, hB9⟩
      have HB9 := Lib.hid (below_on HB8.out hB9 (Nat.le_refl _))
      have HT9 := Lib.hid (HT8.out.below hB9)
      have HX9 := Lib.hid (HX8.out.below hB9)
      clear hB9 hse
      have hl1 := least_any HT9.out
      obtain ⟨le, hle⟩ : ∃ le, leastL r l' = le := ⟨_, rfl⟩
      rw [hle] at hl1
      have HLE := Lib.hid hle
      clear hle
      go_wp2_with fail
      refine hl1.mono ?_
      rintro e W10 ⟨rfl, hB10⟩
      have HB10 := Lib.hid (below_on HB9.out hB10 (Nat.le_refl _))
      have HX10 := Lib.hid (HX9.out.below hB10)
      have hl2 := ref_least_any HX10.out
      rw [HLE.out] at hl2
      clear hB10 hl1
      go_wp2_with fail
      refine hl2.mono ?_
      rintro e W11 ⟨rfl, hB11⟩
      have HB11 := Lib.hid (below_on HB10.out hB11 (Nat.le_refl _))
      clear hB11 hl2
      go_wp2
      go_ret
      exact ⟨rfl, HB11.out⟩
end Go.Proofs.Ytnkhieackclniaa
