/- TopOf: one thing of the top is another one: arms 5. -/
import Derived.Test.YtnkhieackclniaaTOfA
namespace Go.Proofs.Ytnkhieackclniaa
open Go Go.RowKit

namespace Reg2
open Go.Proofs.Ytnkhieackclniaa.Reg
theorem ok_store {P : Program} {Ψ : Array Bool → World → Prop} {l : List Oper} {Q : Exit → Act → World → Prop} {Φ : Nat → Value → World → Prop} {k : Nat} {o : Oper} {a : Act} {w w2 : World} {listed : Array Bool} (hw : Region.wanted o (yielded l.toArray a.tmps) = true)
    (hrun : (execOp a.eval o).run P w = .ok .skip w2) (hΨ : Ψ (listed.setIfInBounds k true) w2) (hv : Φ k undef w2) :
    if Region.wanted o (yielded l.toArray a.tmps) then o.wp P a w (fun a' w' => ∃ v, a' = a.put o.dst v ∧ Ψ (listed.setIfInBounds k true) w' ∧ Φ k v w') Q else Ψ (listed.setIfInBounds k true) w ∧ Φ k undef w := by
  rw [if_pos hw]
  unfold Oper.wp
  rw [hrun]
  exact ⟨undef, rfl, hΨ, hv⟩
end Reg2
def SwPhi (g j0 cap k : Nat) (kn zn : ByteArray) (km ko zm zo : Nat) : Nat → Value → World → Prop
  | i, v, _ => v = ([.slice (some ⟨g, 0, none⟩) j0 cap, .slice (some ⟨g, 0, none⟩) j0 cap, .int .i64 k, .slice (some ⟨g, 0, none⟩) j0 cap, .int .i64 k, .pointer (some ⟨g, k * 3, none⟩), .agg #[.string kn, .int .u64 km, .int .u64 ko], .slice (some ⟨g, 0, none⟩) j0 cap, .pointer (some ⟨g, 0, none⟩), .agg #[.string zn, .int .u64 zm, .int .u64 zo], .pointer (some ⟨g, 0, none⟩), undef, .pointer (some ⟨g, k * 3, none⟩), undef] : List Value).getD i undef
theorem SwPhi.stays {g j0 cap k : Nat} {kn zn : ByteArray} {km ko zm zo : Nat} : ∀ i' v wx wy, SwPhi g j0 cap k kn zn km ko zm zo i' v wx → SwPhi g j0 cap k kn zn km ko zm zo i' v wy := fun _ _ _ _ h => h
/-- Which world it is, by which of the two stores is done. -/
def SwPsi (W0 W1 W2 : World) (ls : Array Bool) (w : World) : Prop := if ls[13]? = some true then w = W2 else if ls[11]? = some true then w = W1 else w = W0
section
variable {W0 W1 W2 w : World} {ls : Array Bool}
theorem SwPsi.stay (h : SwPsi W0 W1 W2 ls w) (k : Nat) (h1 : k ≠ 11) (h2 : k ≠ 13) : SwPsi W0 W1 W2 (ls.setIfInBounds k true) w := by
  unfold SwPsi at h ⊢
  rw [Array.getElem?_setIfInBounds_ne h1, Array.getElem?_setIfInBounds_ne h2]
  exact h
theorem SwPsi.at0 (h : SwPsi W0 W1 W2 ls w) (h1 : ls[11]? = some false) (h2 : ls[13]? = some false) : w = W0 := by
  unfold SwPsi at h; rw [if_neg (by rw [h2]; simp), if_neg (by rw [h1]; simp)] at h; exact h
theorem SwPsi.at1 (h : SwPsi W0 W1 W2 ls w) (h1 : ls[11]? = some true) (h2 : ls[13]? = some false) : w = W1 := by
  unfold SwPsi at h; rw [if_neg (by rw [h2]; simp), if_pos h1] at h; exact h
theorem SwPsi.at2 (h : SwPsi W0 W1 W2 ls w) (h2 : ls[13]? = some true) : w = W2 := by
  unfold SwPsi at h; rw [if_pos h2] at h; exact h
theorem SwPsi.zero (k : Nat) (h : w = W0) : SwPsi W0 W1 W2 (Array.replicate k false) w := by
  unfold SwPsi
  rw [if_neg (by rw [Array.getElem?_replicate]; split <;> simp), if_neg (by rw [Array.getElem?_replicate]; split <;> simp)]
  exact h
theorem SwPsi.to1 (hls : ls.size = 14) (h13 : ls[13]? = some false) (h : w = W1) : SwPsi W0 W1 W2 (ls.setIfInBounds 11 true) w := by
  unfold SwPsi
  rw [Array.getElem?_setIfInBounds_ne (by decide), if_neg (by rw [h13]; simp), if_pos (by simp [hls])]
  exact h
theorem SwPsi.to2 (hls : ls.size = 14) (h : w = W2) : SwPsi W0 W1 W2 (ls.setIfInBounds 13 true) w := by
  unfold SwPsi
  rw [if_pos (by simp [hls])]
  exact h
end

set_option maxRecDepth 100000 in
set_option maxHeartbeats 16000000 in
theorem of_switch5 (C : Code) (hC : Try.f4.body.bind (findC 94) = some C) (w W3 wr : World) (r sm N g i cap how : Nat) (pos : Int) (s : List Itm)
    (hW3 : Below w.heap.size w W3) (hNN : W3.heap.size = N) (hB2 : Below N W3 wr) (hI2 : Its N 51 (.slice (some ⟨g, 0, none⟩) i cap) s wr) (hLN : s.length = i) (hs16 : i ≤ 16) (hi0 : ¬ i = 0) (hF : Fit s) (hsn9 : sm ≤ 4611686018427387904) (hhow : how < 256)
    (s3 s4 s7 s8 s9 s10 s11 s12 s13 s14 s15 s16 s17 s18 s19 s20 s21 s22 s23 s24 s25 s26 s27 s28 s29 s30 s31 s32 s33 s34 s35 s36 s37 s38 s39 s40 s41 s42 s43 s44 s45 s46 s47 s48 s49 s50 s51 s52 s53 s54 s55 s56 s57 s58 s59 s60 s61 s62 s63 s64 s65 s66 s67 s68 s69 s70 s71 s72 s73 s74 s75 s76 s77 s78 s79 s80 s81 s82 s83 s84 s85 s86 s87 s88 s89 s90 s91 s92 s93 s95 s96 s97 s98 s99 s100 s101 s102 s103 s104 s105 s106 s107 s108 s109 s110 s111 s112 s113 s114 s115 s116 s117 s118 s119 s120 s121 s122 s123 s124 s125 s126 s127 s128 s129 s130 s131 s132 s133 s134 s135 s136 s137 s138 s139 s140 s141 s142 s143 s144 s145 s146 s147 s148 s149 s150 s151 s152 s153 s154 s155 s156 s157 s158 s159 s160 s161 s162 s163 s164 s165 s166 s167 s168 s169 s170 s171 s172 s173 s174 s175 s176 s177 s178 s179 s180 s181 s182 s183 s184 s185 s186 s187 s188 s189 s190 s191 s192 s193 s194 s195 s196 s197 s198 s199 s200 s201 s202 s203 s204 s205 s206 s207 s208 s209 s210 s211 s212 : Value) (K : Act → World → Prop) (Q' : Exit → Act → World → Prop)
    (hK : ∀ (u1 u2 u20 u95 u96 u97 u98 u99 u100 u101 u102 u103 u104 u105 u106 u107 u108 u109 u110 u111 u112 u113 u114 u115 u116 u117 u118 u119 u120 u121 u122 u123 u124 u125 u126 u127 u128 u129 u130 u131 u132 u133 u134 u135 u136 u137 u138 u139 u140 u141 u142 u143 u144 u145 u146 u147 u148 u149 u150 u151 u152 u153 u154 u155 u156 u157 u158 u159 u160 u161 u162 u163 u164 u165 u166 u167 u168 u169 u170 u171 u172 u173 u174 u175 u176 u177 u178 u179 u180 u181 u182 u183 u184 u185 u186 u187 u188 u189 u190 u191 u192 u193 u194 u195 u196 u197 u198 u199 u200 u201 u202 u203 u204 u205 u206 u207 u208 u209 u210 u211 u212 : Value) (wx : World), OfRel w (.int .i64 r) u1 u2 wx → K { tmps := (.int .i64 r :: u1 :: u2 :: s3 :: s4 :: .int .u8 how :: .int .i64 pos :: s7 :: s8 :: s9 :: s10 :: s11 :: s12 :: s13 :: s14 :: s15 :: s16 :: s17 :: s18 :: s19 :: u20 :: s21 :: s22 :: s23 :: s24 :: s25 :: s26 :: s27 :: s28 :: s29 :: s30 :: s31 :: s32 :: s33 :: s34 :: s35 :: s36 :: s37 :: s38 :: s39 :: s40 :: s41 :: s42 :: s43 :: s44 :: s45 :: s46 :: s47 :: s48 :: s49 :: s50 :: s51 :: s52 :: s53 :: s54 :: s55 :: s56 :: s57 :: s58 :: s59 :: s60 :: s61 :: s62 :: s63 :: s64 :: s65 :: s66 :: s67 :: s68 :: s69 :: s70 :: s71 :: s72 :: s73 :: s74 :: s75 :: s76 :: s77 :: s78 :: s79 :: s80 :: s81 :: s82 :: s83 :: s84 :: s85 :: s86 :: s87 :: s88 :: s89 :: s90 :: s91 :: s92 :: s93 :: .bool true :: u95 :: u96 :: u97 :: u98 :: u99 :: u100 :: u101 :: u102 :: u103 :: u104 :: u105 :: u106 :: u107 :: u108 :: u109 :: u110 :: u111 :: u112 :: u113 :: u114 :: u115 :: u116 :: u117 :: u118 :: u119 :: u120 :: u121 :: u122 :: u123 :: u124 :: u125 :: u126 :: u127 :: u128 :: u129 :: u130 :: u131 :: u132 :: u133 :: u134 :: u135 :: u136 :: u137 :: u138 :: u139 :: u140 :: u141 :: u142 :: u143 :: u144 :: u145 :: u146 :: u147 :: u148 :: u149 :: u150 :: u151 :: u152 :: u153 :: u154 :: u155 :: u156 :: u157 :: u158 :: u159 :: u160 :: u161 :: u162 :: u163 :: u164 :: u165 :: u166 :: u167 :: u168 :: u169 :: u170 :: u171 :: u172 :: u173 :: u174 :: u175 :: u176 :: u177 :: u178 :: u179 :: u180 :: u181 :: u182 :: u183 :: u184 :: u185 :: u186 :: u187 :: u188 :: u189 :: u190 :: u191 :: u192 :: u193 :: u194 :: u195 :: u196 :: u197 :: u198 :: u199 :: u200 :: u201 :: u202 :: u203 :: u204 :: u205 :: u206 :: u207 :: u208 :: u209 :: u210 :: u211 :: u212 :: []).toArray, defers := [] } wx) (h8 : how % 8 = 5) :
    Code.wp Try.prog C (Exit.then K Q') { tmps := (.int .i64 r :: .int .u64 sm :: .slice (some ⟨g, 0, none⟩) i cap :: s3 :: s4 :: .int .u8 how :: .int .i64 pos :: s7 :: s8 :: s9 :: s10 :: s11 :: s12 :: s13 :: s14 :: s15 :: s16 :: s17 :: s18 :: s19 :: s20 :: s21 :: s22 :: s23 :: s24 :: s25 :: s26 :: s27 :: s28 :: s29 :: s30 :: s31 :: s32 :: s33 :: s34 :: s35 :: s36 :: s37 :: s38 :: s39 :: s40 :: s41 :: s42 :: s43 :: s44 :: s45 :: s46 :: s47 :: s48 :: s49 :: s50 :: s51 :: s52 :: s53 :: s54 :: s55 :: s56 :: s57 :: s58 :: s59 :: s60 :: s61 :: s62 :: s63 :: s64 :: s65 :: s66 :: s67 :: s68 :: s69 :: s70 :: s71 :: s72 :: s73 :: s74 :: s75 :: s76 :: s77 :: s78 :: s79 :: s80 :: s81 :: s82 :: s83 :: s84 :: s85 :: s86 :: s87 :: s88 :: s89 :: s90 :: s91 :: s92 :: s93 :: .bool true :: s95 :: s96 :: s97 :: s98 :: s99 :: s100 :: s101 :: s102 :: s103 :: s104 :: s105 :: s106 :: s107 :: s108 :: s109 :: s110 :: s111 :: s112 :: s113 :: s114 :: s115 :: s116 :: s117 :: s118 :: s119 :: s120 :: s121 :: s122 :: s123 :: s124 :: s125 :: s126 :: s127 :: s128 :: s129 :: s130 :: s131 :: s132 :: s133 :: s134 :: s135 :: s136 :: s137 :: s138 :: s139 :: s140 :: s141 :: s142 :: s143 :: s144 :: s145 :: s146 :: s147 :: s148 :: s149 :: s150 :: s151 :: s152 :: s153 :: s154 :: s155 :: s156 :: s157 :: s158 :: s159 :: s160 :: s161 :: s162 :: s163 :: s164 :: s165 :: s166 :: s167 :: s168 :: s169 :: s170 :: s171 :: s172 :: s173 :: s174 :: s175 :: s176 :: s177 :: s178 :: s179 :: s180 :: s181 :: s182 :: s183 :: s184 :: s185 :: s186 :: s187 :: s188 :: s189 :: s190 :: s191 :: s192 :: s193 :: s194 :: s195 :: s196 :: s197 :: s198 :: s199 :: s200 :: s201 :: s202 :: s203 :: s204 :: s205 :: s206 :: s207 :: s208 :: s209 :: s210 :: s211 :: s212 :: []).toArray, defers := [] } wr := by
  cases hC
  have HW3 := Lib.hid hW3
  have HNN := Lib.hid hNN
  have HB2 := Lib.hid hB2
  have HI2 := Lib.hid hI2
  have HLN := Lib.hid hLN
  have HF := Lib.hid hF
  have HKK := Lib.hid hK
  have HSN := Lib.hid hsn9
  obtain ⟨g', cap', hv, hgN, hgw, hcap1, hcap2, hcell, hfro⟩ := hI2.form_pos (by rw [HLN.out]; omega)
  simp only [Value.slice.injEq, Option.some.injEq, Addr.mk.injEq] at hv
  obtain ⟨⟨rfl, hdrop1⟩, hdrop2, rfl⟩ := hv
  rw [HLN.out] at hcap1
  clear hW3 hNN hB2 hI2 hLN hF hK hdrop1 hdrop2
  obtain ⟨y, hy⟩ : ∃ y : Nat, IntKind.u64.wrap pos = (y : Int) := ⟨(IntKind.u64.wrap pos).toNat, by rw [IntKind.wrap_u64]; omega⟩
  obtain ⟨k, hk⟩ : ∃ k : Nat, y % i = k := ⟨_, rfl⟩
  have hki : k < i := by rw [← hk]; exact Nat.mod_lt _ (by omega)
  have hkI : (y : Int) % (i : Int) = (k : Int) := by rw [← hk]; push_cast; rfl
  have hkn : (k : Int) < (i : Int) := by omega
  have hn1 : (0 : Int) < (i : Int) := by omega
  have hiw : IntKind.u64.wrap (i : Int) = (i : Int) := IntWalk.u64_in _ (by omega)
  have hkw : IntKind.i64.wrap (k : Int) = (k : Int) := IntWalk.i64_in _ (by omega)
  have hi00 : ((i : Int) == 0) = false := by simp; omega
  have hi01 : ¬ (i : Int) = 0 := by omega
  have hkl : k < s.length := by rw [HLN.out]; exact hki
  obtain ⟨x0, x1, x2⟩ := hcell k hkl
  have q0 := hfro (k * 3)
  have q1 := hfro (k * 3 + 1)
  have q2 := hfro (k * 3 + 2)
  obtain ⟨y0, y1, y2⟩ := hcell 0 (by omega)
  rw [Nat.zero_mul] at y0 y1 y2
  have z0 := hfro 0
  have z1 := hfro (0 + 1)
  have z2 := hfro (0 + 2)
  have HFIN : Hid (∀ (sn' : Nat) (l' : List Itm) (w2 : World), l'.length = i → Its N 51 (.slice (some ⟨g, 0, none⟩) i cap) l' w2 → Below N W3 w2 → Fit l' → sn' < 18446744073709551616 → OfRel w (.int .i64 r) (.int .u64 sn') (.slice (some ⟨g, 0, none⟩) i cap) w2) :=
    Lib.hid fun sn' l' w2 h1 h2 h3 h4 h5 => ofRel_of HW3.out HNN.out h3 h2 h1 hs16 hcap1 hcap2 h4 h5
  have hkf := fit_at HF.out k hkl
  have hzf := fit_at HF.out 0 (by omega)
  clear hcell hfro hk
  have HK := Lib.hid hkf
  have HZ := Lib.hid hzf
  have HKL := Lib.hid hkl
  have HGN := Lib.hid hgN
  clear hkf hzf hkl hgN
  have hh : (how : Int) % 8 = 5 := by omega
  generalize hkn0 : s[k]!.name = kn at *
  generalize hkm0 : s[k]!.many = km at *
  generalize hko0 : s[k]!.over = ko at *
  generalize hzn0 : s[0]!.name = zn at *
  generalize hzm0 : s[0]!.many = zm at *
  generalize hzo0 : s[0]!.over = zo at *
  have hS1 := HI2.out.drew.store3 HLN.out.symm 0 (by rw [HLN.out]; omega) ⟨kn, km, ko⟩
  rw [Nat.zero_mul, Nat.zero_add, Nat.zero_add] at hS1
  have hB3 := ((HB2.out.drew.setCell (p := ⟨g, 0, none⟩) HGN.out (.string kn)).setCell (p := ⟨g, 1, none⟩) HGN.out (.int .u64 km)).setCell (p := ⟨g, 2, none⟩) HGN.out (.int .u64 ko)
  obtain ⟨W1, hW1⟩ : ∃ W1, (((wr.drew.setCell ⟨g, 0, none⟩ (.string kn)).setCell ⟨g, 1, none⟩ (.int .u64 km)).setCell ⟨g, 2, none⟩ (.int .u64 ko)) = W1 := ⟨_, rfl⟩
  rw [hW1] at hS1 hB3
  have hS2 := hS1.store3 (by rw [List.length_set]; exact HLN.out.symm) k (by rw [List.length_set]; exact HKL.out) ⟨zn, zm, zo⟩
  have hB5 := ((hB3.setCell (p := ⟨g, k * 3, none⟩) HGN.out (.string zn)).setCell (p := ⟨g, k * 3 + 1, none⟩) HGN.out (.int .u64 zm)).setCell (p := ⟨g, k * 3 + 2, none⟩) HGN.out (.int .u64 zo)
  obtain ⟨W2, hW2⟩ : ∃ W2, (((W1.setCell ⟨g, k * 3, none⟩ (.string zn)).setCell ⟨g, k * 3 + 1, none⟩ (.int .u64 zm)).setCell ⟨g, k * 3 + 2, none⟩ (.int .u64 zo)) = W2 := ⟨_, rfl⟩
  simp only at hS2 hB5
  rw [hW2] at hS2 hB5
  obtain ⟨g1, c1, e1, _, _, _, _, hc1, hf1⟩ := hS1.form_pos (by rw [List.length_set, HLN.out]; omega)
  simp only [Value.slice.injEq, Option.some.injEq, Addr.mk.injEq] at e1
  obtain ⟨⟨rfl, hd1⟩, hd2, hd3⟩ := e1
  obtain ⟨v0, v1, v2⟩ := hc1 k (by rw [List.length_set]; exact HKL.out)
  have v3 := hf1 (k * 3)
  have v4 := hf1 (k * 3 + 1)
  have v5 := hf1 (k * 3 + 2)
  generalize ((s.set 0 ⟨kn, km, ko⟩)[k]!).name = an at *
  generalize ((s.set 0 ⟨kn, km, ko⟩)[k]!).many = am at *
  generalize ((s.set 0 ⟨kn, km, ko⟩)[k]!).over = ao at *
  have HE := Lib.hid (HFIN.out sm _ _ (by rw [List.length_set, List.length_set]; exact HLN.out) hS2 hB5 (fit_set (fit_set HF.out 0 _ HK.out) k _ HZ.out) (by omega))
  clear hS1 hS2 hB5 hB3 hc1 hf1 hd1 hd2 hd3 hkn0 hkm0 hko0 hzn0 hzm0 hzo0
  go_wp2
  generalize hW0 : wr.drew = W0 at *
  have x0 := (show W0.cell? ⟨g, k * 3, none⟩ = some (.string kn) by rw [← hW0]; exact x0)
  have x1 := (show W0.cell? ⟨g, k * 3 + 1, none⟩ = some (.int .u64 km) by rw [← hW0]; exact x1)
  have x2 := (show W0.cell? ⟨g, k * 3 + 2, none⟩ = some (.int .u64 ko) by rw [← hW0]; exact x2)
  have y0 := (show W0.cell? ⟨g, 0, none⟩ = some (.string zn) by rw [← hW0]; exact y0)
  have y1 := (show W0.cell? ⟨g, 0 + 1, none⟩ = some (.int .u64 zm) by rw [← hW0]; exact y1)
  have y2 := (show W0.cell? ⟨g, 0 + 2, none⟩ = some (.int .u64 zo) by rw [← hW0]; exact y2)
  have z0 := (show W0.frozen? ⟨g, 0, none⟩ = false by rw [← hW0]; exact z0)
  have z1 := (show W0.frozen? ⟨g, 0 + 1, none⟩ = false by rw [← hW0]; exact z1)
  have z2 := (show W0.frozen? ⟨g, 0 + 2, none⟩ = false by rw [← hW0]; exact z2)
  refine Reg2.wp_region_inv2 (n := 213) (SwPsi W0 W1 W2) (SwPhi g i cap k kn zn km ko zm zo) (by kernel_rfl) (by kernel_rfl) rfl SwPhi.stays (SwPsi.zero _ hW0) ?_ ?_
  · refine ⟨?_, ?_, ?_, ?_, ?_, ?_, ?_, ?_, ?_, ?_, ?_, ?_, ?_, ?_, trivial⟩
    · intro ls cx wc hΨ hls hun hcl hpr hp hs
      have g2 : cx.tmps[2]? = some (.slice (some ⟨g, 0, none⟩) i cap) := (hs 2 (by kernel_rfl)).trans rfl
      refine Reg2.ok_value (v := .slice (some ⟨g, 0, none⟩) i cap) (Reg.wanted_none rfl) ?_ (hΨ.stay 0 (by decide) (by decide)) rfl
      go_simp
    · intro ls cx wc hΨ hls hun hcl hpr hp hs
      have g2 : cx.tmps[2]? = some (.slice (some ⟨g, 0, none⟩) i cap) := (hs 2 (by kernel_rfl)).trans rfl
      refine Reg2.ok_value (v := .slice (some ⟨g, 0, none⟩) i cap) (Reg.wanted_none rfl) ?_ (hΨ.stay 1 (by decide) (by decide)) rfl
      go_simp
    · intro ls cx wc hΨ hls hun hcl hpr hp hs
      have g20 : cx.tmps[20]? = some (.int .i64 k) := (hs 20 (by kernel_rfl)).trans rfl
      refine Reg2.ok_value (v := .int .i64 k) (Reg.wanted_none rfl) ?_ (hΨ.stay 2 (by decide) (by decide)) rfl
      go_simp
    · intro ls cx wc hΨ hls hun hcl hpr hp hs
      have g2 : cx.tmps[2]? = some (.slice (some ⟨g, 0, none⟩) i cap) := (hs 2 (by kernel_rfl)).trans rfl
      refine Reg2.ok_value (v := .slice (some ⟨g, 0, none⟩) i cap) (Reg.wanted_none rfl) ?_ (hΨ.stay 3 (by decide) (by decide)) rfl
      go_simp
    · intro ls cx wc hΨ hls hun hcl hpr hp hs
      have g20 : cx.tmps[20]? = some (.int .i64 k) := (hs 20 (by kernel_rfl)).trans rfl
      refine Reg2.ok_value (v := .int .i64 k) (Reg.wanted_none rfl) ?_ (hΨ.stay 4 (by decide) (by decide)) rfl
      go_simp
    · intro ls cx wc hΨ hls hun hcl hpr hp hs
      have g143 : cx.tmps[143]? = some (.slice (some ⟨g, 0, none⟩) i cap) := by obtain ⟨_, g, hv⟩ := Reg.pred hp 3 143 (by kernel_rfl) rfl rfl; exact g.trans (congrArg some hv)
      have g144 : cx.tmps[144]? = some (.int .i64 k) := by obtain ⟨_, g, hv⟩ := Reg.pred hp 4 144 (by kernel_rfl) rfl rfl; exact g.trans (congrArg some hv)
      refine Reg2.ok_value (v := .pointer (some ⟨g, k * 3, none⟩)) (Reg.wanted_none rfl) ?_ (hΨ.stay 5 (by decide) (by decide)) rfl
      go_simp
    · intro ls cx wc hΨ hls hun hcl hpr hp hs
      have g145 : cx.tmps[145]? = some (.pointer (some ⟨g, k * 3, none⟩)) := by obtain ⟨_, g, hv⟩ := Reg.pred hp 5 145 (by kernel_rfl) rfl rfl; exact g.trans (congrArg some hv)
      have n11 := Reg2.not_done hcl hls 6 11 6 _ rfl (by kernel_rfl) hun
      have n13 := Reg2.not_done hcl hls 6 13 6 _ rfl (by kernel_rfl) hun
      obtain rfl := hΨ.at0 n11 n13
      refine Reg2.ok_value (v := .agg #[.string kn, .int .u64 km, .int .u64 ko]) (Reg.wanted_none rfl) ?_ (hΨ.stay 6 (by decide) (by decide)) rfl
      go_simp
    · intro ls cx wc hΨ hls hun hcl hpr hp hs
      have g2 : cx.tmps[2]? = some (.slice (some ⟨g, 0, none⟩) i cap) := (hs 2 (by kernel_rfl)).trans rfl
      refine Reg2.ok_value (v := .slice (some ⟨g, 0, none⟩) i cap) (Reg.wanted_none rfl) ?_ (hΨ.stay 7 (by decide) (by decide)) rfl
      go_simp
    · intro ls cx wc hΨ hls hun hcl hpr hp hs
      have g147 : cx.tmps[147]? = some (.slice (some ⟨g, 0, none⟩) i cap) := by obtain ⟨_, g, hv⟩ := Reg.pred hp 7 147 (by kernel_rfl) rfl rfl; exact g.trans (congrArg some hv)
      refine Reg2.ok_value (v := .pointer (some ⟨g, 0, none⟩)) (Reg.wanted_none rfl) ?_ (hΨ.stay 8 (by decide) (by decide)) rfl
      go_simp
    · intro ls cx wc hΨ hls hun hcl hpr hp hs
      have g148 : cx.tmps[148]? = some (.pointer (some ⟨g, 0, none⟩)) := by obtain ⟨_, g, hv⟩ := Reg.pred hp 8 148 (by kernel_rfl) rfl rfl; exact g.trans (congrArg some hv)
      have n11 := Reg2.not_done hcl hls 6 11 9 _ rfl (by kernel_rfl) hun
      have n13 := Reg2.not_done hcl hls 6 13 9 _ rfl (by kernel_rfl) hun
      obtain rfl := hΨ.at0 n11 n13
      refine Reg2.ok_value (v := .agg #[.string zn, .int .u64 zm, .int .u64 zo]) (Reg.wanted_none rfl) ?_ (hΨ.stay 9 (by decide) (by decide)) rfl
      go_simp
    · intro ls cx wc hΨ hls hun hcl hpr hp hs
      have g140 : cx.tmps[140]? = some (.slice (some ⟨g, 0, none⟩) i cap) := by obtain ⟨_, g, hv⟩ := Reg.pred hp 0 140 (by kernel_rfl) rfl rfl; exact g.trans (congrArg some hv)
      refine Reg2.ok_value (v := .pointer (some ⟨g, 0, none⟩)) (Reg.wanted_none rfl) ?_ (hΨ.stay 10 (by decide) (by decide)) rfl
      go_simp
    · intro ls cx wc hΨ hls hun hcl hpr hp hs
      have g150 : cx.tmps[150]? = some (.pointer (some ⟨g, 0, none⟩)) := by obtain ⟨_, g, hv⟩ := Reg.pred hp 10 150 (by kernel_rfl) rfl rfl; exact g.trans (congrArg some hv)
      have g146 : cx.tmps[146]? = some (.agg #[.string kn, .int .u64 km, .int .u64 ko]) := by obtain ⟨_, g, hv⟩ := Reg.pred hp 6 146 (by kernel_rfl) rfl rfl; exact g.trans (congrArg some hv)
      have n13 := Reg2.not_done hcl hls 6 13 11 _ rfl (by kernel_rfl) hun
      obtain rfl := hΨ.at0 hun n13
      refine Reg2.ok_store (Reg.wanted_none rfl) ?_ (SwPsi.to1 hls n13 hW1) rfl
      go_simp
    · intro ls cx wc hΨ hls hun hcl hpr hp hs
      have g141 : cx.tmps[141]? = some (.slice (some ⟨g, 0, none⟩) i cap) := by obtain ⟨_, g, hv⟩ := Reg.pred hp 1 141 (by kernel_rfl) rfl rfl; exact g.trans (congrArg some hv)
      have g142 : cx.tmps[142]? = some (.int .i64 k) := by obtain ⟨_, g, hv⟩ := Reg.pred hp 2 142 (by kernel_rfl) rfl rfl; exact g.trans (congrArg some hv)
      refine Reg2.ok_value (v := .pointer (some ⟨g, k * 3, none⟩)) (Reg.wanted_none rfl) ?_ (hΨ.stay 12 (by decide) (by decide)) rfl
      go_simp
    · intro ls cx wc hΨ hls hun hcl hpr hp hs
      have g151 : cx.tmps[151]? = some (.pointer (some ⟨g, k * 3, none⟩)) := by obtain ⟨_, g, hv⟩ := Reg.pred hp 12 151 (by kernel_rfl) rfl rfl; exact g.trans (congrArg some hv)
      have g149 : cx.tmps[149]? = some (.agg #[.string zn, .int .u64 zm, .int .u64 zo]) := by obtain ⟨_, g, hv⟩ := Reg.pred hp 9 149 (by kernel_rfl) rfl rfl; exact g.trans (congrArg some hv)
      have n11 := Reg2.reach_done hcl 6 13 11 _ rfl hpr (by kernel_rfl)
      obtain rfl := hΨ.at1 n11 hun
      refine Reg2.ok_store (Reg.wanted_none rfl) ?_ (SwPsi.to2 hls hW2) rfl
      go_simp
  · intro ls c9 wc hΨ hls hall hsz hdf hv ho
    have hfr := Reg.frame_eq [_, _, _, _, _, _, _, _, _, _, _, _, _, _, _, _, _, _, _, _, _, _, _, _, _, _, _, _, _, _, _, _, _, _, _, _, _, _, _, _, _, _, _, _, _, _, _, _, _, _, _, _, _, _, _, _, _, _, _, _, _, _, _, _, _, _, _, _, _, _, _, _, _, _, _, _, _, _, _, _, _, _, _, _, _, _, _, _, _, _, _, _, _, _, _, _, _, _, _, _, _, _, _, _, _, _, _, _, _, _, _, _, _, _, _, _, _, _, _, _, _, _, _, _, _, _, _, _, _, _, _, _, _, _, _, _, _, _, _, _, .slice (some ⟨g, 0, none⟩) i cap, .slice (some ⟨g, 0, none⟩) i cap, .int .i64 k, .slice (some ⟨g, 0, none⟩) i cap, .int .i64 k, .pointer (some ⟨g, k * 3, none⟩), .agg #[.string kn, .int .u64 km, .int .u64 ko], .slice (some ⟨g, 0, none⟩) i cap, .pointer (some ⟨g, 0, none⟩), .agg #[.string zn, .int .u64 zm, .int .u64 zo], .pointer (some ⟨g, 0, none⟩), .pointer (some ⟨g, k * 3, none⟩), _, _, _, _, _, _, _, _, _, _, _, _, _, _, _, _, _, _, _, _, _, _, _, _, _, _, _, _, _, _, _, _, _, _, _, _, _, _, _, _, _, _, _, _, _, _, _, _, _, _, _, _, _, _, _, _, _, _, _, _, _] (by simpa using hsz) hdf ⟨((Reg.kept ho 0 (by kernel_rfl)).trans rfl), ((Reg.kept ho 1 (by kernel_rfl)).trans rfl), ((Reg.kept ho 2 (by kernel_rfl)).trans rfl), ((Reg.kept ho 3 (by kernel_rfl)).trans rfl), ((Reg.kept ho 4 (by kernel_rfl)).trans rfl), ((Reg.kept ho 5 (by kernel_rfl)).trans rfl), ((Reg.kept ho 6 (by kernel_rfl)).trans rfl), ((Reg.kept ho 7 (by kernel_rfl)).trans rfl), ((Reg.kept ho 8 (by kernel_rfl)).trans rfl), ((Reg.kept ho 9 (by kernel_rfl)).trans rfl), ((Reg.kept ho 10 (by kernel_rfl)).trans rfl), ((Reg.kept ho 11 (by kernel_rfl)).trans rfl), ((Reg.kept ho 12 (by kernel_rfl)).trans rfl), ((Reg.kept ho 13 (by kernel_rfl)).trans rfl), ((Reg.kept ho 14 (by kernel_rfl)).trans rfl), ((Reg.kept ho 15 (by kernel_rfl)).trans rfl), ((Reg.kept ho 16 (by kernel_rfl)).trans rfl), ((Reg.kept ho 17 (by kernel_rfl)).trans rfl), ((Reg.kept ho 18 (by kernel_rfl)).trans rfl), ((Reg.kept ho 19 (by kernel_rfl)).trans rfl), ((Reg.kept ho 20 (by kernel_rfl)).trans rfl), ((Reg.kept ho 21 (by kernel_rfl)).trans rfl), ((Reg.kept ho 22 (by kernel_rfl)).trans rfl), ((Reg.kept ho 23 (by kernel_rfl)).trans rfl), ((Reg.kept ho 24 (by kernel_rfl)).trans rfl), ((Reg.kept ho 25 (by kernel_rfl)).trans rfl), ((Reg.kept ho 26 (by kernel_rfl)).trans rfl), ((Reg.kept ho 27 (by kernel_rfl)).trans rfl), ((Reg.kept ho 28 (by kernel_rfl)).trans rfl), ((Reg.kept ho 29 (by kernel_rfl)).trans rfl), ((Reg.kept ho 30 (by kernel_rfl)).trans rfl), ((Reg.kept ho 31 (by kernel_rfl)).trans rfl), ((Reg.kept ho 32 (by kernel_rfl)).trans rfl), ((Reg.kept ho 33 (by kernel_rfl)).trans rfl), ((Reg.kept ho 34 (by kernel_rfl)).trans rfl), ((Reg.kept ho 35 (by kernel_rfl)).trans rfl), ((Reg.kept ho 36 (by kernel_rfl)).trans rfl), ((Reg.kept ho 37 (by kernel_rfl)).trans rfl), ((Reg.kept ho 38 (by kernel_rfl)).trans rfl), ((Reg.kept ho 39 (by kernel_rfl)).trans rfl), ((Reg.kept ho 40 (by kernel_rfl)).trans rfl), ((Reg.kept ho 41 (by kernel_rfl)).trans rfl), ((Reg.kept ho 42 (by kernel_rfl)).trans rfl), ((Reg.kept ho 43 (by kernel_rfl)).trans rfl), ((Reg.kept ho 44 (by kernel_rfl)).trans rfl), ((Reg.kept ho 45 (by kernel_rfl)).trans rfl), ((Reg.kept ho 46 (by kernel_rfl)).trans rfl), ((Reg.kept ho 47 (by kernel_rfl)).trans rfl), ((Reg.kept ho 48 (by kernel_rfl)).trans rfl), ((Reg.kept ho 49 (by kernel_rfl)).trans rfl), ((Reg.kept ho 50 (by kernel_rfl)).trans rfl), ((Reg.kept ho 51 (by kernel_rfl)).trans rfl), ((Reg.kept ho 52 (by kernel_rfl)).trans rfl), ((Reg.kept ho 53 (by kernel_rfl)).trans rfl), ((Reg.kept ho 54 (by kernel_rfl)).trans rfl), ((Reg.kept ho 55 (by kernel_rfl)).trans rfl), ((Reg.kept ho 56 (by kernel_rfl)).trans rfl), ((Reg.kept ho 57 (by kernel_rfl)).trans rfl), ((Reg.kept ho 58 (by kernel_rfl)).trans rfl), ((Reg.kept ho 59 (by kernel_rfl)).trans rfl), ((Reg.kept ho 60 (by kernel_rfl)).trans rfl), ((Reg.kept ho 61 (by kernel_rfl)).trans rfl), ((Reg.kept ho 62 (by kernel_rfl)).trans rfl), ((Reg.kept ho 63 (by kernel_rfl)).trans rfl), ((Reg.kept ho 64 (by kernel_rfl)).trans rfl), ((Reg.kept ho 65 (by kernel_rfl)).trans rfl), ((Reg.kept ho 66 (by kernel_rfl)).trans rfl), ((Reg.kept ho 67 (by kernel_rfl)).trans rfl), ((Reg.kept ho 68 (by kernel_rfl)).trans rfl), ((Reg.kept ho 69 (by kernel_rfl)).trans rfl), ((Reg.kept ho 70 (by kernel_rfl)).trans rfl), ((Reg.kept ho 71 (by kernel_rfl)).trans rfl), ((Reg.kept ho 72 (by kernel_rfl)).trans rfl), ((Reg.kept ho 73 (by kernel_rfl)).trans rfl), ((Reg.kept ho 74 (by kernel_rfl)).trans rfl), ((Reg.kept ho 75 (by kernel_rfl)).trans rfl), ((Reg.kept ho 76 (by kernel_rfl)).trans rfl), ((Reg.kept ho 77 (by kernel_rfl)).trans rfl), ((Reg.kept ho 78 (by kernel_rfl)).trans rfl), ((Reg.kept ho 79 (by kernel_rfl)).trans rfl), ((Reg.kept ho 80 (by kernel_rfl)).trans rfl), ((Reg.kept ho 81 (by kernel_rfl)).trans rfl), ((Reg.kept ho 82 (by kernel_rfl)).trans rfl), ((Reg.kept ho 83 (by kernel_rfl)).trans rfl), ((Reg.kept ho 84 (by kernel_rfl)).trans rfl), ((Reg.kept ho 85 (by kernel_rfl)).trans rfl), ((Reg.kept ho 86 (by kernel_rfl)).trans rfl), ((Reg.kept ho 87 (by kernel_rfl)).trans rfl), ((Reg.kept ho 88 (by kernel_rfl)).trans rfl), ((Reg.kept ho 89 (by kernel_rfl)).trans rfl), ((Reg.kept ho 90 (by kernel_rfl)).trans rfl), ((Reg.kept ho 91 (by kernel_rfl)).trans rfl), ((Reg.kept ho 92 (by kernel_rfl)).trans rfl), ((Reg.kept ho 93 (by kernel_rfl)).trans rfl), ((Reg.kept ho 94 (by kernel_rfl)).trans rfl), ((Reg.kept ho 95 (by kernel_rfl)).trans rfl), ((Reg.kept ho 96 (by kernel_rfl)).trans rfl), ((Reg.kept ho 97 (by kernel_rfl)).trans rfl), ((Reg.kept ho 98 (by kernel_rfl)).trans rfl), ((Reg.kept ho 99 (by kernel_rfl)).trans rfl), ((Reg.kept ho 100 (by kernel_rfl)).trans rfl), ((Reg.kept ho 101 (by kernel_rfl)).trans rfl), ((Reg.kept ho 102 (by kernel_rfl)).trans rfl), ((Reg.kept ho 103 (by kernel_rfl)).trans rfl), ((Reg.kept ho 104 (by kernel_rfl)).trans rfl), ((Reg.kept ho 105 (by kernel_rfl)).trans rfl), ((Reg.kept ho 106 (by kernel_rfl)).trans rfl), ((Reg.kept ho 107 (by kernel_rfl)).trans rfl), ((Reg.kept ho 108 (by kernel_rfl)).trans rfl), ((Reg.kept ho 109 (by kernel_rfl)).trans rfl), ((Reg.kept ho 110 (by kernel_rfl)).trans rfl), ((Reg.kept ho 111 (by kernel_rfl)).trans rfl), ((Reg.kept ho 112 (by kernel_rfl)).trans rfl), ((Reg.kept ho 113 (by kernel_rfl)).trans rfl), ((Reg.kept ho 114 (by kernel_rfl)).trans rfl), ((Reg.kept ho 115 (by kernel_rfl)).trans rfl), ((Reg.kept ho 116 (by kernel_rfl)).trans rfl), ((Reg.kept ho 117 (by kernel_rfl)).trans rfl), ((Reg.kept ho 118 (by kernel_rfl)).trans rfl), ((Reg.kept ho 119 (by kernel_rfl)).trans rfl), ((Reg.kept ho 120 (by kernel_rfl)).trans rfl), ((Reg.kept ho 121 (by kernel_rfl)).trans rfl), ((Reg.kept ho 122 (by kernel_rfl)).trans rfl), ((Reg.kept ho 123 (by kernel_rfl)).trans rfl), ((Reg.kept ho 124 (by kernel_rfl)).trans rfl), ((Reg.kept ho 125 (by kernel_rfl)).trans rfl), ((Reg.kept ho 126 (by kernel_rfl)).trans rfl), ((Reg.kept ho 127 (by kernel_rfl)).trans rfl), ((Reg.kept ho 128 (by kernel_rfl)).trans rfl), ((Reg.kept ho 129 (by kernel_rfl)).trans rfl), ((Reg.kept ho 130 (by kernel_rfl)).trans rfl), ((Reg.kept ho 131 (by kernel_rfl)).trans rfl), ((Reg.kept ho 132 (by kernel_rfl)).trans rfl), ((Reg.kept ho 133 (by kernel_rfl)).trans rfl), ((Reg.kept ho 134 (by kernel_rfl)).trans rfl), ((Reg.kept ho 135 (by kernel_rfl)).trans rfl), ((Reg.kept ho 136 (by kernel_rfl)).trans rfl), ((Reg.kept ho 137 (by kernel_rfl)).trans rfl), ((Reg.kept ho 138 (by kernel_rfl)).trans rfl), ((Reg.kept ho 139 (by kernel_rfl)).trans rfl), (by obtain ⟨_, g, hx⟩ := hv 0 _ 140 rfl rfl; exact g.trans (congrArg some hx)), (by obtain ⟨_, g, hx⟩ := hv 1 _ 141 rfl rfl; exact g.trans (congrArg some hx)), (by obtain ⟨_, g, hx⟩ := hv 2 _ 142 rfl rfl; exact g.trans (congrArg some hx)), (by obtain ⟨_, g, hx⟩ := hv 3 _ 143 rfl rfl; exact g.trans (congrArg some hx)), (by obtain ⟨_, g, hx⟩ := hv 4 _ 144 rfl rfl; exact g.trans (congrArg some hx)), (by obtain ⟨_, g, hx⟩ := hv 5 _ 145 rfl rfl; exact g.trans (congrArg some hx)), (by obtain ⟨_, g, hx⟩ := hv 6 _ 146 rfl rfl; exact g.trans (congrArg some hx)), (by obtain ⟨_, g, hx⟩ := hv 7 _ 147 rfl rfl; exact g.trans (congrArg some hx)), (by obtain ⟨_, g, hx⟩ := hv 8 _ 148 rfl rfl; exact g.trans (congrArg some hx)), (by obtain ⟨_, g, hx⟩ := hv 9 _ 149 rfl rfl; exact g.trans (congrArg some hx)), (by obtain ⟨_, g, hx⟩ := hv 10 _ 150 rfl rfl; exact g.trans (congrArg some hx)), (by obtain ⟨_, g, hx⟩ := hv 12 _ 151 rfl rfl; exact g.trans (congrArg some hx)), ((Reg.kept ho 152 (by kernel_rfl)).trans rfl), ((Reg.kept ho 153 (by kernel_rfl)).trans rfl), ((Reg.kept ho 154 (by kernel_rfl)).trans rfl), ((Reg.kept ho 155 (by kernel_rfl)).trans rfl), ((Reg.kept ho 156 (by kernel_rfl)).trans rfl), ((Reg.kept ho 157 (by kernel_rfl)).trans rfl), ((Reg.kept ho 158 (by kernel_rfl)).trans rfl), ((Reg.kept ho 159 (by kernel_rfl)).trans rfl), ((Reg.kept ho 160 (by kernel_rfl)).trans rfl), ((Reg.kept ho 161 (by kernel_rfl)).trans rfl), ((Reg.kept ho 162 (by kernel_rfl)).trans rfl), ((Reg.kept ho 163 (by kernel_rfl)).trans rfl), ((Reg.kept ho 164 (by kernel_rfl)).trans rfl), ((Reg.kept ho 165 (by kernel_rfl)).trans rfl), ((Reg.kept ho 166 (by kernel_rfl)).trans rfl), ((Reg.kept ho 167 (by kernel_rfl)).trans rfl), ((Reg.kept ho 168 (by kernel_rfl)).trans rfl), ((Reg.kept ho 169 (by kernel_rfl)).trans rfl), ((Reg.kept ho 170 (by kernel_rfl)).trans rfl), ((Reg.kept ho 171 (by kernel_rfl)).trans rfl), ((Reg.kept ho 172 (by kernel_rfl)).trans rfl), ((Reg.kept ho 173 (by kernel_rfl)).trans rfl), ((Reg.kept ho 174 (by kernel_rfl)).trans rfl), ((Reg.kept ho 175 (by kernel_rfl)).trans rfl), ((Reg.kept ho 176 (by kernel_rfl)).trans rfl), ((Reg.kept ho 177 (by kernel_rfl)).trans rfl), ((Reg.kept ho 178 (by kernel_rfl)).trans rfl), ((Reg.kept ho 179 (by kernel_rfl)).trans rfl), ((Reg.kept ho 180 (by kernel_rfl)).trans rfl), ((Reg.kept ho 181 (by kernel_rfl)).trans rfl), ((Reg.kept ho 182 (by kernel_rfl)).trans rfl), ((Reg.kept ho 183 (by kernel_rfl)).trans rfl), ((Reg.kept ho 184 (by kernel_rfl)).trans rfl), ((Reg.kept ho 185 (by kernel_rfl)).trans rfl), ((Reg.kept ho 186 (by kernel_rfl)).trans rfl), ((Reg.kept ho 187 (by kernel_rfl)).trans rfl), ((Reg.kept ho 188 (by kernel_rfl)).trans rfl), ((Reg.kept ho 189 (by kernel_rfl)).trans rfl), ((Reg.kept ho 190 (by kernel_rfl)).trans rfl), ((Reg.kept ho 191 (by kernel_rfl)).trans rfl), ((Reg.kept ho 192 (by kernel_rfl)).trans rfl), ((Reg.kept ho 193 (by kernel_rfl)).trans rfl), ((Reg.kept ho 194 (by kernel_rfl)).trans rfl), ((Reg.kept ho 195 (by kernel_rfl)).trans rfl), ((Reg.kept ho 196 (by kernel_rfl)).trans rfl), ((Reg.kept ho 197 (by kernel_rfl)).trans rfl), ((Reg.kept ho 198 (by kernel_rfl)).trans rfl), ((Reg.kept ho 199 (by kernel_rfl)).trans rfl), ((Reg.kept ho 200 (by kernel_rfl)).trans rfl), ((Reg.kept ho 201 (by kernel_rfl)).trans rfl), ((Reg.kept ho 202 (by kernel_rfl)).trans rfl), ((Reg.kept ho 203 (by kernel_rfl)).trans rfl), ((Reg.kept ho 204 (by kernel_rfl)).trans rfl), ((Reg.kept ho 205 (by kernel_rfl)).trans rfl), ((Reg.kept ho 206 (by kernel_rfl)).trans rfl), ((Reg.kept ho 207 (by kernel_rfl)).trans rfl), ((Reg.kept ho 208 (by kernel_rfl)).trans rfl), ((Reg.kept ho 209 (by kernel_rfl)).trans rfl), ((Reg.kept ho 210 (by kernel_rfl)).trans rfl), ((Reg.kept ho 211 (by kernel_rfl)).trans rfl), ((Reg.kept ho 212 (by kernel_rfl)).trans rfl), trivial⟩
    subst hfr
    obtain rfl := hΨ.at2 (hall 13 (by decide))
    clear hΨ hls hall hsz hdf hv ho
    go_wp2
    apply HKK.out
    exact HE.out
end Go.Proofs.Ytnkhieackclniaa
