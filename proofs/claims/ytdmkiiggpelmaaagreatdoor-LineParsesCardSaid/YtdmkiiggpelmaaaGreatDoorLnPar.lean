/- LineParses, walked. -/
import Derived.Test.YtdmkiiggpelmaaaGreatDoorLnRp
import Derived.Test.YtdmkiiggpelmaaaGreatDoorLnSam
import Derived.Test.YtdmkiiggpelmaaaGreatDoorLnBnd
namespace Go.Proofs.YtdmkiiggpelmaaaGreatDoor.Lx
open Go Go.RowKit

theorem byte_in (c : UInt8) (W : World) (g : Nat) (h : W.cell? ⟨g, 0, none⟩ = some (.int .u8 (c.toNat : Int))) : (convert 25 9 (.slice (some ⟨g, 0, none⟩) 1 1)).run Tryz.prog W = .ok (.string (tx [c])) W :=
  run_convert_bytes_back (P := Tryz.prog) W 25 9 5 ⟨g, 0, none⟩ 1 [c] Tryz.underlying25 Tryz.underlying5 Tryz.underlying9 (fun j hj => by
    have : j = 0 := by simp at hj; omega
    subst this
    rw [Addr.add_lit, Nat.zero_add]
    exact h)
theorem labels_short : ∀ (k : Nat) (l : List UInt8) (y : Int) (ls : List Lab) (t : List UInt8), labelsP k l y = some (ls, t) → ls.length ≤ k ∧ ∀ x ∈ ls, x.1.length ≤ 64 ∧ x.2.length ≤ 64
  | 0, l, y, ls, t, h => by
    unfold labelsP at h
    by_cases hy : y = 44
    · rw [if_pos hy] at h; cases h
    · rw [if_neg hy] at h; cases h; simp
  | k + 1, l, y, ls, t, h => by
    unfold labelsP at h
    by_cases hy : y = 44
    · rw [if_pos hy] at h
      cases hn : nameP [61] l with
      | none => rw [hn] at h; cases h
      | some x =>
        obtain ⟨n, m, z⟩ := x
        rw [hn] at h
        simp only at h
        have h1 := (name_spec hn).2.2
        cases hv : nameP [44, 32] m with
        | none => rw [hv] at h; cases h
        | some x =>
          obtain ⟨v, t', z2⟩ := x
          rw [hv] at h
          simp only at h
          have h2 := (name_spec hv).2.2
          cases hl : labelsP k t' z2 with
          | none => rw [hl] at h; cases h
          | some x =>
            obtain ⟨ls', t2⟩ := x
            rw [hl] at h
            simp only [Option.map_some, Option.some.injEq, Prod.mk.injEq] at h
            obtain ⟨rfl, rfl⟩ := h
            obtain ⟨g1, g2⟩ := labels_short k t' z2 ls' _ hl
            refine ⟨by rw [List.length_cons]; omega, fun x hx => ?_⟩
            rcases List.mem_cons.1 hx with rfl | hx
            · exact ⟨h1, h2⟩
            · exact g2 x hx
    · rw [if_neg hy] at h; cases h; simp
theorem parse_labels (l : List UInt8) (L : LineV) (h : parseP l = .ok L) : L.labels.length ≤ 16 ∧ ∀ x ∈ L.labels, x.1.length ≤ 64 ∧ x.2.length ≤ 64 := by
  unfold parseP lineP at h
  by_cases hl : 1024 < l.length
  · rw [if_pos hl] at h; cases h
  · rw [if_neg hl] at h
    cases hn : nameP [44, 32] l with
    | none => rw [hn] at h; cases h
    | some x =>
      obtain ⟨n, m, y⟩ := x
      rw [hn] at h
      simp only at h
      cases hb : labelsP 16 m y with
      | none => rw [hb] at h; cases h
      | some x =>
        obtain ⟨ls, t⟩ := x
        rw [hb] at h
        simp only at h
        cases hf : fieldsP t with
        | none => rw [hf] at h; cases h
        | some x =>
          obtain ⟨a, b⟩ := x
          rw [hf] at h
          simp only at h
          cases hq : numsP a b with
          | error k => rw [hq] at h; cases h
          | ok x =>
            rw [hq] at h
            simp only [Except.ok.injEq] at h
            subst h
            exact labels_short _ _ _ _ _ hb
theorem wf8 {n : Int} (h : (Lit.int .u8 n).wf = true) : 0 ≤ n ∧ n < 256 := by
  have := h
  simp [Lit.wf, IntKind.min, IntKind.max, IntKind.signed, IntKind.bits] at this
  omega

set_option maxRecDepth 100000 in
set_option maxHeartbeats 8000000 in
theorem LineParses_walk (x : MadeV) (s : ByteArray) (hs : s.size ≤ maxLen) (own : Int) (ho : (Lit.int .u8 own).wf = true) (p0 : Int) (hp : (Lit.int .i64 p0).wf = true) (z : Int) (hz : (Lit.int .u8 z).wf = true) (w : World) (hT : Tens w) (hx : x.fits w) :
    Calls Tryz.prog 3 #[.agg x.vals, .string s, .int .u8 own, .int .i64 p0, .int .u8 z] w fun e w' => e = .returned (.bool true) ∧ Below w.heap.size w w' := by
  obtain ⟨n, ls, v, t, hn, hl, hv, ht, hmade⟩ := made_say x w hx
  have HX := Lib.hid hx
  have hE0 : Below w.heap.size w (w.alloc (.cells x.vals 28)) := (Below.refl _ _).alloc (Nat.le_refl _) _
  have HV := Lib.hid (CellsAt.new x.vals 28 w)
  have HE := Lib.hid hE0
  have HT := Lib.hid hT
  obtain ⟨S, hS, hSz⟩ := print_small ⟨n, ls, v, t⟩
  have hQ := fun p cap W h => ref_print n hn p cap ls v t hv ht hl W h
  obtain ⟨B, hB⟩ : ∃ B, printB ⟨n, ls, v, t⟩ = B := ⟨_, rfl⟩
  rw [hB] at hS
  simp only [hB, hS] at hQ
  obtain ⟨nn, hnn⟩ : ∃ S, tx n = S := ⟨_, rfl⟩
  simp only [hnn] at hQ hmade
  have HM := Lib.hid hmade
  have HQ := Lib.hid hQ
  obtain ⟨o0, o1⟩ := wf8 ho
  obtain ⟨z0, z1⟩ := wf8 hz
  have hpb : -9223372036854775808 ≤ p0 ∧ p0 ≤ 9223372036854775807 := in64_wf hp
  obtain ⟨pb0, pb1⟩ := hpb
  obtain ⟨name, lp, ls0, lcap, value, time, ow, np, nm, ncap, ip, it, icap⟩ := x
  simp only [MadeV.vals] at HV HE HX HM ⊢
  unfold maxLen at hl hs
  clear hx hE0 hT hmade hS hQ hB hnn hn hv ht ho hp hz hl
  go_enter Tryz.func3, Tryz.ntmps3
  go_wp2_with fail
  refine (examples_ok _ (Go.Proofs.YtdmkiiggpelmaaaGreatDoor.Tens.below HT.out HE.out)).mono ?_
  rintro e w1 ⟨rfl, hB1⟩
  have HE1 := Lib.hid (HE.out.trans (hB1.mono HE.out.size))
  have HV1 := Lib.hid (HV.out.below hB1)
  clear hB1 HE HV
  have k0 := HV1.out.cell 0 _ rfl
  have k1 := HV1.out.cell 1 _ rfl
  have k2 := HV1.out.cell 2 _ rfl
  have k3 := HV1.out.cell 3 _ rfl
  have k4 := HV1.out.cell 4 _ rfl
  have k5 := HV1.out.cell 5 _ rfl
  have k6 := HV1.out.cell 6 _ rfl
  go_wp2_with fail
  refine (HM.out _ (HX.out.below HE1.out)).mono ?_
  rintro e w3 ⟨vp, vcap, rfl, hL3, hB3⟩
  have HE3 := Lib.hid (HE1.out.trans (hB3.mono HE1.out.size))
  have HL3 := Lib.hid hL3
  clear hL3 hB3 HE1 HV1 HM HX k0 k1 k2 k3 k4 k5 k6
  go_wp2_with fail
  refine (ref_line nn vp ls.length vcap v t _).mono ?_
  rintro e w6 ⟨rfl, hB6⟩
  have HE6 := Lib.hid (HE3.out.trans (hB6.mono HE3.out.size))
  have HL6 := Lib.hid (HL3.out.below hB6)
  clear hB6 HE3 HL3
  go_wp2_with fail
  refine (HQ.out vp vcap _ HL6.out).mono ?_
  rintro e w7 ⟨rfl, hB7⟩
  have HE7 := Lib.hid (HE6.out.trans (hB7.mono HE6.out.size))
  clear hB7 HE6 HL6 HQ HT
  have hr : own % 4 = 0 ∨ own % 4 = 3 ∨ own % 4 = 1 ∨ own % 4 = 2 := by omega
  rcases hr with hr | hr | hr | hr
  · have hT : s.size ≤ maxLen := by unfold maxLen; omega
    have HE8 := Lib.hid HE7.out
    obtain ⟨w8, hw8⟩ : ∃ W, w7 = W := ⟨_, rfl⟩
    rw [hw8] at HE8 ⊢
    obtain ⟨T, hTs⟩ : ∃ W, s = W := ⟨_, rfl⟩
    rw [hTs] at hT ⊢
    clear HE7 hTs hw8
    have hsh := fun L => parse_labels T.data.toList L
    have hp1 := fun w => parse_any T hT w
    have hq1 := fun w => rparse_any T hT w
    obtain ⟨V, hV⟩ : ∃ V, parseP T.data.toList = V := ⟨_, rfl⟩
    rw [hV] at hp1 hq1 hsh
    have HQ1 := Lib.hid hq1
    have HSH := Lib.hid hsh
    clear hV hT hq1 hsh
    go_wp2_with fail
    refine (hp1 _).mono ?_
    clear hp1
    cases V with
    | error k =>
      rintro e w9 ⟨rfl, hB9⟩
      have HE9 := Lib.hid ((HE8.out.trans (hB9.mono HE8.out.size)).alloc (Nat.le_trans HE8.out.size hB9.size) (.cells (lineC ⟨#[]⟩ (.slice none 0 0) 0 0) 24))
      have HC9 := Lib.hid (CellsAt.new (lineC ⟨#[]⟩ (.slice none 0 0) 0 0) 24 w9)
      clear hB9 HE8 HSH
      go_wp2_with fail
      refine (HQ1.out _).mono ?_
      rintro e w10 ⟨rfl, hB10⟩
      have hE10 := HE9.out.trans (hB10.mono HE9.out.size)
      have HE10 := Lib.hid (hE10.alloc hE10.size (.cells (lineC ⟨#[]⟩ (.slice none 0 0) 0 0) 32))
      have HC10 := Lib.hid ((HC9.out.below hB10).past (.cells (lineC ⟨#[]⟩ (.slice none 0 0) 0 0) 32))
      clear hB10 HE9 HC9 hE10 HQ1
      have k0 := HC10.out.cell 0 _ rfl
      have k1 := HC10.out.cell 1 _ rfl
      have k2 := HC10.out.cell 2 _ rfl
      have k3 := HC10.out.cell 3 _ rfl
      go_wp2_with fail
      refine (same_ok ⟨#[]⟩ none none 0 0 [] 0 0 (by decide) _ (LbAt.nil _ _) (LbAt.nil _ _)).mono ?_
      rintro e w11 ⟨rfl, hB11⟩
      have HE11 := Lib.hid (HE10.out.trans (hB11.mono HE10.out.size))
      clear hB11 HE10 HC10 k0 k1 k2 k3
      go_wp2
      go_ret
      exact ⟨rfl, HE11.out⟩
    | ok L =>
      obtain ⟨n9, l9, a9, b9⟩ := L
      obtain ⟨hl9, hx9⟩ := HSH.out _ rfl
      rintro e w9 ⟨v9, rfl, hO9, hB9⟩
      have hx9m : ∀ x ∈ l9, x.1.length ≤ maxLen ∧ x.2.length ≤ maxLen := fun x hx => by have := hx9 x hx; unfold maxLen; omega
      obtain ⟨p9, c9, rfl⟩ := hO9.len
      have hA9 : Below w9.heap.size w9 (w9.alloc (.cells (lineC (tx n9) (.slice p9 l9.length c9) a9 b9) 24)) := (Below.refl _ _).alloc (Nat.le_refl _) _
      have HE9 := Lib.hid ((HE8.out.trans (hB9.mono HE8.out.size)).trans (hA9.mono (Nat.le_trans HE8.out.size hB9.size)))
      have HC9 := Lib.hid (CellsAt.new (lineC (tx n9) (.slice p9 l9.length c9) a9 b9) 24 w9)
      have HL9 := Lib.hid ((hO9.lies hx9m).below hA9)
      have HXM := Lib.hid hx9m
      clear hB9 HE8 HSH hO9 hA9 hx9m hx9
      obtain ⟨N9, hN9⟩ : ∃ N, tx n9 = N := ⟨_, rfl⟩
      simp only [hN9] at HE9 HC9 HL9 HQ1 ⊢
      go_wp2_with fail
      refine (HQ1.out _).mono ?_
      rintro e w10 ⟨v10, rfl, hO10, hB10⟩
      rw [hN9]
      clear hN9
      obtain ⟨p10, c10, rfl⟩ := hO10.len
      simp only at hO10 ⊢
      have hE10 := HE9.out.trans (hB10.mono HE9.out.size)
      have hA10 : Below w10.heap.size w10 (w10.alloc (.cells (lineC N9 (.slice p10 l9.length c10) a9 b9) 32)) := (Below.refl _ _).alloc (Nat.le_refl _) _
      have HE10 := Lib.hid (hE10.trans (hA10.mono hE10.size))
      have HC10 := Lib.hid ((HC9.out.below hB10).past (.cells (lineC N9 (.slice p10 l9.length c10) a9 b9) 32))
      have HL10 := Lib.hid ((HL9.out.below hB10).below hA10)
      have HK10 := Lib.hid ((hO10.lies HXM.out).below hA10)
      clear hB10 HE9 HC9 hE10 HQ1 HL9 hO10 hA10 HXM
      have k0 := HC10.out.cell 0 _ rfl
      have k1 := HC10.out.cell 1 _ rfl
      have k2 := HC10.out.cell 2 _ rfl
      have k3 := HC10.out.cell 3 _ rfl
      go_wp2_with fail
      refine (same_ok N9 p9 p10 c9 c10 l9 a9 b9 (by unfold maxLen; omega) _ HL10.out HK10.out).mono ?_
      rintro e w11 ⟨rfl, hB11⟩
      have HE11 := Lib.hid (HE10.out.trans (hB11.mono HE10.out.size))
      clear hB11 HE10 HC10 k0 k1 k2 k3 HL10 HK10
      go_wp2
      go_ret
      exact ⟨rfl, HE11.out⟩
  · obtain ⟨k, hk, hkS⟩ : ∃ k : Nat, (IntKind.u64.wrap p0).tmod ((S.size : Int) + 1) = (k : Int) ∧ k ≤ S.size := by
      have h0 : 0 ≤ IntKind.u64.wrap p0 := by simp [IntKind.wrap, IntKind.signed, IntKind.bits]; omega
      have h1 := Int.tmod_nonneg ((S.size : Int) + 1) h0
      have h2 := Int.tmod_lt_of_pos (IntKind.u64.wrap p0) (show 0 < ((S.size : Int) + 1) by omega)
      exact ⟨((IntKind.u64.wrap p0).tmod ((S.size : Int) + 1)).toNat, by omega, by omega⟩
    obtain ⟨r, h7, hr7⟩ : ∃ r : Nat, z % 7 = (r : Int) ∧ r < 7 := ⟨(z % 7).toNat, by omega, by omega⟩
    have h7t : z.tmod 7 = (r : Int) := by rw [Int.tmod_eq_emod_of_nonneg z0]; exact h7
    have h7w : IntKind.u8.wrap (r : Int) = (r : Int) := by simp [IntKind.wrap, IntKind.signed, IntKind.bits]; omega
    obtain ⟨x, hx⟩ : ∃ x, (⟨#[44, 32, 61, 92, 49, 97, 10]⟩ : ByteArray)[r] = x := ⟨_, rfl⟩
    have y0 : (S.extract 0 k).size = k := by rw [ByteArray.size_extract]; omega
    have y1 : (S.extract k S.size).size = S.size - k := by rw [ByteArray.size_extract]; omega
    have y2 : (9223372036854775807 < k + 1) = False := eq_false (by omega)
    have y3 : (9223372036854775807 < k + 1 + (S.size - k)) = False := eq_false (by omega)
    have one := fun W g => byte_in x W g
    have hxb : 0 ≤ (x.toNat : Int) ∧ (x.toNat : Int) ≤ 255 := by have := x.toNat_lt; omega
    have one1 : (tx [x]).size = 1 := by rw [tx_len]; rfl
    generalize tx [x] = M at *
    have HM1 := Lib.hid one1

    go_wp2_with fail
    clear hr o0 o1 hk pb0 pb1
    go_region
    clear one one1 y0 y1 y2 y3 h7 h7t h7w hx
    have hE8 : Below w.heap.size w (w7.alloc (.cells #[.int .u8 (x.toNat : Int)] 5)).drew := (HE7.out.alloc HE7.out.size _).drew
    generalize (w7.alloc (.cells #[.int .u8 (x.toNat : Int)] 5)).drew = w8 at hE8 ⊢
    have HE8 := Lib.hid hE8
    have hT : (S.extract 0 k ++ M ++ S.extract k S.size).size ≤ maxLen := by
      rw [ByteArray.size_append, ByteArray.size_append, HM1.out, ByteArray.size_extract, ByteArray.size_extract]
      unfold maxLen
      omega
    generalize S.extract 0 k ++ M ++ S.extract k S.size = T at hT ⊢
    clear hE8 HE7 HM1
    have hsh := fun L => parse_labels T.data.toList L
    have hp1 := fun w => parse_any T hT w
    have hq1 := fun w => rparse_any T hT w
    obtain ⟨V, hV⟩ : ∃ V, parseP T.data.toList = V := ⟨_, rfl⟩
    rw [hV] at hp1 hq1 hsh
    have HQ1 := Lib.hid hq1
    have HSH := Lib.hid hsh
    clear hV hT hq1 hsh
    go_wp2_with fail
    refine (hp1 _).mono ?_
    clear hp1
    cases V with
    | error k =>
      rintro e w9 ⟨rfl, hB9⟩
      have HE9 := Lib.hid ((HE8.out.trans (hB9.mono HE8.out.size)).alloc (Nat.le_trans HE8.out.size hB9.size) (.cells (lineC ⟨#[]⟩ (.slice none 0 0) 0 0) 24))
      have HC9 := Lib.hid (CellsAt.new (lineC ⟨#[]⟩ (.slice none 0 0) 0 0) 24 w9)
      clear hB9 HE8 HSH
      go_wp2_with fail
      refine (HQ1.out _).mono ?_
      rintro e w10 ⟨rfl, hB10⟩
      have hE10 := HE9.out.trans (hB10.mono HE9.out.size)
      have HE10 := Lib.hid (hE10.alloc hE10.size (.cells (lineC ⟨#[]⟩ (.slice none 0 0) 0 0) 32))
      have HC10 := Lib.hid ((HC9.out.below hB10).past (.cells (lineC ⟨#[]⟩ (.slice none 0 0) 0 0) 32))
      clear hB10 HE9 HC9 hE10 HQ1
      have k0 := HC10.out.cell 0 _ rfl
      have k1 := HC10.out.cell 1 _ rfl
      have k2 := HC10.out.cell 2 _ rfl
      have k3 := HC10.out.cell 3 _ rfl
      go_wp2_with fail
      refine (same_ok ⟨#[]⟩ none none 0 0 [] 0 0 (by decide) _ (LbAt.nil _ _) (LbAt.nil _ _)).mono ?_
      rintro e w11 ⟨rfl, hB11⟩
      have HE11 := Lib.hid (HE10.out.trans (hB11.mono HE10.out.size))
      clear hB11 HE10 HC10 k0 k1 k2 k3
      go_wp2
      go_ret
      exact ⟨rfl, HE11.out⟩
    | ok L =>
      obtain ⟨n9, l9, a9, b9⟩ := L
      obtain ⟨hl9, hx9⟩ := HSH.out _ rfl
      rintro e w9 ⟨v9, rfl, hO9, hB9⟩
      have hx9m : ∀ x ∈ l9, x.1.length ≤ maxLen ∧ x.2.length ≤ maxLen := fun x hx => by have := hx9 x hx; unfold maxLen; omega
      obtain ⟨p9, c9, rfl⟩ := hO9.len
      have hA9 : Below w9.heap.size w9 (w9.alloc (.cells (lineC (tx n9) (.slice p9 l9.length c9) a9 b9) 24)) := (Below.refl _ _).alloc (Nat.le_refl _) _
      have HE9 := Lib.hid ((HE8.out.trans (hB9.mono HE8.out.size)).trans (hA9.mono (Nat.le_trans HE8.out.size hB9.size)))
      have HC9 := Lib.hid (CellsAt.new (lineC (tx n9) (.slice p9 l9.length c9) a9 b9) 24 w9)
      have HL9 := Lib.hid ((hO9.lies hx9m).below hA9)
      have HXM := Lib.hid hx9m
      clear hB9 HE8 HSH hO9 hA9 hx9m hx9
      obtain ⟨N9, hN9⟩ : ∃ N, tx n9 = N := ⟨_, rfl⟩
      simp only [hN9] at HE9 HC9 HL9 HQ1 ⊢
      go_wp2_with fail
      refine (HQ1.out _).mono ?_
      rintro e w10 ⟨v10, rfl, hO10, hB10⟩
      rw [hN9]
      clear hN9
      obtain ⟨p10, c10, rfl⟩ := hO10.len
      simp only at hO10 ⊢
      have hE10 := HE9.out.trans (hB10.mono HE9.out.size)
      have hA10 : Below w10.heap.size w10 (w10.alloc (.cells (lineC N9 (.slice p10 l9.length c10) a9 b9) 32)) := (Below.refl _ _).alloc (Nat.le_refl _) _
      have HE10 := Lib.hid (hE10.trans (hA10.mono hE10.size))
      have HC10 := Lib.hid ((HC9.out.below hB10).past (.cells (lineC N9 (.slice p10 l9.length c10) a9 b9) 32))
      have HL10 := Lib.hid ((HL9.out.below hB10).below hA10)
      have HK10 := Lib.hid ((hO10.lies HXM.out).below hA10)
      clear hB10 HE9 HC9 hE10 HQ1 HL9 hO10 hA10 HXM
      have k0 := HC10.out.cell 0 _ rfl
      have k1 := HC10.out.cell 1 _ rfl
      have k2 := HC10.out.cell 2 _ rfl
      have k3 := HC10.out.cell 3 _ rfl
      go_wp2_with fail
      refine (same_ok N9 p9 p10 c9 c10 l9 a9 b9 (by unfold maxLen; omega) _ HL10.out HK10.out).mono ?_
      rintro e w11 ⟨rfl, hB11⟩
      have HE11 := Lib.hid (HE10.out.trans (hB11.mono HE10.out.size))
      clear hB11 HE10 HC10 k0 k1 k2 k3 HL10 HK10
      go_wp2
      go_ret
      exact ⟨rfl, HE11.out⟩
  · go_wp2_with fail
    refine (Go.Proofs.YtdmkiiggpelmaaaGreatDoor.bend_any S (by omega) p0 z pb0 pb1 z0 z1 _).mono ?_
    rintro e w8 ⟨T, rfl, hTs, hB8⟩
    have hT : T.size ≤ maxLen := by unfold maxLen; omega
    have HE8 := Lib.hid (HE7.out.trans (hB8.mono HE7.out.size))
    clear hTs hB8 HE7 hr o0 o1 z0 z1 pb0 pb1
    have hsh := fun L => parse_labels T.data.toList L
    have hp1 := fun w => parse_any T hT w
    have hq1 := fun w => rparse_any T hT w
    obtain ⟨V, hV⟩ : ∃ V, parseP T.data.toList = V := ⟨_, rfl⟩
    rw [hV] at hp1 hq1 hsh
    have HQ1 := Lib.hid hq1
    have HSH := Lib.hid hsh
    clear hV hT hq1 hsh
    go_wp2_with fail
    refine (hp1 _).mono ?_
    clear hp1
    cases V with
    | error k =>
      rintro e w9 ⟨rfl, hB9⟩
      have HE9 := Lib.hid ((HE8.out.trans (hB9.mono HE8.out.size)).alloc (Nat.le_trans HE8.out.size hB9.size) (.cells (lineC ⟨#[]⟩ (.slice none 0 0) 0 0) 24))
      have HC9 := Lib.hid (CellsAt.new (lineC ⟨#[]⟩ (.slice none 0 0) 0 0) 24 w9)
      clear hB9 HE8 HSH
      go_wp2_with fail
      refine (HQ1.out _).mono ?_
      rintro e w10 ⟨rfl, hB10⟩
      have hE10 := HE9.out.trans (hB10.mono HE9.out.size)
      have HE10 := Lib.hid (hE10.alloc hE10.size (.cells (lineC ⟨#[]⟩ (.slice none 0 0) 0 0) 32))
      have HC10 := Lib.hid ((HC9.out.below hB10).past (.cells (lineC ⟨#[]⟩ (.slice none 0 0) 0 0) 32))
      clear hB10 HE9 HC9 hE10 HQ1
      have k0 := HC10.out.cell 0 _ rfl
      have k1 := HC10.out.cell 1 _ rfl
      have k2 := HC10.out.cell 2 _ rfl
      have k3 := HC10.out.cell 3 _ rfl
      go_wp2_with fail
      refine (same_ok ⟨#[]⟩ none none 0 0 [] 0 0 (by decide) _ (LbAt.nil _ _) (LbAt.nil _ _)).mono ?_
      rintro e w11 ⟨rfl, hB11⟩
      have HE11 := Lib.hid (HE10.out.trans (hB11.mono HE10.out.size))
      clear hB11 HE10 HC10 k0 k1 k2 k3
      go_wp2
      go_ret
      exact ⟨rfl, HE11.out⟩
    | ok L =>
      obtain ⟨n9, l9, a9, b9⟩ := L
      obtain ⟨hl9, hx9⟩ := HSH.out _ rfl
      rintro e w9 ⟨v9, rfl, hO9, hB9⟩
      have hx9m : ∀ x ∈ l9, x.1.length ≤ maxLen ∧ x.2.length ≤ maxLen := fun x hx => by have := hx9 x hx; unfold maxLen; omega
      obtain ⟨p9, c9, rfl⟩ := hO9.len
      have hA9 : Below w9.heap.size w9 (w9.alloc (.cells (lineC (tx n9) (.slice p9 l9.length c9) a9 b9) 24)) := (Below.refl _ _).alloc (Nat.le_refl _) _
      have HE9 := Lib.hid ((HE8.out.trans (hB9.mono HE8.out.size)).trans (hA9.mono (Nat.le_trans HE8.out.size hB9.size)))
      have HC9 := Lib.hid (CellsAt.new (lineC (tx n9) (.slice p9 l9.length c9) a9 b9) 24 w9)
      have HL9 := Lib.hid ((hO9.lies hx9m).below hA9)
      have HXM := Lib.hid hx9m
      clear hB9 HE8 HSH hO9 hA9 hx9m hx9
      obtain ⟨N9, hN9⟩ : ∃ N, tx n9 = N := ⟨_, rfl⟩
      simp only [hN9] at HE9 HC9 HL9 HQ1 ⊢
      go_wp2_with fail
      refine (HQ1.out _).mono ?_
      rintro e w10 ⟨v10, rfl, hO10, hB10⟩
      rw [hN9]
      clear hN9
      obtain ⟨p10, c10, rfl⟩ := hO10.len
      simp only at hO10 ⊢
      have hE10 := HE9.out.trans (hB10.mono HE9.out.size)
      have hA10 : Below w10.heap.size w10 (w10.alloc (.cells (lineC N9 (.slice p10 l9.length c10) a9 b9) 32)) := (Below.refl _ _).alloc (Nat.le_refl _) _
      have HE10 := Lib.hid (hE10.trans (hA10.mono hE10.size))
      have HC10 := Lib.hid ((HC9.out.below hB10).past (.cells (lineC N9 (.slice p10 l9.length c10) a9 b9) 32))
      have HL10 := Lib.hid ((HL9.out.below hB10).below hA10)
      have HK10 := Lib.hid ((hO10.lies HXM.out).below hA10)
      clear hB10 HE9 HC9 hE10 HQ1 HL9 hO10 hA10 HXM
      have k0 := HC10.out.cell 0 _ rfl
      have k1 := HC10.out.cell 1 _ rfl
      have k2 := HC10.out.cell 2 _ rfl
      have k3 := HC10.out.cell 3 _ rfl
      go_wp2_with fail
      refine (same_ok N9 p9 p10 c9 c10 l9 a9 b9 (by unfold maxLen; omega) _ HL10.out HK10.out).mono ?_
      rintro e w11 ⟨rfl, hB11⟩
      have HE11 := Lib.hid (HE10.out.trans (hB11.mono HE10.out.size))
      clear hB11 HE10 HC10 k0 k1 k2 k3 HL10 HK10
      go_wp2
      go_ret
      exact ⟨rfl, HE11.out⟩
  · go_wp2_with fail
    refine (Go.Proofs.YtdmkiiggpelmaaaGreatDoor.bend_any S (by omega) p0 z pb0 pb1 z0 z1 _).mono ?_
    rintro e w8 ⟨T, rfl, hTs, hB8⟩
    have hT : T.size ≤ maxLen := by unfold maxLen; omega
    have HE8 := Lib.hid (HE7.out.trans (hB8.mono HE7.out.size))
    clear hTs hB8 HE7 hr o0 o1 z0 z1 pb0 pb1
    have hsh := fun L => parse_labels T.data.toList L
    have hp1 := fun w => parse_any T hT w
    have hq1 := fun w => rparse_any T hT w
    obtain ⟨V, hV⟩ : ∃ V, parseP T.data.toList = V := ⟨_, rfl⟩
    rw [hV] at hp1 hq1 hsh
    have HQ1 := Lib.hid hq1
    have HSH := Lib.hid hsh
    clear hV hT hq1 hsh
    go_wp2_with fail
    refine (hp1 _).mono ?_
    clear hp1
    cases V with
    | error k =>
      rintro e w9 ⟨rfl, hB9⟩
      have HE9 := Lib.hid ((HE8.out.trans (hB9.mono HE8.out.size)).alloc (Nat.le_trans HE8.out.size hB9.size) (.cells (lineC ⟨#[]⟩ (.slice none 0 0) 0 0) 24))
      have HC9 := Lib.hid (CellsAt.new (lineC ⟨#[]⟩ (.slice none 0 0) 0 0) 24 w9)
      clear hB9 HE8 HSH
      go_wp2_with fail
      refine (HQ1.out _).mono ?_
      rintro e w10 ⟨rfl, hB10⟩
      have hE10 := HE9.out.trans (hB10.mono HE9.out.size)
      have HE10 := Lib.hid (hE10.alloc hE10.size (.cells (lineC ⟨#[]⟩ (.slice none 0 0) 0 0) 32))
      have HC10 := Lib.hid ((HC9.out.below hB10).past (.cells (lineC ⟨#[]⟩ (.slice none 0 0) 0 0) 32))
      clear hB10 HE9 HC9 hE10 HQ1
      have k0 := HC10.out.cell 0 _ rfl
      have k1 := HC10.out.cell 1 _ rfl
      have k2 := HC10.out.cell 2 _ rfl
      have k3 := HC10.out.cell 3 _ rfl
      go_wp2_with fail
      refine (same_ok ⟨#[]⟩ none none 0 0 [] 0 0 (by decide) _ (LbAt.nil _ _) (LbAt.nil _ _)).mono ?_
      rintro e w11 ⟨rfl, hB11⟩
      have HE11 := Lib.hid (HE10.out.trans (hB11.mono HE10.out.size))
      clear hB11 HE10 HC10 k0 k1 k2 k3
      go_wp2
      go_ret
      exact ⟨rfl, HE11.out⟩
    | ok L =>
      obtain ⟨n9, l9, a9, b9⟩ := L
      obtain ⟨hl9, hx9⟩ := HSH.out _ rfl
      rintro e w9 ⟨v9, rfl, hO9, hB9⟩
      have hx9m : ∀ x ∈ l9, x.1.length ≤ maxLen ∧ x.2.length ≤ maxLen := fun x hx => by have := hx9 x hx; unfold maxLen; omega
      obtain ⟨p9, c9, rfl⟩ := hO9.len
      have hA9 : Below w9.heap.size w9 (w9.alloc (.cells (lineC (tx n9) (.slice p9 l9.length c9) a9 b9) 24)) := (Below.refl _ _).alloc (Nat.le_refl _) _
      have HE9 := Lib.hid ((HE8.out.trans (hB9.mono HE8.out.size)).trans (hA9.mono (Nat.le_trans HE8.out.size hB9.size)))
      have HC9 := Lib.hid (CellsAt.new (lineC (tx n9) (.slice p9 l9.length c9) a9 b9) 24 w9)
      have HL9 := Lib.hid ((hO9.lies hx9m).below hA9)
      have HXM := Lib.hid hx9m
      clear hB9 HE8 HSH hO9 hA9 hx9m hx9
      obtain ⟨N9, hN9⟩ : ∃ N, tx n9 = N := ⟨_, rfl⟩
      simp only [hN9] at HE9 HC9 HL9 HQ1 ⊢
      go_wp2_with fail
      refine (HQ1.out _).mono ?_
      rintro e w10 ⟨v10, rfl, hO10, hB10⟩
      rw [hN9]
      clear hN9
      obtain ⟨p10, c10, rfl⟩ := hO10.len
      simp only at hO10 ⊢
      have hE10 := HE9.out.trans (hB10.mono HE9.out.size)
      have hA10 : Below w10.heap.size w10 (w10.alloc (.cells (lineC N9 (.slice p10 l9.length c10) a9 b9) 32)) := (Below.refl _ _).alloc (Nat.le_refl _) _
      have HE10 := Lib.hid (hE10.trans (hA10.mono hE10.size))
      have HC10 := Lib.hid ((HC9.out.below hB10).past (.cells (lineC N9 (.slice p10 l9.length c10) a9 b9) 32))
      have HL10 := Lib.hid ((HL9.out.below hB10).below hA10)
      have HK10 := Lib.hid ((hO10.lies HXM.out).below hA10)
      clear hB10 HE9 HC9 hE10 HQ1 HL9 hO10 hA10 HXM
      have k0 := HC10.out.cell 0 _ rfl
      have k1 := HC10.out.cell 1 _ rfl
      have k2 := HC10.out.cell 2 _ rfl
      have k3 := HC10.out.cell 3 _ rfl
      go_wp2_with fail
      refine (same_ok N9 p9 p10 c9 c10 l9 a9 b9 (by unfold maxLen; omega) _ HL10.out HK10.out).mono ?_
      rintro e w11 ⟨rfl, hB11⟩
      have HE11 := Lib.hid (HE10.out.trans (hB11.mono HE10.out.size))
      clear hB11 HE10 HC10 k0 k1 k2 k3 HL10 HK10
      go_wp2
      go_ret
      exact ⟨rfl, HE11.out⟩
end Go.Proofs.YtdmkiiggpelmaaaGreatDoor.Lx
