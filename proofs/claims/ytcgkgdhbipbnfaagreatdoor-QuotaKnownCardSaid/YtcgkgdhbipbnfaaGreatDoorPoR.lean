/- Whether a policy is right: the program's answer. -/
import Derived.Test.YtcgkgdhbipbnfaaGreatDoorPoD
namespace Go.Proofs.YtcgkgdhbipbnfaaGreatDoor.Po
open Go Go.RowKit

/-- A row of the list of parts, at a number. -/
theorem PartsAt.row {F P : Nat} {w : World} (h : PartsAt F P (List.range 11) w) {k : Nat} (hk : k < 11) :
    w.cell? ⟨F, k * 6, none⟩ = some (.string (tx (tellN k))) ∧ w.cell? ⟨F, k * 6 + 1, none⟩ = some (.int .i64 (loN k)) ∧ w.cell? ⟨F, k * 6 + 2, none⟩ = some (.int .i64 (hiN k)) ∧
    w.cell? ⟨F, k * 6 + 3, none⟩ = some (.pointer (cntP P k)) ∧ w.cell? ⟨F, k * 6 + 4, none⟩ = some (.pointer (timP P k)) ∧ w.cell? ⟨F, k * 6 + 5, none⟩ = some (.pointer (tieP P k)) := by
  have hl : k < (List.range 11).length := by simpa using hk
  have e : (List.range 11)[k] = k := by simp
  refine ⟨(h.cell k hl 0 (by omega) (x := .string (tx (tellN k))) ?_).1, (h.cell k hl 1 (by omega) (x := .int .i64 (loN k)) ?_).1, (h.cell k hl 2 (by omega) (x := .int .i64 (hiN k)) ?_).1, (h.cell k hl 3 (by omega) (x := .pointer (cntP P k)) ?_).1, (h.cell k hl 4 (by omega) (x := .pointer (timP P k)) ?_).1, (h.cell k hl 5 (by omega) (x := .pointer (tieP P k)) ?_).1⟩
  all_goals (rw [e]; rfl)
theorem okFrom_all {n t : List Int} : ∀ {m k : Nat}, okFrom n t k m = true → ∀ j, k ≤ j → j < k + m → okN j (numsN n t j) = true
  | 0, k, _, j, h1, h2 => by omega
  | m + 1, k, h, j, h1, h2 => by
    unfold okFrom at h
    rw [Bool.and_eq_true] at h
    by_cases e : j = k
    · rw [e]; exact h.1
    · exact okFrom_all h.2 j (by omega) (by omega)
theorem ok_tiers {n t : List Int} (h : okFrom n t 0 11 = true) : ∀ x ∈ t, 1 ≤ x ∧ x ≤ 1000000000 := fun x hx => by
  have h1 := okFrom_all h 10 (by omega) (by omega)
  unfold okN at h1
  have h2 := List.all_eq_true.1 h1 x (by simpa [numsN] using hx)
  unfold inZ at h2
  simpa [loN, hiN] using h2
theorem ok_drop {k : Nat} {l : List Int} {j : Nat} (h : j < l.length) : okN k (l.drop j) = (inZ l[j] (loN k) (hiN k) && okN k (l.drop (j + 1))) := by
  unfold okN
  rw [List.drop_eq_getElem_cons h, List.all_cons]
set_option maxRecDepth 100000 in
set_option maxHeartbeats 16000000 in
theorem right_any (S : Nat → Prop) (n t : List Int) (v : Value) (w : World) (hn : n.length = 10) (hin : ∀ x ∈ n, In64 x) (hT : Tr S v t w) :
    Calls Tryz.prog 32 #[.agg (valsP n v)] w fun e w' => e = .returned (.bool (rightN n t)) ∧ Below w.heap.size w w' := by
  have hB0 : Below w.heap.size w (w.alloc (.cells (valsP n v) 24)) := (Below.refl _ _).alloc (Nat.le_refl _) _
  have HP0 := Lib.hid (CellsAt.new (valsP n v) 24 w)
  have HT0 := Lib.hid ((hT.weak (S' := fun _ => False) (fun _ h _ => h.elim)).below hB0)
  have HB0 := Lib.hid hB0
  have hnum := fun P k hk W (h1 : PolAt P n v W) (h2 : Tr (fun _ => False) v t W) => numbers_any P k hk n t v W (fun _ => False) hn hin h1 h2 (fun _ h => h.elim)
  have HNUM := Lib.hid hnum
  have HRN : Hid (∀ b, okFrom n t 0 11 = b → rightN n t = (b && (decide (n.getD 1 0 ≤ n.getD 2 0) && areN t))) := Lib.hid (fun b h => by rw [← h]; rfl)
  obtain ⟨V, hV⟩ : ∃ V, rightN n t = V := ⟨_, rfl⟩
  rw [hV] at HRN ⊢
  obtain ⟨p, c, rfl⟩ := hT.len
  clear hT hnum hV hB0 hin
  obtain ⟨a0, a1, a2, a3, a4, a5, a6, a7, a8, a9, hne⟩ := ten_of hn
  have HNE := Lib.hid hne
  have e : (valsP n (.slice p t.length c)) = #[.int .i64 a0, .int .i64 a1, .int .i64 a2, .int .i64 a3, .int .i64 a4, .int .i64 a5, .int .i64 a6, .int .i64 a7, .int .i64 a8, .int .i64 a9, .slice p t.length c] := by rw [hne]; rfl
  rw [e] at HT0 HB0 ⊢
  have HP1 : Hid (PolAt w.heap.size n (.slice p t.length c) (w.alloc (.cells #[.int .i64 a0, .int .i64 a1, .int .i64 a2, .int .i64 a3, .int .i64 a4, .int .i64 a5, .int .i64 a6, .int .i64 a7, .int .i64 a8, .int .i64 a9, .slice p t.length c] 24))) := Lib.hid (by rw [← e]; exact HP0.out)
  have hf := fun W => fields_of w.heap.size W
  obtain ⟨N, hN⟩ : ∃ N, w.heap.size = N := ⟨_, rfl⟩
  rw [hN] at HP1 hf
  clear e hne HP0
  go_enter Tryz.func32, Tryz.ntmps32
  go_wp2_with fail
  refine (hf _).mono ?_
  rintro e w2 ⟨rfl, hF2, hB2⟩
  obtain ⟨F, hFe⟩ : ∃ F, (w.alloc (.cells #[.int .i64 a0, .int .i64 a1, .int .i64 a2, .int .i64 a3, .int .i64 a4, .int .i64 a5, .int .i64 a6, .int .i64 a7, .int .i64 a8, .int .i64 a9, .slice p t.length c] 24)).heap.size = F := ⟨_, rfl⟩
  rw [hFe] at hF2 ⊢
  have HF2 := Lib.hid hF2
  have HP2 := Lib.hid (CellsAt.below HP1.out hB2)
  have HT2 := Lib.hid (HT0.out.below hB2)
  have HB2 := Lib.hid (HB0.out.trans (hB2.mono (by simp)))
  clear hF2 HP1 HT0 hB2 HB0 hf hFe
  go_wp2
  go_loopg [9] 11 (fun g s9 wx => ∃ k : Nat, s9 = .int .i64 (k : Int) ∧ g + k = 11 ∧ Hid (okFrom n t 0 11 = okFrom n t k g) ∧ Hid (PartsAt F N (List.range 11) wx) ∧ Hid (PolAt N n (.slice p t.length c) wx) ∧ Hid (Tr (fun _ => False) (.slice p t.length c) t wx) ∧ Hid (Below w.heap.size w wx))
  case atStart => exact ⟨0, rfl, rfl, Lib.hid rfl, HF2, HP2, HT2, HB2⟩
  case round =>
    clear HF2 HP2 HT2 HB2
    obtain ⟨k, rfl, hgk, HO, HF, HP, HT, HB⟩ := hrel
    cases gk with
    | zero =>
      obtain rfl : k = 11 := by omega
      have hall : okFrom n t 0 11 = true := by rw [HO.out]; rfl
      have hV := HRN.out true hall
      have ht := ok_tiers hall
      have e1 : n.getD 1 0 = a1 := by rw [HNE.out]; rfl
      have e2 : n.getD 2 0 = a2 := by rw [HNE.out]; rfl
      rw [e1, e2] at hV
      have c1 : wr.cell? ⟨N, 1, none⟩ = some (.int .i64 a1) := HP.out.cell 1 _ (by rw [HNE.out]; rfl)
      have c2 : wr.cell? ⟨N, 2, none⟩ = some (.int .i64 a2) := HP.out.cell 2 _ (by rw [HNE.out]; rfl)
      have c10 : wr.cell? ⟨N, 10, none⟩ = some (.slice p t.length c) := HP.out.cell 10 _ (by rw [HNE.out]; rfl)
      have hNl := HP.out.lt
      have h1 := tiers_any _ _ t wr HT.out ht
      by_cases hle : a1 ≤ a2
      · have hf : V = areN t := by rw [hV, decide_eq_true hle]; rfl
        subst hf
        clear hV ht hall HO HF HP HT HRN
        go_wp2_with fail
        refine h1.mono ?_
        rintro e w5 ⟨rfl, hB5⟩
        have HB5 := Lib.hid (HB.out.trans (hB5.mono HB.out.size))
        go_wp2
        go_ret
        exact ⟨rfl, by first | exact HB5.out | exact hN ▸ HB5.out⟩
      · have hf : V = false := by rw [hV, decide_eq_false hle]; rfl
        subst hf
        clear hV ht hall HO HF HP HT HRN
        go_wp2
        go_ret
        exact ⟨rfl, by first | exact HB.out | exact hN ▸ HB.out⟩
    | succ g =>
      have hk : k < 11 := by omega
      obtain ⟨c0, c1, c2, c3, c4, c5⟩ := HF.out.row hk
      have hFl := HF.out.lt
      have hfv : fieldV N k = .agg #[.string (tx (tellN k)), .int .i64 (loN k), .int .i64 (hiN k), .pointer (cntP N k), .pointer (timP N k), .pointer (tieP N k)] := rfl
      have hcall := fun W hP hT => HNUM.out N k hk W hP hT
      rw [hfv] at hcall
      have hkn := Lib.hid (show okFrom n t k (g + 1) = (okN k (numsN n t k) && okFrom n t (k + 1) g) from rfl)
      obtain ⟨lo, hlo⟩ : ∃ z, loN k = z := ⟨_, rfl⟩
      obtain ⟨hi, hhi⟩ : ∃ z, hiN k = z := ⟨_, rfl⟩
      obtain ⟨ns, hns⟩ : ∃ z, numsN n t k = z := ⟨_, rfl⟩
      have HOK : Hid (∀ j, (h : j < ns.length) → okN k (ns.drop j) = (inZ ns[j] lo hi && okN k (ns.drop (j + 1)))) := Lib.hid (fun j h => by rw [ok_drop h, hlo, hhi])
      rw [hlo] at c1 hcall
      rw [hhi] at c2 hcall
      rw [hns] at hcall hkn
      clear hlo hhi hns hfv
      generalize cntP N k = q1 at *
      generalize timP N k = q2 at *
      generalize tieP N k = q3 at *
      generalize tx (tellN k) = T at *
      have hBa : Below wr.heap.size wr (wr.alloc (.cells #[.string T, .int .i64 lo, .int .i64 hi, .pointer q1, .pointer q2, .pointer q3] 130)) := (Below.refl _ _).alloc (Nat.le_refl _) _
      have HC := Lib.hid (CellsAt.new #[.string T, .int .i64 lo, .int .i64 hi, .pointer q1, .pointer q2, .pointer q3] 130 wr)
      have HF1 := Lib.hid (CellsAt.below HF.out hBa)
      have HP1 := Lib.hid (CellsAt.below HP.out hBa)
      have HT1 := Lib.hid (HT.out.below hBa)
      have HBs := HB.out.size
      have HB1 := Lib.hid (HB.out.trans (hBa.mono HB.out.size))
      have h1 := hcall _ HP1.out HT1.out
      clear HF HP HT HB hcall hBa
      obtain ⟨M, hM⟩ : ∃ M, wr.heap.size = M := ⟨_, rfl⟩
      rw [hM] at HC
      have HNM : Hid (N ≤ M) := Lib.hid (by rw [← hM, ← hN]; exact HBs)
      have HIN : Hid (∀ b, okN k ns = b → okFrom n t 0 11 = (b && okFrom n t (k + 1) g)) := Lib.hid (fun b h => by rw [HO.out, hkn.out, h])
      clear hkn HO
      go_wp2_with fail
      refine h1.mono ?_
      rintro e w3 ⟨u, rfl, hTu, hB3⟩
      obtain ⟨pu, cu, rfl⟩ := hTu.len
      obtain ⟨_, _, _, _, hat⟩ := hTu.at
      have hsm : ns.length ≤ 9223372036854775807 := hTu.short
      have hM1 : M < (wr.alloc (.cells #[.string T, .int .i64 lo, .int .i64 hi, .pointer q1, .pointer q2, .pointer q3] 130)).heap.size := by simp; omega
      have HC3 := HC.out.below hB3
      have HF3 := Lib.hid (CellsAt.below HF1.out hB3)
      have HP3 := Lib.hid (CellsAt.below HP1.out hB3)
      have HT3 := Lib.hid (HT1.out.below hB3)
      have HB3 := Lib.hid (HB1.out.trans (hB3.mono HB1.out.size))
      have HAT := Lib.hid hat
      have m1 : w3.cell? ⟨M, 1, none⟩ = some (.int .i64 lo) := HC3.cell 1 _ rfl
      have m2 : w3.cell? ⟨M, 2, none⟩ = some (.int .i64 hi) := HC3.cell 2 _ rfl
      clear HF1 HP1 HT1 HB1 HC HC3 hB3 hTu hat h1 hM1 c0 c1 c2 c3 c4 c5 hFl hM
      go_wp2
      go_loopg [16] ns.length (fun g2 s16 wy => ∃ j : Nat, s16 = .int .i64 (j : Int) ∧ g2 + j = ns.length ∧ Hid (okN k ns = okN k (ns.drop j)) ∧ wy = w3)
      case atStart => exact ⟨0, rfl, rfl, Lib.hid rfl, rfl⟩
      case round =>
        obtain ⟨j, rfl, hgj, HJ, rfl⟩ := hrel
        cases gk with
        | zero =>
          obtain rfl : j = ns.length := by omega
          have HO2 : Hid (okFrom n t 0 11 = okFrom n t (k + 1) g) := Lib.hid (by rw [HIN.out true (by rw [HJ.out, List.drop_length]; rfl)]; rfl)
          clear HIN HJ hgj
          go_wp2
          go_roundg g
          case measure => omega
          case rel => exact ⟨k + 1, by go_num, by omega, HO2, HF3, HP3, HT3, HB3⟩
        | succ g2 =>
          have hj : j < ns.length := by omega
          obtain ⟨C, off, rfl, hC, cx⟩ := HAT.out j hj
          have hstep := HOK.out j hj
          obtain ⟨x, hx⟩ : ∃ x, ns[j]'hj = x := ⟨_, rfl⟩
          rw [hx] at hstep cx
          have i1 : (j : Int) < (ns.length : Int) := by omega
          unfold inZ at hstep
          have HS := Lib.hid hstep
          clear hstep hx hj
          by_cases hlo : x < lo
          · have hb : okN k ns = false := by rw [HJ.out, HS.out, decide_eq_false (by omega)]; rfl
            have hf := HRN.out false (by rw [HIN.out false hb]; rfl)
            rw [Bool.false_and] at hf
            subst hf
            clear HIN HJ HS hb HRN
            go_wp2
            go_ret
            exact ⟨rfl, by first | exact HB3.out | exact hN ▸ HB3.out⟩
          by_cases hhi : hi < x
          · have hb : okN k ns = false := by rw [HJ.out, HS.out, decide_eq_false (show ¬ x ≤ hi by omega)]; simp
            have hf := HRN.out false (by rw [HIN.out false hb]; rfl)
            rw [Bool.false_and] at hf
            subst hf
            clear HIN HJ HS hb HRN
            go_wp2
            go_ret
            exact ⟨rfl, by first | exact HB3.out | exact hN ▸ HB3.out⟩
          · have HJ2 : Hid (okN k ns = okN k (ns.drop (j + 1))) := Lib.hid (by rw [HJ.out, HS.out, decide_eq_true (show lo ≤ x by omega), decide_eq_true (show x ≤ hi by omega)]; rfl)
            clear HJ HS HIN
            go_wp2
            go_roundg g2
            case measure => omega
            case rel => exact ⟨j + 1, by go_num, by omega, HJ2, rfl⟩
end Go.Proofs.YtcgkgdhbipbnfaaGreatDoor.Po

