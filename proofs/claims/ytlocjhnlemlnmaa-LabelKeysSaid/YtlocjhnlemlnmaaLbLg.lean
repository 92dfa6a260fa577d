/- Of sorted labels each is found by its name, and others are not. -/
import Derived.Test.YtlocjhnlemlnmaaLbLk
namespace Go.Proofs.Ytlocjhnlemlnmaa.Lx
open Go Go.RowKit

theorem getK_any (l : List LabB) (n : List UInt8) : (getK l n).isSome = l.any fun x => decide (x.1 = n) := by
  induction l with
  | nil => rfl
  | cons x r ih =>
    rw [getK_cons, List.any_cons, ← ih]
    by_cases h : x.1 = n
    · simp [h]
    · simp [h]
theorem any_perm {l m : List LabB} (h : l.Perm m) (f : LabB → Bool) : l.any f = m.any f := by
  rw [Bool.eq_iff_iff, List.any_eq_true, List.any_eq_true]
  exact ⟨fun ⟨x, hx, hf⟩ => ⟨x, h.mem_iff.1 hx, hf⟩, fun ⟨x, hx, hf⟩ => ⟨x, h.mem_iff.2 hx, hf⟩⟩

set_option maxRecDepth 100000 in
set_option maxHeartbeats 8000000 in
theorem gets_true (hT : TextOk) (p : Option Addr) (l : List ItemV) (c : Nat) (_ : l.length ≤ maxLen) (hlc : l.length ≤ c) (pw : Option Addr) (ws : List Nat) (cw : Nat) (hw : ws.length ≤ maxLen) (w : World) (hR : Rows9 p l w) (hO : Octs pw ws w) :
    Calls Try.prog 8 #[.slice p l.length c, .slice pw ws.length cw] w fun e w' => e = .returned (.bool true) ∧ Below w.heap.size w w' := by
  have hex := fun w => examples_of hT w
  obtain ⟨l10, hl10⟩ : ∃ m, l.take 10 = m := ⟨_, rfl⟩
  obtain ⟨m, hm⟩ : ∃ m, l10.length = m := ⟨_, rfl⟩
  have hml : m ≤ 10 ∧ m ≤ l.length ∧ m = min l.length 10 := by rw [← hm, ← hl10, List.length_take]; omega
  have hmi : min (l.length : Int) 10 = (m : Int) := by omega
  have HF := Lib.hid (fun W h1 => few_any p l10 c (by unfold maxLen; omega) (.slice none 0 0) W h1)
  have HW := Lib.hid (fun W h => word_any pw ws cw hw W h)
  have HR := Lib.hid (hl10 ▸ hR.take 10)
  have HO := Lib.hid hO
  rw [hm] at HF
  obtain ⟨hm1, hm2, -⟩ := hml
  have hmc : m ≤ c := by omega
  clear hT hR hO hw hl10 hm
  go_enter Try.func8, Try.ntmps8
  go_wp2_with fail
  refine (hex _).mono ?_
  rintro e w1 ⟨rfl, hB⟩
  have HB1 := Lib.hid hB
  clear hB hex
  go_wp2_with fail
  refine (HF.out _ (HR.out.below HB1.out)).mono ?_
  rintro e w3 ⟨v, rfl, hO3, hB⟩
  have HB3 := Lib.hid (HB1.out.trans (hB.mono HB1.out.size))
  obtain ⟨P, C, rfl⟩ := hO3.len
  have HLB3 := Lib.hid (hO3.lies (fewS_short l10))
  have hpc := hO3.none
  have hfl := fewS_len l10
  clear hB hO3 HB1 HF HR
  generalize fewS l10 = ls at *
  have hls : ls.length ≤ maxLab := by unfold maxLab; omega
  have hso := sort_any P C ls hpc hls w3 HLB3.out
  clear hpc
  go_wp2_with fail
  refine hso.mono ?_
  intro e w4 hE
  clear hso
  cases hs : sortK ls with
  | none =>
    rw [hs] at hE
    obtain ⟨rfl, hB⟩ := hE
    have HB4 := Lib.hid (HB3.out.trans (hB.mono HB3.out.size))
    clear hB HB3 HLB3 hs HW HO
    go_wp2
    go_ret
    exact ⟨rfl, HB4.out⟩
  | some s =>
    rw [hs] at hE
    obtain ⟨v, rfl, hO4, hB⟩ := hE
    obtain ⟨h1, h2⟩ := sort_fits hls HLB3.out.short s hs
    obtain ⟨hso, hpm⟩ := sortK_some hs
    obtain ⟨P2, C2, rfl⟩ := hO4.len
    have hsl : s.length = ls.length := hpm.length_eq
    have HG := Lib.hid (fun N W h => get_any P2 C2 s h1 N W h)
    have HSE := Lib.hid (hO4.lies h2)
    have HB4 := Lib.hid (HB3.out.trans (hB.mono HB3.out.size))
    have HLB4 := Lib.hid (HLB3.out.below hB)
    have HGK : Hid (∀ x ∈ ls, getK s x.1 = some x.2) := Lib.hid (fun x hx => getK_once hso.once (hpm.mem_iff.2 hx))
    have HAN := Lib.hid (fun n => (getK_any s n).trans (any_perm hpm _))
    have HB0 := Lib.hid (Below.refl w4.heap.size w4)
    clear hB HB3 HLB3 hs hO4 h1 h2 hso hpm hls
    rw [hsl] at HG ⊢
    obtain ⟨n, hn⟩ : ∃ n, ls.length = n := ⟨_, rfl⟩
    rw [hn] at hfl HG ⊢
    have HN := Lib.hid hn
    clear hn hsl
    go_wp2
    go_loopg [9, 10, 11, 12] n (fun g s9 s10 s11 s12 wx => ∃ (k : Nat) (T : Bool), s10 = .int .i64 (k : Int) ∧ s9 = .bool T ∧ k + g = n ∧ Hid (T = (ls.take k).any fun x => decide (x.1 = wordS ws)) ∧ Hid (Below w4.heap.size w4 wx))
    case atStart => exact ⟨0, false, rfl, rfl, by omega, Lib.hid rfl, HB0⟩
    case round =>
      clear HB0
      obtain ⟨k, T, rfl, rfl, hkg, HT, HX⟩ := hrel
      cases gk with
      | zero =>
        obtain rfl : k = n := by omega
        have hT := HT.out
        rw [List.take_of_length_le (by rw [HN.out]; exact Nat.le_refl _), ← HAN.out] at hT
        have HTT := Lib.hid hT
        have hwa := HW.out wr (((HO.out.below HB4.out).below HX.out))
        clear hT HT HGK HLB4 HW HO
        go_wp2_with fail
        refine hwa.mono ?_
        rintro e w5 ⟨rfl, hB⟩
        have HX5 := Lib.hid (HX.out.trans (hB.mono HX.out.size))
        have hg := HG.out (wordS ws) w5 (HSE.out.below HX5.out)
        clear hB hwa HX
        generalize wordS ws = N at *
        go_wp2_with fail
        refine hg.mono ?_
        rintro e w6 ⟨rfl, hB⟩
        have HX6 := Lib.hid (HX5.out.trans (hB.mono HX5.out.size))
        have HBF := Lib.hid (HB4.out.trans (HX6.out.mono HB4.out.size))
        clear hB hg HX5 HX6 HB4 HG HSE HAN
        cases hgk : getK s N with
        | none =>
          rw [hgk] at HTT
          have hTf : T = false := HTT.out
          subst hTf
          rw [show getV none = .tuple #[.string ⟨#[]⟩, .bool false] from rfl]
          clear HTT hgk
          go_wp2
          go_ret
          exact ⟨rfl, HBF.out⟩
        | some v =>
          rw [hgk] at HTT
          have hTf : T = true := HTT.out
          subst hTf
          rw [show getV (some v) = .tuple #[.string (tx v), .bool true] from rfl]
          clear HTT hgk
          go_wp2
          go_ret
          exact ⟨rfl, HBF.out⟩
      | succ g =>
        have hlt : k < ls.length := by rw [HN.out]; omega
        obtain ⟨D, off, rfl, hD, c0, c1, -, -⟩ := (HLB4.out.below HX.out) k hlt
        have htk : (ls.take (k + 1)).any (fun x => decide (x.1 = wordS ws)) = ((ls.take k).any (fun x => decide (x.1 = wordS ws)) || decide (ls[k].1 = wordS ws)) := by
          rw [List.take_succ_eq_append_getElem hlt, List.any_append]
          simp
        have hgk := HGK.out _ (List.getElem_mem hlt)
        have hg := HG.out ls[k].1 wr (HSE.out.below HX.out)
        rw [hgk] at hg
        have HTK := Lib.hid htk
        clear htk hgk
        generalize ls[k] = x at c0 c1 HTK hg
        obtain ⟨x1, x2⟩ := x
        simp only at c0 c1 HTK hg
        have hkn : k < n := by omega
        clear hlt
        go_wp2_with fail
        refine hg.mono ?_
        rintro e w5 ⟨rfl, hB⟩
        rw [show getV (some x2) = .tuple #[.string (tx x2), .bool true] from rfl]
        have HX5 := Lib.hid (HX.out.trans (hB.mono HX.out.size))
        have d0 := (hB.cell (p := ⟨D, off + k * 2, none⟩) hD).trans c0
        have d1 := (hB.cell (p := ⟨D, off + k * 2 + 1, none⟩) hD).trans c1
        have hD5 : D < w5.heap.size := Nat.lt_of_lt_of_le hD hB.size
        have q0 := Beh.cell (w := w5) hD5 d0
        have hwb := fun (p : Beh w5) => HW.out p.u (((HO.out.below HB4.out).below HX5.out).below p.h)
        have hcmp := tx_eq x1 (wordS ws)
        have HT2 : Hid ((T || decide (x1 = wordS ws)) = (ls.take (k + 1)).any fun x => decide (x.1 = wordS ws)) := Lib.hid (by rw [HTK.out, ← HT.out])
        clear hB hg c0 c1 hD HTK HT HX
        generalize decide (x1 = wordS ws) = Q at *
        generalize tx (wordS ws) = TW at *
        generalize tx x1 = X1 at *
        generalize tx x2 = X2 at *
        have Q0 := Lib.hid q0
        have HWB := Lib.hid hwb
        have HC := Lib.hid hcmp
        clear q0 hwb hcmp
        cases T
        · go_wp2
          have q0 := Q0.out
          have hwb := HWB.out
          have hcmp := HC.out
          refine wp_region_beh (by kernel_rfl) (by kernel_rfl) ?_
          iterate 12 (quiet_step (exact calls_beh _ (hwb _)))
          refine wpQuiet_nil ?_
          intro W9 hw9
          obtain ⟨pW, hw''⟩ := hw9
          have hBW := pW.h
          rw [← hw''] at hBW
          have HX6 := Lib.hid (HX5.out.trans (hBW.mono HX5.out.size))
          clear hw'' hBW q0 hwb hcmp
          go_wp2
          go_roundg g
          case measure => omega
          case rel => exact ⟨k + 1, Q, by go_num, rfl, by omega, by rw [Bool.false_or] at HT2; exact HT2, HX6⟩
        · go_wp2
          go_quiet (fail)
          have HX6 := Lib.hid (below_drewN HX5.out nq)
          generalize w5.drewN nq = W6 at *
          go_wp2
          go_roundg g
          case measure => omega
          case rel => exact ⟨k + 1, true, by go_num, rfl, by omega, by rw [Bool.true_or] at HT2; exact HT2, HX6⟩
end Go.Proofs.Ytlocjhnlemlnmaa.Lx
