/- A key as a line begins with it, and its name: the program's and the chapter's, of what Split tells. -/
import Derived.Test.YtlocjhnlemlnmaaLbU
namespace Go.Proofs.Ytlocjhnlemlnmaa.Lx
open Go Go.RowKit

theorem escape_any (l : List UInt8) (hl : l.length ≤ 64) (w : World) :
    Calls Try.prog 36 #[.string (tx l)] w fun e w' => e = .returned (.string (tx (escL l))) ∧ Below w.heap.size w w' := by
  have h := escape_ok (tx l) (by rw [tx_len]; omega) w
  rwa [list_tx] at h
theorem refesc_any (l : List UInt8) (hl : l.length ≤ 64) (w : World) :
    Calls Try.prog 37 #[.string (tx l)] w fun e w' => e = .returned (.string (tx (escL l))) ∧ Below w.heap.size w w' := by
  have h := ref_escape (tx l) (by rw [tx_len]; omega) w
  rwa [list_tx] at h
theorem esc_size {l : List UInt8} (hl : l.length ≤ 64) : (tx (escL l)).size ≤ 128 := by
  rw [tx_len]
  have := escL_le l
  omega
theorem key_fits {n s : List UInt8} {ls : List LabB} (h : splitP s = some (n, ls)) : n.length ≤ 64 ∧ ls.length ≤ 16 ∧ ∀ x ∈ ls, x.1.length ≤ 64 ∧ x.2.length ≤ 64 := by
  obtain ⟨g1, g2, g3, _⟩ := keyE_ok (splitP_some h).1
  exact ⟨(named_short g2).2, g1, fun x hx => okL_fit (List.all_eq_true.1 g3 x hx)⟩
theorem fits_short {ls : List LabB} (h : ∀ x ∈ ls, x.1.length ≤ 64 ∧ x.2.length ≤ 64) : Short ls := fun x hx => by
  have := h x hx
  unfold maxLen
  omega
theorem sum1 (S E1 E2 : ByteArray) : (S ++ (⟨#[44]⟩ ++ E1 ++ ⟨#[61]⟩ ++ E2)).size = S.size + (1 + E1.size + 1 + E2.size) := by
  rw [ByteArray.size_append, ByteArray.size_append, ByteArray.size_append, ByteArray.size_append]
  rfl
theorem sum2 (S E1 E2 : ByteArray) : (S ++ ⟨#[44]⟩ ++ E1 ++ ⟨#[61]⟩ ++ E2).size = S.size + (1 + E1.size + 1 + E2.size) := by
  rw [ByteArray.size_append, ByteArray.size_append, ByteArray.size_append, ByteArray.size_append]
  show S.size + 1 + E1.size + 1 + E2.size = _
  omega

set_option maxRecDepth 100000 in
set_option maxHeartbeats 4000000 in
theorem metric_of (s : List UInt8) (hS : ∀ w, Calls Try.prog 20 #[.string (tx s)] w (SplitEnd w (splitP s))) (w : World) :
    Calls Try.prog 24 #[.string (tx s)] w fun e w' => e = .returned (.string (tx (metricS s))) ∧ Below w.heap.size w w' := by
  unfold metricS
  generalize splitP s = R at *
  generalize tx s = S0 at *
  go_enter Try.func24, Try.ntmps24
  go_wp2_with fail
  refine (hS _).mono ?_
  intro e w1 hE
  cases R with
  | none =>
    obtain ⟨rfl, hB⟩ := hE
    go_wp2
    go_ret
    exact ⟨rfl, hB⟩
  | some x =>
    obtain ⟨v, rfl, hO, hB⟩ := hE
    obtain ⟨n, ls⟩ := x
    clear hO
    go_wp2
    go_ret
    exact ⟨rfl, hB⟩

set_option maxRecDepth 100000 in
set_option maxHeartbeats 4000000 in
theorem refmetric_of (s : List UInt8) (hS : ∀ w, Calls Try.prog 21 #[.string (tx s)] w (SplitEnd w (splitP s))) (w : World) :
    Calls Try.prog 25 #[.string (tx s)] w fun e w' => e = .returned (.string (tx (metricS s))) ∧ Below w.heap.size w w' := by
  unfold metricS
  generalize splitP s = R at *
  generalize tx s = S0 at *
  go_enter Try.func25, Try.ntmps25
  go_wp2_with fail
  refine (hS _).mono ?_
  intro e w1 hE
  cases R with
  | none =>
    obtain ⟨rfl, hB⟩ := hE
    go_wp2
    go_ret
    exact ⟨rfl, hB⟩
  | some x =>
    obtain ⟨v, rfl, hO, hB⟩ := hE
    obtain ⟨n, ls⟩ := x
    clear hO
    go_wp2
    go_ret
    exact ⟨rfl, hB⟩

set_option maxRecDepth 100000 in
set_option maxHeartbeats 8000000 in
theorem text_of (s : List UInt8) (hS : ∀ w, Calls Try.prog 20 #[.string (tx s)] w (SplitEnd w (splitP s))) (w : World) :
    Calls Try.prog 22 #[.string (tx s)] w fun e w' => e = .returned (.string (tx (textS s))) ∧ Below w.heap.size w w' := by
  have hF := @key_fits
  unfold textS
  cases hR : splitP s with
  | none =>
    rw [hR] at hS
    show Calls _ _ _ _ fun e w' => e = .returned (.string ⟨#[]⟩) ∧ _
    clear hR hF
    generalize tx s = S0 at *
    go_enter Try.func22, Try.ntmps22
    go_wp2_with fail
    refine (hS _).mono ?_
    rintro e w1 ⟨rfl, hB⟩
    clear hS
    go_wp2
    go_ret
    exact ⟨rfl, hB⟩
  | some x =>
    rw [hR] at hS
    obtain ⟨n, ls⟩ := x
    obtain ⟨hn, hm, hx⟩ := hF hR
    have hS0 := esc_size hn
    have he := escape_any n hn
    obtain ⟨R, hRR⟩ : ∃ R, textK n ls = R := ⟨_, rfl⟩
    show Calls _ _ _ _ fun e w' => e = .returned (.string (tx (textK n ls))) ∧ _
    rw [hRR]
    have HRR := Lib.hid hRR
    have HX := Lib.hid hx
    clear hR hF hx hRR
    generalize tx s = SS at *
    go_enter Try.func22, Try.ntmps22
    go_wp2_with fail
    refine (hS _).mono ?_
    rintro e w1 ⟨v, rfl, hO, hB1⟩
    have hO : OwnL w.heap.size v ls w1 := hO
    obtain ⟨p, cap, rfl⟩ := hO.len
    have HL1 := Lib.hid (hO.lies (fits_short HX.out))
    have HB1 := Lib.hid hB1
    have HP0 : Hid (p = none → ls = []) := Lib.hid (by
      rintro rfl
      cases ls with
      | nil => rfl
      | cons x r => obtain ⟨C, off, h0, _⟩ := HL1.out 0 (by simp); cases h0)
    clear hS hO hB1
    go_wp2_with fail
    refine (he _).mono ?_
    rintro e w2 ⟨rfl, hB2⟩
    have HB2 := Lib.hid (HB1.out.trans (hB2.mono HB1.out.size))
    have HL2 := Lib.hid (HL1.out.below hB2)
    clear hB2 HL1 HB1 he HP0
    obtain ⟨S0, hS⟩ : ∃ S, tx (escL n) = S := ⟨_, rfl⟩
    rw [hS] at hS0 ⊢
    have HS := Lib.hid hS
    clear hS
    go_wp2
    go_loopg [6, 21] ls.length (fun g s4 s16 wx => ∃ (k : Nat) (S : ByteArray), k + g = ls.length ∧ s16 = .int .i64 (k : Int) ∧ s4 = .string S ∧ S.size ≤ 128 + 258 * k ∧ Hid (S = tx (escL n ++ (ls.take k).flatMap labT)) ∧ Hid (LbAt p ls wx) ∧ Hid (Below w.heap.size w wx))
    case atStart => exact ⟨0, S0, by omega, rfl, rfl, by omega, Lib.hid (by rw [← HS.out]; simp), HL2, HB2⟩
    case round =>
      clear HL2 HB2 HS hS0
      obtain ⟨k, S, hkg, rfl, rfl, hSs, HS, HL, HB⟩ := hrel
      cases gk with
      | zero =>
        obtain rfl : k = ls.length := by omega
        have hr := HRR.out
        have hT := HS.out
        rw [List.take_length, show escL n ++ ls.flatMap labT = textK n ls from rfl, hr] at hT
        have HT := Lib.hid hT
        clear hr hT HS HRR HL
        go_wp2
        go_ret
        exact ⟨by rw [HT.out]; rfl, HB.out⟩
      | succ g =>
        have hlt : k < ls.length := by omega
        obtain ⟨C, off, rfl, hC, c0, c1, _, _⟩ := HL.out k hlt
        obtain ⟨b0, b1⟩ := HX.out _ (List.getElem_mem hlt)
        have htk : (ls.take (k + 1)).flatMap labT = (ls.take k).flatMap labT ++ labT ls[k] := by
          rw [List.take_succ_eq_append_getElem hlt, List.flatMap_append]
          simp
        have HTK := Lib.hid htk
        clear htk
        generalize ls[k] = x at c0 c1 b0 b1 HTK
        obtain ⟨x1, x2⟩ := x
        have he1 := fun (p : Beh (wr.alloc (.cells #[.string (tx x1), .string (tx x2)] 47))) => escape_any x1 b0 p.u
        have he2 := fun (p : Beh (wr.alloc (.cells #[.string (tx x1), .string (tx x2)] 47))) => escape_any x2 b1 p.u
        have s1 := esc_size b0
        have s2 := esc_size b1
        have q1 := Beh.cell (w := wr.alloc (.cells #[.string (tx x1), .string (tx x2)] 47)) (b := wr.heap.size) (i := 0) (v := .string (tx x1)) (by simp) (by rw [World.cell?_alloc_new]; rfl)
        have q2 := Beh.cell (w := wr.alloc (.cells #[.string (tx x1), .string (tx x2)] 47)) (b := wr.heap.size) (i := 1) (v := .string (tx x2)) (by simp) (by rw [World.cell?_alloc_new]; rfl)
        have HP : Hid (S ++ (⟨#[44]⟩ ++ tx (escL x1) ++ ⟨#[61]⟩ ++ tx (escL x2)) = tx (escL n ++ (ls.take (k + 1)).flatMap labT)) := Lib.hid (by
          rw [HTK.out, HS.out, show (⟨#[44]⟩ : ByteArray) = tx [44] from rfl, show (⟨#[61]⟩ : ByteArray) = tx [61] from rfl]
          simp only [tx_append]
          simp [labT])
        have HL1 := Lib.hid (HL.out.below ((Below.refl _ _).alloc (Nat.le_refl _) (.cells #[.string (tx x1), .string (tx x2)] 47)))
        have HB1 := Lib.hid (HB.out.alloc HB.out.size (.cells #[.string (tx x1), .string (tx x2)] 47))
        clear HL HB HTK b0 b1
        generalize tx (escL x1) = E1 at *
        generalize tx (escL x2) = E2 at *
        generalize tx x1 = y1 at *
        generalize tx x2 = y2 at *
        have z1 : (9223372036854775807 < 1 + E1.size) = False := eq_false (by omega)
        have z2 : (9223372036854775807 < 1 + E1.size + 1) = False := eq_false (by omega)
        have z3 : (9223372036854775807 < 1 + E1.size + 1 + E2.size) = False := eq_false (by omega)
        have z4 : (9223372036854775807 < S.size + (1 + E1.size + 1 + E2.size)) = False := eq_false (by omega)
        go_wp2
        refine wp_region_beh (by kernel_rfl) (by kernel_rfl) ?_
        iterate 4 (quiet_step (exact calls_beh _ (he1 _)))
        repeat (quiet_step (exact calls_beh _ (he2 _)))
        refine wpQuiet_nil ?_
        intro W9 hw9
        obtain ⟨pW, hw''⟩ := hw9
        have hBW := pW.h
        rw [← hw''] at hBW
        have HB2 := Lib.hid (HB1.out.trans (hBW.mono HB1.out.size))
        have HL2 := Lib.hid (HL1.out.below hBW)
        have hS2 : (S ++ (⟨#[44]⟩ ++ E1 ++ ⟨#[61]⟩ ++ E2)).size ≤ 128 + 258 * (k + 1) := by
          rw [sum1]
          omega
        clear hw'' he1 he2 q1 q2 hBW z1 z2 z3 z4 HB1 HL1
        generalize S ++ (⟨#[44]⟩ ++ E1 ++ ⟨#[61]⟩ ++ E2) = S2 at *
        go_wp2
        go_roundg g
        case measure => omega
        case rel => exact ⟨k + 1, S2, by omega, by go_num, rfl, hS2, HP, HL2, HB2⟩

set_option maxRecDepth 100000 in
set_option maxHeartbeats 8000000 in
theorem reftext_of (s : List UInt8) (hS : ∀ w, Calls Try.prog 21 #[.string (tx s)] w (SplitEnd w (splitP s))) (w : World) :
    Calls Try.prog 23 #[.string (tx s)] w fun e w' => e = .returned (.string (tx (textS s))) ∧ Below w.heap.size w w' := by
  have hF := @key_fits
  unfold textS
  cases hR : splitP s with
  | none =>
    rw [hR] at hS
    show Calls _ _ _ _ fun e w' => e = .returned (.string ⟨#[]⟩) ∧ _
    clear hR hF
    generalize tx s = S0 at *
    go_enter Try.func23, Try.ntmps23
    go_wp2_with fail
    refine (hS _).mono ?_
    rintro e w1 ⟨rfl, hB⟩
    clear hS
    go_wp2
    go_ret
    exact ⟨rfl, hB⟩
  | some x =>
    rw [hR] at hS
    obtain ⟨n, ls⟩ := x
    obtain ⟨hn, hm, hx⟩ := hF hR
    have hS0 := esc_size hn
    have he := refesc_any n hn
    obtain ⟨R, hRR⟩ : ∃ R, textK n ls = R := ⟨_, rfl⟩
    show Calls _ _ _ _ fun e w' => e = .returned (.string (tx (textK n ls))) ∧ _
    rw [hRR]
    have HRR := Lib.hid hRR
    have HX := Lib.hid hx
    clear hR hF hx hRR
    generalize tx s = SS at *
    go_enter Try.func23, Try.ntmps23
    go_wp2_with fail
    refine (hS _).mono ?_
    rintro e w1 ⟨v, rfl, hO, hB1⟩
    have hO : OwnL w.heap.size v ls w1 := hO
    obtain ⟨p, cap, rfl⟩ := hO.len
    have HL1 := Lib.hid (hO.lies (fits_short HX.out))
    have HB1 := Lib.hid hB1
    have HP0 : Hid (p = none → ls = []) := Lib.hid (by
      rintro rfl
      cases ls with
      | nil => rfl
      | cons x r => obtain ⟨C, off, h0, _⟩ := HL1.out 0 (by simp); cases h0)
    clear hS hO hB1
    go_wp2_with fail
    refine (he _).mono ?_
    rintro e w2 ⟨rfl, hB2⟩
    have HB2 := Lib.hid (HB1.out.trans (hB2.mono HB1.out.size))
    have HL2 := Lib.hid (HL1.out.below hB2)
    clear hB2 HL1 HB1 he HP0
    obtain ⟨S0, hS⟩ : ∃ S, tx (escL n) = S := ⟨_, rfl⟩
    rw [hS] at hS0 ⊢
    have HS := Lib.hid hS
    clear hS
    go_wp2
    go_loopg [6, 7] ls.length (fun g s4 s16 wx => ∃ (k : Nat) (S : ByteArray), k + g = ls.length ∧ s16 = .int .i64 (k : Int) ∧ s4 = .string S ∧ S.size ≤ 128 + 258 * k ∧ Hid (S = tx (escL n ++ (ls.take k).flatMap labT)) ∧ Hid (LbAt p ls wx) ∧ Hid (Below w.heap.size w wx))
    case atStart => exact ⟨0, S0, by omega, rfl, rfl, by omega, Lib.hid (by rw [← HS.out]; simp), HL2, HB2⟩
    case round =>
      clear HL2 HB2 HS hS0
      obtain ⟨k, S, hkg, rfl, rfl, hSs, HS, HL, HB⟩ := hrel
      cases gk with
      | zero =>
        obtain rfl : k = ls.length := by omega
        have hr := HRR.out
        have hT := HS.out
        rw [List.take_length, show escL n ++ ls.flatMap labT = textK n ls from rfl, hr] at hT
        have HT := Lib.hid hT
        clear hr hT HS HRR HL
        go_wp2
        go_ret
        exact ⟨by rw [HT.out]; rfl, HB.out⟩
      | succ g =>
        have hlt : k < ls.length := by omega
        obtain ⟨C, off, rfl, hC, c0, c1, _, _⟩ := HL.out k hlt
        obtain ⟨b0, b1⟩ := HX.out _ (List.getElem_mem hlt)
        have htk : (ls.take (k + 1)).flatMap labT = (ls.take k).flatMap labT ++ labT ls[k] := by
          rw [List.take_succ_eq_append_getElem hlt, List.flatMap_append]
          simp
        have HTK := Lib.hid htk
        clear htk
        generalize ls[k] = x at c0 c1 b0 b1 HTK
        obtain ⟨x1, x2⟩ := x
        have he1 := fun (p : Beh wr) => refesc_any x1 b0 p.u
        have he2 := fun (p : Beh wr) => refesc_any x2 b1 p.u
        have s1 := esc_size b0
        have s2 := esc_size b1
        have q1 := Beh.cell (w := wr) hC c0
        have q2 := Beh.cell (w := wr) hC c1
        have HP : Hid (S ++ ⟨#[44]⟩ ++ tx (escL x1) ++ ⟨#[61]⟩ ++ tx (escL x2) = tx (escL n ++ (ls.take (k + 1)).flatMap labT)) := Lib.hid (by
          rw [HTK.out, HS.out, show (⟨#[44]⟩ : ByteArray) = tx [44] from rfl, show (⟨#[61]⟩ : ByteArray) = tx [61] from rfl]
          simp only [tx_append]
          simp [labT])
        have HL1 := HL
        have HB1 := HB
        clear HL HB HTK b0 b1 c0 c1
        generalize tx (escL x1) = E1 at *
        generalize tx (escL x2) = E2 at *
        generalize tx x1 = y1 at *
        generalize tx x2 = y2 at *
        have z1 : (9223372036854775807 < S.size + 1) = False := eq_false (by omega)
        have z2 : (9223372036854775807 < S.size + 1 + E1.size) = False := eq_false (by omega)
        have z3 : (9223372036854775807 < S.size + 1 + E1.size + 1) = False := eq_false (by omega)
        have z4 : (9223372036854775807 < S.size + 1 + E1.size + 1 + E2.size) = False := eq_false (by omega)
        go_wp2
        refine wp_region_beh (by kernel_rfl) (by kernel_rfl) ?_
        iterate 8 (quiet_step (exact calls_beh _ (he1 _)))
        repeat (quiet_step (exact calls_beh _ (he2 _)))
        refine wpQuiet_nil ?_
        intro W9 hw9
        obtain ⟨pW, hw''⟩ := hw9
        have hBW := pW.h
        rw [← hw''] at hBW
        have HB2 := Lib.hid (HB1.out.trans (hBW.mono HB1.out.size))
        have HL2 := Lib.hid (HL1.out.below hBW)
        have hS2 : (S ++ ⟨#[44]⟩ ++ E1 ++ ⟨#[61]⟩ ++ E2).size ≤ 128 + 258 * (k + 1) := by
          rw [sum2]
          omega
        clear hw'' he1 he2 q1 q2 hBW z1 z2 z3 z4 HB1 HL1
        generalize S ++ ⟨#[44]⟩ ++ E1 ++ ⟨#[61]⟩ ++ E2 = S2 at *
        go_wp2
        go_roundg g
        case measure => omega
        case rel => exact ⟨k + 1, S2, by omega, by go_num, rfl, hS2, HP, HL2, HB2⟩

end Go.Proofs.Ytlocjhnlemlnmaa.Lx
