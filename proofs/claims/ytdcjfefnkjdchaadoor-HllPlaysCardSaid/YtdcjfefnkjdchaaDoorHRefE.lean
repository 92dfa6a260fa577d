/- The chapter's own estimate of few bits. -/
import Derived.Test.YtdcjfefnkjdchaaDoorHRefA
namespace Go.Proofs.YtdcjfefnkjdchaaDoor
open Go Go.RowKit

theorem zerosOf_take {l : List UInt8} (k : Nat) (hk : k < l.length) : zerosOf (l.take (k + 1)) = zerosOf (l.take k) + (if l[k].toNat = 0 then 1 else 0) := by
  unfold zerosOf
  rw [List.take_add_one, List.getElem?_eq_getElem hk, List.count_append]
  congr 1
  by_cases h : l[k] = 0
  · simp [h]
  · have : ¬ l[k].toNat = 0 := fun h2 => h (UInt8.toNat_inj.1 h2)
    simp [h, this]
set_option maxRecDepth 100000 in
set_option maxHeartbeats 4000000 in
theorem ref_est_4 {P A : Nat} {l : List UInt8} {w : World} (hS : RSk P A 4 l w) (hL : Low l) :
    Calls Tryd.prog 21 #[.pointer (some ⟨P, 0, none⟩)] w (Drawn (.int .u64 (estOf 4 l : Nat)) w) := by
  have hpt : w.cell? ⟨P, 0, none⟩ = some (.slice (some ⟨A, 0, none⟩) 16 16) := hS.ptr
  have hlen : l.length = 16 := hS.len
  have HS := Lib.hid hS
  have HL := Lib.hid hlen
  have HLow := Lib.hid hL
  clear hS hlen hL
  go_enter Tryd.func21, Tryd.ntmps21
  go_wp2_with fail
  go_loop [4, 5, 6] (fun s z i => ∃ k : Nat, k ≤ 16 ∧ i = .int .i64 k ∧ s = .int .u64 (sumOf (l.take k) : Nat) ∧ z = .int .u64 (zerosOf (l.take k) : Nat)) (fun _ _ i => 16 - (intOf i).toNat)
  case atStart => exact ⟨0, Nat.zero_le _, rfl, rfl, rfl⟩
  case round =>
    obtain ⟨k, hk, rfl, rfl, rfl⟩ := hrel
    have hbd := sumOf_le (l.take k)
    have hzb := zerosOf_le (l.take k)
    rw [List.length_take] at hbd hzb
    by_cases hlt : k < 16
    · have hkl : k < l.length := by rw [HL.out]; exact hlt
      have hx := HS.out.cell k hkl
      have hlow := HLow.out l[k] (List.getElem_mem _)
      have HST := Lib.hid (sumOf_take k hkl)
      have HZT := Lib.hid (zerosOf_take k hkl)
      obtain ⟨x, hxe⟩ : ∃ x : Nat, l[k].toNat = x := ⟨_, rfl⟩
      rw [hxe] at hx hlow
      have HX := Lib.hid hxe
      clear hxe
      generalize sumOf (l.take k) = S at *
      generalize zerosOf (l.take k) = Z at *
      have hsum := sum_eq S x (by omega)
      have HSUM := Lib.hid hsum
      clear hsum
      by_cases hx0 : x = 0
      · subst hx0
        go_wp2
        refine ⟨⟨k + 1, by omega, by go_num, ?_, ?_⟩, by simp [intOf]; omega⟩
        · first | rw [HSUM.out, HST.out, HX.out] | (rw [HST.out, HX.out]; go_num)
        · rw [HZT.out, if_pos HX.out]; go_num
      · have hx1 : ((x : Int) == 0) = false := beq_eq_false_iff_ne.2 (by omega)
        go_wp2
        refine ⟨⟨k + 1, by omega, by go_num, ?_, ?_⟩, by simp [intOf]; omega⟩
        · rw [HSUM.out, HST.out, HX.out]
        · rw [HZT.out, if_neg (by rw [HX.out]; exact hx0)]; rfl
    · obtain rfl : k = 16 := by omega
      have htk : l.take 16 = l := List.take_of_length_le (by rw [HL.out]; exact Nat.le_refl _)
      have hge := sumOf_ge l
      rw [HL.out] at hge
      have hes : estOf 4 l = if zerosOf l = 0 ∨ 40 < 115620519608320 / (10000 * sumOf l) then 115620519608320 / (10000 * sumOf l) else fewOf 16 (zerosOf l) := rfl
      have HES := Lib.hid hes
      rw [htk] at hbd hzb ⊢
      clear htk hes
      generalize estOf 4 l = E at *
      generalize sumOf l = S at *
      generalize zerosOf l = Z at *
      rw [HL.out] at hbd hzb
      go_wp2_with fail
      refine (ref_bits_any HS.out).mono ?_
      rintro e w1 ⟨rfl, nq, rfl⟩
      obtain ⟨R, hR⟩ : ∃ R, 115620519608320 / (10000 * S) = R := ⟨_, rfl⟩
      have hRi : (115620519608320 : Int) / (10000 * (S : Int)) = (R : Int) := by
        rw [← hR, show (10000 * (S : Int)) = ((10000 * S : Nat) : Int) by omega, show (115620519608320 : Int) = ((115620519608320 : Nat) : Int) from rfl, ← Int.natCast_ediv]
      have HRI := Lib.hid hRi
      rw [hR] at HES
      clear hR
      by_cases hz : Z = 0
      · subst hz
        have hE := HES.out
        rw [if_pos (.inl rfl)] at hE
        subst hE
        go_wp2
        go_ret
        exact ⟨congrArg (fun n => Ending.returned (.int .u64 n)) HRI.out, nq, rfl⟩
      · have hz1 : ((Z : Int) == 0) = false := beq_eq_false_iff_ne.2 (by omega)
        by_cases hg : 40 < R
        · have hE := HES.out
          rw [if_pos (.inr hg)] at hE
          subst hE
          have hg2 : (40 : Int) < (E : Int) := by omega
          clear hg
          go_wp2
          go_ret
          exact ⟨congrArg (fun n => Ending.returned (.int .u64 n)) HRI.out, nq, rfl⟩
        · have hE := HES.out
          rw [if_neg (fun h => h.elim hz hg)] at hE
          have hg2 : ¬ (40 : Int) < (R : Int) := by omega
          have HEF := Lib.hid hE
          have hZM : Z ≤ 16 := by omega
          clear hg hz hE HES hzb
          go_wp2_with fail
          go_loop [9, 10] (fun s i => ∃ j : Nat, Z + j ≤ 16 ∧ i = .int .u64 ((Z : Int) + 1 + j) ∧ s = .int .u64 (fewSum 16 Z j : Nat)) (fun _ i => 17 - (intOf i).toNat)
          case atStart => exact ⟨0, by omega, by simp, rfl⟩
          case round =>
            obtain ⟨j, hj, rfl, rfl⟩ := hrel
            have hfb := fewSum_le 16 Z (by decide) j
            by_cases hlt : Z + j < 16
            · have hst : fewSum 16 Z (j + 1) = fewSum 16 Z j + 16 * 65536 / (Z + 1 + j) := rfl
              have hfe := few_eq 16 Z j (fewSum 16 Z j) (by decide) (by omega) (by omega)
              rw [show ((16 : Nat) : Int) * 65536 = 1048576 by decide] at hfe
              have HST := Lib.hid hst
              have HFE := Lib.hid hfe
              clear hst hfe
              generalize fewSum 16 Z j = F at *
              go_wp2
              refine ⟨⟨j + 1, by omega, ?_, ?_⟩, by simp [intOf]; omega⟩
              · exact congrArg (fun n => Value.int .u64 n) (by omega)
              · rw [HFE.out, HST.out]
            · have HJ := Lib.hid (show 16 - Z = j by omega)
              have HE := Lib.hid (show fewOf 16 Z = fewSum 16 Z j / 65536 by unfold fewOf; rw [HJ.out])
              generalize fewSum 16 Z j = F at *
              go_wp2
              go_ret
              exact ⟨congrArg (fun n => Ending.returned (.int .u64 n)) (by rw [HEF.out, HE.out]; omega), nq, rfl⟩
set_option maxRecDepth 100000 in
set_option maxHeartbeats 4000000 in
theorem ref_est_5 {P A : Nat} {l : List UInt8} {w : World} (hS : RSk P A 5 l w) (hL : Low l) :
    Calls Tryd.prog 21 #[.pointer (some ⟨P, 0, none⟩)] w (Drawn (.int .u64 (estOf 5 l : Nat)) w) := by
  have hpt : w.cell? ⟨P, 0, none⟩ = some (.slice (some ⟨A, 0, none⟩) 32 32) := hS.ptr
  have hlen : l.length = 32 := hS.len
  have HS := Lib.hid hS
  have HL := Lib.hid hlen
  have HLow := Lib.hid hL
  clear hS hlen hL
  go_enter Tryd.func21, Tryd.ntmps21
  go_wp2_with fail
  go_loop [4, 5, 6] (fun s z i => ∃ k : Nat, k ≤ 32 ∧ i = .int .i64 k ∧ s = .int .u64 (sumOf (l.take k) : Nat) ∧ z = .int .u64 (zerosOf (l.take k) : Nat)) (fun _ _ i => 32 - (intOf i).toNat)
  case atStart => exact ⟨0, Nat.zero_le _, rfl, rfl, rfl⟩
  case round =>
    obtain ⟨k, hk, rfl, rfl, rfl⟩ := hrel
    have hbd := sumOf_le (l.take k)
    have hzb := zerosOf_le (l.take k)
    rw [List.length_take] at hbd hzb
    by_cases hlt : k < 32
    · have hkl : k < l.length := by rw [HL.out]; exact hlt
      have hx := HS.out.cell k hkl
      have hlow := HLow.out l[k] (List.getElem_mem _)
      have HST := Lib.hid (sumOf_take k hkl)
      have HZT := Lib.hid (zerosOf_take k hkl)
      obtain ⟨x, hxe⟩ : ∃ x : Nat, l[k].toNat = x := ⟨_, rfl⟩
      rw [hxe] at hx hlow
      have HX := Lib.hid hxe
      clear hxe
      generalize sumOf (l.take k) = S at *
      generalize zerosOf (l.take k) = Z at *
      have hsum := sum_eq S x (by omega)
      have HSUM := Lib.hid hsum
      clear hsum
      by_cases hx0 : x = 0
      · subst hx0
        go_wp2
        refine ⟨⟨k + 1, by omega, by go_num, ?_, ?_⟩, by simp [intOf]; omega⟩
        · first | rw [HSUM.out, HST.out, HX.out] | (rw [HST.out, HX.out]; go_num)
        · rw [HZT.out, if_pos HX.out]; go_num
      · have hx1 : ((x : Int) == 0) = false := beq_eq_false_iff_ne.2 (by omega)
        go_wp2
        refine ⟨⟨k + 1, by omega, by go_num, ?_, ?_⟩, by simp [intOf]; omega⟩
        · rw [HSUM.out, HST.out, HX.out]
        · rw [HZT.out, if_neg (by rw [HX.out]; exact hx0)]; rfl
    · obtain rfl : k = 32 := by omega
      have htk : l.take 32 = l := List.take_of_length_le (by rw [HL.out]; exact Nat.le_refl _)
      have hge := sumOf_ge l
      rw [HL.out] at hge
      have hes : estOf 5 l = if zerosOf l = 0 ∨ 80 < 478974752849920 / (10000 * sumOf l) then 478974752849920 / (10000 * sumOf l) else fewOf 32 (zerosOf l) := rfl
      have HES := Lib.hid hes
      rw [htk] at hbd hzb ⊢
      clear htk hes
      generalize estOf 5 l = E at *
      generalize sumOf l = S at *
      generalize zerosOf l = Z at *
      rw [HL.out] at hbd hzb
      go_wp2_with fail
      refine (ref_bits_any HS.out).mono ?_
      rintro e w1 ⟨rfl, nq, rfl⟩
      obtain ⟨R, hR⟩ : ∃ R, 478974752849920 / (10000 * S) = R := ⟨_, rfl⟩
      have hRi : (478974752849920 : Int) / (10000 * (S : Int)) = (R : Int) := by
        rw [← hR, show (10000 * (S : Int)) = ((10000 * S : Nat) : Int) by omega, show (478974752849920 : Int) = ((478974752849920 : Nat) : Int) from rfl, ← Int.natCast_ediv]
      have HRI := Lib.hid hRi
      rw [hR] at HES
      clear hR
      by_cases hz : Z = 0
      · subst hz
        have hE := HES.out
        rw [if_pos (.inl rfl)] at hE
        subst hE
        go_wp2
        go_ret
        exact ⟨congrArg (fun n => Ending.returned (.int .u64 n)) HRI.out, nq, rfl⟩
      · have hz1 : ((Z : Int) == 0) = false := beq_eq_false_iff_ne.2 (by omega)
        by_cases hg : 80 < R
        · have hE := HES.out
          rw [if_pos (.inr hg)] at hE
          subst hE
          have hg2 : (80 : Int) < (E : Int) := by omega
          clear hg
          go_wp2
          go_ret
          exact ⟨congrArg (fun n => Ending.returned (.int .u64 n)) HRI.out, nq, rfl⟩
        · have hE := HES.out
          rw [if_neg (fun h => h.elim hz hg)] at hE
          have hg2 : ¬ (80 : Int) < (R : Int) := by omega
          have HEF := Lib.hid hE
          have hZM : Z ≤ 32 := by omega
          clear hg hz hE HES hzb
          go_wp2_with fail
          go_loop [9, 10] (fun s i => ∃ j : Nat, Z + j ≤ 32 ∧ i = .int .u64 ((Z : Int) + 1 + j) ∧ s = .int .u64 (fewSum 32 Z j : Nat)) (fun _ i => 33 - (intOf i).toNat)
          case atStart => exact ⟨0, by omega, by simp, rfl⟩
          case round =>
            obtain ⟨j, hj, rfl, rfl⟩ := hrel
            have hfb := fewSum_le 32 Z (by decide) j
            by_cases hlt : Z + j < 32
            · have hst : fewSum 32 Z (j + 1) = fewSum 32 Z j + 32 * 65536 / (Z + 1 + j) := rfl
              have hfe := few_eq 32 Z j (fewSum 32 Z j) (by decide) (by omega) (by omega)
              rw [show ((32 : Nat) : Int) * 65536 = 2097152 by decide] at hfe
              have HST := Lib.hid hst
              have HFE := Lib.hid hfe
              clear hst hfe
              generalize fewSum 32 Z j = F at *
              go_wp2
              refine ⟨⟨j + 1, by omega, ?_, ?_⟩, by simp [intOf]; omega⟩
              · exact congrArg (fun n => Value.int .u64 n) (by omega)
              · rw [HFE.out, HST.out]
            · have HJ := Lib.hid (show 32 - Z = j by omega)
              have HE := Lib.hid (show fewOf 32 Z = fewSum 32 Z j / 65536 by unfold fewOf; rw [HJ.out])
              generalize fewSum 32 Z j = F at *
              go_wp2
              go_ret
              exact ⟨congrArg (fun n => Ending.returned (.int .u64 n)) (by rw [HEF.out, HE.out]; omega), nq, rfl⟩
set_option maxRecDepth 100000 in
set_option maxHeartbeats 4000000 in
theorem ref_est_6 {P A : Nat} {l : List UInt8} {w : World} (hS : RSk P A 6 l w) (hL : Low l) :
    Calls Tryd.prog 21 #[.pointer (some ⟨P, 0, none⟩)] w (Drawn (.int .u64 (estOf 6 l : Nat)) w) := by
  have hpt : w.cell? ⟨P, 0, none⟩ = some (.slice (some ⟨A, 0, none⟩) 64 64) := hS.ptr
  have hlen : l.length = 64 := hS.len
  have HS := Lib.hid hS
  have HL := Lib.hid hlen
  have HLow := Lib.hid hL
  clear hS hlen hL
  go_enter Tryd.func21, Tryd.ntmps21
  go_wp2_with fail
  go_loop [4, 5, 6] (fun s z i => ∃ k : Nat, k ≤ 64 ∧ i = .int .i64 k ∧ s = .int .u64 (sumOf (l.take k) : Nat) ∧ z = .int .u64 (zerosOf (l.take k) : Nat)) (fun _ _ i => 64 - (intOf i).toNat)
  case atStart => exact ⟨0, Nat.zero_le _, rfl, rfl, rfl⟩
  case round =>
    obtain ⟨k, hk, rfl, rfl, rfl⟩ := hrel
    have hbd := sumOf_le (l.take k)
    have hzb := zerosOf_le (l.take k)
    rw [List.length_take] at hbd hzb
    by_cases hlt : k < 64
    · have hkl : k < l.length := by rw [HL.out]; exact hlt
      have hx := HS.out.cell k hkl
      have hlow := HLow.out l[k] (List.getElem_mem _)
      have HST := Lib.hid (sumOf_take k hkl)
      have HZT := Lib.hid (zerosOf_take k hkl)
      obtain ⟨x, hxe⟩ : ∃ x : Nat, l[k].toNat = x := ⟨_, rfl⟩
      rw [hxe] at hx hlow
      have HX := Lib.hid hxe
      clear hxe
      generalize sumOf (l.take k) = S at *
      generalize zerosOf (l.take k) = Z at *
      have hsum := sum_eq S x (by omega)
      have HSUM := Lib.hid hsum
      clear hsum
      by_cases hx0 : x = 0
      · subst hx0
        go_wp2
        refine ⟨⟨k + 1, by omega, by go_num, ?_, ?_⟩, by simp [intOf]; omega⟩
        · first | rw [HSUM.out, HST.out, HX.out] | (rw [HST.out, HX.out]; go_num)
        · rw [HZT.out, if_pos HX.out]; go_num
      · have hx1 : ((x : Int) == 0) = false := beq_eq_false_iff_ne.2 (by omega)
        go_wp2
        refine ⟨⟨k + 1, by omega, by go_num, ?_, ?_⟩, by simp [intOf]; omega⟩
        · rw [HSUM.out, HST.out, HX.out]
        · rw [HZT.out, if_neg (by rw [HX.out]; exact hx0)]; rfl
    · obtain rfl : k = 64 := by omega
      have htk : l.take 64 = l := List.take_of_length_le (by rw [HL.out]; exact Nat.le_refl _)
      have hge := sumOf_ge l
      rw [HL.out] at hge
      have hes : estOf 6 l = if zerosOf l = 0 ∨ 160 < 1948884360232960 / (10000 * sumOf l) then 1948884360232960 / (10000 * sumOf l) else fewOf 64 (zerosOf l) := rfl
      have HES := Lib.hid hes
      rw [htk] at hbd hzb ⊢
      clear htk hes
      generalize estOf 6 l = E at *
      generalize sumOf l = S at *
      generalize zerosOf l = Z at *
      rw [HL.out] at hbd hzb
      go_wp2_with fail
      refine (ref_bits_any HS.out).mono ?_
      rintro e w1 ⟨rfl, nq, rfl⟩
      obtain ⟨R, hR⟩ : ∃ R, 1948884360232960 / (10000 * S) = R := ⟨_, rfl⟩
      have hRi : (1948884360232960 : Int) / (10000 * (S : Int)) = (R : Int) := by
        rw [← hR, show (10000 * (S : Int)) = ((10000 * S : Nat) : Int) by omega, show (1948884360232960 : Int) = ((1948884360232960 : Nat) : Int) from rfl, ← Int.natCast_ediv]
      have HRI := Lib.hid hRi
      rw [hR] at HES
      clear hR
      by_cases hz : Z = 0
      · subst hz
        have hE := HES.out
        rw [if_pos (.inl rfl)] at hE
        subst hE
        go_wp2
        go_ret
        exact ⟨congrArg (fun n => Ending.returned (.int .u64 n)) HRI.out, nq, rfl⟩
      · have hz1 : ((Z : Int) == 0) = false := beq_eq_false_iff_ne.2 (by omega)
        by_cases hg : 160 < R
        · have hE := HES.out
          rw [if_pos (.inr hg)] at hE
          subst hE
          have hg2 : (160 : Int) < (E : Int) := by omega
          clear hg
          go_wp2
          go_ret
          exact ⟨congrArg (fun n => Ending.returned (.int .u64 n)) HRI.out, nq, rfl⟩
        · have hE := HES.out
          rw [if_neg (fun h => h.elim hz hg)] at hE
          have hg2 : ¬ (160 : Int) < (R : Int) := by omega
          have HEF := Lib.hid hE
          have hZM : Z ≤ 64 := by omega
          clear hg hz hE HES hzb
          go_wp2_with fail
          go_loop [9, 10] (fun s i => ∃ j : Nat, Z + j ≤ 64 ∧ i = .int .u64 ((Z : Int) + 1 + j) ∧ s = .int .u64 (fewSum 64 Z j : Nat)) (fun _ i => 65 - (intOf i).toNat)
          case atStart => exact ⟨0, by omega, by simp, rfl⟩
          case round =>
            obtain ⟨j, hj, rfl, rfl⟩ := hrel
            have hfb := fewSum_le 64 Z (by decide) j
            by_cases hlt : Z + j < 64
            · have hst : fewSum 64 Z (j + 1) = fewSum 64 Z j + 64 * 65536 / (Z + 1 + j) := rfl
              have hfe := few_eq 64 Z j (fewSum 64 Z j) (by decide) (by omega) (by omega)
              rw [show ((64 : Nat) : Int) * 65536 = 4194304 by decide] at hfe
              have HST := Lib.hid hst
              have HFE := Lib.hid hfe
              clear hst hfe
              generalize fewSum 64 Z j = F at *
              go_wp2
              refine ⟨⟨j + 1, by omega, ?_, ?_⟩, by simp [intOf]; omega⟩
              · exact congrArg (fun n => Value.int .u64 n) (by omega)
              · rw [HFE.out, HST.out]
            · have HJ := Lib.hid (show 64 - Z = j by omega)
              have HE := Lib.hid (show fewOf 64 Z = fewSum 64 Z j / 65536 by unfold fewOf; rw [HJ.out])
              generalize fewSum 64 Z j = F at *
              go_wp2
              go_ret
              exact ⟨congrArg (fun n => Ending.returned (.int .u64 n)) (by rw [HEF.out, HE.out]; omega), nq, rfl⟩
set_option maxRecDepth 100000 in
set_option maxHeartbeats 4000000 in
theorem ref_est_7 {P A : Nat} {l : List UInt8} {w : World} (hS : RSk P A 7 l w) (hL : Low l) :
    Calls Tryd.prog 21 #[.pointer (some ⟨P, 0, none⟩)] w (Drawn (.int .u64 (estOf 7 l : Nat)) w) := by
  have hpt : w.cell? ⟨P, 0, none⟩ = some (.slice (some ⟨A, 0, none⟩) 128 128) := hS.ptr
  have hlen : l.length = 128 := hS.len
  have HS := Lib.hid hS
  have HL := Lib.hid hlen
  have HLow := Lib.hid hL
  clear hS hlen hL
  go_enter Tryd.func21, Tryd.ntmps21
  go_wp2_with fail
  go_loop [4, 5, 6] (fun s z i => ∃ k : Nat, k ≤ 128 ∧ i = .int .i64 k ∧ s = .int .u64 (sumOf (l.take k) : Nat) ∧ z = .int .u64 (zerosOf (l.take k) : Nat)) (fun _ _ i => 128 - (intOf i).toNat)
  case atStart => exact ⟨0, Nat.zero_le _, rfl, rfl, rfl⟩
  case round =>
    obtain ⟨k, hk, rfl, rfl, rfl⟩ := hrel
    have hbd := sumOf_le (l.take k)
    have hzb := zerosOf_le (l.take k)
    rw [List.length_take] at hbd hzb
    by_cases hlt : k < 128
    · have hkl : k < l.length := by rw [HL.out]; exact hlt
      have hx := HS.out.cell k hkl
      have hlow := HLow.out l[k] (List.getElem_mem _)
      have HST := Lib.hid (sumOf_take k hkl)
      have HZT := Lib.hid (zerosOf_take k hkl)
      obtain ⟨x, hxe⟩ : ∃ x : Nat, l[k].toNat = x := ⟨_, rfl⟩
      rw [hxe] at hx hlow
      have HX := Lib.hid hxe
      clear hxe
      generalize sumOf (l.take k) = S at *
      generalize zerosOf (l.take k) = Z at *
      have hsum := sum_eq S x (by omega)
      have HSUM := Lib.hid hsum
      clear hsum
      by_cases hx0 : x = 0
      · subst hx0
        go_wp2
        refine ⟨⟨k + 1, by omega, by go_num, ?_, ?_⟩, by simp [intOf]; omega⟩
        · first | rw [HSUM.out, HST.out, HX.out] | (rw [HST.out, HX.out]; go_num)
        · rw [HZT.out, if_pos HX.out]; go_num
      · have hx1 : ((x : Int) == 0) = false := beq_eq_false_iff_ne.2 (by omega)
        go_wp2
        refine ⟨⟨k + 1, by omega, by go_num, ?_, ?_⟩, by simp [intOf]; omega⟩
        · rw [HSUM.out, HST.out, HX.out]
        · rw [HZT.out, if_neg (by rw [HX.out]; exact hx0)]; rfl
    · obtain rfl : k = 128 := by omega
      have htk : l.take 128 = l := List.take_of_length_le (by rw [HL.out]; exact Nat.le_refl _)
      have hge := sumOf_ge l
      rw [HL.out] at hge
      have hes : estOf 7 l = if zerosOf l = 0 ∨ 320 < 7863707161853952 / (10000 * sumOf l) then 7863707161853952 / (10000 * sumOf l) else fewOf 128 (zerosOf l) := rfl
      have HES := Lib.hid hes
      rw [htk] at hbd hzb ⊢
      clear htk hes
      generalize estOf 7 l = E at *
      generalize sumOf l = S at *
      generalize zerosOf l = Z at *
      rw [HL.out] at hbd hzb
      go_wp2_with fail
      refine (ref_bits_any HS.out).mono ?_
      rintro e w1 ⟨rfl, nq, rfl⟩
      obtain ⟨R, hR⟩ : ∃ R, 7863707161853952 / (10000 * S) = R := ⟨_, rfl⟩
      have hRi : (7863707161853952 : Int) / (10000 * (S : Int)) = (R : Int) := by
        rw [← hR, show (10000 * (S : Int)) = ((10000 * S : Nat) : Int) by omega, show (7863707161853952 : Int) = ((7863707161853952 : Nat) : Int) from rfl, ← Int.natCast_ediv]
      have HRI := Lib.hid hRi
      rw [hR] at HES
      clear hR
      by_cases hz : Z = 0
      · subst hz
        have hE := HES.out
        rw [if_pos (.inl rfl)] at hE
        subst hE
        go_wp2
        go_ret
        exact ⟨congrArg (fun n => Ending.returned (.int .u64 n)) HRI.out, nq, rfl⟩
      · have hz1 : ((Z : Int) == 0) = false := beq_eq_false_iff_ne.2 (by omega)
        by_cases hg : 320 < R
        · have hE := HES.out
          rw [if_pos (.inr hg)] at hE
          subst hE
          have hg2 : (320 : Int) < (E : Int) := by omega
          clear hg
          go_wp2
          go_ret
          exact ⟨congrArg (fun n => Ending.returned (.int .u64 n)) HRI.out, nq, rfl⟩
        · have hE := HES.out
          rw [if_neg (fun h => h.elim hz hg)] at hE
          have hg2 : ¬ (320 : Int) < (R : Int) := by omega
          have HEF := Lib.hid hE
          have hZM : Z ≤ 128 := by omega
          clear hg hz hE HES hzb
          go_wp2_with fail
          go_loop [9, 10] (fun s i => ∃ j : Nat, Z + j ≤ 128 ∧ i = .int .u64 ((Z : Int) + 1 + j) ∧ s = .int .u64 (fewSum 128 Z j : Nat)) (fun _ i => 129 - (intOf i).toNat)
          case atStart => exact ⟨0, by omega, by simp, rfl⟩
          case round =>
            obtain ⟨j, hj, rfl, rfl⟩ := hrel
            have hfb := fewSum_le 128 Z (by decide) j
            by_cases hlt : Z + j < 128
            · have hst : fewSum 128 Z (j + 1) = fewSum 128 Z j + 128 * 65536 / (Z + 1 + j) := rfl
              have hfe := few_eq 128 Z j (fewSum 128 Z j) (by decide) (by omega) (by omega)
              rw [show ((128 : Nat) : Int) * 65536 = 8388608 by decide] at hfe
              have HST := Lib.hid hst
              have HFE := Lib.hid hfe
              clear hst hfe
              generalize fewSum 128 Z j = F at *
              go_wp2
              refine ⟨⟨j + 1, by omega, ?_, ?_⟩, by simp [intOf]; omega⟩
              · exact congrArg (fun n => Value.int .u64 n) (by omega)
              · rw [HFE.out, HST.out]
            · have HJ := Lib.hid (show 128 - Z = j by omega)
              have HE := Lib.hid (show fewOf 128 Z = fewSum 128 Z j / 65536 by unfold fewOf; rw [HJ.out])
              generalize fewSum 128 Z j = F at *
              go_wp2
              go_ret
              exact ⟨congrArg (fun n => Ending.returned (.int .u64 n)) (by rw [HEF.out, HE.out]; omega), nq, rfl⟩
end Go.Proofs.YtdcjfefnkjdchaaDoor
