/- The chapter's own estimate. -/
import Derived.Test.YtdcjfefnkjdchaaDoorHRefE
namespace Go.Proofs.YtdcjfefnkjdchaaDoor
open Go Go.RowKit

set_option maxRecDepth 100000 in
set_option maxHeartbeats 4000000 in
theorem ref_est_8 {P A : Nat} {l : List UInt8} {w : World} (hS : RSk P A 8 l w) (hL : Low l) :
    Calls Tryd.prog 21 #[.pointer (some ⟨P, 0, none⟩)] w (Drawn (.int .u64 (estOf 8 l : Nat)) w) := by
  have hpt : w.cell? ⟨P, 0, none⟩ = some (.slice (some ⟨A, 0, none⟩) 256 256) := hS.ptr
  have hlen : l.length = 256 := hS.len
  have HS := Lib.hid hS
  have HL := Lib.hid hlen
  have HLow := Lib.hid hL
  clear hS hlen hL
  go_enter Tryd.func21, Tryd.ntmps21
  go_wp2_with fail
  go_loop [4, 5, 6] (fun s z i => ∃ k : Nat, k ≤ 256 ∧ i = .int .i64 k ∧ s = .int .u64 (sumOf (l.take k) : Nat) ∧ z = .int .u64 (zerosOf (l.take k) : Nat)) (fun _ _ i => 256 - (intOf i).toNat)
  case atStart => exact ⟨0, Nat.zero_le _, rfl, rfl, rfl⟩
  case round =>
    obtain ⟨k, hk, rfl, rfl, rfl⟩ := hrel
    have hbd := sumOf_le (l.take k)
    have hzb := zerosOf_le (l.take k)
    rw [List.length_take] at hbd hzb
    by_cases hlt : k < 256
    · have hkl : k < l.length := by rw [HL.out]; exact hlt
      have hx := HS.out.cell k hkl
      have hlow := HLow.out l[k] (List.getElem_mem _)
      have HST := Lib.hid (sumOf_take k hkl)
      have HZT := Lib.hid (zerosOf_take k hkl)
      obtain ⟨x, hxe⟩ : ∃ x : Nat, l[k].toNat = x := ⟨_, rfl⟩
      rw [hxe] at hx hlow
      have HX := Lib.hid hxe
      clear hxe
      generalize sumOf (l.take k) = S at *
      generalize zerosOf (l.take k) = Z at *
      have hsum := sum_eq S x (by omega)
      have HSUM := Lib.hid hsum
      clear hsum
      by_cases hx0 : x = 0
      · subst hx0
        go_wp2
        refine ⟨⟨k + 1, by omega, by go_num, ?_, ?_⟩, by simp [intOf]; omega⟩
        · first | rw [HSUM.out, HST.out, HX.out] | (rw [HST.out, HX.out]; go_num)
        · rw [HZT.out, if_pos HX.out]; go_num
      · have hx1 : ((x : Int) == 0) = false := beq_eq_false_iff_ne.2 (by omega)
        go_wp2
        refine ⟨⟨k + 1, by omega, by go_num, ?_, ?_⟩, by simp [intOf]; omega⟩
        · rw [HSUM.out, HST.out, HX.out]
        · rw [HZT.out, if_neg (by rw [HX.out]; exact hx0)]; rfl
    · obtain rfl : k = 256 := by omega
      have htk : l.take 256 = l := List.take_of_length_le (by rw [HL.out]; exact Nat.le_refl _)
      have hge := sumOf_ge l
      rw [HL.out] at hge
      have hes : estOf 8 l = if zerosOf l = 0 ∨ 640 < 31586770042748928 / (10000 * sumOf l) then 31586770042748928 / (10000 * sumOf l) else fewOf 256 (zerosOf l) := rfl
      have HES := Lib.hid hes
      rw [htk] at hbd hzb ⊢
      clear htk hes
      generalize estOf 8 l = E at *
      generalize sumOf l = S at *
      generalize zerosOf l = Z at *
      rw [HL.out] at hbd hzb
      go_wp2_with fail
      refine (ref_bits_any HS.out).mono ?_
      rintro e w1 ⟨rfl, nq, rfl⟩
      obtain ⟨R, hR⟩ : ∃ R, 31586770042748928 / (10000 * S) = R := ⟨_, rfl⟩
      have hRi : (31586770042748928 : Int) / (10000 * (S : Int)) = (R : Int) := by
        rw [← hR, show (10000 * (S : Int)) = ((10000 * S : Nat) : Int) by omega, show (31586770042748928 : Int) = ((31586770042748928 : Nat) : Int) from rfl, ← Int.natCast_ediv]
      have HRI := Lib.hid hRi
      rw [hR] at HES
      clear hR
      by_cases hz : Z = 0
      · subst hz
        have hE := HES.out
        rw [if_pos (.inl rfl)] at hE
        subst hE
        go_wp2
        go_ret
        exact ⟨congrArg (fun n => Ending.returned (.int .u64 n)) HRI.out, nq, rfl⟩
      · have hz1 : ((Z : Int) == 0) = false := beq_eq_false_iff_ne.2 (by omega)
        by_cases hg : 640 < R
        · have hE := HES.out
          rw [if_pos (.inr hg)] at hE
          subst hE
          have hg2 : (640 : Int) < (E : Int) := by omega
          clear hg
          go_wp2
          go_ret
          exact ⟨congrArg (fun n => Ending.returned (.int .u64 n)) HRI.out, nq, rfl⟩
        · have hE := HES.out
          rw [if_neg (fun h => h.elim hz hg)] at hE
          have hg2 : ¬ (640 : Int) < (R : Int) := by omega
          have HEF := Lib.hid hE
          have hZM : Z ≤ 256 := by omega
          clear hg hz hE HES hzb
          go_wp2_with fail
          go_loop [9, 10] (fun s i => ∃ j : Nat, Z + j ≤ 256 ∧ i = .int .u64 ((Z : Int) + 1 + j) ∧ s = .int .u64 (fewSum 256 Z j : Nat)) (fun _ i => 257 - (intOf i).toNat)
          case atStart => exact ⟨0, by omega, by simp, rfl⟩
          case round =>
            obtain ⟨j, hj, rfl, rfl⟩ := hrel
            have hfb := fewSum_le 256 Z (by decide) j
            by_cases hlt : Z + j < 256
            · have hst : fewSum 256 Z (j + 1) = fewSum 256 Z j + 256 * 65536 / (Z + 1 + j) := rfl
              have hfe := few_eq 256 Z j (fewSum 256 Z j) (by decide) (by omega) (by omega)
              rw [show ((256 : Nat) : Int) * 65536 = 16777216 by decide] at hfe
              have HST := Lib.hid hst
              have HFE := Lib.hid hfe
              clear hst hfe
              generalize fewSum 256 Z j = F at *
              go_wp2
              refine ⟨⟨j + 1, by omega, ?_, ?_⟩, by simp [intOf]; omega⟩
              · exact congrArg (fun n => Value.int .u64 n) (by omega)
              · rw [HFE.out, HST.out]
            · have HJ := Lib.hid (show 256 - Z = j by omega)
              have HE := Lib.hid (show fewOf 256 Z = fewSum 256 Z j / 65536 by unfold fewOf; rw [HJ.out])
              generalize fewSum 256 Z j = F at *
              go_wp2
              go_ret
              exact ⟨congrArg (fun n => Ending.returned (.int .u64 n)) (by rw [HEF.out, HE.out]; omega), nq, rfl⟩
set_option maxRecDepth 100000 in
set_option maxHeartbeats 4000000 in
theorem ref_est_9 {P A : Nat} {l : List UInt8} {w : World} (hS : RSk P A 9 l w) (hL : Low l) :
    Calls Tryd.prog 21 #[.pointer (some ⟨P, 0, none⟩)] w (Drawn (.int .u64 (estOf 9 l : Nat)) w) := by
  have hpt : w.cell? ⟨P, 0, none⟩ = some (.slice (some ⟨A, 0, none⟩) 512 512) := hS.ptr
  have hlen : l.length = 512 := hS.len
  have HS := Lib.hid hS
  have HL := Lib.hid hlen
  have HLow := Lib.hid hL
  clear hS hlen hL
  go_enter Tryd.func21, Tryd.ntmps21
  go_wp2_with fail
  go_loop [4, 5, 6] (fun s z i => ∃ k : Nat, k ≤ 512 ∧ i = .int .i64 k ∧ s = .int .u64 (sumOf (l.take k) : Nat) ∧ z = .int .u64 (zerosOf (l.take k) : Nat)) (fun _ _ i => 512 - (intOf i).toNat)
  case atStart => exact ⟨0, Nat.zero_le _, rfl, rfl, rfl⟩
  case round =>
    obtain ⟨k, hk, rfl, rfl, rfl⟩ := hrel
    have hbd := sumOf_le (l.take k)
    have hzb := zerosOf_le (l.take k)
    rw [List.length_take] at hbd hzb
    by_cases hlt : k < 512
    · have hkl : k < l.length := by rw [HL.out]; exact hlt
      have hx := HS.out.cell k hkl
      have hlow := HLow.out l[k] (List.getElem_mem _)
      have HST := Lib.hid (sumOf_take k hkl)
      have HZT := Lib.hid (zerosOf_take k hkl)
      obtain ⟨x, hxe⟩ : ∃ x : Nat, l[k].toNat = x := ⟨_, rfl⟩
      rw [hxe] at hx hlow
      have HX := Lib.hid hxe
      clear hxe
      generalize sumOf (l.take k) = S at *
      generalize zerosOf (l.take k) = Z at *
      have hsum := sum_eq S x (by omega)
      have HSUM := Lib.hid hsum
      clear hsum
      by_cases hx0 : x = 0
      · subst hx0
        go_wp2
        refine ⟨⟨k + 1, by omega, by go_num, ?_, ?_⟩, by simp [intOf]; omega⟩
        · first | rw [HSUM.out, HST.out, HX.out] | (rw [HST.out, HX.out]; go_num)
        · rw [HZT.out, if_pos HX.out]; go_num
      · have hx1 : ((x : Int) == 0) = false := beq_eq_false_iff_ne.2 (by omega)
        go_wp2
        refine ⟨⟨k + 1, by omega, by go_num, ?_, ?_⟩, by simp [intOf]; omega⟩
        · rw [HSUM.out, HST.out, HX.out]
        · rw [HZT.out, if_neg (by rw [HX.out]; exact hx0)]; rfl
    · obtain rfl : k = 512 := by omega
      have htk : l.take 512 = l := List.take_of_length_le (by rw [HL.out]; exact Nat.le_refl _)
      have hge := sumOf_ge l
      rw [HL.out] at hge
      have hes : estOf 9 l = if zerosOf l = 0 ∨ 1280 < 126610962961661952 / (10000 * sumOf l) then 126610962961661952 / (10000 * sumOf l) else fewOf 512 (zerosOf l) := rfl
      have HES := Lib.hid hes
      rw [htk] at hbd hzb ⊢
      clear htk hes
      generalize estOf 9 l = E at *
      generalize sumOf l = S at *
      generalize zerosOf l = Z at *
      rw [HL.out] at hbd hzb
      go_wp2_with fail
      refine (ref_bits_any HS.out).mono ?_
      rintro e w1 ⟨rfl, nq, rfl⟩
      obtain ⟨R, hR⟩ : ∃ R, 126610962961661952 / (10000 * S) = R := ⟨_, rfl⟩
      have hRi : (126610962961661952 : Int) / (10000 * (S : Int)) = (R : Int) := by
        rw [← hR, show (10000 * (S : Int)) = ((10000 * S : Nat) : Int) by omega, show (126610962961661952 : Int) = ((126610962961661952 : Nat) : Int) from rfl, ← Int.natCast_ediv]
      have HRI := Lib.hid hRi
      rw [hR] at HES
      clear hR
      by_cases hz : Z = 0
      · subst hz
        have hE := HES.out
        rw [if_pos (.inl rfl)] at hE
        subst hE
        go_wp2
        go_ret
        exact ⟨congrArg (fun n => Ending.returned (.int .u64 n)) HRI.out, nq, rfl⟩
      · have hz1 : ((Z : Int) == 0) = false := beq_eq_false_iff_ne.2 (by omega)
        by_cases hg : 1280 < R
        · have hE := HES.out
          rw [if_pos (.inr hg)] at hE
          subst hE
          have hg2 : (1280 : Int) < (E : Int) := by omega
          clear hg
          go_wp2
          go_ret
          exact ⟨congrArg (fun n => Ending.returned (.int .u64 n)) HRI.out, nq, rfl⟩
        · have hE := HES.out
          rw [if_neg (fun h => h.elim hz hg)] at hE
          have hg2 : ¬ (1280 : Int) < (R : Int) := by omega
          have HEF := Lib.hid hE
          have hZM : Z ≤ 512 := by omega
          clear hg hz hE HES hzb
          go_wp2_with fail
          go_loop [9, 10] (fun s i => ∃ j : Nat, Z + j ≤ 512 ∧ i = .int .u64 ((Z : Int) + 1 + j) ∧ s = .int .u64 (fewSum 512 Z j : Nat)) (fun _ i => 513 - (intOf i).toNat)
          case atStart => exact ⟨0, by omega, by simp, rfl⟩
          case round =>
            obtain ⟨j, hj, rfl, rfl⟩ := hrel
            have hfb := fewSum_le 512 Z (by decide) j
            by_cases hlt : Z + j < 512
            · have hst : fewSum 512 Z (j + 1) = fewSum 512 Z j + 512 * 65536 / (Z + 1 + j) := rfl
              have hfe := few_eq 512 Z j (fewSum 512 Z j) (by decide) (by omega) (by omega)
              rw [show ((512 : Nat) : Int) * 65536 = 33554432 by decide] at hfe
              have HST := Lib.hid hst
              have HFE := Lib.hid hfe
              clear hst hfe
              generalize fewSum 512 Z j = F at *
              go_wp2
              refine ⟨⟨j + 1, by omega, ?_, ?_⟩, by simp [intOf]; omega⟩
              · exact congrArg (fun n => Value.int .u64 n) (by omega)
              · rw [HFE.out, HST.out]
            · have HJ := Lib.hid (show 512 - Z = j by omega)
              have HE := Lib.hid (show fewOf 512 Z = fewSum 512 Z j / 65536 by unfold fewOf; rw [HJ.out])
              generalize fewSum 512 Z j = F at *
              go_wp2
              go_ret
              exact ⟨congrArg (fun n => Ending.returned (.int .u64 n)) (by rw [HEF.out, HE.out]; omega), nq, rfl⟩
set_option maxRecDepth 100000 in
set_option maxHeartbeats 4000000 in
theorem ref_est_10 {P A : Nat} {l : List UInt8} {w : World} (hS : RSk P A 10 l w) (hL : Low l) :
    Calls Tryd.prog 21 #[.pointer (some ⟨P, 0, none⟩)] w (Drawn (.int .u64 (estOf 10 l : Nat)) w) := by
  have hpt : w.cell? ⟨P, 0, none⟩ = some (.slice (some ⟨A, 0, none⟩) 1024 1024) := hS.ptr
  have hlen : l.length = 1024 := hS.len
  have HS := Lib.hid hS
  have HL := Lib.hid hlen
  have HLow := Lib.hid hL
  clear hS hlen hL
  go_enter Tryd.func21, Tryd.ntmps21
  go_wp2_with fail
  go_loop [4, 5, 6] (fun s z i => ∃ k : Nat, k ≤ 1024 ∧ i = .int .i64 k ∧ s = .int .u64 (sumOf (l.take k) : Nat) ∧ z = .int .u64 (zerosOf (l.take k) : Nat)) (fun _ _ i => 1024 - (intOf i).toNat)
  case atStart => exact ⟨0, Nat.zero_le _, rfl, rfl, rfl⟩
  case round =>
    obtain ⟨k, hk, rfl, rfl, rfl⟩ := hrel
    have hbd := sumOf_le (l.take k)
    have hzb := zerosOf_le (l.take k)
    rw [List.length_take] at hbd hzb
    by_cases hlt : k < 1024
    · have hkl : k < l.length := by rw [HL.out]; exact hlt
      have hx := HS.out.cell k hkl
      have hlow := HLow.out l[k] (List.getElem_mem _)
      have HST := Lib.hid (sumOf_take k hkl)
      have HZT := Lib.hid (zerosOf_take k hkl)
      obtain ⟨x, hxe⟩ : ∃ x : Nat, l[k].toNat = x := ⟨_, rfl⟩
      rw [hxe] at hx hlow
      have HX := Lib.hid hxe
      clear hxe
      generalize sumOf (l.take k) = S at *
      generalize zerosOf (l.take k) = Z at *
      have hsum := sum_eq S x (by omega)
      have HSUM := Lib.hid hsum
      clear hsum
      by_cases hx0 : x = 0
      · subst hx0
        go_wp2
        refine ⟨⟨k + 1, by omega, by go_num, ?_, ?_⟩, by simp [intOf]; omega⟩
        · first | rw [HSUM.out, HST.out, HX.out] | (rw [HST.out, HX.out]; go_num)
        · rw [HZT.out, if_pos HX.out]; go_num
      · have hx1 : ((x : Int) == 0) = false := beq_eq_false_iff_ne.2 (by omega)
        go_wp2
        refine ⟨⟨k + 1, by omega, by go_num, ?_, ?_⟩, by simp [intOf]; omega⟩
        · rw [HSUM.out, HST.out, HX.out]
        · rw [HZT.out, if_neg (by rw [HX.out]; exact hx0)]; rfl
    · obtain rfl : k = 1024 := by omega
      have htk : l.take 1024 = l := List.take_of_length_le (by rw [HL.out]; exact Nat.le_refl _)
      have hge := sumOf_ge l
      rw [HL.out] at hge
      have hes : estOf 10 l = if zerosOf l = 0 ∨ 2560 < 507006801800069120 / (10000 * sumOf l) then 507006801800069120 / (10000 * sumOf l) else fewOf 1024 (zerosOf l) := rfl
      have HES := Lib.hid hes
      rw [htk] at hbd hzb ⊢
      clear htk hes
      generalize estOf 10 l = E at *
      generalize sumOf l = S at *
      generalize zerosOf l = Z at *
      rw [HL.out] at hbd hzb
      go_wp2_with fail
      refine (ref_bits_any HS.out).mono ?_
      rintro e w1 ⟨rfl, nq, rfl⟩
      obtain ⟨R, hR⟩ : ∃ R, 507006801800069120 / (10000 * S) = R := ⟨_, rfl⟩
      have hRi : (507006801800069120 : Int) / (10000 * (S : Int)) = (R : Int) := by
        rw [← hR, show (10000 * (S : Int)) = ((10000 * S : Nat) : Int) by omega, show (507006801800069120 : Int) = ((507006801800069120 : Nat) : Int) from rfl, ← Int.natCast_ediv]
      have HRI := Lib.hid hRi
      rw [hR] at HES
      clear hR
      by_cases hz : Z = 0
      · subst hz
        have hE := HES.out
        rw [if_pos (.inl rfl)] at hE
        subst hE
        go_wp2
        go_ret
        exact ⟨congrArg (fun n => Ending.returned (.int .u64 n)) HRI.out, nq, rfl⟩
      · have hz1 : ((Z : Int) == 0) = false := beq_eq_false_iff_ne.2 (by omega)
        by_cases hg : 2560 < R
        · have hE := HES.out
          rw [if_pos (.inr hg)] at hE
          subst hE
          have hg2 : (2560 : Int) < (E : Int) := by omega
          clear hg
          go_wp2
          go_ret
          exact ⟨congrArg (fun n => Ending.returned (.int .u64 n)) HRI.out, nq, rfl⟩
        · have hE := HES.out
          rw [if_neg (fun h => h.elim hz hg)] at hE
          have hg2 : ¬ (2560 : Int) < (R : Int) := by omega
          have HEF := Lib.hid hE
          have hZM : Z ≤ 1024 := by omega
          clear hg hz hE HES hzb
          go_wp2_with fail
          go_loop [9, 10] (fun s i => ∃ j : Nat, Z + j ≤ 1024 ∧ i = .int .u64 ((Z : Int) + 1 + j) ∧ s = .int .u64 (fewSum 1024 Z j : Nat)) (fun _ i => 1025 - (intOf i).toNat)
          case atStart => exact ⟨0, by omega, by simp, rfl⟩
          case round =>
            obtain ⟨j, hj, rfl, rfl⟩ := hrel
            have hfb := fewSum_le 1024 Z (by decide) j
            by_cases hlt : Z + j < 1024
            · have hst : fewSum 1024 Z (j + 1) = fewSum 1024 Z j + 1024 * 65536 / (Z + 1 + j) := rfl
              have hfe := few_eq 1024 Z j (fewSum 1024 Z j) (by decide) (by omega) (by omega)
              rw [show ((1024 : Nat) : Int) * 65536 = 67108864 by decide] at hfe
              have HST := Lib.hid hst
              have HFE := Lib.hid hfe
              clear hst hfe
              generalize fewSum 1024 Z j = F at *
              go_wp2
              refine ⟨⟨j + 1, by omega, ?_, ?_⟩, by simp [intOf]; omega⟩
              · exact congrArg (fun n => Value.int .u64 n) (by omega)
              · rw [HFE.out, HST.out]
            · have HJ := Lib.hid (show 1024 - Z = j by omega)
              have HE := Lib.hid (show fewOf 1024 Z = fewSum 1024 Z j / 65536 by unfold fewOf; rw [HJ.out])
              generalize fewSum 1024 Z j = F at *
              go_wp2
              go_ret
              exact ⟨congrArg (fun n => Ending.returned (.int .u64 n)) (by rw [HEF.out, HE.out]; omega), nq, rfl⟩
/-- The chapter's own estimate. -/
theorem ref_est_any {P A b : Nat} {l : List UInt8} {w : World} (hS : RSk P A b l w) (hL : Low l) :
    Calls Tryd.prog 21 #[.pointer (some ⟨P, 0, none⟩)] w (Drawn (.int .u64 (estOf b l : Nat)) w) := by
  have lo := hS.lo
  have hi := hS.hi
  have : b = 4 ∨ b = 5 ∨ b = 6 ∨ b = 7 ∨ b = 8 ∨ b = 9 ∨ b = 10 := by omega
  rcases this with rfl | rfl | rfl | rfl | rfl | rfl | rfl
  · exact ref_est_4 hS hL
  · exact ref_est_5 hS hL
  · exact ref_est_6 hS hL
  · exact ref_est_7 hS hL
  · exact ref_est_8 hS hL
  · exact ref_est_9 hS hL
  · exact ref_est_10 hS hL
end Go.Proofs.YtdcjfefnkjdchaaDoor
