/- TopLimits, walked. -/
import Derived.Test.YtnkcobmccfcanaaTMake
namespace Go.Proofs.Ytnkcobmccfcanaa
open Go Go.RowKit

theorem Added.on {base B room : Nat} {v : Value} {l l' : List Itm} {code : Int} {w W w' : World} {e : Ending} (h : Added base B room v l' code W e w') (hT : Tp base B room v l W) (hB : Below base w W) : e = .returned (.int .i64 code) ∧ ∃ v', Tp base B room v' l' w' ∧ Below base w w' := by
  obtain ⟨he, v', h1, _, h2, _⟩ := h.below ⟨l, hT⟩
  exact ⟨he, v', h1, hB.trans h2⟩
def eX : ByteArray := ⟨#[120]⟩
def eY : ByteArray := ⟨#[121]⟩
theorem add_first {room : Nat} {name : ByteArray} {b : Nat} (h0 : 1 ≤ room) (h1 : name.size ≤ 64) (h2 : 0 < b) (h3 : b ≤ 4611686018427387904) : addS room name b [] = [⟨name, b, 0⟩] := by
  rw [addS_ok h1 h2 (by simp [seen]; omega), addL_room (plc_no (fun j hj => by simp at hj)) (by simp; omega)]
  rfl
theorem addC_first {name : ByteArray} {b : Nat} (h1 : name.size ≤ 64) (h2 : 0 < b) (h3 : b ≤ 4611686018427387904) : addC name b [] = 0 := addC_ok h1 h2 (by simp [seen]; omega)
theorem addC_zero (name : ByteArray) (l : List Itm) : addC name 0 l = 1 := by unfold addC; rw [if_pos (.inr rfl)]
theorem addS_zero (room : Nat) (name : ByteArray) (l : List Itm) : addS room name 0 l = l := by unfold addS; rw [addC_zero, if_neg (by decide)]
theorem least_nil (room : Nat) (h : 1 ≤ room) : leastL room [] = 0 := by unfold leastL; rw [if_pos (by simp; omega)]
set_option maxRecDepth 100000 in
set_option maxHeartbeats 16000000 in
theorem limits_long (a : Nat) (ha : a < 256) (n : Nat) (hn : n < 18446744073709551616) (z : Nat) (hz : z < 256) (hl : 64 < z % 71) (w : World) :
    Calls Try.prog 7 #[.int .u8 a, .int .u64 n, .int .u8 z] w fun e w' => e = .returned (.bool true) ∧ Below w.heap.size w w' := by
  obtain ⟨N, hN⟩ : ∃ N, w.heap.size = N := ⟨_, rfl⟩
  have HN := Lib.hid hN
  rw [hN]
  obtain ⟨k, hk⟩ : ∃ k, 1 + a % 16 = k := ⟨_, rfl⟩
  have hk1 : 1 ≤ k := by omega
  have hk2 : k ≤ 16 := by omega
  obtain ⟨b, hb⟩ : ∃ b, 1 + n % 4611686018427387904 = b := ⟨_, rfl⟩
  have hb1 : 1 ≤ b := by omega
  have hb2 : b ≤ 4611686018427387904 := by omega
  obtain ⟨s, hs⟩ : ∃ s, z % 71 = s := ⟨_, rfl⟩
  have hs2 : s < 71 := by omega
  have hki : (1 : Int) + (a : Int) % 16 = k := by omega
  have hbi : (1 : Int) + (n : Int) % 4611686018427387904 = b := by omega
  have hsi : (z : Int) % 71 = s := by omega
  obtain ⟨c, hc⟩ : ∃ c, 4611686018427387905 - b = c := ⟨_, rfl⟩
  have hci : (4611686018427387904 : Int) - (b : Int) + 1 = (c : Int) := by omega
  have hc1 : 1 ≤ c := by omega
  have hc2 : c ≤ 4611686018427387904 := by omega
  rw [hs] at hl
  clear hk hb hs hN ha hn hz hc
  have hnw := new_any k hk1 hk2
  go_enter Try.func7, Try.ntmps7
  go_wp2_with fail
  refine (examples_any _).mono ?_
  rintro e W1 ⟨rfl, hB⟩
  rw [HN.out] at hB
  go_wp2_with fail
  refine (hnw _).mono ?_
  rintro e W2 ⟨rfl, hB2, hT⟩
  have hT2 := hT.mono (Nat.le_trans (Nat.le_of_eq HN.out.symm) hB.size)
  replace hB := hB.trans (hB2.mono (Nat.le_trans (Nat.le_of_eq HN.out.symm) hB.size))
  generalize W1.heap.size = B at *
  clear hB2 hT hnw
  obtain ⟨W3, hmk, hBk, hA⟩ := make_u8 s (by omega) W2
  have hcv := bytes_back hA (n := s) (by rw [List.length_replicate]) s
  obtain ⟨nm, hnm⟩ : ∃ nm, tx (List.replicate s 0) = nm := ⟨_, rfl⟩
  rw [hnm] at hcv
  have hns : nm.size = s := by rw [← hnm, tx_size, List.length_replicate]
  have HT3 := Lib.hid (hT2.below hBk)
  replace hB := hB.trans (hBk.mono (Nat.le_trans (Nat.le_of_eq HN.out.symm) hB.size))
  clear hT2 hBk hA hnm
  generalize W2.heap.size = R at *
  have HNS := Lib.hid hns
  clear hns
  go_wp2_with fail
  refine (add_is HT3.out nm b (by rw [HNS.out]; unfold maxLen; omega) (by omega) (l' := []) (code := 1) (by unfold addS addC; rw [if_neg]; rw [if_pos (.inl (by rw [HNS.out]; exact hl))]; decide) (by unfold addC; rw [if_pos (.inl (by rw [HNS.out]; exact hl))])).mono ?_
  intro e W4 hA
  obtain ⟨rfl, v4, hT4, hB4⟩ := hA.on HT3.out hB
  clear hA hB hmk hcv
  have hnl : decide (64 < (nm.size : Int)) = true := by rw [HNS.out]; simp; omega
  go_wp2_with fail
  refine (add_is hT4 eX c (by decide) (by omega) (add_first hk1 (by decide) hc1 hc2) (addC_first (by decide) hc1 hc2)).mono ?_
  intro e W5 hA
  obtain ⟨rfl, v5, hT5, hB5⟩ := hA.on hT4 hB4
  clear hA hB4 hT4
  go_wp2_with fail
  refine (add_is hT5 eX 0 (by decide) (by decide) (addS_zero _ _ _) (addC_zero _ _)).mono ?_
  intro e W6 hA
  obtain ⟨rfl, v6, hT6, hB6⟩ := hA.on hT5 hB5
  clear hA hB5 hT5
  have hse := seen_walk hT6
  rw [show seen [⟨eX, c, 0⟩] = c by simp [seen]] at hse
  clear hT6
  go_wp2_with fail
  refine hse.mono ?_
  rintro e W7 ⟨rfl, hB2⟩
  replace hB6 := hB6.trans (hB2.mono (Nat.le_trans (Nat.le_of_eq HN.out.symm) hB6.size))
  clear hse hB2
  go_wp2
  go_ret
  exact ⟨rfl, hB6⟩
set_option maxRecDepth 100000 in
set_option maxHeartbeats 16000000 in
theorem limits_short (a : Nat) (ha : a < 256) (n : Nat) (hn : n < 18446744073709551616) (z : Nat) (hz : z < 256) (hl : ¬ 64 < z % 71) (w : World) :
    Calls Try.prog 7 #[.int .u8 a, .int .u64 n, .int .u8 z] w fun e w' => e = .returned (.bool true) ∧ Below w.heap.size w w' := by
  obtain ⟨N, hN⟩ : ∃ N, w.heap.size = N := ⟨_, rfl⟩
  have HN := Lib.hid hN
  rw [hN]
  obtain ⟨k, hk⟩ : ∃ k, 1 + a % 16 = k := ⟨_, rfl⟩
  have hk1 : 1 ≤ k := by omega
  have hk2 : k ≤ 16 := by omega
  obtain ⟨b, hb⟩ : ∃ b, 1 + n % 4611686018427387904 = b := ⟨_, rfl⟩
  have hb1 : 1 ≤ b := by omega
  have hb2 : b ≤ 4611686018427387904 := by omega
  obtain ⟨s, hs⟩ : ∃ s, z % 71 = s := ⟨_, rfl⟩
  have hs2 : s < 71 := by omega
  have hki : (1 : Int) + (a : Int) % 16 = k := by omega
  have hbi : (1 : Int) + (n : Int) % 4611686018427387904 = b := by omega
  have hsi : (z : Int) % 71 = s := by omega
  obtain ⟨d, hd⟩ : ∃ d, 4611686018427387904 - b = d := ⟨_, rfl⟩
  have hdi : (4611686018427387904 : Int) - (b : Int) = (d : Int) := by omega
  have hd2 : d < 4611686018427387904 := by omega
  obtain ⟨c, hc⟩ : ∃ c, d + 1 = c := ⟨_, rfl⟩
  have hci : (d : Int) + 1 = (c : Int) := by omega
  have hc2 : c ≤ 4611686018427387904 := by omega
  have hcb : 4611686018427387904 < b + c := by omega
  rw [hs] at hl
  have HD := Lib.hid hd
  clear hk hb hs hN ha hn hz hd hc
  have hnw := new_any k hk1 hk2
  go_enter Try.func7, Try.ntmps7
  go_wp2_with fail
  refine (examples_any _).mono ?_
  rintro e W1 ⟨rfl, hB⟩
  rw [HN.out] at hB
  go_wp2_with fail
  refine (hnw _).mono ?_
  rintro e W2 ⟨rfl, hB2, hT⟩
  have hT2 := hT.mono (Nat.le_trans (Nat.le_of_eq HN.out.symm) hB.size)
  replace hB := hB.trans (hB2.mono (Nat.le_trans (Nat.le_of_eq HN.out.symm) hB.size))
  generalize W1.heap.size = B at *
  clear hB2 hT hnw
  obtain ⟨W3, hmk, hBk, hA⟩ := make_u8 s (by omega) W2
  have hcv := bytes_back hA (n := s) (by rw [List.length_replicate]) s
  obtain ⟨nm, hnm⟩ : ∃ nm, tx (List.replicate s 0) = nm := ⟨_, rfl⟩
  rw [hnm] at hcv
  have hns : nm.size = s := by rw [← hnm, tx_size, List.length_replicate]
  have HT3 := Lib.hid (hT2.below hBk)
  replace hB := hB.trans (hBk.mono (Nat.le_trans (Nat.le_of_eq HN.out.symm) hB.size))
  clear hT2 hBk hA hnm
  generalize W2.heap.size = R at *
  have HNS := Lib.hid hns
  clear hns
  go_wp2_with fail
  refine (add_is HT3.out nm b (by rw [HNS.out]; unfold maxLen; omega) (by omega) (add_first hk1 (by rw [HNS.out]; omega) hb1 hb2) (addC_first (by rw [HNS.out]; omega) hb1 hb2)).mono ?_
  intro e W4 hA
  obtain ⟨rfl, v4, hT4, hB4⟩ := hA.on HT3.out hB
  clear hA hB hmk hcv
  have hnl : decide (64 < (nm.size : Int)) = false := by rw [HNS.out]; simp; omega
  have hsn : seen [⟨nm, b, 0⟩] = b := by simp [seen]
  have hc7 : addC eX c [⟨nm, b, 0⟩] = 7 := by
    unfold addC
    rw [if_neg (by have : eX.size = 1 := rfl; omega), if_pos (by rw [hsn]; exact hcb)]
  have HC7 := Lib.hid hc7
  have HSN := Lib.hid hsn
  clear hc7 hsn
  go_wp2_with fail
  refine (add_is hT4 eX c (by decide) (by omega) (l' := [⟨nm, b, 0⟩]) (by unfold addS; rw [HC7.out]; rfl) HC7.out).mono ?_
  intro e W5 hA
  obtain ⟨rfl, v5, hT5, hB5⟩ := hA.on hT4 hB4
  clear hA hB4 hT4
  go_wp2_with fail
  refine (add_is hT5 eX 0 (by decide) (by decide) (addS_zero _ _ _) (addC_zero _ _)).mono ?_
  intro e W6 hA
  obtain ⟨rfl, v6, hT6, hB6⟩ := hA.on hT5 hB5
  clear hA hB5 hT5
  obtain ⟨y, hy⟩ : ∃ y, addC eY d [⟨nm, b, 0⟩] = y := ⟨_, rfl⟩
  have hyi : y = if d = 0 then 1 else 0 := by
    rw [← hy]
    by_cases h0 : d = 0
    · rw [if_pos h0, h0, addC_zero]
    · rw [if_neg h0]
      exact addC_ok (by decide) (by omega) (by rw [HSN.out]; have := HD.out; omega)
  have HY := Lib.hid hy
  have HYI := Lib.hid hyi
  clear hy hyi
  go_wp2_with fail
  refine (add_is hT6 eY d (by decide) (by omega) rfl HY.out).mono ?_
  intro e W7 hA
  obtain ⟨rfl, v7, hT7, hB7⟩ := hA.on hT6 hB6
  clear hA hB6 hT6
  have HT7 := Lib.hid hT7
  have hcl := clear_any hT7
  clear hT7
  go_wp2_with fail
  refine hcl.mono ?_
  rintro e W8 ⟨rfl, hM8, hT8⟩
  replace hB7 := hB7.trans (hM8.below (fun i hi => hi.elim (fun e => e ▸ HT7.out.lo) (fun e => (HT7.out.row.lt e).1)) (Nat.le_trans (Nat.le_of_eq HN.out.symm) hB7.size))
  clear hcl hM8
  have HT8 := Lib.hid hT8
  clear hT8
  have hse := seen_walk HT8.out
  rw [seen_nil] at hse
  by_cases hd0 : d = 0
  all_goals
    have hyi := HYI.out
    first | rw [if_pos hd0] at hyi | rw [if_neg hd0] at hyi
    subst hyi
    have hdz : (d : Int) = 0 ∨ ((d : Int) == 0) = false := by
      by_cases h : d = 0
      · exact .inl (by omega)
      · exact .inr (by simp; omega)
    rcases hdz with hdz | hdz
    all_goals first | (exfalso; first | omega | (simp at hdz; omega)) | skip
    clear hd0
    go_wp2_with fail
    refine hse.mono ?_
    rintro e W9 ⟨rfl, hB2⟩
    have HT9 := Lib.hid (HT8.out.below hB2)
    have hB9 := hB7.trans (hB2.mono (Nat.le_trans (Nat.le_of_eq HN.out.symm) hB7.size))
    clear hB2
    go_wp2_with fail
    refine (items_any HT9.out).mono ?_
    rintro e W10 ⟨v10, t, rfl, hI, hp, _, hB2⟩
    obtain rfl : t = [] := hp.eq_nil
    obtain ⟨p, cap, rfl, _, _⟩ := hI.cap
    have HT10 := Lib.hid (HT9.out.below hB2)
    have hB10 := hB9.trans (hB2.mono (Nat.le_trans (Nat.le_of_eq HN.out.symm) hB9.size))
    clear hB2 hI hp
    have hle := least_any HT10.out
    rw [least_nil k hk1] at hle
    go_wp2_with fail
    refine hle.mono ?_
    rintro e W11 ⟨rfl, hB2⟩
    have hB11 := hB10.trans (hB2.mono (Nat.le_trans (Nat.le_of_eq HN.out.symm) hB10.size))
    clear hB2 hle
    go_wp2
    go_ret
    exact ⟨rfl, hB11⟩
theorem TopLimits_walk (a0 : Int) (h0 : (Lit.int .u8 a0).wf = true) (a1 : Int) (h1 : (Lit.int .u64 a1).wf = true) (a2 : Int) (h2 : (Lit.int .u8 a2).wf = true) (w : World) :
    Calls Try.prog 7 #[.int .u8 a0, .int .u64 a1, .int .u8 a2] w fun e w' => e = .returned (.bool true) ∧ Below w.heap.size w w' := by
  obtain ⟨a, rfl, ha⟩ := wf_u8 h0
  obtain ⟨n, rfl, hn⟩ := wf_u64 h1
  obtain ⟨z, rfl, hz⟩ := wf_u8 h2
  by_cases hl : 64 < z % 71
  · exact limits_long a ha n hn z hz hl w
  · exact limits_short a ha n hn z hz hl w
end Go.Proofs.Ytnkcobmccfcanaa
