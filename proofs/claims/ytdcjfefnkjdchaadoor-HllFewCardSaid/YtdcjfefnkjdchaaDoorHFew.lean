/- HllFew, walked. -/
import Derived.Test.YtdcjfefnkjdchaaDoorHFewM
import Derived.Test.YtdcjfefnkjdchaaDoorHOpen
namespace Go.Proofs.YtdcjfefnkjdchaaDoor
open Go Go.RowKit

set_option maxRecDepth 100000 in
set_option maxHeartbeats 4000000 in
theorem HllFew_core (x : Nat) (hx : x < 256) (p : Option Addr) (hs : List Nat) (cap : Nat) (hc : hs.length ≤ cap) (hcap : cap ≤ 9223372036854775807) (w : World) (hT : Tab w) (hN : Nums p hs w) :
    Calls Tryd.prog 7 #[.int .u8 x, .slice p hs.length cap] w fun e w' => e = .returned (.bool true) ∧ Below w.heap.size w w' := by
  have HT := Lib.hid hT
  have HN := Lib.hid hN
  obtain ⟨b, hb⟩ : ∃ b, 4 + x % 7 = b := ⟨_, rfl⟩
  have lo : 4 ≤ b := by omega
  have hi : b ≤ 10 := by omega
  have hM := pow_hi lo hi
  have hfn := fun W hT => fed_any b lo hi none [] 0 (by decide) W hT (Nums.nil _ W)
  rw [show regs b (List.take 100 []) = regs b [] from rfl, show ([] : List Nat).length = 0 from rfl] at hfn
  have hfs := fun W hT hN => fed_any b lo hi p hs cap (by omega) W hT hN
  have hfo := fun W hT hN => fed_any b lo hi p (hs.take 1) cap (by rw [List.length_take]; omega) W hT hN
  rw [List.length_take, List.take_take, Nat.min_eq_right (show 1 ≤ 100 by decide)] at hfo
  have hbi : (4 : Int) + (x : Int) % 7 = b := by omega
  have hnz := nz_regs b (hs.take 100)
  rw [List.length_take] at hnz
  have hes0 := est_none b lo hi
  have hes1 : estOf b (regs b (hs.take 1)) = min hs.length 1 := by
    match hs with
    | [] => exact est_none b lo hi
    | h :: t => rw [show (h :: t).take 1 = [h] from rfl, est_one b lo hi]; simp
  obtain ⟨n, hln⟩ : ∃ n, hs.length = n := ⟨_, rfl⟩
  have HLN := Lib.hid hln
  rw [hln] at hc hfs hnz hes1 hfo ⊢
  obtain ⟨m1, hm1⟩ : ∃ m1, min 1 n = m1 := ⟨_, rfl⟩
  obtain ⟨m2, hm2⟩ : ∃ m2, min 100 n = m2 := ⟨_, rfl⟩
  rw [hm1] at hfo
  rw [hm2] at hnz
  rw [show min n 1 = m1 by omega] at hes1
  have hm1i : min (n : Int) 1 = m1 := by omega
  have hm2i : min (n : Int) 100 = m2 := by omega
  have hm2b : m2 ≤ 100 := by omega
  have hm1b : m1 ≤ 1 := by omega
  have hm1c : m1 ≤ n := by omega
  clear hm1 hm2
  have hll := regs_length b (hs.take 100)
  have hlow := regs_low b (hs.take 1)
  generalize hle : regs b (hs.take 100) = l at *
  generalize regs b (hs.take 1) = lo1 at *
  obtain ⟨t, ht⟩ : ∃ t, tx l = t := ⟨_, rfl⟩
  have hts : t.size = 2 ^ b := by rw [← ht, tx_size, hll]
  have htl : t.data.toList = l := by rw [← ht]; simp [tx]
  obtain ⟨M, hMe⟩ : ∃ M, 2 ^ b = M := ⟨_, rfl⟩
  rw [hMe] at hM hll hts
  obtain ⟨hM1, hM2⟩ := hM
  have HTX := Lib.hid ht
  have HTL := Lib.hid htl
  have HM := Lib.hid hMe
  have HES0 := Lib.hid hes0
  have HES1 := Lib.hid hes1
  have HLL := Lib.hid hll
  clear hln hb hT hN hle ht htl hMe hes0 hes1 hll
  go_enter Tryd.func7, Tryd.ntmps7
  go_wp2_with fail
  refine (examples_any _ HT.out).mono ?_
  rintro e W1 ⟨rfl, hB⟩
  go_wp2_with fail
  refine (hfn _ (HT.out.below hB)).mono ?_
  rintro e W2 ⟨rfl, hB2, hSn⟩
  have hR : w.heap.size ≤ W1.heap.size := hB.size
  replace hB := below_on hB hB2 (Nat.le_refl _)
  generalize W1.heap.size = R1 at hSn hR hB2
  clear hB2
  go_wp2_with fail
  refine (hfs _ (HT.out.below hB) (HN.out.below hB)).mono ?_
  rintro e W3 ⟨rfl, hB2, hSs⟩
  have hR2 : w.heap.size ≤ W2.heap.size := hB.size
  have hSn0 := hSn.lt
  replace hB := below_on hB hB2 (Nat.le_refl _)
  replace hSn := hSn.below hB2
  have hR12 : R1 < W2.heap.size := hSn0
  generalize W2.heap.size = R2 at hSs hR2 hB2 hR12
  clear hB2 hSn0
  go_wp2_with fail
  refine (registers_any hSs).mono ?_
  rintro e W4 ⟨rfl, rfl⟩
  rw [HTX.out]
  go_wp2_with fail
  go_loop [10, 11] (fun m i => ∃ k : Nat, k ≤ M ∧ i = .int .i64 k ∧ m = .int .u64 (nz (l.take k) : Nat)) (fun _ i => M - (intOf i).toNat)
  case atStart => exact ⟨0, Nat.zero_le _, rfl, rfl⟩
  case round =>
    obtain ⟨k, hk, rfl, rfl⟩ := hrel
    have hnk := nz_le (l.take k)
    rw [List.length_take] at hnk
    by_cases hlt : k < M
    · have hks : k < t.size := by rw [hts]; exact hlt
      have hkl : k < l.length := by rw [HLL.out]; exact hlt
      have hst := nz_take k hkl
      have hg : t[k].toNat = l[k].toNat := by
        have h1 := get_list t k hks
        have h2 := List.getElem?_eq_getElem hkl
        rw [HTL.out, h2] at h1
        rw [Option.some.inj h1]
      rw [← hg] at hst
      have HST := Lib.hid hst
      clear hst hg
      generalize nz (l.take k) = m at *
      by_cases hz : t[k].toNat = 0
      · have hz2 : ¬ (0 : Int) < ((t[k].toNat : Nat) : Int) := by omega
        have hst := HST.out
        rw [if_pos hz] at hst
        have HS2 := Lib.hid hst
        clear hz hst
        go_wp2
        exact ⟨⟨k + 1, by omega, by go_num, by rw [HS2.out]; rfl⟩, by simp [intOf]; omega⟩
      · have hz2 : (0 : Int) < ((t[k].toNat : Nat) : Int) := by omega
        have hst := HST.out
        rw [if_neg hz] at hst
        have HS2 := Lib.hid hst
        clear hz hst
        go_wp2
        exact ⟨⟨k + 1, by omega, by go_num, by rw [HS2.out]; go_num⟩, by simp [intOf]; omega⟩
    · obtain rfl : k = M := by omega
      have htk : l.take k = l := List.take_of_length_le (by rw [HLL.out]; exact Nat.le_refl _)
      rw [htk] at hnk ⊢
      clear htk
      generalize nz l = m at *
      go_wp2_with fail
      refine (hfo _ (HT.out.below hB) ((HN.out.below hB).take 1)).mono ?_
      rintro e W5 ⟨rfl, hB2, hSo⟩
      have hR3 : w.heap.size ≤ W3.heap.size := hB.size
      have hB1 := hB
      replace hB := below_on hB hB2 (Nat.le_refl _)
      replace hSn := hSn.below hB2
      replace hSs := hSs.below hB2
      generalize hR3e : W3.heap.size = R3 at hSo hR3 hB2
      clear hB2 hR3e
      go_wp2_with fail
      refine (est_is hSo hlow HES1.out).mono ?_
      rintro e W6 ⟨rfl, hB2⟩
      replace hB := below_on hB hB2 (Nat.le_refl _)
      replace hSn := hSn.below hB2
      replace hSs := hSs.below hB2
      clear hB2
      go_wp2_with fail
      refine (clear_any hSs).mono ?_
      rintro e W7 ⟨rfl, hC, hS'⟩
      replace hB := below_chg hB hC hR2 (Nat.le_refl _)
      replace hSn := hSn.chg hC (Nat.ne_of_lt hR12)
      replace hSs := hS'
      clear hC hS'
      have HM12 := Lib.hid hR12
      clear hR12
      go_wp2_with fail
      refine (est_is hSn (regs_low b []) HES0.out).mono ?_
      rintro e W8 ⟨rfl, hB2⟩
      replace hB := below_on hB hB2 (Nat.le_refl _)
      replace hSn := hSn.below hB2
      replace hSs := hSs.below hB2
      clear hB2
      go_wp2_with fail
      refine (registers_any hSs).mono ?_
      rintro e W9 ⟨rfl, rfl⟩
      go_wp2_with fail
      refine (registers_any hSn).mono ?_
      rintro e W9 ⟨rfl, rfl⟩
      rw [show regs b [] = List.replicate (2 ^ b) 0 from rfl]
      generalize tx (List.replicate (2 ^ b) 0) = z
      go_wp2
      go_ret
      exact ⟨rfl, hB⟩
theorem HllFew_walk (a : Int) (ha : (Lit.int .u8 a).wf = true) (p : Option Addr) (hs : List Nat) (cap : Nat) (hc : hs.length ≤ cap) (hcap : cap ≤ maxLen) (w : World) (hT : Tab w) (hN : Nums p hs w) :
    Calls Tryd.prog 7 #[.int .u8 a, .slice p hs.length cap] w fun e w' => e = .returned (.bool true) ∧ Below w.heap.size w w' := by
  obtain ⟨x, rfl, hx⟩ := wf_u8 ha
  exact HllFew_core x hx p hs cap hc hcap w hT hN
end Go.Proofs.YtdcjfefnkjdchaaDoor
