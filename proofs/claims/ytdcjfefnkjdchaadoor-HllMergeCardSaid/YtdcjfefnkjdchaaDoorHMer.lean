/- HllMerge, walked. -/
import Derived.Test.YtdcjfefnkjdchaaDoorHApp
namespace Go.Proofs.YtdcjfefnkjdchaaDoor
open Go Go.RowKit

theorem regd_of {B b : Nat} {l : List UInt8} {w : World} (hS : Sk B b l w) (hL : Low l) : Regd b (tx l) :=
  ⟨hS.lo, hS.hi, by rw [tx_size, hS.len], by simpa [tx] using hL⟩
set_option maxRecDepth 100000 in
set_option maxHeartbeats 8000000 in
theorem HllMerge_core (x : Nat) (hx : x < 256) (p : Option Addr) (hs : List Nat) (cap : Nat) (hc : hs.length ≤ cap) (hcap : cap ≤ 9223372036854775807)
    (q : Option Addr) (ms : List Nat) (cap2 : Nat) (hc2 : ms.length ≤ cap2) (hcap2 : cap2 ≤ 9223372036854775807) (w : World) (hT : Tab w) (hN : Nums p hs w) (hz : p = none → cap = 0) (hN2 : Nums q ms w) (hz2 : q = none → cap2 = 0) :
    Calls Tryd.prog 6 #[.int .u8 x, .slice p hs.length cap, .slice q ms.length cap2] w fun e w' => e = .returned (.bool true) ∧ Below w.heap.size w w' := by
  have HT := Lib.hid hT
  have HN := Lib.hid (hN.take 50)
  have HN2 := Lib.hid (hN2.take 50)
  have HZ := Lib.hid hz
  have HZ2 := Lib.hid hz2
  obtain ⟨b, hb⟩ : ∃ b, 4 + x % 7 = b := ⟨_, rfl⟩
  obtain ⟨c, hcb⟩ : ∃ c, 4 + (x % 7 + 1) % 7 = c := ⟨_, rfl⟩
  have lo : 4 ≤ b := by omega
  have hi : b ≤ 10 := by omega
  have lo2 : 4 ≤ c := by omega
  have hi2 : c ≤ 10 := by omega
  have hbc : ¬ (c : Int) = (b : Int) := by omega
  have hbi : (4 : Int) + (x : Int) % 7 = b := by omega
  have hci : (4 : Int) + ((x : Int) + 1) % 7 = c := by omega
  have hlL : (hs.take 50).length = min hs.length 50 := by rw [List.length_take]; omega
  have hlM : (ms.take 50).length = min ms.length 50 := by rw [List.length_take]; omega
  generalize hs.take 50 = L at *
  generalize ms.take 50 = K at *
  generalize hs.length = n at *
  generalize ms.length = m at *
  have hm1i : min (n : Int) 50 = L.length := by omega
  have hm2i : min (m : Int) 50 = K.length := by omega
  have hL50 : L.length ≤ 50 := by omega
  have hK50 : K.length ≤ 50 := by omega
  have hLn : L.length ≤ n := by omega
  have hKm : K.length ≤ m := by omega
  have hLt : L.take 100 = L := List.take_of_length_le (by omega)
  have hKt : K.take 100 = K := List.take_of_length_le (by omega)
  have hLKt : (L ++ K).take 100 = L ++ K := List.take_of_length_le (by rw [List.length_append]; omega)
  have hfL := fun W hT hN => fed_any b lo hi p L cap (by omega) W hT hN
  have hfK := fun W hT hN => fed_any b lo hi q K cap2 (by omega) W hT hN
  have hfO := fun W hT hN => fed_any c lo2 hi2 q K cap2 (by omega) W hT hN
  have hfA := fun P C W hT hN => fed_any b lo hi P (L ++ K) C (by rw [List.length_append]; omega) W hT hN
  have hsm : ∀ x ∈ L ++ K, x < 18446744073709551616 := fun x hx => (List.mem_append.1 hx).elim (HN.out.small x) (HN2.out.small x)
  have HSM := Lib.hid hsm
  have happ : L.length + K.length ≤ 1000000 := by omega
  have hmr := mergeL_regs b L K
  have HMR := Lib.hid hmr
  rw [hLt] at hfL
  rw [hKt] at hfK hfO
  rw [hLKt] at hfA
  generalize hLl : L.length = n1 at *
  have HLL := Lib.hid hLl
  generalize hKl : K.length = n2 at *
  have HKL := Lib.hid hKl
  clear hT hN hz hN2 hz2 hb hcb hlL hlM hLt hKt hLKt hsm hLl hKl hmr
  go_enter Tryd.func6, Tryd.ntmps6
  go_wp2_with fail
  refine (examples_any _ HT.out).mono ?_
  rintro e W1 ⟨rfl, hB⟩
  go_wp2_with fail
  refine (hfL _ (HT.out.below hB) (HN.out.below hB)).mono ?_
  rintro e W2 ⟨rfl, hB2, hS1⟩
  have hR1 : w.heap.size ≤ W1.heap.size := hB.size
  replace hB := below_on hB hB2 (Nat.le_refl _)
  generalize W1.heap.size = R1 at hS1 hR1 hB2
  clear hB2
  go_wp2_with fail
  refine (hfK _ (HT.out.below hB) (HN2.out.below hB)).mono ?_
  rintro e W3 ⟨rfl, hB2, hS2⟩
  have hR2 : w.heap.size ≤ W2.heap.size := hB.size
  have hR12 : R1 < W2.heap.size := hS1.lt
  replace hB := below_on hB hB2 (Nat.le_refl _)
  replace hS1 := hS1.below hB2
  generalize W2.heap.size = R2 at hS2 hR2 hB2 hR12
  clear hB2
  obtain ⟨v1, w1, hap1, hO1, hBa⟩ := append_run 32 (OwnU.nil W3.heap.size W3) (HN.out.below hB) HZ.out (by rw [HLL.out]; simp; omega) (Nat.le_refl _)
  rw [HLL.out] at hap1
  rw [List.nil_append] at hO1
  obtain ⟨v2, w2, hap2, hO2, hBb⟩ := append_run 32 hO1 ((HN2.out.below hB).below hBa) HZ2.out (by rw [HLL.out, HKL.out]; exact happ) hBa.size
  rw [HKL.out] at hap2
  obtain ⟨P, C, hv, hNA, _, _, _⟩ := hO2.slice HSM.out
  have hBab := hBa.trans hBb
  generalize (L ++ K).length = n3 at *
  subst hv
  replace hB := below_on hB hBab (Nat.le_refl _)
  replace hS1 := hS1.below hBab
  replace hS2 := hS2.below hBab
  have HNA := Lib.hid hNA
  have HA1 := Lib.hid hap1
  have HA2 := Lib.hid hap2
  clear hBa hBb hBab hO1 hO2 hNA hap1 hap2
  go_wp2_with (first | (at_builtin; refine wpList_append_run rfl (.const (.slice none 0 0)) (.tmp 44) 32 rfl _ _ _ rfl rfl HA1.out ?_) | (at_builtin; refine wpList_append_run rfl (.tmp 45) (.tmp 46) 32 rfl _ _ _ rfl rfl HA2.out ?_))
  refine (hfA _ _ _ (HT.out.below hB) HNA.out).mono ?_
  rintro e W4 ⟨rfl, hB2, hS3⟩
  clear HA1 HA2
  have hR3 : w.heap.size ≤ w2.heap.size := hB.size
  have hR13 := hS1.lt
  replace hB := below_on hB hB2 (Nat.le_refl _)
  replace hS1 := hS1.below hB2
  replace hS2 := hS2.below hB2
  generalize w2.heap.size = R3 at hS3 hR3 hB2 hR13
  clear hB2
  go_wp2_with fail
  refine (hfO _ (HT.out.below hB) (HN2.out.below hB)).mono ?_
  rintro e W5 ⟨rfl, hB2, hS4⟩
  have hR14 := hS1.lt
  replace hB := below_on hB hB2 (Nat.le_refl _)
  replace hS1 := hS1.below hB2
  replace hS2 := hS2.below hB2
  replace hS3 := hS3.below hB2
  generalize W4.heap.size = R4 at hS4 hB2 hR14
  clear hB2
  have HR12 := Lib.hid hR12
  have HR13 := Lib.hid hR13
  have HR14 := Lib.hid hR14
  have hl1 := regs_low b L
  have hl2 := regs_low b (L ++ K)
  have hmm := mergeL_self (regs b L)
  have HMM := Lib.hid hmm
  clear hR12 hR13 hR14 hmm
  generalize regs b L = l at *
  generalize regs b K = k at *
  generalize regs b (L ++ K) = m3 at *
  generalize regs c K = o4 at *
  go_wp2_with fail
  refine (registers_any hS1).mono ?_
  rintro e W6 ⟨rfl, rfl⟩
  obtain ⟨t1, ht1⟩ : ∃ t, tx l = t := ⟨_, rfl⟩
  rw [ht1]
  have HT1 := Lib.hid ht1
  clear ht1
  go_wp2_with fail
  refine (merge_no R1 R4 b c hbc _ hS1.bits hS4.bits).mono ?_
  rintro e W7 ⟨rfl, nq, rfl⟩
  replace hS1 := hS1.drewN nq
  replace hS2 := hS2.drewN nq
  replace hS3 := hS3.drewN nq
  replace hB : Below w.heap.size w (W5.drewN nq) := hB.trans ⟨rfl, rfl, rfl, Nat.le_refl _, fun _ _ => rfl⟩
  clear hS4
  generalize W5.drewN nq = W5 at *
  go_wp2_with fail
  refine (merge_yes hS1 hS1).mono ?_
  rintro e W8 ⟨rfl, hC, hS⟩
  rw [HMM.out] at hS
  replace hS1 := hS
  replace hS2 := hS2.chg hC (Nat.ne_of_gt HR12.out)
  replace hS3 := hS3.chg hC (Nat.ne_of_gt HR13.out)
  replace hB := below_chg hB hC hR1 (Nat.le_refl _)
  clear hC hS
  go_wp2_with fail
  refine (registers_any hS1).mono ?_
  rintro e W9 ⟨rfl, rfl⟩
  rw [HT1.out]
  go_wp2_with fail
  refine (merge_yes hS1 hS2).mono ?_
  rintro e W10 ⟨rfl, hC, hS⟩
  rw [HMR.out] at hS
  replace hS1 := hS
  replace hS2 := hS2.chg hC (Nat.ne_of_gt HR12.out)
  replace hS3 := hS3.chg hC (Nat.ne_of_gt HR13.out)
  replace hB := below_chg hB hC hR1 (Nat.le_refl _)
  clear hC hS
  have hrg := regd_of hS1 hl2
  obtain ⟨t2, ht2⟩ : ∃ t, tx m3 = t := ⟨_, rfl⟩
  have ht2l : t2.data.toList = m3 := by rw [← ht2]; simp [tx]
  have HT2 := Lib.hid ht2
  have HT2L := Lib.hid ht2l
  rw [ht2] at hrg
  clear ht2 ht2l
  go_wp2_with fail
  refine (registers_any hS1).mono ?_
  rintro e W11 ⟨rfl, rfl⟩
  rw [HT2.out]
  go_wp2_with fail
  refine (of_good t2 b hrg _).mono ?_
  rintro e W12 ⟨rfl, hB2, hS5⟩
  rw [HT2L.out] at hS5
  replace hB := below_on hB hB2 (Nat.le_refl _)
  replace hS1 := hS1.below hB2
  replace hS3 := hS3.below hB2
  generalize W10.heap.size = R5 at hS5 hB2
  clear hB2 hS2
  go_wp2_with fail
  refine (registers_any hS1).mono ?_
  rintro e W13 ⟨rfl, rfl⟩
  rw [HT2.out]
  go_wp2_with fail
  refine (registers_any hS3).mono ?_
  rintro e W14 ⟨rfl, rfl⟩
  rw [HT2.out]
  obtain ⟨E, hE⟩ : ∃ E, estOf b m3 = E := ⟨_, rfl⟩
  have HE := Lib.hid hE
  clear hE
  go_wp2_with fail
  refine (est_is hS1 hl2 HE.out).mono ?_
  rintro e W15 ⟨rfl, hB2⟩
  replace hB := below_on hB hB2 (Nat.le_refl _)
  replace hS1 := hS1.below hB2
  replace hS3 := hS3.below hB2
  replace hS5 := hS5.below hB2
  clear hB2
  go_wp2_with fail
  refine (est_is hS3 hl2 HE.out).mono ?_
  rintro e W16 ⟨rfl, hB2⟩
  replace hB := below_on hB hB2 (Nat.le_refl _)
  replace hS1 := hS1.below hB2
  replace hS5 := hS5.below hB2
  clear hB2
  go_wp2_with fail
  refine (est_is hS5 hl2 HE.out).mono ?_
  rintro e W17 ⟨rfl, hB2⟩
  replace hB := below_on hB hB2 (Nat.le_refl _)
  replace hS1 := hS1.below hB2
  clear hB2
  go_wp2_with fail
  refine (est_is hS1 hl2 HE.out).mono ?_
  rintro e W18 ⟨rfl, hB2⟩
  replace hB := below_on hB hB2 (Nat.le_refl _)
  clear hB2
  go_wp2
  go_ret
  exact ⟨rfl, hB⟩
theorem HllMerge_walk (a : Int) (ha : (Lit.int .u8 a).wf = true) (p : Option Addr) (hs : List Nat) (cap : Nat) (hc : hs.length ≤ cap) (hcap : cap ≤ maxLen) (q : Option Addr) (ms : List Nat) (cap2 : Nat) (hc2 : ms.length ≤ cap2) (hcap2 : cap2 ≤ maxLen)
    (w : World) (hT : Tab w) (hN : Nums p hs w) (hz : p = none → cap = 0) (hN2 : Nums q ms w) (hz2 : q = none → cap2 = 0) :
    Calls Tryd.prog 6 #[.int .u8 a, .slice p hs.length cap, .slice q ms.length cap2] w fun e w' => e = .returned (.bool true) ∧ Below w.heap.size w w' := by
  obtain ⟨x, rfl, hx⟩ := wf_u8 ha
  exact HllMerge_core x hx p hs cap hc hcap q ms cap2 hc2 hcap2 w hT hN hz hN2 hz2
end Go.Proofs.YtdcjfefnkjdchaaDoor
