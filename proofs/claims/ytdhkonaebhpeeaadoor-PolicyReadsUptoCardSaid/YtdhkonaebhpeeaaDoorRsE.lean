/- The chapter's own side: a policy got off bytes. The chapter's own side: a policy got off bytes, where there are enough. -/
import Derived.Test.YtdhkonaebhpeeaaDoorRsD
import Derived.Test.YtdhkonaebhpeeaaDoorPoGt
import Derived.Test.YtdhkonaebhpeeaaDoorPoBe
import Derived.Deep.Cut
import Derived.Test.YtdhkonaebhpeeaaDoorRtC
import Derived.RegionTactic
import Derived.ChangeAlike
namespace Go.Proofs.YtdhkonaebhpeeaaDoor.Po
open Go Go.RowKit

theorem num_cut (S : ByteArray) (a : Nat) : (S.extract a (a + 8)).data.toList = ((S.data.toList.drop a).take 8) := by
  rw [ext_tx, list_tx]
  congr 1
  omega
theorem number_cut (S : ByteArray) (a : Nat) (w : World) : Calls Tryd.prog 47 #[.string (S.extract a (a + 8))] w fun e w' => e = .returned (.int .u64 (numZ ((S.data.toList.drop a).take 8))) ∧ w = w' := by
  have h := ref_number_any (S.extract a (a + 8)) (by simp [ByteArray.size_extract]; omega) w
  rwa [num_cut] at h
/-- What is told where there is none. -/
theorem get_no (C : Nat) (w W : World) (v : Value) : True := trivial
set_option maxRecDepth 100000 in
set_option maxHeartbeats 16000000 in
theorem ref_get_short (S : ByteArray) (hs : S.size < 81 ∨ S.size < 81 + 8 * manyZ S.data.toList) (w : World) :
    Calls Tryd.prog 26 #[.string S] w fun e w' => e = .returned (.tuple #[.agg (valsP zeroN (.slice none 0 0)), .string ⟨#[]⟩, .bool false]) ∧ Below w.heap.size w w' := by
  obtain ⟨C, hC⟩ : ∃ C, w.heap.size = C := ⟨_, rfl⟩
  have hZ : PolAt C zeroN (.slice none 0 0) (w.alloc (.cells #[.int .i64 0, .int .i64 0, .int .i64 0, .int .i64 0, .int .i64 0, .int .i64 0, .int .i64 0, .int .i64 0, .int .i64 0, .int .i64 0, .slice none 0 0] 33)) := CellsAt.newAt #[.int .i64 0, .int .i64 0, .int .i64 0, .int .i64 0, .int .i64 0, .int .i64 0, .int .i64 0, .int .i64 0, .int .i64 0, .int .i64 0, .slice none 0 0] 33 w C hC.symm
  have HB : Hid (Below C w (w.alloc (.cells #[.int .i64 0, .int .i64 0, .int .i64 0, .int .i64 0, .int .i64 0, .int .i64 0, .int .i64 0, .int .i64 0, .int .i64 0, .int .i64 0, .slice none 0 0] 33))) := Lib.hid ((Below.refl _ _).alloc (by omega) _)
  have HZ := Lib.hid hZ
  have fin : ∀ W, PolAt C zeroN (.slice none 0 0) W → Below C w W → True := fun _ _ _ => trivial
  clear hZ fin
  by_cases h1 : S.size < 81
  · have h1i : (S.size : Int) < 81 := by omega
    clear hs
    rw [hC]
    go_enter Tryd.func26, Tryd.ntmps26
    go_upto_region 2 with fail
    clear hC
    generalize w.alloc (.cells #[.int .i64 0, .int .i64 0, .int .i64 0, .int .i64 0, .int .i64 0, .int .i64 0, .int .i64 0, .int .i64 0, .int .i64 0, .int .i64 0, .slice none 0 0] 33) = W at *
    go_wp2_with (refine wpList_store_cells rfl 33 _ _ rfl C (valsP zeroN (.slice none 0 0)) (valsP zeroN (.slice none 0 0)) rfl rfl HZ.out (by kernel_rfl) (by kernel_rfl) (by kernel_rfl) ?_)
    refine bodyPost_ret (result_cell3 rfl rfl (load_ref (pol_put (n := zeroN) (v := .slice none 0 0) HZ.out rfl rfl) rfl)) rfl ?_
    exact ⟨rfl, below_sets (Nat.le_refl _) _ 0 w _ HB.out⟩
  · have h2 : S.size < 81 + 8 * manyZ S.data.toList := by
      rcases hs with h | h
      · exact absurd h h1
      · exact h
    have h80 : 80 < S.size := by omega
    have hm := many_at (s := S.data.toList) h80
    have hme : S.data.toList[80] = S[80] := rfl
    rw [hme] at hm
    obtain ⟨m, hme2⟩ : ∃ m, (S[80]).toNat = m := ⟨_, rfl⟩
    rw [hm, hme2] at h2
    have hm256 : m < 256 := by rw [← hme2]; exact (S[80]).toNat_lt
    have h1i : ¬ (S.size : Int) < 81 := by omega
    have h80i : (80 : Int) < (S.size : Int) := by omega
    have h2i : (S.size : Int) < 81 + 8 * (m : Int) := by omega
    have hx : ((S[80]).toNat : Int) = (m : Int) := by omega
    clear hs hm hme h1
    rw [hC]
    go_enter Tryd.func26, Tryd.ntmps26
    go_upto_region 2 with fail
    clear hC
    generalize w.alloc (.cells #[.int .i64 0, .int .i64 0, .int .i64 0, .int .i64 0, .int .i64 0, .int .i64 0, .int .i64 0, .int .i64 0, .int .i64 0, .int .i64 0, .slice none 0 0] 33) = W at *
    go_wp2_with (refine wpList_store_cells rfl 33 _ _ rfl C (valsP zeroN (.slice none 0 0)) (valsP zeroN (.slice none 0 0)) rfl rfl HZ.out (by kernel_rfl) (by kernel_rfl) (by kernel_rfl) ?_)
    refine bodyPost_ret (result_cell3 rfl rfl (load_ref (pol_put (n := zeroN) (v := .slice none 0 0) HZ.out rfl rfl) rfl)) rfl ?_
    exact ⟨rfl, below_sets (Nat.le_refl _) _ 0 w _ HB.out⟩
end Go.Proofs.YtdhkonaebhpeeaaDoor.Po

namespace Go.Proofs.YtdhkonaebhpeeaaDoor.Po
open Go Go.RowKit

set_option maxRecDepth 100000 in
set_option maxHeartbeats 16000000 in
theorem ref_get_long (S : ByteArray) (s : List UInt8) (hS : S.data.toList = s) (hm : 81 + 8 * manyZ s ≤ S.size) (hmx : S.size ≤ 9223372036854775807) (w : World) :
    Calls Tryd.prog 26 #[.string S] w fun e w' => ∃ v, e = .returned (GetV (getZ s) v) ∧ Tr (fun _ => False) v (GetT (getZ s)) w' ∧ Below w.heap.size w w' := by
  obtain ⟨C, hC⟩ : ∃ C, w.heap.size = C := ⟨_, rfl⟩
  have hZ : PolAt C zeroN (.slice none 0 0) (w.alloc (.cells #[.int .i64 0, .int .i64 0, .int .i64 0, .int .i64 0, .int .i64 0, .int .i64 0, .int .i64 0, .int .i64 0, .int .i64 0, .int .i64 0, .slice none 0 0] 33)) := CellsAt.newAt #[.int .i64 0, .int .i64 0, .int .i64 0, .int .i64 0, .int .i64 0, .int .i64 0, .int .i64 0, .int .i64 0, .int .i64 0, .int .i64 0, .slice none 0 0] 33 w C hC.symm
  have HB : Hid (Below C w (w.alloc (.cells #[.int .i64 0, .int .i64 0, .int .i64 0, .int .i64 0, .int .i64 0, .int .i64 0, .int .i64 0, .int .i64 0, .int .i64 0, .int .i64 0, .slice none 0 0] 33))) := Lib.hid ((Below.refl _ _).alloc (by omega) _)
  have HS1 : Hid ((w.alloc (.cells #[.int .i64 0, .int .i64 0, .int .i64 0, .int .i64 0, .int .i64 0, .int .i64 0, .int .i64 0, .int .i64 0, .int .i64 0, .int .i64 0, .slice none 0 0] 33)).heap.size = C + 1) := Lib.hid (by simp [hC])
  have HZ := Lib.hid hZ
  have hlen : s.length = S.size := by rw [← hS]; exact size_list S
  have h80 : 80 < S.size := by omega
  have hmy := many_at (s := S.data.toList) h80
  have hme : S.data.toList[80] = S[80] := rfl
  rw [hme, hS] at hmy
  obtain ⟨m, hme2⟩ : ∃ m, (S[80]).toNat = m := ⟨_, rfl⟩
  rw [hme2] at hmy
  have hm256 : m < 256 := by rw [← hme2]; exact (S[80]).toNat_lt
  rw [hmy] at hm
  obtain ⟨R, hR⟩ : ∃ R, getZ s = R := ⟨_, rfl⟩
  have HRF : Hid (R = if rightZ (getsZ 10 s) (getsZ m (s.drop 81)) then some (getsZ 10 s, getsZ m (s.drop 81), s.drop (81 + 8 * m)) else none) := Lib.hid (by
    rw [← hR, getZ_full (by rw [hmy, hlen]; exact hm), nAt_end, hmy]
    unfold tAt
    rw [if_pos rfl, hmy])
  rw [hR]
  have h1i : ¬ (S.size : Int) < 81 := by omega
  have h80i : (80 : Int) < (S.size : Int) := by omega
  have h2i : ¬ (S.size : Int) < 81 + 8 * (m : Int) := by omega
  have hx : ((S[80]).toNat : Int) = (m : Int) := by omega
  have HSS := Lib.hid hS
  have HLE := Lib.hid hlen
  clear hZ hme hmy hR hS hlen
  rw [hC]
  go_enter Tryd.func26, Tryd.ntmps26
  go_upto_region 3 with fail
  clear hC
  generalize w.alloc (.cells #[.int .i64 0, .int .i64 0, .int .i64 0, .int .i64 0, .int .i64 0, .int .i64 0, .int .i64 0, .int .i64 0, .int .i64 0, .int .i64 0, .slice none 0 0] 33) = W at *
  have HU0 : Hid (OwnI (C + 1) (.slice none 0 0) (getsZ 0 s) W) := Lib.hid (OwnI.nil _ _)
  have HW0 : Hid (Below (C + 1) W W) := Lib.hid (Below.refl _ _)
  go_wp2
  go_loopg [5, 7] 10 (fun g s5 s7 wx => ∃ (k : Nat) (v5 : Value), s7 = .int .i64 (k : Int) ∧ g + k = 10 ∧ v5 = s5 ∧ Hid (OwnI (C + 1) v5 (getsZ k s) wx) ∧ Hid (Below (C + 1) W wx))
  case atStart => exact ⟨0, _, rfl, by omega, rfl, HU0, HW0⟩
  case round =>
    clear HU0 HW0
    obtain ⟨k, v5, rfl, hgk, rfl, HU, HW⟩ := hrel
    have hszr : C + 1 ≤ wr.heap.size := by have h1 := HW.out.size; have h2 := HS1.out; omega
    cases gk with
    | zero =>
      obtain rfl : k = 10 := by omega
      have hl10 := gets_len 10 s
      have HRF2 := HRF.out
      have hUo := HU.out
      obtain ⟨rw, hrw⟩ : ∃ r, getsZ 10 s = r := ⟨_, rfl⟩
      rw [hrw] at hl10 HRF2 hUo
      obtain ⟨x0, x1, x2, x3, x4, x5, x6, x7, x8, x9, rfl⟩ := ten_of hl10
      obtain ⟨G, cap, rfl, hG1, hG2, hcap, hcm, hce⟩ : ∃ G cap, v5 = .slice (some ⟨G, 0, none⟩) 10 cap ∧ C + 1 ≤ G ∧ G < wr.heap.size ∧ 10 ≤ cap ∧ cap ≤ maxLen ∧ ∀ k (hk : k < 10), wr.cell? ⟨G, k, none⟩ = some (Value.int .i64 (([x0, x1, x2, x3, x4, x5, x6, x7, x8, x9] : List Int)[k]'hk)) := by
        rcases hUo.form with ⟨_, h⟩ | h
        · cases h
        · exact h
      have HCE := Lib.hid hce
      have HRF3 := Lib.hid HRF2
      have HB1 : Hid (Below C w wr) := Lib.hid (HB.out.trans (HW.out.mono (by omega)))
      have HZ1 : Hid (PolAt C zeroN (.slice none 0 0) wr) := Lib.hid (CellsAt.belowAt HZ.out HW.out (by omega))
      clear hl10 HRF2 hUo hrw HRF HU HW HZ HB HS1 hce hgk
      generalize wr = W1 at *
      obtain ⟨D, hD⟩ : ∃ D, W1.heap.size = D := ⟨_, rfl⟩
      have HU1 : Hid (OwnI D (.slice none 0 0) (getsZ 0 (s.drop 81)) W1) := Lib.hid (OwnI.nil _ _)
      have HW1 : Hid (Below D W1 W1) := Lib.hid (Below.refl _ _)
      rw [hD] at hG2 hszr
      go_wp2
      go_loopg [6, 9] m (fun g s6 s9 wx => ∃ (k : Nat) (v6 : Value), s9 = .int .i64 (k : Int) ∧ g + k = m ∧ v6 = s6 ∧ Hid (OwnI D v6 (getsZ k (s.drop 81)) wx) ∧ Hid (Below D W1 wx))
      case atStart => exact ⟨0, _, rfl, by omega, rfl, HU1, HW1⟩
      case round =>
        clear HU1 HW1
        obtain ⟨k, v6, rfl, hgk, rfl, HU, HW⟩ := hrel
        have hszd : D ≤ wr.heap.size := by have h1 := HW.out.size; omega
        cases gk with
        | zero =>
          obtain rfl : m = k := by omega
          have htl := gets_len m (s.drop 81)
          have htin := gets_in m (s.drop 81)
          have hUo := HU.out
          have HRF4 := HRF3.out
          obtain ⟨t, hte⟩ : ∃ t, getsZ m (s.drop 81) = t := ⟨_, rfl⟩
          rw [hte] at htl htin hUo HRF4
          obtain ⟨q, d, rfl⟩ : ∃ q d, v6 = .slice q m d := by
            obtain ⟨q, d, h⟩ := hUo.len
            rw [htl] at h
            exact ⟨q, d, h⟩
          have hT : Tr (fun j => j < D) (.slice q m d) t wr := hUo.tr (fun g h1 h2 => by omega) htin
          have hGr : G < wr.heap.size := by omega
          have c0 : wr.cell? ⟨G, 0, none⟩ = some (.int .i64 x0) := (HW.out.cell (p := ⟨G, 0, none⟩) hG2).trans (HCE.out 0 (by omega))
          have c1 : wr.cell? ⟨G, 1, none⟩ = some (.int .i64 x1) := (HW.out.cell (p := ⟨G, 1, none⟩) hG2).trans (HCE.out 1 (by omega))
          have c2 : wr.cell? ⟨G, 2, none⟩ = some (.int .i64 x2) := (HW.out.cell (p := ⟨G, 2, none⟩) hG2).trans (HCE.out 2 (by omega))
          have c3 : wr.cell? ⟨G, 3, none⟩ = some (.int .i64 x3) := (HW.out.cell (p := ⟨G, 3, none⟩) hG2).trans (HCE.out 3 (by omega))
          have c4 : wr.cell? ⟨G, 4, none⟩ = some (.int .i64 x4) := (HW.out.cell (p := ⟨G, 4, none⟩) hG2).trans (HCE.out 4 (by omega))
          have c5 : wr.cell? ⟨G, 5, none⟩ = some (.int .i64 x5) := (HW.out.cell (p := ⟨G, 5, none⟩) hG2).trans (HCE.out 5 (by omega))
          have c6 : wr.cell? ⟨G, 6, none⟩ = some (.int .i64 x6) := (HW.out.cell (p := ⟨G, 6, none⟩) hG2).trans (HCE.out 6 (by omega))
          have c7 : wr.cell? ⟨G, 7, none⟩ = some (.int .i64 x7) := (HW.out.cell (p := ⟨G, 7, none⟩) hG2).trans (HCE.out 7 (by omega))
          have c8 : wr.cell? ⟨G, 8, none⟩ = some (.int .i64 x8) := (HW.out.cell (p := ⟨G, 8, none⟩) hG2).trans (HCE.out 8 (by omega))
          have c9 : wr.cell? ⟨G, 9, none⟩ = some (.int .i64 x9) := (HW.out.cell (p := ⟨G, 9, none⟩) hG2).trans (HCE.out 9 (by omega))
          have hof : Calls Tryd.prog 44 #[.slice (some ⟨G, 0, none⟩) 10 cap, .slice q m d] wr fun e w' => e = .returned (.agg #[.int .i64 x0, .int .i64 x1, .int .i64 x2, .int .i64 x3, .int .i64 x4, .int .i64 x5, .int .i64 x6, .int .i64 x7, .int .i64 x8, .int .i64 x9, .slice q m d]) ∧ Below wr.heap.size wr w' := of_any x0 x1 x2 x3 x4 x5 x6 x7 x8 x9 G cap q m d wr hGr hcap c0 c1 c2 c3 c4 c5 c6 c7 c8 c9
          have hZ2 := CellsAt.belowAt HZ1.out HW.out (by omega)
          have HZ2 := Lib.hid hZ2
          have HB2 := Lib.hid (HB1.out.trans (HW.out.mono (by omega)))
          have HT2 := Lib.hid hT
          have HF4 := Lib.hid HRF4
          obtain ⟨E, hE⟩ : ∃ E, wr.heap.size = E := ⟨_, rfl⟩
          have HLT := Lib.hid htl
          clear htl htin hUo HRF4 hte hT hGr c0 c1 c2 c3 c4 c5 c6 c7 c8 c9 hZ2 HRF3 HU HW HZ1 HB1 HCE hgk
          go_wp2_with fail
          refine hof.mono ?_
          rintro e w3 ⟨rfl, hB3⟩
          have hB4 : Below wr.heap.size wr (w3.alloc (.cells #[.int .i64 x0, .int .i64 x1, .int .i64 x2, .int .i64 x3, .int .i64 x4, .int .i64 x5, .int .i64 x6, .int .i64 x7, .int .i64 x8, .int .i64 x9, .slice q m d] 33)) := hB3.alloc hB3.size _
          have hP4 : CellsAt w3.heap.size #[.int .i64 x0, .int .i64 x1, .int .i64 x2, .int .i64 x3, .int .i64 x4, .int .i64 x5, .int .i64 x6, .int .i64 x7, .int .i64 x8, .int .i64 x9, .slice q m d] (w3.alloc (.cells #[.int .i64 x0, .int .i64 x1, .int .i64 x2, .int .i64 x3, .int .i64 x4, .int .i64 x5, .int .i64 x6, .int .i64 x7, .int .i64 x8, .int .i64 x9, .slice q m d] 33)) := CellsAt.new #[.int .i64 x0, .int .i64 x1, .int .i64 x2, .int .i64 x3, .int .i64 x4, .int .i64 x5, .int .i64 x6, .int .i64 x7, .int .i64 x8, .int .i64 x9, .slice q m d] 33 w3
          have hT4 := HT2.out.below hB4
          have hrg := ref_right_in x0 x1 x2 x3 x4 x5 x6 x7 x8 x9 q m d t HLT.out (w3.alloc (.cells #[.int .i64 x0, .int .i64 x1, .int .i64 x2, .int .i64 x3, .int .i64 x4, .int .i64 x5, .int .i64 x6, .int .i64 x7, .int .i64 x8, .int .i64 x9, .slice q m d] 33)) (by omega) (hT4.weak (fun j h _ => h.elim))
          have HT4 := Lib.hid hT4
          have HB4 := Lib.hid (HB2.out.trans (hB4.mono (by omega)))
          have HZ4 : Hid (PolAt C zeroN (.slice none 0 0) (w3.alloc (.cells #[.int .i64 x0, .int .i64 x1, .int .i64 x2, .int .i64 x3, .int .i64 x4, .int .i64 x5, .int .i64 x6, .int .i64 x7, .int .i64 x8, .int .i64 x9, .slice q m d] 33))) := Lib.hid (CellsAt.below HZ2.out hB4)
          obtain ⟨F, hF⟩ : ∃ F, w3.heap.size = F := ⟨_, rfl⟩
          rw [hF] at hP4
          have HP4 := Lib.hid hP4
          have hCF : C < F := by have := hB3.size; omega
          clear hof hB3 hB4 hP4 hT4 HT2 HZ2 HB2
          obtain ⟨b, hb⟩ : ∃ b, rightZ [x0, x1, x2, x3, x4, x5, x6, x7, x8, x9] t = b := ⟨_, rfl⟩
          rw [hb] at hrg
          have HF5 := HF4.out
          rw [hb] at HF5
          cases b with
          | false =>
            rw [if_neg (by simp)] at HF5
            subst HF5
            clear hb HF4
            go_wp2_with fail
            refine hrg.mono ?_
            rintro e w5 ⟨rfl, hB5⟩
            have hZ5 := CellsAt.below HZ4.out hB5
            have HZ5 := Lib.hid hZ5
            have HB5 := Lib.hid (HB4.out.trans (hB5.mono (Nat.le_of_lt HZ4.out.lt)))
            clear hB5 hZ5 HB4 HZ4 HP4 HT4 hrg
            go_wp2_with (refine wpList_store_cells rfl 33 _ _ rfl C (valsP zeroN (.slice none 0 0)) (valsP zeroN (.slice none 0 0)) rfl rfl HZ5.out (by kernel_rfl) (by kernel_rfl) (by kernel_rfl) ?_)
            refine bodyPost_ret (result_cell3 rfl rfl (load_ref (pol_put (n := zeroN) (v := .slice none 0 0) HZ5.out rfl rfl) rfl)) rfl ?_
            exact ⟨.slice none 0 0, rfl, Tr.nil _ _, below_sets (Nat.le_refl _) _ 0 w _ HB5.out⟩
          | true =>
            rw [if_pos rfl] at HF5
            subst HF5
            clear hb HF4
            go_wp2_with fail
            refine hrg.mono ?_
            rintro e w5 ⟨rfl, hB5⟩
            have HZ5 := Lib.hid (CellsAt.below HZ4.out hB5)
            have HP5 := Lib.hid (CellsAt.below HP4.out hB5)
            have HT5 := Lib.hid (HT4.out.below hB5)
            have HB5 := Lib.hid (HB4.out.trans (hB5.mono (Nat.le_of_lt HZ4.out.lt)))
            clear hB5 HB4 HZ4 HP4 HT4 hrg
            have hP5 := HP5.out
            have p0 := hP5.cell 0 _ rfl
            have p1 := hP5.cell 1 _ rfl
            have p2 := hP5.cell 2 _ rfl
            have p3 := hP5.cell 3 _ rfl
            have p4 := hP5.cell 4 _ rfl
            have p5 := hP5.cell 5 _ rfl
            have p6 := hP5.cell 6 _ rfl
            have p7 := hP5.cell 7 _ rfl
            have p8 := hP5.cell 8 _ rfl
            have p9 := hP5.cell 9 _ rfl
            have p10 := hP5.cell 10 _ rfl
            simp only [List.getElem_toArray, List.getElem_cons_zero, List.getElem_cons_succ] at p0 p1 p2 p3 p4 p5 p6 p7 p8 p9 p10
            have hPl := hP5.lt
            have hZ5 := HZ5.out
            have hZl := hZ5.lt
            have z0 := hZ5.cell 0 _ rfl
            have z1 := hZ5.cell 1 _ rfl
            have z2 := hZ5.cell 2 _ rfl
            have z3 := hZ5.cell 3 _ rfl
            have z4 := hZ5.cell 4 _ rfl
            have z5 := hZ5.cell 5 _ rfl
            have z6 := hZ5.cell 6 _ rfl
            have z7 := hZ5.cell 7 _ rfl
            have z8 := hZ5.cell 8 _ rfl
            have z9 := hZ5.cell 9 _ rfl
            have z10 := hZ5.cell 10 _ rfl
            have f0 := hZ5.fro 0 (.int .i64 0) rfl
            have f1 := hZ5.fro 1 (.int .i64 0) rfl
            have f2 := hZ5.fro 2 (.int .i64 0) rfl
            have f3 := hZ5.fro 3 (.int .i64 0) rfl
            have f4 := hZ5.fro 4 (.int .i64 0) rfl
            have f5 := hZ5.fro 5 (.int .i64 0) rfl
            have f6 := hZ5.fro 6 (.int .i64 0) rfl
            have f7 := hZ5.fro 7 (.int .i64 0) rfl
            have f8 := hZ5.fro 8 (.int .i64 0) rfl
            have f9 := hZ5.fro 9 (.int .i64 0) rfl
            have f10 := hZ5.fro 10 (.slice none 0 0) rfl
            have hm2 : 81 + 8 * (m : Int) ≤ (S.size : Int) := by omega
            have hm3 : (0 : Int) ≤ 81 + 8 * (m : Int) := by omega
            have hw1 : IntKind.i64.wrap (8 * (m : Int)) = 8 * (m : Int) := IntWalk.i64_in _ (by omega)
            have hw2 : IntKind.i64.wrap (81 + 8 * (m : Int)) = 81 + 8 * (m : Int) := IntWalk.i64_in _ (by omega)
            clear hP5
            go_upto_region 18 with fail
            generalize w5 = W5 at *
            have HPf : Hid (PolAt C [x0, x1, x2, x3, x4, x5, x6, x7, x8, x9] (.slice q m d) ((((((((((((W5.setCell ⟨C, 0, none⟩ (.int .i64 x0)).setCell ⟨C, 1, none⟩ (.int .i64 x1)).setCell ⟨C, 2, none⟩ (.int .i64 x2)).setCell ⟨C, 3, none⟩ (.int .i64 x3)).setCell ⟨C, 4, none⟩ (.int .i64 x4)).setCell ⟨C, 5, none⟩ (.int .i64 x5)).setCell ⟨C, 6, none⟩ (.int .i64 x6)).setCell ⟨C, 7, none⟩ (.int .i64 x7)).setCell ⟨C, 8, none⟩ (.int .i64 x8)).setCell ⟨C, 9, none⟩ (.int .i64 x9)).setCell ⟨C, 10, none⟩ (.slice q m d)).drew)) := Lib.hid (CellsAt.drew (pol_put (n := [x0, x1, x2, x3, x4, x5, x6, x7, x8, x9]) (v := .slice q m d) HZ5.out rfl rfl))
            have HBf : Hid (Below C w ((((((((((((W5.setCell ⟨C, 0, none⟩ (.int .i64 x0)).setCell ⟨C, 1, none⟩ (.int .i64 x1)).setCell ⟨C, 2, none⟩ (.int .i64 x2)).setCell ⟨C, 3, none⟩ (.int .i64 x3)).setCell ⟨C, 4, none⟩ (.int .i64 x4)).setCell ⟨C, 5, none⟩ (.int .i64 x5)).setCell ⟨C, 6, none⟩ (.int .i64 x6)).setCell ⟨C, 7, none⟩ (.int .i64 x7)).setCell ⟨C, 8, none⟩ (.int .i64 x8)).setCell ⟨C, 9, none⟩ (.int .i64 x9)).setCell ⟨C, 10, none⟩ (.slice q m d)).drew)) := Lib.hid (below_sets (Nat.le_refl _) (valsP [x0, x1, x2, x3, x4, x5, x6, x7, x8, x9] (.slice q m d)).toList 0 w _ HB5.out).drew
            have HTf : Hid (Tr (fun _ => False) (.slice q m d) t ((((((((((((W5.setCell ⟨C, 0, none⟩ (.int .i64 x0)).setCell ⟨C, 1, none⟩ (.int .i64 x1)).setCell ⟨C, 2, none⟩ (.int .i64 x2)).setCell ⟨C, 3, none⟩ (.int .i64 x3)).setCell ⟨C, 4, none⟩ (.int .i64 x4)).setCell ⟨C, 5, none⟩ (.int .i64 x5)).setCell ⟨C, 6, none⟩ (.int .i64 x6)).setCell ⟨C, 7, none⟩ (.int .i64 x7)).setCell ⟨C, 8, none⟩ (.int .i64 x8)).setCell ⟨C, 9, none⟩ (.int .i64 x9)).setCell ⟨C, 10, none⟩ (.slice q m d)).drew)) := Lib.hid ((HT5.out.mov (Mov.sets (S := fun j => j = C) rfl (valsP [x0, x1, x2, x3, x4, x5, x6, x7, x8, x9] (.slice q m d)).toList 0 _ (Mov.refl _ _)).drew (fun j h _ => by omega)).weak (fun j h _ => h.elim))
            go_region
            clear HZ5 HP5 HT5 HB5 hZ5 hPl hZl p0 z0 f0 p1 z1 f1 p2 z2 f2 p3 z3 f3 p4 z4 f4 p5 z5 f5 p6 z6 f6 p7 z7 f7 p8 z8 f8 p9 z9 f9 p10 z10 f10
            generalize (((((((((((W5.setCell ⟨C, 0, none⟩ (.int .i64 x0)).setCell ⟨C, 1, none⟩ (.int .i64 x1)).setCell ⟨C, 2, none⟩ (.int .i64 x2)).setCell ⟨C, 3, none⟩ (.int .i64 x3)).setCell ⟨C, 4, none⟩ (.int .i64 x4)).setCell ⟨C, 5, none⟩ (.int .i64 x5)).setCell ⟨C, 6, none⟩ (.int .i64 x6)).setCell ⟨C, 7, none⟩ (.int .i64 x7)).setCell ⟨C, 8, none⟩ (.int .i64 x8)).setCell ⟨C, 9, none⟩ (.int .i64 x9)).setCell ⟨C, 10, none⟩ (.slice q m d)).drew = Wf at *
            go_wp2
            refine bodyPost_ret (result_cell3 rfl rfl (load_ref HPf.out rfl)) rfl ?_
            refine ⟨.slice q m d, ?_, HTf.out, HBf.out⟩
            show Ending.returned (.tuple #[.agg (valsP [x0, x1, x2, x3, x4, x5, x6, x7, x8, x9] (.slice q m d)), .string (S.extract (81 + 8 * m) S.size), .bool true]) = _
            rw [ext_from, HSS.out]
            rfl
        | succ g =>
          have hk : k < m := by omega
          have hki : (k : Int) < (m : Int) := by omega
          have h8a : 81 + 8 * (k : Int) ≤ (S.size : Int) := by omega
          have h8b : 89 + 8 * (k : Int) ≤ (S.size : Int) := by omega
          have hnum := fun W => number_cut S (81 + 8 * k) W
          rw [show 81 + 8 * k + 8 = 89 + 8 * k by omega] at hnum
          obtain ⟨n, hn⟩ : ∃ n, numZ ((S.data.toList.drop (81 + 8 * k)).take 8) = n := ⟨_, rfl⟩
          have hnb : n < 18446744073709551616 := by rw [← hn]; exact num8_lt _
          rw [hn] at hnum
          obtain ⟨x, hx⟩ : ∃ x, i64Z n = x := ⟨_, rfl⟩
          have hw := wrap_i64Z n hnb
          rw [hx] at hw
          have HX : Hid (getsZ (k + 1) (s.drop 81) = getsZ k (s.drop 81) ++ [x]) := Lib.hid (by rw [gets_succ, ← hx, ← hn, HSS.out, List.drop_drop])
          obtain ⟨v', w', hr1, hGr⟩ := append_I 22 HU.out x (by rw [gets_len]; omega) hszd
          obtain ⟨pu, cu, hu⟩ := HU.out.len
          subst hu
          have HO7 : Hid (OwnI D v' (getsZ (k + 1) (s.drop 81)) w') := Lib.hid (by rw [HX.out]; exact hGr.1)
          have HW7 := Lib.hid (HW.out.trans (hGr.low (N := D) (fun g hg => (HU.out.lt hg).1) hszd))
          have HR1 := Lib.hid hr1
          have HK := Lib.hid hgk
          obtain ⟨Lg, hLg⟩ : ∃ L, (getsZ k (s.drop 81)).length = L := ⟨_, rfl⟩
          rw [hLg] at HR1 ⊢
          clear hx hn hGr hr1 hgk hLg HU HW HX
          go_wp2_with fail
          refine (hnum _).mono ?_
          rintro e w7 ⟨rfl, rfl⟩
          clear hnum
          go_wp2_with (at_builtin; refine Lib.wpList_append_run _ rfl _ _ _ _ rfl _ _ rfl rfl _ _ HR1.out ?_)
          go_roundg g
          case measure => omega
          case rel => exact ⟨k + 1, _, by go_num, by have := HK.out; omega, rfl, HO7, HW7⟩
    | succ g =>
      have hk : k < 10 := by omega
      have hki : (k : Int) < 10 := by omega
      have h8a : 8 * (k : Int) ≤ (S.size : Int) := by omega
      have h8b : 8 * (k : Int) + 8 ≤ (S.size : Int) := by omega
      have hnum := fun W => number_cut S (8 * k) W
      obtain ⟨n, hn⟩ : ∃ n, numZ ((S.data.toList.drop (8 * k)).take 8) = n := ⟨_, rfl⟩
      have hnb : n < 18446744073709551616 := by rw [← hn]; exact num8_lt _
      rw [hn] at hnum
      obtain ⟨x, hx⟩ : ∃ x, i64Z n = x := ⟨_, rfl⟩
      have hw := wrap_i64Z n hnb
      rw [hx] at hw
      have HX : Hid (getsZ (k + 1) s = getsZ k s ++ [x]) := Lib.hid (by rw [gets_succ, ← hx, ← hn, HSS.out])
      obtain ⟨v', w', hr1, hGr⟩ := append_I 22 HU.out x (by rw [gets_len]; omega) hszr
      obtain ⟨pu, cu, hu⟩ := HU.out.len
      subst hu
      have HO7 : Hid (OwnI (C + 1) v' (getsZ (k + 1) s) w') := Lib.hid (by rw [HX.out]; exact hGr.1)
      have HW7 := Lib.hid (HW.out.trans (hGr.low (N := C + 1) (fun g hg => (HU.out.lt hg).1) hszr))
      have HR1 := Lib.hid hr1
      have HK := Lib.hid hgk
      obtain ⟨Lg, hLg⟩ : ∃ L, (getsZ k s).length = L := ⟨_, rfl⟩
      rw [hLg] at HR1 ⊢
      clear hx hn hGr hr1 hgk hLg HU HW HX
      go_wp2_with fail
      refine (hnum _).mono ?_
      rintro e w7 ⟨rfl, rfl⟩
      clear hnum
      go_wp2_with (at_builtin; refine Lib.wpList_append_run _ rfl _ _ _ _ rfl _ _ rfl rfl _ _ HR1.out ?_)
      go_roundg g
      case measure => omega
      case rel => exact ⟨k + 1, _, by go_num, by have := HK.out; omega, rfl, HO7, HW7⟩
theorem ref_get_any (s : List UInt8) (hl : s.length ≤ 9223372036854775807) (w : World) :
    Calls Tryd.prog 26 #[.string (tx s)] w fun e w' => ∃ v, e = .returned (GetV (getZ s) v) ∧ Tr (fun _ => False) v (GetT (getZ s)) w' ∧ Below w.heap.size w w' := by
  have htl := tx_len s
  by_cases h : 81 + 8 * manyZ s ≤ s.length
  · exact ref_get_long (tx s) s (list_tx s) (by omega) (by omega) w
  · rw [getZ_tail (by omega)]
    refine (ref_get_short (tx s) (.inr (by rw [list_tx]; omega)) w).mono ?_
    rintro e w' ⟨rfl, hB⟩
    exact ⟨.slice none 0 0, rfl, Tr.nil _ _, hB⟩
end Go.Proofs.YtdhkonaebhpeeaaDoor.Po

