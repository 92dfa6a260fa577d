/- A policy is put. -/
import Derived.Test.YtmlgcjfcbokibaaDoorPoT
namespace Go.Proofs.YtmlgcjfcbokibaaDoor.Po
open Go Go.RowKit

def headB (t : List Int) (k : Nat) : List UInt8 := if k = 10 then beZ 1 t.length else []
def numsB (ns : List Int) (j : Nat) : List UInt8 := (ns.take j).flatMap fun x => beZ 8 x.toNat
def putN (n t : List Int) : Nat → List UInt8
  | 0 => []
  | k + 1 => putN n t k ++ headB t k ++ numsB (numsN n t k) (numsN n t k).length
theorem put_all {n t : List Int} (hn : n.length = 10) : putN n t 11 = putZ n t := by
  obtain ⟨a0, a1, a2, a3, a4, a5, a6, a7, a8, a9, rfl⟩ := ten_of hn
  simp [putN, headB, numsB, numsN, putZ]
theorem numsB_succ (ns : List Int) (j : Nat) (h : j < ns.length) : numsB ns (j + 1) = numsB ns j ++ beZ 8 ns[j].toNat := by
  unfold numsB
  rw [List.take_succ_eq_append_getElem h, List.flatMap_append]
  simp
theorem numsB_len (ns : List Int) (j : Nat) : (numsB ns j).length ≤ 8 * j := by
  unfold numsB
  rw [flat_len, List.length_take]
  omega
theorem putN_len {n t : List Int} (ht : t.length ≤ 3) : ∀ k, (putN n t k).length ≤ 25 * k
  | 0 => by simp [putN]
  | k + 1 => by
    have h1 := putN_len (n := n) ht k
    have h2 := numsB_len (numsN n t k) (numsN n t k).length
    have h3 : (numsN n t k).length ≤ 3 := by
      unfold numsN
      split
      · exact ht
      · simp
    have h4 : (headB t k).length ≤ 1 := by
      unfold headB
      split
      · rw [beZ_len]; omega
      · simp
    unfold putN
    rw [List.length_append, List.length_append]
    omega
theorem nums_ge {n t : List Int} (h1 : ∀ x ∈ n, 0 ≤ x ∧ x ≤ 1000000000) (h2 : ∀ x ∈ t, 1 ≤ x ∧ x ≤ 1000000000) (hn : n.length = 10) {k : Nat} (hk : k < 11) : ∀ x ∈ numsN n t k, 0 ≤ x ∧ x ≤ 1000000000 := fun x hx => by
  unfold numsN at hx
  split at hx
  · have := h2 x hx; omega
  · rw [List.mem_singleton] at hx
    subst hx
    rw [List.getD_eq_getElem?_getD, List.getElem?_eq_getElem (by omega)]
    exact h1 _ (List.getElem_mem _)
theorem tr_grew {B : Nat} {v v' u : Value} {l : List UInt8} {ns : List Int} {w w' : World} (h : Tr (fun j => v.ownBlock = some j) u ns w) (hG : Grew B v l w v' w') : Tr (fun j => v'.ownBlock = some j) u ns w' := by
  have h1 := h.weak (S' := fun j => v.ownBlock = some j ∨ w.heap.size ≤ j) (fun j hj hl => hj.elim id (fun e => by omega))
  exact (h1.mov hG.2.1 (fun j hj _ => .inl hj)).weak (fun j hj _ => hG.2.2 j hj)
set_option maxRecDepth 100000 in
set_option maxHeartbeats 16000000 in
theorem put_any (S : Nat → Prop) (n t : List Int) (v : Value) (w : World) (hn : n.length = 10) (hin : ∀ x ∈ n, In64 x) (hT : Tr S v t w) :
    Calls Tryd.prog 12 #[.agg (valsP n v)] w fun e w' => e = .returned (if rightZ n t then .tuple #[.string (tx (putZ n t)), .bool true] else .tuple #[.string ⟨#[]⟩, .bool false]) ∧ Below w.heap.size w w' := by
  obtain ⟨N, hN⟩ : ∃ N, w.heap.size = N := ⟨_, rfl⟩
  have hB0 : Below w.heap.size w (w.alloc (.cells (valsP n v) 24)) := (Below.refl _ _).alloc (Nat.le_refl _) _
  have HP0 := Lib.hid (CellsAt.newAt (valsP n v) 24 w N hN.symm)
  have HT0 := Lib.hid ((hT.weak (S' := fun j => N ≤ j) (fun j h hlt => by omega)).below hB0)
  have HB0 : Hid (Below N w (w.alloc (.cells (valsP n v) 24))) := Lib.hid (hN ▸ hB0)
  have HNL := Lib.hid hn
  have HIN := Lib.hid hin
  have HRG : Hid (∀ W, Tr (fun j => N ≤ j) v t W → Calls Tryd.prog 15 #[.agg (valsP n v)] W fun e w' => e = .returned (.bool (rightZ n t)) ∧ Below W.heap.size W w') := Lib.hid (fun W h => by
    have := right_any _ n t v W hn hin h
    rwa [right_same n t hn] at this)
  obtain ⟨p, c, rfl⟩ := hT.len
  obtain ⟨a0, a1, a2, a3, a4, a5, a6, a7, a8, a9, hne⟩ := ten_of hn
  have e : valsP n (.slice p t.length c) = #[.int .i64 a0, .int .i64 a1, .int .i64 a2, .int .i64 a3, .int .i64 a4, .int .i64 a5, .int .i64 a6, .int .i64 a7, .int .i64 a8, .int .i64 a9, .slice p t.length c] := by rw [hne]; rfl
  rw [e] at HT0 HB0 HRG ⊢
  have HP1 : Hid (PolAt N n (.slice p t.length c) (w.alloc (.cells #[.int .i64 a0, .int .i64 a1, .int .i64 a2, .int .i64 a3, .int .i64 a4, .int .i64 a5, .int .i64 a6, .int .i64 a7, .int .i64 a8, .int .i64 a9, .slice p t.length c] 24))) := Lib.hid (by rw [← e]; exact HP0.out)
  have hs1 : (w.alloc (.cells #[.int .i64 a0, .int .i64 a1, .int .i64 a2, .int .i64 a3, .int .i64 a4, .int .i64 a5, .int .i64 a6, .int .i64 a7, .int .i64 a8, .int .i64 a9, .slice p t.length c] 24)).heap.size = N + 1 := by simp [hN]
  have hrg := HRG.out (w.alloc (.cells #[.int .i64 a0, .int .i64 a1, .int .i64 a2, .int .i64 a3, .int .i64 a4, .int .i64 a5, .int .i64 a6, .int .i64 a7, .int .i64 a8, .int .i64 a9, .slice p t.length c] 24)) HT0.out
  clear hT hin hB0 e hne HP0 hn HRG
  by_cases hr : rightZ n t = true
  · rw [hr] at hrg
    rw [if_pos hr]
    obtain ⟨hr1, hr2, hr3, hr4, hr5⟩ := right_in hr
    have HR2 := Lib.hid hr2
    have HR1 := Lib.hid hr1
    have HTX : Hid (putN n t 11 = putZ n t) := Lib.hid (put_all HNL.out)
    obtain ⟨TX, hTX⟩ : ∃ T, putZ n t = T := ⟨_, rfl⟩
    rw [hTX] at HTX ⊢
    have hf := fun W => fields_of N W
    clear hr hr1 hr2 hr5 hTX
    go_enter Tryd.func12, Tryd.ntmps12
    go_wp2_with fail
    refine hrg.mono ?_
    rintro e w1 ⟨rfl, hB1⟩
    rw [hs1] at hB1
    have HP1 := Lib.hid (CellsAt.belowAt HP1.out hB1 (by omega))
    have HT1 := Lib.hid (HT0.out.mov (Mov.of hB1) (fun j h1 h2 => by omega))
    have HB1 := Lib.hid (HB0.out.trans (hB1.mono (by omega)))
    have hz1 : N < w1.heap.size := by have := hB1.size; omega
    clear hB1 hrg HT0 HB0 hs1
    go_wp2_with fail
    refine (hf _).mono ?_
    rintro e w2 ⟨rfl, hF2, hB2⟩
    obtain ⟨D, hD⟩ : ∃ D, w1.heap.size = D := ⟨_, rfl⟩
    rw [hD] at hF2 hB2 hz1 ⊢
    obtain ⟨B, hB⟩ : ∃ B, w2.heap.size = B := ⟨_, rfl⟩
    have hFB : D < B := by rw [← hB]; exact hF2.lt
    have hNB : N < B := by omega
    have HF2 := Lib.hid hF2
    have HP2 := Lib.hid (CellsAt.belowAt HP1.out hB2 (by omega))
    have HT2 : Hid (Tr (fun j => B ≤ j) (.slice p t.length c) t w2) := Lib.hid (((HT1.out.mov (Mov.of hB2) (fun j h1 h2 => by omega))).weak (fun j h _ => by omega))
    have HBw := Lib.hid (HB1.out.trans (hB2.mono (by omega)))
    have HO2 : Hid (OwnB B (.slice none 0 0) (putN n t 0) w2) := Lib.hid (OwnB.nil B w2)
    have HBB : Hid (Below B w2 w2) := Lib.hid (Below.refl B w2)
    clear hF2 HP1 HT1 hB2 HB1 hf hD
    go_wp2
    go_loopg [4, 15] 11 (fun g s4 s15 wx => ∃ k : Nat, s15 = .int .i64 (k : Int) ∧ g + k = 11 ∧ Hid (OwnB B s4 (putN n t k) wx) ∧ Hid (Below B w2 wx))
    case atStart => exact ⟨0, rfl, rfl, HO2, HBB⟩
    case round =>
      clear HO2 HBB
      obtain ⟨k, rfl, hgk, HO, HBx⟩ := hrel
      obtain ⟨px, cx', rfl⟩ := HO.out.form
      cases gk with
      | zero =>
        obtain rfl : k = 11 := by omega
        have hcv := own_back HO.out
        rw [HTX.out] at hcv ⊢
        have HEB := Lib.hid (HBw.out.trans (HBx.out.mono (by omega)))
        clear HO HBx HBw
        go_wp2
        go_ret2
        exact ⟨rfl, by first | exact HEB.out | exact hN ▸ HEB.out⟩
      | succ g =>
        have hk : k < 11 := by omega
        have hFx := CellsAt.belowAt HF2.out HBx.out hFB
        obtain ⟨f0, f1, f2, f3, f4, f5⟩ := PartsAt.row hFx hk
        have hFl : D < wr.heap.size := hFx.lt
        have hszx : B ≤ wr.heap.size := by have := HBx.out.size; omega
        have HFV : Hid (fieldV N k = .agg #[.string (tx (tellN k)), .int .i64 (loN k), .int .i64 (hiN k), .pointer (cntP N k), .pointer (timP N k), .pointer (tieP N k)]) := Lib.hid rfl
        have hsl := putN_len (n := n) hr4 k
        have hge : ∀ x ∈ numsN n t k, 0 ≤ x ∧ x ≤ 1000000000 := nums_ge HR1.out HR2.out HNL.out hk
        have hnl : (numsN n t k).length ≤ 3 := by
          unfold numsN
          split
          · exact hr4
          · simp
        obtain ⟨ns, hns⟩ : ∃ z, numsN n t k = z := ⟨_, rfl⟩
        have HNS := Lib.hid hns
        rw [hns] at hge hnl
        have HGE := Lib.hid hge
        have HEND : Hid (putN n t k ++ headB t k ++ numsB ns ns.length = putN n t (k + 1)) := Lib.hid (by rw [← hns]; rfl)
        have hnbk : (Value.slice px (putN n t k).length cx').ownBlock = (Value.slice px (putN n t k).length cx').ownBlock := rfl
        have hnum : ∀ W, Below B w2 W → OwnB B (.slice px (putN n t k).length cx') (putN n t k) W → Calls Tryd.prog 30 #[fieldV N k] W fun e w' => ∃ z, e = .returned z ∧ Tr (fun j => (Value.slice px (putN n t k).length cx').ownBlock = some j) z ns w' ∧ Below W.heap.size W w' := fun W hW hOW => by
          have := numbers_any N k hk n t (.slice p t.length c) W (fun j => (Value.slice px (putN n t k).length cx').ownBlock = some j) HNL.out HIN.out (HP2.out.belowAt hW hNB) ((HT2.out.mov (Mov.of hW) (fun _ h _ => h)).weak (fun j h _ => (hOW.lt h).1)) (fun j h => (hOW.lt h).2)
          rwa [HNS.out] at this
        obtain ⟨TN, hTN⟩ : ∃ T, tx (tellN k) = T := ⟨_, rfl⟩
        rw [hTN] at f0 HFV
        rw [HFV.out] at hnum
        have hq3 : k = 10 ∧ tieP N k = some ⟨N, k, none⟩ ∨ k ≠ 10 ∧ tieP N k = none := by
          unfold tieP
          by_cases h : k = 10
          · exact .inl ⟨h, if_pos h⟩
          · exact .inr ⟨h, if_neg h⟩
        generalize loN k = lo at *
        generalize hiN k = hi at *
        generalize cntP N k = q1 at *
        generalize timP N k = q2 at *
        obtain ⟨q3, hq⟩ : ∃ q, tieP N k = q := ⟨_, rfl⟩
        rw [hq] at hq3 f5 hnum
        have HQ3 := Lib.hid hq3
        clear hq3 HFV hFx hTN hnbk hns hge hq
        have hBa : Below B w2 (wr.alloc (.cells #[.string TN, .int .i64 lo, .int .i64 hi, .pointer q1, .pointer q2, .pointer q3] 70)) := HBx.out.alloc hszx _
        have hCa := CellsAt.new #[.string TN, .int .i64 lo, .int .i64 hi, .pointer q1, .pointer q2, .pointer q3] 70 wr
        have hOa := HO.out.below (show Below wr.heap.size wr (wr.alloc (.cells #[.string TN, .int .i64 lo, .int .i64 hi, .pointer q1, .pointer q2, .pointer q3] 70)) from (Below.refl _ _).alloc (Nat.le_refl _) _)
        have HCALL := Lib.hid (hnum _ hBa hOa)
        have HBa := Lib.hid hBa
        have HCa := Lib.hid hCa
        have HOa := Lib.hid hOa
        have HSLN := Lib.hid hsl
        have HNLN := Lib.hid hnl
        have HR4 := Lib.hid hr4
        have HGK := Lib.hid hgk
        have hk2 : (k : Int) < 11 := by omega
        clear hBa hCa hOa hnum HO HBx hsl hnl hr3 hr4 hgk
        go_wp2_with fail
        refine HCALL.out.mono ?_
        rintro e w5 ⟨u, rfl, hU, hB5⟩
        obtain ⟨pu, cu, rfl⟩ := hU.len
        have hC5 := HCa.out.below hB5
        have HO5 := Lib.hid (HOa.out.below hB5)
        have HB5 := Lib.hid (HBa.out.trans (hB5.mono (by have := HBa.out.size; omega)))
        have HU5 := Lib.hid hU
        have hsl := HSLN.out
        have hnl := HNLN.out
        have hr4 := HR4.out
        have hgk := HGK.out
        clear HSLN HNLN HR4 HGK hk2
        have m5 := hC5.cell 5 _ rfl
        simp only [List.getElem_toArray, List.getElem_cons_zero, List.getElem_cons_succ] at m5
        have hCl := hC5.lt
        clear hC5 hU hB5 HCALL HBa HCa HOa
        rcases HQ3.out with ⟨hk10, rfl⟩ | ⟨hk10, rfl⟩
        · have htl : ns.length = t.length := by rw [← HNS.out, hk10]; rfl
          have HE2 : Hid (putN n t k ++ beZ 1 ns.length ++ numsB ns ns.length = putN n t (k + 1)) := Lib.hid (by rw [← HEND.out]; unfold headB; rw [if_pos hk10, htl])
          obtain ⟨v6, w6, hr6, hG6⟩ := append_byte 62 HO5.out (UInt8.ofNat ns.length) (by omega) (by have := HB5.out.size; omega)
          have eb : ((UInt8.ofNat ns.length).toNat : Int) = (ns.length : Int) := by rw [UInt8.toNat_ofNat']; omega
          have eb2 : [UInt8.ofNat ns.length] = beZ 1 ns.length := by simp [beZ]
          rw [eb] at hr6
          rw [eb2] at hG6
          obtain ⟨A1, hA1⟩ : ∃ z, putN n t k ++ beZ 1 ns.length = z := ⟨_, rfl⟩
          have hal : A1.length ≤ 300 := by rw [← hA1, List.length_append, beZ_len]; omega
          rw [hA1] at hG6 HE2
          clear hA1
          obtain ⟨p6, c6, h6⟩ := hG6.1.form
          subst h6
          have HO6 : Hid (OwnB B (.slice p6 A1.length c6) (A1 ++ numsB ns 0) w6) := Lib.hid (by rw [show numsB ns 0 = [] from rfl, List.append_nil]; exact hG6.1)
          have HU6 := Lib.hid (tr_grew HU5.out hG6)
          have HB6 := Lib.hid (HB5.out.trans (hG6.below (N := B) (fun g hg => (HO5.out.lt hg).1) (by have := HB5.out.size; omega)))
          have hwr : IntKind.u8.wrap (ns.length : Int) = (ns.length : Int) := by simp [IntKind.wrap, IntKind.signed, IntKind.bits]; omega
          clear hG6 eb eb2 HU5 HO5 HB5 htl hk10
          go_wp2_with (at_builtin; refine Lib.wpList_append_run _ rfl _ _ _ _ rfl _ _ rfl rfl _ _ hr6 ?_)
          clear hr6 hwr m5 hCl
          go_wp2
          go_loopg [4, 32] ns.length (fun g2 s4 s32 wy => ∃ j : Nat, s32 = .int .i64 (j : Int) ∧ g2 + j = ns.length ∧ Hid (OwnB B s4 (A1 ++ numsB ns j) wy) ∧ Hid (Tr (fun i => s4.ownBlock = some i) (.slice pu ns.length cu) ns wy) ∧ Hid (Below B w2 wy))
          case atStart => exact ⟨0, rfl, rfl, HO6, HU6, HB6⟩
          case round =>
            clear HO6 HU6 HB6
            obtain ⟨j, rfl, hgj, HOy, HU, HBy⟩ := hrel
            obtain ⟨py, cy, rfl⟩ := HOy.out.form
            have hszy : B ≤ wr.heap.size := by have := HBy.out.size; omega
            cases gk with
            | zero =>
              obtain rfl : j = ns.length := by omega
              have HO2 : Hid (OwnB B (.slice py (A1 ++ numsB ns ns.length).length cy) (putN n t (k + 1)) wr) := Lib.hid (by have h := HOy.out; rw [HE2.out] at h ⊢; exact h)
              clear HOy HU
              go_wp2
              go_roundg g
              case measure => omega
              case rel => exact ⟨k + 1, by go_num, by omega, HO2, HBy⟩
            | succ g2 =>
              have hj : j < ns.length := by omega
              obtain ⟨_, _, _, _, hat⟩ := HU.out.at
              obtain ⟨C, off, hpu, hC, cx⟩ := hat j hj
              subst hpu
              have hj2 : (j : Int) < (ns.length : Int) := by omega
              have hxi := HGE.out _ (List.getElem_mem hj)
              have hsl := numsB_succ ns j hj
              have hll := numsB_len ns j
              obtain ⟨x, hx⟩ : ∃ x, ns[j]'hj = x := ⟨_, rfl⟩
              rw [hx] at cx hxi hsl
              obtain ⟨y, rfl⟩ : ∃ y : Nat, x = (y : Int) := ⟨x.toNat, by omega⟩
              have hcall := putnumber_any HOy.out hszy (by rw [List.length_append]; omega) (show y ≤ 9223372036854775807 by omega)
              have HSL : Hid (A1 ++ numsB ns j ++ beZ 8 y = A1 ++ numsB ns (j + 1)) := Lib.hid (by rw [hsl, List.append_assoc]; rfl)
              rw [HSL.out] at hcall
              obtain ⟨L, hL⟩ : ∃ L, (A1 ++ numsB ns j).length = L := ⟨_, rfl⟩
              rw [hL] at hcall ⊢
              have HHL := Lib.hid hL
              clear hL hat hx hsl hxi hll
              go_wp2_with fail
              refine hcall.mono ?_
              rintro e w7 ⟨v7, rfl, hG⟩
              have HO7 := Lib.hid hG.1
              have HU7 : Hid (Tr (fun i => v7.ownBlock = some i) (.slice (some ⟨C, off, none⟩) ns.length cu) ns w7) := Lib.hid (tr_grew (by have h := HU.out; rw [HHL.out] at h; exact h) hG)
              have HB7 := Lib.hid (HBy.out.trans (hG.below (N := B) (fun g hg => by have h := HOy.out; rw [HHL.out] at h; exact (h.lt hg).1) hszy))
              clear hG hcall HOy HU HBy cx hC HSL HHL
              go_wp2
              go_roundg g2
              case measure => omega
              case rel => exact ⟨j + 1, by go_num, by omega, HO7, HU7, HB7⟩
        · have HE2 : Hid (putN n t k ++ numsB ns ns.length = putN n t (k + 1)) := Lib.hid (by rw [← HEND.out]; unfold headB; rw [if_neg hk10, List.append_nil])
          have hal : (putN n t k).length ≤ 300 := by omega
          have HO6 : Hid (OwnB B (.slice px (putN n t k).length cx') (putN n t k ++ numsB ns 0) w5) := Lib.hid (by rw [show numsB ns 0 = [] from rfl, List.append_nil]; exact HO5.out)
          clear HO5
          go_wp2
          go_loopg [4, 32] ns.length (fun g2 s4 s32 wy => ∃ j : Nat, s32 = .int .i64 (j : Int) ∧ g2 + j = ns.length ∧ Hid (OwnB B s4 (putN n t k ++ numsB ns j) wy) ∧ Hid (Tr (fun i => s4.ownBlock = some i) (.slice pu ns.length cu) ns wy) ∧ Hid (Below B w2 wy))
          case atStart => exact ⟨0, rfl, rfl, HO6, HU5, HB5⟩
          case round =>
            clear HO6 HU5 HB5
            obtain ⟨j, rfl, hgj, HOy, HU, HBy⟩ := hrel
            obtain ⟨py, cy, rfl⟩ := HOy.out.form
            have hszy : B ≤ wr.heap.size := by have := HBy.out.size; omega
            cases gk with
            | zero =>
              obtain rfl : j = ns.length := by omega
              have HO2 : Hid (OwnB B (.slice py (putN n t k ++ numsB ns ns.length).length cy) (putN n t (k + 1)) wr) := Lib.hid (by have h := HOy.out; rw [HE2.out] at h ⊢; exact h)
              clear HOy HU
              go_wp2
              go_roundg g
              case measure => omega
              case rel => exact ⟨k + 1, by go_num, by omega, HO2, HBy⟩
            | succ g2 =>
              have hj : j < ns.length := by omega
              obtain ⟨_, _, _, _, hat⟩ := HU.out.at
              obtain ⟨C, off, hpu, hC, cx⟩ := hat j hj
              subst hpu
              have hj2 : (j : Int) < (ns.length : Int) := by omega
              have hxi := HGE.out _ (List.getElem_mem hj)
              have hsl := numsB_succ ns j hj
              have hll := numsB_len ns j
              obtain ⟨x, hx⟩ : ∃ x, ns[j]'hj = x := ⟨_, rfl⟩
              rw [hx] at cx hxi hsl
              obtain ⟨y, rfl⟩ : ∃ y : Nat, x = (y : Int) := ⟨x.toNat, by omega⟩
              have hcall := putnumber_any HOy.out hszy (by rw [List.length_append]; omega) (show y ≤ 9223372036854775807 by omega)
              have HSL : Hid (putN n t k ++ numsB ns j ++ beZ 8 y = putN n t k ++ numsB ns (j + 1)) := Lib.hid (by rw [hsl, List.append_assoc]; rfl)
              rw [HSL.out] at hcall
              obtain ⟨L, hL⟩ : ∃ L, (putN n t k ++ numsB ns j).length = L := ⟨_, rfl⟩
              rw [hL] at hcall ⊢
              have HHL := Lib.hid hL
              clear hL hat hx hsl hxi hll
              go_wp2_with fail
              refine hcall.mono ?_
              rintro e w7 ⟨v7, rfl, hG⟩
              have HO7 := Lib.hid hG.1
              have HU7 : Hid (Tr (fun i => v7.ownBlock = some i) (.slice (some ⟨C, off, none⟩) ns.length cu) ns w7) := Lib.hid (tr_grew (by have h := HU.out; rw [HHL.out] at h; exact h) hG)
              have HB7 := Lib.hid (HBy.out.trans (hG.below (N := B) (fun g hg => by have h := HOy.out; rw [HHL.out] at h; exact (h.lt hg).1) hszy))
              clear hG hcall HOy HU HBy cx hC HSL HHL
              go_wp2
              go_roundg g2
              case measure => omega
              case rel => exact ⟨j + 1, by go_num, by omega, HO7, HU7, HB7⟩
  · have hr2 : rightZ n t = false := by simpa using hr
    rw [hr2] at hrg
    rw [if_neg hr]
    have HBe := Lib.hid HB0.out
    clear hr hr2 HP1 HT0 HB0
    go_enter Tryd.func12, Tryd.ntmps12
    go_wp2_with fail
    refine hrg.mono ?_
    rintro e w1 ⟨rfl, hB1⟩
    rw [hs1] at hB1
    have HB1 := Lib.hid (HBe.out.trans (hB1.mono (by omega)))
    clear hB1 hrg hs1 HBe
    go_wp2
    go_ret2
    exact ⟨rfl, by first | exact HB1.out | exact hN ▸ HB1.out⟩
end Go.Proofs.YtmlgcjfcbokibaaDoor.Po
