/- The chapter's own side: a text read as a policy. The chapter's own side: any text read as a policy. -/
import Derived.Test.YtdhkonaebhpeeaaDoorRsF
import Derived.Test.YtdhkonaebhpeeaaDoorRsD
import Derived.Test.YtdhkonaebhpeeaaDoorRtC
import Derived.Test.YtdhkonaebhpeeaaDoorRsC
import Derived.Test.YtdhkonaebhpeeaaDoorPoBe
import Derived.Deep.Cut
namespace Go.Proofs.YtdhkonaebhpeeaaDoor.Po
open Go Go.RowKit

theorem OwnI.cells {B g n c : Nat} {l : List Int} {w : World} (h : OwnI B (.slice (some ⟨g, 0, none⟩) n c) l w) : CellsAt g (valsI l).toArray w ∧ B ≤ g := by
  rcases h.2 with ⟨h1, _⟩ | ⟨g', cap, cur, hv, hb, hg, hn, hm, _, _⟩
  · cases h1
  · cases hv
    refine ⟨⟨(Array.getElem?_eq_some_iff.1 hg).1, fun i v hi => ?_, fun i v _ => ?_⟩, hb⟩
    · have hlt : i < l.length := by
        rcases Nat.lt_or_ge i l.length with h1 | h1
        · exact h1
        · rw [List.getElem?_toArray, List.getElem?_eq_none (by simpa [valsI] using h1)] at hi
          cases hi
      rw [World.ownsRow.cellAt h i (by omega)]
      simpa using hi
    · unfold World.frozen?
      rw [show (w.heap[(⟨g, i, none⟩ : Addr).block]?) = _ from hg]
      simp
/-- Which were met. -/
def metV (m : List Nat) : Array Value := ((List.range 11).map fun k => Value.bool (decide (k ∈ m))).toArray
theorem metV_at (m : List Nat) (k : Nat) (hk : k < 11) : (metV m)[k]? = some (.bool (decide (k ∈ m))) := by
  unfold metV
  rw [List.getElem?_toArray, List.getElem?_map, List.getElem?_range hk]
  rfl
theorem two_parts {ps : List (List UInt8)} (h0 : 0 < ps.length) (h : ps.length = 2) : ∃ v, ps = [ps[0], v] := by
  match ps, h with
  | [_, v], _ => exact ⟨v, rfl⟩
theorem metV_size (m : List Nat) : (metV m).size = 11 := by unfold metV; simp
theorem metV_set (m : List Nat) (k : Nat) (hk : k < 11) : (metV m).setIfInBounds k (.bool true) = metV (k :: m) := by
  apply Array.ext_getElem?
  intro i
  rcases Nat.lt_or_ge i 11 with h | h
  · rw [metV_at _ i h]
    by_cases e : k = i
    · subst e
      rw [Array.getElem?_setIfInBounds_self_of_lt (by rw [metV_size]; exact hk)]
      simp
    · rw [Array.getElem?_setIfInBounds_ne e, metV_at _ i h]
      have : i ≠ k := fun h => e h.symm
      simp [this]
  · rw [Array.getElem?_eq_none (by simp [metV_size]; omega), Array.getElem?_eq_none (by rw [metV_size]; omega)]
theorem atN_lt (a : List UInt8) : ∀ k : Nat, atN a k < (k : Int)
  | 0 => by rw [atN]; decide
  | k + 1 => by
    rw [atN]
    have := atN_lt a k
    split <;> omega
theorem valsI_set (l : List Int) (k : Nat) (x : Int) : (valsI l).toArray.setIfInBounds k (.int .i64 x) = (valsI (l.set k x)).toArray := by
  unfold valsI
  rw [List.setIfInBounds_toArray, List.map_set]
/-- What has been read so far, where it lies. -/
structure RdAt (G M : Nat) (S : Nat → Prop) (st : StZ) (v : Value) (W : World) : Prop where
  n10 : st.n.length = 10
  nin : ∀ x ∈ st.n, In64 x
  row : CellsAt G (valsI st.n).toArray W
  tr : Tr S v st.t W
  met : CellsAt M (metV st.met) W
theorem RdAt.below {G M : Nat} {S : Nat → Prop} {st : StZ} {v : Value} {W W' : World} (h : RdAt G M S st v W) (hB : Below W.heap.size W W') : RdAt G M S st v W' :=
  ⟨h.n10, h.nin, h.row.below hB, h.tr.below hB, h.met.below hB⟩
set_option maxRecDepth 100000 in
set_option maxHeartbeats 16000000 in
theorem ref_read_some (ch : UInt8) (r : List UInt8) (hl : (ch :: r).length ≤ 1099511627776) (w : World) :
    Calls Tryd.prog 24 #[.string (tx (ch :: r))] w fun e w' => ∃ v, e = .returned (ReadV (readZ (ch :: r)) v) ∧ Tr (fun _ => False) v (readZ (ch :: r)).2.1 w' ∧ Below w.heap.size w w' := by
  obtain ⟨N, hN⟩ : ∃ N, w.heap.size = N := ⟨_, rfl⟩
  have hB0 : Below N w (w.alloc (.cells #[.int .i64 0, .int .i64 0, .int .i64 0, .int .i64 0, .int .i64 0, .int .i64 0, .int .i64 0, .int .i64 0, .int .i64 0, .int .i64 0, .slice none 0 0] 33)) := (Below.refl N w).alloc (by omega) _
  have HZ0 : Hid (PolAt N zeroN (.slice none 0 0) (w.alloc (.cells #[.int .i64 0, .int .i64 0, .int .i64 0, .int .i64 0, .int .i64 0, .int .i64 0, .int .i64 0, .int .i64 0, .int .i64 0, .int .i64 0, .slice none 0 0] 33))) := Lib.hid (CellsAt.newAt #[.int .i64 0, .int .i64 0, .int .i64 0, .int .i64 0, .int .i64 0, .int .i64 0, .int .i64 0, .int .i64 0, .int .i64 0, .int .i64 0, .slice none 0 0] 33 w N hN.symm)
  have HB0 := Lib.hid hB0
  have hs1 : (w.alloc (.cells #[.int .i64 0, .int .i64 0, .int .i64 0, .int .i64 0, .int .i64 0, .int .i64 0, .int .i64 0, .int .i64 0, .int .i64 0, .int .i64 0, .slice none 0 0] 33)).heap.size = N + 1 := by simp [hN]
  have hne := txt_ne (l := ch :: r) (by simp)
  have hne2 := txt_no (l := ch :: r) (by simp)
  have hsz : (tx (ch :: r)).size ≤ 1099511627776 := by rw [tx_len]; exact hl
  have hcut : ∀ W, Calls Tryd.prog 42 #[.string (tx (ch :: r)), .int .u8 32] W fun e w' => ∃ v, e = .returned v ∧ OwnT W.heap.size v (cutB 32 (ch :: r)) w' ∧ Below W.heap.size W w' := fun W => cut_any (tx (ch :: r)) 32 hsz W
  obtain ⟨ws, hws⟩ : ∃ ws, cutB 32 (ch :: r) = ws := ⟨_, rfl⟩
  rw [hws] at hcut
  obtain ⟨R, hR⟩ : ∃ R, readZ (ch :: r) = R := ⟨_, rfl⟩
  have hR2 : R = match wordsZ baseZ ws with
    | none => (zeroN, [], 2)
    | some st => if rightZ st.n st.t then (st.n, st.t, 0) else (zeroN, [], 1) := by
    rw [← hR, ← hws]
    unfold readZ
    rw [if_neg (by simp)]
    rfl
  have HR := Lib.hid hR2
  rw [hR]
  obtain ⟨TT, hTT⟩ : ∃ T, tx (ch :: r) = T := ⟨_, rfl⟩
  rw [hTT] at hne hne2 hsz hcut ⊢
  have HWS := Lib.hid hws
  have hb := fun W => refbase_of W
  clear hR hR2 hB0 hws hTT
  go_enter Tryd.func24, Tryd.ntmps24
  go_wp2_with fail
  refine (hb _).mono ?_
  rintro e w1 ⟨v, rfl, hO, hB1⟩
  rw [hs1] at hO hB1
  obtain ⟨P, hP⟩ : ∃ P, w1.heap.size = P := ⟨_, rfl⟩
  have hNP : N < P := by have := hB1.size; omega
  obtain ⟨p, c, hv⟩ := hO.len
  rw [show baseZ.t.length = 2 from rfl] at hv
  subst hv
  have hPA : CellsAt P #[.int .i64 64, .int .i64 32, .int .i64 64, .int .i64 8, .int .i64 6, .int .i64 2, .int .i64 2, .int .i64 60, .int .i64 30, .int .i64 5, .slice p 2 c] (w1.alloc (.cells #[.int .i64 64, .int .i64 32, .int .i64 64, .int .i64 8, .int .i64 6, .int .i64 2, .int .i64 2, .int .i64 60, .int .i64 30, .int .i64 5, .slice p 2 c] 33)) := CellsAt.newAt #[.int .i64 64, .int .i64 32, .int .i64 64, .int .i64 8, .int .i64 6, .int .i64 2, .int .i64 2, .int .i64 60, .int .i64 30, .int .i64 5, .slice p 2 c] 33 w1 P hP.symm
  have hBp : Below w1.heap.size w1 (w1.alloc (.cells #[.int .i64 64, .int .i64 32, .int .i64 64, .int .i64 8, .int .i64 6, .int .i64 2, .int .i64 2, .int .i64 60, .int .i64 30, .int .i64 5, .slice p 2 c] 33)) := (Below.refl _ _).alloc (Nat.le_refl _) _
  have hTA : Tr (fun j => j = N ∨ P ≤ j) (.slice p 2 c) baseZ.t w1 := hO.tr2 (fun g h1 h2 => by omega) base_tin
  have HTA := Lib.hid (hTA.below hBp)
  have HZ1 := Lib.hid ((CellsAt.belowAt HZ0.out hB1 (by omega)).belowAt (hBp.mono (by omega : N + 1 ≤ w1.heap.size)) (by omega))
  have HB1 := Lib.hid ((HB0.out.trans (hB1.mono (by omega))).trans (hBp.mono (by omega)))
  have hnum : ∀ W, Calls Tryd.prog 32 #[.agg #[.int .i64 64, .int .i64 32, .int .i64 64, .int .i64 8, .int .i64 6, .int .i64 2, .int .i64 2, .int .i64 60, .int .i64 30, .int .i64 5, .slice p 2 c]] W fun e w' => ∃ g, e = .returned (.slice (some ⟨g, 0, none⟩) 10 10) ∧ OwnI W.heap.size (.slice (some ⟨g, 0, none⟩) 10 10) baseZ.n w' ∧ Below W.heap.size W w' := fun W => refnumbers_any baseZ.n p 2 c W rfl
  have hs2 : (w1.alloc (.cells #[.int .i64 64, .int .i64 32, .int .i64 64, .int .i64 8, .int .i64 6, .int .i64 2, .int .i64 2, .int .i64 60, .int .i64 30, .int .i64 5, .slice p 2 c] 33)).heap.size = P + 1 := by simp [hP]
  rw [show valsP baseZ.n (.slice p 2 c) = #[.int .i64 64, .int .i64 32, .int .i64 64, .int .i64 8, .int .i64 6, .int .i64 2, .int .i64 2, .int .i64 60, .int .i64 30, .int .i64 5, .slice p 2 c] from rfl]
  have HPA := Lib.hid hPA
  clear hTA hO hB1 hBp HZ0 HB0 hb hs1 hPA
  go_wp2_with fail
  refine (hnum _).mono ?_
  rintro e w2 ⟨G, rfl, hG, hB2⟩
  rw [hs2] at hG hB2
  obtain ⟨hGc, hPG⟩ := hG.cells
  have hPA := CellsAt.belowAt HPA.out hB2 (by omega)
  have k10 := hPA.cell 10 _ rfl
  have kl := hPA.lt
  have HPA2 := Lib.hid hPA
  have HZ2 := Lib.hid (CellsAt.belowAt HZ1.out hB2 (by omega))
  have HT2 := Lib.hid (HTA.out.below (by rw [hs2]; exact hB2))
  have HB2 := Lib.hid (HB1.out.trans (hB2.mono (by omega)))
  have HG2 := Lib.hid hGc
  obtain ⟨M, hM⟩ : ∃ M, w2.heap.size = M := ⟨_, rfl⟩
  have hGM : G < M := by rw [← hM]; exact hGc.lt
  have hMA : CellsAt M #[.bool false, .bool false, .bool false, .bool false, .bool false, .bool false, .bool false, .bool false, .bool false, .bool false, .bool false] (w2.alloc (.cells #[.bool false, .bool false, .bool false, .bool false, .bool false, .bool false, .bool false, .bool false, .bool false, .bool false, .bool false] 85)) := CellsAt.newAt #[.bool false, .bool false, .bool false, .bool false, .bool false, .bool false, .bool false, .bool false, .bool false, .bool false, .bool false] 85 w2 M hM.symm
  have hBm : Below w2.heap.size w2 (w2.alloc (.cells #[.bool false, .bool false, .bool false, .bool false, .bool false, .bool false, .bool false, .bool false, .bool false, .bool false, .bool false] 85)) := (Below.refl _ _).alloc (Nat.le_refl _) _
  have HR0 : Hid (RdAt G M (fun j => j = N ∨ j = P ∨ j = G ∨ j = M) baseZ (.slice p 2 c) (w2.alloc (.cells #[.bool false, .bool false, .bool false, .bool false, .bool false, .bool false, .bool false, .bool false, .bool false, .bool false, .bool false] 85))) := Lib.hid ⟨rfl, base_in, HG2.out.below hBm, (HT2.out.weak (fun j h _ => by omega)).below hBm, hMA⟩
  have HZ3 := Lib.hid (CellsAt.below HZ2.out hBm)
  have HP3 := Lib.hid (CellsAt.below HPA2.out hBm)
  have HB3 := Lib.hid (HB2.out.trans (hBm.mono (by omega)))
  have hs3 : (w2.alloc (.cells #[.bool false, .bool false, .bool false, .bool false, .bool false, .bool false, .bool false, .bool false, .bool false, .bool false, .bool false] 85)).heap.size = M + 1 := by simp [hM]
  clear hPA hGc hG hB2 hnum HTA HZ1 HB1 HPA HT2 HG2 HZ2 HPA2 HB2 hMA hBm hs2
  go_wp2_with fail
  refine (hcut _).mono ?_
  rintro e w4 ⟨vw, rfl, hW4, hB4⟩
  have HR4 := Lib.hid (HR0.out.below hB4)
  have HZ4 := Lib.hid (CellsAt.below HZ3.out hB4)
  have HP4 := Lib.hid (CellsAt.below HP3.out hB4)
  have HB4 := Lib.hid (HB3.out.trans (hB4.mono (by omega)))
  rw [hs3] at hW4
  clear hcut hB4 HR0 HZ3 HP3 HB3 k10 kl
  obtain ⟨K, cap, rfl, hMK, hK4, hcap, hcm, hce⟩ : ∃ K cap, vw = .slice (some ⟨K, 0, none⟩) ws.length cap ∧ M + 1 ≤ K ∧ K < w4.heap.size ∧ ws.length ≤ cap ∧ cap ≤ maxLen ∧ ∀ k (hk : k < ws.length), w4.cell? ⟨K, k, none⟩ = some (Value.string (tx (ws[k]))) := by
    rcases hW4.form with ⟨_, h⟩ | h
    · exact absurd (HWS.out.trans h) (cutB_ne _ _)
    · exact h
  have HCE := Lib.hid hce
  have HLW : Hid (∀ k (hk : k < ws.length), (ws[k]).length ≤ 1099511627776) := Lib.hid (fun k hk => by
    have h1 := cut_part 32 (ch :: r) (ws[k]) (by rw [HWS.out]; exact List.getElem_mem hk)
    omega)
  have hLb : ws.length ≤ 1099511627777 := by
    have h1 := cut_len 32 (ch :: r)
    rw [HWS.out] at h1
    omega
  obtain ⟨L, hL⟩ : ∃ L, ws.length = L := ⟨_, rfl⟩
  have HL := Lib.hid hL
  have HW0 : Hid (wordsZ baseZ ws = wordsZ baseZ (ws.drop 0)) := Lib.hid rfl
  have HM0 : Hid (Mov (fun j => j = G ∨ j = M) w4 w4) := Lib.hid (Mov.refl _ _)
  rw [hL] at hLb hcap ⊢
  clear hce hW4 hL hl hsz hne hne2
  go_wp2
  go_loopg [6, 9] L (fun g s6 s9 wx => ∃ (i : Nat) (st : StZ) (v6 : Value), s9 = .int .i64 (i : Int) ∧ g + i = L ∧ v6 = s6 ∧ Hid (wordsZ baseZ ws = wordsZ st (ws.drop i)) ∧ Hid (RdAt G M (fun j => j = N ∨ j = P ∨ j = G ∨ j = M) st v6 wx) ∧ Hid (Mov (fun j => j = G ∨ j = M) w4 wx))
  case atStart => exact ⟨0, baseZ, _, rfl, by omega, rfl, HW0, HR4, HM0⟩
  case round =>
    clear HW0 HM0 HR4
    obtain ⟨i, st, v6, rfl, hgi, rfl, HWD, HRD, HMV⟩ := hrel
    cases gk with
    | zero =>
      obtain rfl : i = L := by omega
      have hmw : wordsZ baseZ ws = some st := by
        rw [HWD.out, ← HL.out, List.drop_length]
        rfl
      have hRv := HR.out
      rw [hmw] at hRv
      obtain ⟨n, t, met⟩ := st
      have hn10 := HRD.out.n10
      have hnin := HRD.out.nin
      have hrow := HRD.out.row
      have htr := HRD.out.tr
      dsimp only at hn10 hnin hrow htr hRv
      obtain ⟨x0, x1, x2, x3, x4, x5, x6, x7, x8, x9, rfl⟩ := ten_of hn10
      obtain ⟨q, d, rfl⟩ := htr.len
      obtain ⟨l, hl⟩ : ∃ l, t.length = l := ⟨_, rfl⟩
      have hlm := htr.short
      rw [hl] at htr hlm
      unfold maxLen at hlm
      have hof : Calls Tryd.prog 44 #[.slice (some ⟨G, 0, none⟩) 10 10, .slice q l d] wr fun e w' => e = .returned (.agg #[.int .i64 x0, .int .i64 x1, .int .i64 x2, .int .i64 x3, .int .i64 x4, .int .i64 x5, .int .i64 x6, .int .i64 x7, .int .i64 x8, .int .i64 x9, .slice q l d]) ∧ Below wr.heap.size wr w' := of_any x0 x1 x2 x3 x4 x5 x6 x7 x8 x9 G 10 q l d wr hrow.lt (by omega) (hrow.cell 0 _ rfl) (hrow.cell 1 _ rfl) (hrow.cell 2 _ rfl) (hrow.cell 3 _ rfl) (hrow.cell 4 _ rfl) (hrow.cell 5 _ rfl) (hrow.cell 6 _ rfl) (hrow.cell 7 _ rfl) (hrow.cell 8 _ rfl) (hrow.cell 9 _ rfl)
      have HZ5 := Lib.hid (cells_mov HZ4.out HMV.out (by omega))
      have HP5 := Lib.hid (cells_mov HP4.out HMV.out (by omega))
      have HB5 := Lib.hid (HB4.out.trans (HMV.out.below (N := N) (fun j h => by omega) (by have := HZ4.out.lt; omega)))
      have HT5 := Lib.hid htr
      have HRV := Lib.hid hRv
      have HLT := Lib.hid hl
      rw [hl]
      clear hmw hRv hn10 hnin hrow htr hl HWD HRD HMV HR HZ4 HP4 HB4 HCE HLW hgi
      go_wp2_with fail
      refine hof.mono ?_
      rintro e w5 ⟨rfl, hB6⟩
      have HZ6 := Lib.hid (HZ5.out.below hB6)
      have HP6 := Lib.hid (HP5.out.below hB6)
      have HB6 := Lib.hid (HB5.out.trans (hB6.mono (Nat.le_of_lt HZ5.out.lt)))
      have HT6 := Lib.hid (HT5.out.below hB6)
      clear hof hB6 HZ5 HP5 HB5 HT5
      have hP7 : PolAt P [x0, x1, x2, x3, x4, x5, x6, x7, x8, x9] (.slice q l d) (w5.setCells P 0 (valsP [x0, x1, x2, x3, x4, x5, x6, x7, x8, x9] (.slice q l d)).toList) := pol_put (n := [x0, x1, x2, x3, x4, x5, x6, x7, x8, x9]) (v := .slice q l d) (show PolAt P baseZ.n (.slice p 2 c) w5 from HP6.out) rfl rfl
      have HP7 : Hid (CellsAt P #[.int .i64 x0, .int .i64 x1, .int .i64 x2, .int .i64 x3, .int .i64 x4, .int .i64 x5, .int .i64 x6, .int .i64 x7, .int .i64 x8, .int .i64 x9, .slice q l d] (w5.setCells P 0 (valsP [x0, x1, x2, x3, x4, x5, x6, x7, x8, x9] (.slice q l d)).toList)) := Lib.hid hP7
      have hM7 : Mov (fun j => j = P) w5 (w5.setCells P 0 (valsP [x0, x1, x2, x3, x4, x5, x6, x7, x8, x9] (.slice q l d)).toList) := Mov.sets (S := fun j => j = P) rfl (valsP [x0, x1, x2, x3, x4, x5, x6, x7, x8, x9] (.slice q l d)).toList 0 _ (Mov.refl _ _)
      have HZ7 := Lib.hid (cells_mov HZ6.out hM7 (by omega))
      have HT7 : Hid (Tr (fun j => j = N) (.slice q l d) t (w5.setCells P 0 (valsP [x0, x1, x2, x3, x4, x5, x6, x7, x8, x9] (.slice q l d)).toList)) := Lib.hid ((HT6.out.mov hM7 (fun j h _ => by omega)).weak (fun j h _ => by omega))
      have HB7 : Hid (Below N w (w5.setCells P 0 (valsP [x0, x1, x2, x3, x4, x5, x6, x7, x8, x9] (.slice q l d)).toList)) := Lib.hid (below_sets (by omega) _ 0 w _ HB6.out)
      clear hP7 hM7
      go_upto_region 37 with (refine wpList_store_cells rfl 33 _ _ rfl P (valsP [x0, x1, x2, x3, x4, x5, x6, x7, x8, x9] (.slice q l d)) (valsP baseZ.n (.slice p 2 c)) rfl rfl HP6.out (by kernel_rfl) (by kernel_rfl) (by simp [valsP, Value.oneCell']) ?_)
      clear HZ6 HP6 HB6 HT6
      generalize (w5.setCells P 0 (valsP [x0, x1, x2, x3, x4, x5, x6, x7, x8, x9] (.slice q l d)).toList) = W7 at *
      have hlt := HLT.out
      have hrg := ref_right_in x0 x1 x2 x3 x4 x5 x6 x7 x8 x9 q l d t hlt W7 (by omega) (HT7.out.weak (fun j h _ => h.elim))
      have hP7 := HP7.out
      have p0 := hP7.cell 0 _ rfl
      have p1 := hP7.cell 1 _ rfl
      have p2 := hP7.cell 2 _ rfl
      have p3 := hP7.cell 3 _ rfl
      have p4 := hP7.cell 4 _ rfl
      have p5 := hP7.cell 5 _ rfl
      have p6 := hP7.cell 6 _ rfl
      have p7 := hP7.cell 7 _ rfl
      have p8 := hP7.cell 8 _ rfl
      have p9 := hP7.cell 9 _ rfl
      have p10 := hP7.cell 10 _ rfl
      simp only [List.getElem_toArray, List.getElem_cons_zero, List.getElem_cons_succ] at p0 p1 p2 p3 p4 p5 p6 p7 p8 p9 p10
      have hPl := hP7.lt
      obtain ⟨b, hb⟩ : ∃ b, rightZ [x0, x1, x2, x3, x4, x5, x6, x7, x8, x9] t = b := ⟨_, rfl⟩
      rw [hb] at hrg
      have hF := HRV.out
      rw [hb] at hF
      clear hlt hP7
      cases b with
      | false =>
        rw [if_neg (by simp)] at hF
        subst hF
        clear hb HRV
        go_wp2_with fail
        refine hrg.mono ?_
        rintro e w8 ⟨rfl, hB8⟩
        have HZ8 := Lib.hid (HZ7.out.below hB8)
        have HB8 := Lib.hid (HB7.out.trans (hB8.mono (Nat.le_of_lt HZ7.out.lt)))
        clear hB8 hrg HZ7 HB7 HP7 HT7 hPl p0 p1 p2 p3 p4 p5 p6 p7 p8 p9 p10
        go_wp2_with (refine wpList_store_cells rfl 33 _ _ rfl N (valsP zeroN (.slice none 0 0)) (valsP zeroN (.slice none 0 0)) rfl rfl HZ8.out (by kernel_rfl) (by kernel_rfl) (by kernel_rfl) ?_)
        refine bodyPost_ret (result_cell2 rfl rfl (load_ref (pol_put (n := zeroN) (v := .slice none 0 0) HZ8.out rfl rfl) rfl)) rfl ?_
        exact ⟨.slice none 0 0, rfl, Tr.nil _ _, hN ▸ below_sets (Nat.le_refl N) _ 0 w _ HB8.out⟩
      | true =>
        rw [if_pos rfl] at hF
        subst hF
        clear hb HRV
        go_wp2_with fail
        refine hrg.mono ?_
        rintro e w8 ⟨rfl, hB8⟩
        have HZ8 := Lib.hid (HZ7.out.below hB8)
        have hP8 := HP7.out.below hB8
        have r0 := hP8.cell 0 _ rfl
        have r1 := hP8.cell 1 _ rfl
        have r2 := hP8.cell 2 _ rfl
        have r3 := hP8.cell 3 _ rfl
        have r4 := hP8.cell 4 _ rfl
        have r5 := hP8.cell 5 _ rfl
        have r6 := hP8.cell 6 _ rfl
        have r7 := hP8.cell 7 _ rfl
        have r8 := hP8.cell 8 _ rfl
        have r9 := hP8.cell 9 _ rfl
        have r10 := hP8.cell 10 _ rfl
        simp only [List.getElem_toArray, List.getElem_cons_zero, List.getElem_cons_succ] at r0 r1 r2 r3 r4 r5 r6 r7 r8 r9 r10
        have hPl8 := hP8.lt
        have HT8 := Lib.hid (HT7.out.below hB8)
        have HB8 := Lib.hid (HB7.out.trans (hB8.mono (Nat.le_of_lt HZ7.out.lt)))
        clear hB8 hrg HZ7 HB7 HP7 HT7 hP8 hPl p0 p1 p2 p3 p4 p5 p6 p7 p8 p9 p10
        go_wp2_with (refine wpList_store_cells rfl 33 _ _ rfl N (valsP [x0, x1, x2, x3, x4, x5, x6, x7, x8, x9] (.slice q l d)) (valsP zeroN (.slice none 0 0)) rfl rfl HZ8.out (by kernel_rfl) (by kernel_rfl) (by simp [valsP, Value.oneCell']) ?_)
        refine bodyPost_ret (result_cell2 rfl rfl (load_ref (pol_put (n := [x0, x1, x2, x3, x4, x5, x6, x7, x8, x9]) (v := .slice q l d) HZ8.out rfl rfl) rfl)) rfl ?_
        exact ⟨.slice q l d, rfl, (HT8.out.mov (Mov.sets (S := fun j => j = N) rfl _ 0 _ (Mov.refl _ _)) (fun j h _ => h)).weak (fun j h _ => h.elim), hN ▸ below_sets (Nat.le_refl N) _ 0 w _ HB8.out⟩
    | succ g =>
      have hiL : i < L := by omega
      have hii : (i : Int) < (L : Int) := by omega
      have hlt : i < ws.length := by rw [HL.out]; exact hiL
      have hxl := HLW.out i hlt
      have hcx := (HMV.out.cell (k := K) (i := i) hK4 (by omega)).trans (HCE.out i hlt)
      have hwd := HWD.out
      rw [words_drop hlt] at hwd
      obtain ⟨x, hx⟩ : ∃ x, ws[i] = x := ⟨_, rfl⟩
      rw [hx] at hxl hcx hwd
      have HWD2 := Lib.hid hwd
      have hKr : K < wr.heap.size := by have := HMV.out.size; omega
      have hcut : ∀ W, Calls Tryd.prog 42 #[.string (tx x), .int .u8 61] W fun e w' => ∃ v, e = .returned v ∧ OwnT W.heap.size v (cutB 61 x) w' ∧ Below W.heap.size W w' := fun W => cut_any (tx x) 61 (by rw [tx_len]; exact hxl) W
      obtain ⟨ps, hps⟩ : ∃ ps, cutB 61 x = ps := ⟨_, rfl⟩
      rw [hps] at hcut
      have HPS := Lib.hid hps
      have HXL := Lib.hid hxl
      have HGI := Lib.hid hgi
      clear hlt hx hps hwd HWD hxl hgi
      go_wp2_with fail
      refine (hcut _).mono ?_
      rintro e w5 ⟨vp, rfl, hO, hB5⟩
      have HR5 := Lib.hid (HRD.out.below hB5)
      have HM5 := Lib.hid (HMV.out.trans (Mov.of hB5) (fun j h1 h2 => by have := HMV.out.size; omega))
      obtain ⟨Hp, cp, rfl, hMH, hHl, hcpl, hcpm, hpc⟩ : ∃ Hp cp, vp = .slice (some ⟨Hp, 0, none⟩) ps.length cp ∧ wr.heap.size ≤ Hp ∧ Hp < w5.heap.size ∧ ps.length ≤ cp ∧ cp ≤ maxLen ∧ ∀ k (hk : k < ps.length), w5.cell? ⟨Hp, k, none⟩ = some (Value.string (tx (ps[k]))) := by
        rcases hO.form with ⟨_, h⟩ | h
        · exact absurd (HPS.out.trans h) (cutB_ne _ _)
        · exact h
      have hpn : 0 < ps.length := by
        rcases Nat.eq_zero_or_pos ps.length with h | h
        · exact absurd (HPS.out.trans (List.eq_nil_of_length_eq_zero h)) (cutB_ne _ _)
        · exact h
      have hpb : ps.length ≤ 1099511627777 := by
        have h1 := cut_len 61 x
        rw [HPS.out] at h1
        have := HXL.out
        omega
      have hc0 := hpc 0 hpn
      have HPC := Lib.hid hpc
      obtain ⟨a, ha⟩ : ∃ a, ps[0] = a := ⟨_, rfl⟩
      rw [ha] at hc0
      have HA := Lib.hid ha
      obtain ⟨lp, hlp⟩ : ∃ lp, ps.length = lp := ⟨_, rfl⟩
      have HLP := Lib.hid hlp
      rw [hlp] at hpn hpb hcpl ⊢
      have hlp0 : (0 : Int) < (lp : Int) := by omega
      have HB50 : Hid (Below w5.heap.size w5 w5) := Lib.hid (Below.refl _ _)
      clear hcut hO hB5 HRD HMV hpc ha hlp hcx
      go_wp2
      go_loopg [11, 12] 10 (fun g2 s11 s12 wy => ∃ k : Nat, s12 = .int .i64 (k : Int) ∧ g2 + k = 10 ∧ s11 = .int .i64 (atN a k) ∧ Hid (Below w5.heap.size w5 wy))
      case atStart => exact ⟨0, rfl, by omega, rfl, HB50⟩
      case round =>
        clear HB50
        obtain ⟨k, rfl, hgk, rfl, HB5⟩ := hrel
        cases gk with
        | zero =>
          obtain rfl : k = 10 := by omega
          have hw5 := HM5.out.size
          have HZ6 := Lib.hid (CellsAt.below (cells_mov HZ4.out HM5.out (by omega)) HB5.out)
          have HP6 := Lib.hid (CellsAt.below (cells_mov HP4.out HM5.out (by omega)) HB5.out)
          have HR6 := Lib.hid (HR5.out.below HB5.out)
          have HM6 := Lib.hid (HM5.out.trans (Mov.of HB5.out) (fun j h1 h2 => by omega))
          have HB6 : Hid (Below N w wr) := Lib.hid (HB4.out.trans (HM6.out.below (N := N) (fun j h => by omega) (by have := HZ4.out.lt; omega)))
          have HRN : Hid (wordZ st x = none → R = (zeroN, [], 2)) := Lib.hid (fun h => by rw [HR.out, HWD2.out, h])
          have hca : wr.cell? ⟨Hp, 0, none⟩ = some (.string (tx a)) := (HB5.out.cell (p := ⟨Hp, 0, none⟩) hHl).trans hc0
          have hHw : Hp < wr.heap.size := Nat.lt_of_lt_of_le hHl HB5.out.size
          have HPD : Hid (∀ k (hk : k < ps.length), wr.cell? ⟨Hp, k, none⟩ = some (Value.string (tx (ps[k])))) := Lib.hid (fun k hk => (HB5.out.cell (p := ⟨Hp, k, none⟩) hHl).trans (HPC.out k hk))
          have htq := tx_eq a (nameN 10)
          rw [show (tx (nameN 10)).toList = ([116, 105, 101, 114, 115] : List UInt8) from (Lib.toList_data _).trans (list_tx _)] at htq
          have hMw : M + 1 ≤ wr.heap.size := by have := HB5.out.size; omega
          clear hc0 hcpl HM5 HR5 HB5 HPC hgk hw5
          by_cases hl2 : lp = 2
          · subst hl2
            obtain ⟨v, hv⟩ := two_parts (by rw [HLP.out]; omega) HLP.out
            rw [HA.out] at hv
            have hwz := word_at (s := st) (HPS.out.trans hv)
            have hcv : wr.cell? ⟨Hp, 1, none⟩ = some (.string (tx v)) := by
              have h := HPD.out 1 (by rw [HLP.out]; omega)
              simp only [hv] at h
              exact h
            have hvl : v.length ≤ 1099511627776 := by
              have h1 := cut_part 61 x v (by rw [HPS.out, hv]; simp)
              have := HXL.out
              omega
            have hMl : M < wr.heap.size := hMw
            clear HPD hv
            by_cases hat : a = nameN 10
            · rw [decide_eq_true hat] at htq
              have hT10 : atT a = 10 := by unfold atT; rw [if_pos hat.symm]
              rw [hT10] at hwz
              rw [if_neg (by decide), if_pos rfl] at hwz
              rw [show ((10 : Int).toNat) = 10 from rfl] at hwz
              have hmc := HR6.out.met.cell 10 _ (metV_at st.met 10 (by decide))
              have hmf := HR6.out.met.fro 10 _ (metV_at st.met 10 (by decide))
              clear hat hT10
              by_cases hmet : 10 ∈ st.met
              · rw [decide_eq_true hmet] at hmc
                rw [if_pos hmet] at hwz
                have hRn := HRN.out hwz
                subst hRn
                clear HR hmet hwz
                go_wp2_with (refine wpList_store_cells rfl 33 _ _ rfl N (valsP zeroN (.slice none 0 0)) (valsP zeroN (.slice none 0 0)) rfl rfl HZ6.out (by kernel_rfl) (by kernel_rfl) (by kernel_rfl) ?_)
                refine bodyPost_ret (result_cell2 rfl rfl (load_ref (pol_put (n := zeroN) (v := .slice none 0 0) HZ6.out rfl rfl) rfl)) rfl ?_
                exact ⟨.slice none 0 0, rfl, Tr.nil _ _, hN ▸ below_sets (Nat.le_refl N) _ 0 w _ HB6.out⟩
              · rw [decide_eq_false hmet] at hmc
                rw [if_neg hmet] at hwz
                have hM7 : Mov (fun j => j = M) wr ((wr.setCell ⟨M, 10, none⟩ (.bool true)).alloc (.cells #[.string (tx v)] 9)) := (Mov.set (S := fun j => j = M) (Mov.refl _ _) rfl 10 _).alloc _
                have HRow7 := Lib.hid (cells_mov HR6.out.row hM7 (by omega))
                have HMet7 : Hid (CellsAt M (metV (10 :: st.met)) ((wr.setCell ⟨M, 10, none⟩ (.bool true)).alloc (.cells #[.string (tx v)] 9))) := Lib.hid (by
                  have h := (HR6.out.met.set 10 (.bool true) (by rw [metV_size]; omega)).past (.cells #[.string (tx v)] 9)
                  rwa [metV_set _ 10 (by omega)] at h)
                have HN10 := Lib.hid HR6.out.n10
                have HNIN := Lib.hid HR6.out.nin
                have HM7 : Hid (Mov (fun j => j = G ∨ j = M) w4 ((wr.setCell ⟨M, 10, none⟩ (.bool true)).alloc (.cells #[.string (tx v)] 9))) := Lib.hid (HM6.out.trans hM7 (fun j _ h => .inr h))
                have HB7 : Hid (Below N w ((wr.setCell ⟨M, 10, none⟩ (.bool true)).alloc (.cells #[.string (tx v)] 9))) := Lib.hid (HB6.out.trans (hM7.below (N := N) (fun j h => by omega) (by have := HZ6.out.lt; omega)))
                have HZ7 := Lib.hid (cells_mov HZ6.out hM7 (by omega))
                have hs7 : wr.heap.size ≤ ((wr.setCell ⟨M, 10, none⟩ (.bool true)).alloc (.cells #[.string (tx v)] 9)).heap.size := hM7.size
                have HWZ := Lib.hid hwz
                have hcut7 : ∀ W, Calls Tryd.prog 42 #[.string (tx v), .int .u8 47] W fun e w' => ∃ vl, e = .returned vl ∧ OwnT W.heap.size vl (cutB 47 v) w' ∧ Below W.heap.size W w' := fun W => cut_any (tx v) 47 (by rw [tx_len]; exact hvl) W
                obtain ⟨ls, hls⟩ : ∃ ls, cutB 47 v = ls := ⟨_, rfl⟩
                rw [hls] at hcut7
                have HLS := Lib.hid hls
                clear hmet hwz hM7 HM6 HB6 HZ6 HR6 hls
                go_wp2_with fail
                refine (hcut7 _).mono ?_
                rintro e w6 ⟨vl, rfl, hO6, hB6⟩
                have hs8 := hB6.size
                have HRow8 := Lib.hid (HRow7.out.below hB6)
                have HMet8 := Lib.hid (HMet7.out.below hB6)
                have HM8 := Lib.hid (HM7.out.trans (Mov.of hB6) (fun j h1 h2 => by have := HM7.out.size; omega))
                have HB8 := Lib.hid (HB7.out.trans (hB6.mono (Nat.le_of_lt HZ7.out.lt)))
                have HZ8 := Lib.hid (HZ7.out.below hB6)
                obtain ⟨Kl, cl, rfl, hKl1, hKl2, hcl, hclm, hcle⟩ : ∃ Kl cl, vl = .slice (some ⟨Kl, 0, none⟩) ls.length cl ∧ ((wr.setCell ⟨M, 10, none⟩ (.bool true)).alloc (.cells #[.string (tx v)] 9)).heap.size ≤ Kl ∧ Kl < w6.heap.size ∧ ls.length ≤ cl ∧ cl ≤ maxLen ∧ ∀ k (hk : k < ls.length), w6.cell? ⟨Kl, k, none⟩ = some (Value.string (tx (ls[k]))) := by
                  rcases hO6.form with ⟨_, h⟩ | h
                  · exact absurd (HLS.out.trans h) (cutB_ne _ _)
                  · exact h
                have hlb : ls.length ≤ 1099511627777 := by
                  have h1 := cut_len 47 v
                  rw [HLS.out] at h1
                  omega
                have HCL := Lib.hid hcle
                have HYL : Hid (∀ k (hk : k < ls.length), (ls[k]).length ≤ 1099511627776) := Lib.hid (fun k hk => by
                  have h1 := cut_part 47 v (ls[k]) (by rw [HLS.out]; exact List.getElem_mem hk)
                  omega)
                obtain ⟨L3, hL3⟩ : ∃ L, ls.length = L := ⟨_, rfl⟩
                have HL3 := Lib.hid hL3
                rw [hL3] at hlb hcl ⊢
                have HU0 : Hid (OwnI w6.heap.size (.slice none 0 0) [] w6) := Lib.hid (OwnI.nil _ _)
                have HV0 : Hid (Below w6.heap.size w6 w6) := Lib.hid (Below.refl _ _)
                have HT0 : Hid (wholesZ (ls.take 0) = some []) := Lib.hid rfl
                clear hcut7 hO6 hB6 HRow7 HMet7 HM7 HB7 HZ7 hcle hL3 hcv hca hMl
                go_wp2
                go_loopg [6, 14] L3 (fun g3 s6 s14 wy => ∃ (k : Nat) (u : List Int) (v6 : Value), s14 = .int .i64 (k : Int) ∧ g3 + k = L3 ∧ v6 = s6 ∧ Hid (wholesZ (ls.take k) = some u) ∧ Hid (OwnI w6.heap.size v6 u wy) ∧ Hid (Below w6.heap.size w6 wy) ∧ Hid (u.length = k))
                case atStart => exact ⟨0, [], _, rfl, by omega, rfl, HT0, HU0, HV0, Lib.hid rfl⟩
                case round =>
                  clear HU0 HV0 HT0
                  obtain ⟨k, u, u6, rfl, hgk, rfl, HT, HU, HV, HUL⟩ := hrel
                  cases gk with
                  | zero =>
                    obtain rfl : k = L3 := by omega
                    have hM6 : M < w6.heap.size := HMet8.out.lt
                    have hall : wholesZ ls = some u := by
                      have h := HT.out
                      rwa [List.take_of_length_le (Nat.le_of_eq HL3.out)] at h
                    have hw : wordZ st x = some ⟨st.n, u, 10 :: st.met⟩ := by
                      rw [HWZ.out, HLS.out, hall]
                      rfl
                    have HWD3 : Hid (wordsZ baseZ ws = wordsZ ⟨st.n, u, 10 :: st.met⟩ (ws.drop (i + 1))) := Lib.hid (by rw [HWD2.out, hw])
                    have HRD3 : Hid (RdAt G M (fun j => j = N ∨ j = P ∨ j = G ∨ j = M) ⟨st.n, u, 10 :: st.met⟩ u6 wr) := Lib.hid ⟨HN10.out, HNIN.out, HRow8.out.below HV.out, HU.out.tr (fun g h1 h2 => by omega) (wholes_in hall), HMet8.out.below HV.out⟩
                    have HMV3 := Lib.hid (HM8.out.trans (Mov.of HV.out) (fun j h1 h2 => by have := HM8.out.size; omega))
                    clear hall hw hM6
                    go_wp2
                    go_roundg g
                    case measure => omega
                    case rel => exact ⟨i + 1, ⟨st.n, u, 10 :: st.met⟩, _, by go_num, by have := HGI.out; omega, rfl, HWD3, HRD3, HMV3⟩
                  | succ g3 =>
                    have hk3 : k < L3 := by omega
                    have hki3 : (k : Int) < (L3 : Int) := by omega
                    have hlt3 : k < ls.length := by rw [HL3.out]; exact hk3
                    have hyl := HYL.out k hlt3
                    have hcy := (HV.out.cell (p := ⟨Kl, k, none⟩) hKl2).trans (HCL.out k hlt3)
                    have htk : ls.take (k + 1) = ls.take k ++ [ls[k]] := List.take_succ_eq_append_getElem hlt3
                    have hmem : ls[k] ∈ ls := List.getElem_mem hlt3
                    obtain ⟨y, hy⟩ : ∃ y, ls[k] = y := ⟨_, rfl⟩
                    rw [hy] at hyl hcy htk hmem
                    have hsn := wholes_snoc (ls.take k) u y HT.out
                    rw [← htk] at hsn
                    have hKw : Kl < wr.heap.size := Nat.lt_of_lt_of_le hKl2 HV.out.size
                    have hwh := ref_whole y (by unfold maxLen; omega) wr
                    have hbad : (wholeF y).2 ≠ 0 → wholesZ ls = none := fun h => wholes_mem hmem h
                    obtain ⟨z, hz⟩ : ∃ z, (wholeF y).1 = z := ⟨_, rfl⟩
                    obtain ⟨e2, he2⟩ : ∃ e2, (wholeF y).2 = e2 := ⟨_, rfl⟩
                    rw [hz, he2] at hwh hsn
                    rw [he2] at hbad
                    have HSN := Lib.hid hsn
                    have HBAD := Lib.hid hbad
                    have hszw : w6.heap.size ≤ wr.heap.size := HV.out.size
                    have HGK := Lib.hid hgk
                    clear hlt3 hyl htk hmem hy hsn hbad hz he2 hgk
                    by_cases h0 : e2 = 0
                    · subst h0
                      have hsn := HSN.out
                      rw [if_pos rfl] at hsn
                      obtain ⟨v', w', hr1, hGr⟩ := append_I 22 HU.out z (by rw [HUL.out]; omega) hszw
                      obtain ⟨pu, cu, hu⟩ := HU.out.len
                      subst hu
                      have HO7 : Hid (OwnI w6.heap.size v' (u ++ [z]) w') := Lib.hid hGr.1
                      have HW7 := Lib.hid (HV.out.trans (hGr.low (N := w6.heap.size) (fun g hg => (HU.out.lt hg).1) hszw))
                      have HR1 := Lib.hid hr1
                      have HT7 := Lib.hid hsn
                      have HUL7 : Hid ((u ++ [z]).length = k + 1) := Lib.hid (by rw [List.length_append, HUL.out]; rfl)
                      have hul := HUL.out
                      obtain ⟨Lg, hLg⟩ : ∃ Lg, u.length = Lg := ⟨_, rfl⟩
                      rw [hLg] at HR1 ⊢
                      clear hsn hGr hr1 hLg HU HV HT HSN HBAD HUL hul
                      go_wp2_with fail
                      refine hwh.mono ?_
                      rintro e w9 ⟨rfl, rfl⟩
                      clear hwh
                      go_wp2_with (at_builtin; refine Lib.wpList_append_run _ rfl _ _ _ _ rfl _ _ rfl rfl _ _ HR1.out ?_)
                      go_roundg g3
                      case measure => omega
                      case rel => exact ⟨k + 1, u ++ [z], _, by go_num, by have := HGK.out; omega, rfl, HT7, HO7, HW7, HUL7⟩
                    · have hRn := HRN.out (by rw [HWZ.out, HLS.out, HBAD.out h0]; rfl)
                      subst hRn
                      have HZ9 := Lib.hid (HZ8.out.below HV.out)
                      have HB9 := Lib.hid (HB8.out.trans (HV.out.mono (Nat.le_of_lt HZ8.out.lt)))
                      clear HR HSN HBAD HRN HU HV HT HUL
                      go_wp2_with fail
                      refine hwh.mono ?_
                      rintro e w9 ⟨rfl, rfl⟩
                      clear hwh
                      go_wp2_with (refine wpList_store_cells rfl 33 _ _ rfl N (valsP zeroN (.slice none 0 0)) (valsP zeroN (.slice none 0 0)) rfl rfl HZ9.out (by kernel_rfl) (by kernel_rfl) (by kernel_rfl) ?_)
                      refine bodyPost_ret (result_cell2 rfl rfl (load_ref (pol_put (n := zeroN) (v := .slice none 0 0) HZ9.out rfl rfl) rfl)) rfl ?_
                      exact ⟨.slice none 0 0, rfl, Tr.nil _ _, hN ▸ below_sets (Nat.le_refl N) _ 0 w _ HB9.out⟩
            · rw [decide_eq_false hat] at htq
              have hTn : atT a = atN a 10 := by unfold atT; rw [if_neg (fun h => hat h.symm)]
              have hTb := at_bound a
              rw [hTn] at hwz hTb
              clear hat hTn
              by_cases hneg : atN a 10 < 0
              · rw [if_pos hneg] at hwz
                have hRn := HRN.out hwz
                subst hRn
                clear HR hwz
                go_wp2_with (refine wpList_store_cells rfl 33 _ _ rfl N (valsP zeroN (.slice none 0 0)) (valsP zeroN (.slice none 0 0)) rfl rfl HZ6.out (by kernel_rfl) (by kernel_rfl) (by kernel_rfl) ?_)
                refine bodyPost_ret (result_cell2 rfl rfl (load_ref (pol_put (n := zeroN) (v := .slice none 0 0) HZ6.out rfl rfl) rfl)) rfl ?_
                exact ⟨.slice none 0 0, rfl, Tr.nil _ _, hN ▸ below_sets (Nat.le_refl N) _ 0 w _ HB6.out⟩
              · rw [if_neg hneg] at hwz
                have hTl := atN_lt a 10
                obtain ⟨k0, hk0⟩ : ∃ k0 : Nat, atN a 10 = (k0 : Int) := ⟨(atN a 10).toNat, by omega⟩
                rw [hk0] at hwz hTl ⊢
                have hk10 : k0 < 10 := by omega
                have hk11 : (k0 : Int) < 11 := by omega
                have hk12 : ¬ (k0 : Int) = 10 := by omega
                have hk13 : (k0 : Int) < 10 := by omega
                rw [Int.toNat_natCast, if_neg hk12] at hwz
                have hmc := HR6.out.met.cell k0 _ (metV_at st.met k0 (by omega))
                have hmf := HR6.out.met.fro k0 _ (metV_at st.met k0 (by omega))
                clear hneg hTl hTb hk0
                by_cases hmet : k0 ∈ st.met
                · rw [decide_eq_true hmet] at hmc
                  rw [if_pos hmet] at hwz
                  have hRn := HRN.out hwz
                  subst hRn
                  clear HR hmet hwz
                  go_wp2_with (refine wpList_store_cells rfl 33 _ _ rfl N (valsP zeroN (.slice none 0 0)) (valsP zeroN (.slice none 0 0)) rfl rfl HZ6.out (by kernel_rfl) (by kernel_rfl) (by kernel_rfl) ?_)
                  refine bodyPost_ret (result_cell2 rfl rfl (load_ref (pol_put (n := zeroN) (v := .slice none 0 0) HZ6.out rfl rfl) rfl)) rfl ?_
                  exact ⟨.slice none 0 0, rfl, Tr.nil _ _, hN ▸ below_sets (Nat.le_refl N) _ 0 w _ HB6.out⟩
                · rw [decide_eq_false hmet] at hmc
                  rw [if_neg hmet] at hwz
                  obtain ⟨z, hz⟩ : ∃ z, (wholeF v).1 = z := ⟨_, rfl⟩
                  obtain ⟨e2, he2⟩ : ∃ e2, (wholeF v).2 = e2 := ⟨_, rfl⟩
                  have hzin : e2 = 0 → In64 z := fun h => by
                    have hw1 : wholesZ [v] = some [z] := by
                      rw [wholesZ, if_pos (by rw [he2]; exact h), hz]
                      rfl
                    exact wholes_in hw1 z (by simp)
                  have hwh := fun W => ref_whole v (by unfold maxLen; omega) W
                  rw [hz, he2] at hwh hwz
                  have hM7 : Mov (fun j => j = M) wr ((wr.setCell ⟨M, k0, none⟩ (.bool true)).alloc (.cells #[.string (tx v)] 9)) := (Mov.set (S := fun j => j = M) (Mov.refl _ _) rfl k0 _).alloc _
                  have hV0 : wr.heap.size < ((wr.setCell ⟨M, k0, none⟩ (.bool true)).alloc (.cells #[.string (tx v)] 9)).heap.size := by simp
                  have hVc : ((wr.setCell ⟨M, k0, none⟩ (.bool true)).alloc (.cells #[.string (tx v)] 9)).cell? ⟨wr.heap.size, 0, none⟩ = some (.string (tx v)) := (CellsAt.newAt #[.string (tx v)] 9 (wr.setCell ⟨M, k0, none⟩ (.bool true)) wr.heap.size (by simp)).cell 0 _ rfl
                  have HRow7 := Lib.hid (cells_mov HR6.out.row hM7 (by omega))
                  have HMet7 : Hid (CellsAt M (metV (k0 :: st.met)) ((wr.setCell ⟨M, k0, none⟩ (.bool true)).alloc (.cells #[.string (tx v)] 9))) := Lib.hid (by
                    have h := (HR6.out.met.set k0 (.bool true) (by rw [metV_size]; omega)).past (.cells #[.string (tx v)] 9)
                    rwa [metV_set _ k0 (by omega)] at h)
                  have HTr7 := Lib.hid (HR6.out.tr.mov hM7 (fun j h _ => .inr (.inr (.inr h))))
                  have HN10 := Lib.hid HR6.out.n10
                  have HNIN := Lib.hid HR6.out.nin
                  have HM7 : Hid (Mov (fun j => j = G ∨ j = M) w4 ((wr.setCell ⟨M, k0, none⟩ (.bool true)).alloc (.cells #[.string (tx v)] 9))) := Lib.hid (HM6.out.trans hM7 (fun j _ h => .inr h))
                  have HB7 : Hid (Below N w ((wr.setCell ⟨M, k0, none⟩ (.bool true)).alloc (.cells #[.string (tx v)] 9))) := Lib.hid (HB6.out.trans (hM7.below (N := N) (fun j h => by omega) (by have := HZ6.out.lt; omega)))
                  have HZ7 := Lib.hid (cells_mov HZ6.out hM7 (by omega))
                  have HWZ := Lib.hid hwz
                  have HZI := Lib.hid hzin
                  have HRow0 : Hid (CellsAt G (valsI (if (0 : Nat) = 0 then st.n else st.n.set k0 z)).toArray ((wr.setCell ⟨M, k0, none⟩ (.bool true)).alloc (.cells #[.string (tx v)] 9))) := Lib.hid (by rw [if_pos rfl]; exact HRow7.out)
                  have HMG : Hid (Mov (fun j => j = G) ((wr.setCell ⟨M, k0, none⟩ (.bool true)).alloc (.cells #[.string (tx v)] 9)) ((wr.setCell ⟨M, k0, none⟩ (.bool true)).alloc (.cells #[.string (tx v)] 9))) := Lib.hid (Mov.refl _ _)
                  have HE0 : Hid ((0 : Nat) = 1 → e2 = 0) := Lib.hid (fun h => absurd h (by decide))
                  have hVM : M + 1 ≤ wr.heap.size := hMw
                  obtain ⟨V, hV⟩ : ∃ V, wr.heap.size = V := ⟨_, rfl⟩
                  clear hmet hwz hM7 HM6 HB6 HZ6 HR6 hz he2 hzin HRow7
                  go_wp2
                  rw [hV] at hV0 hVc hVM
                  clear hmc hmf hcv hca hMl hV htq
                  generalize ((wr.setCell ⟨M, k0, none⟩ (.bool true)).alloc (.cells #[.string (tx v)] 9)) = W7 at *
                  go_loopg [6, 14] 1 (fun g3 s6 s14 wy => ∃ k : Nat, s14 = .int .i64 (k : Int) ∧ g3 + k = 1 ∧ v6 = s6 ∧ Hid (CellsAt G (valsI (if k = 0 then st.n else st.n.set k0 z)).toArray wy) ∧ Hid (Mov (fun j => j = G) W7 wy) ∧ Hid (k = 1 → e2 = 0))
                  case atStart => exact ⟨0, rfl, by omega, rfl, HRow0, HMG, HE0⟩
                  case round =>
                    clear HRow0 HMG HE0
                    obtain ⟨k, rfl, hgk, rfl, HRW, HMG, HE⟩ := hrel
                    have hM7l : M < W7.heap.size := HMet7.out.lt
                    cases gk with
                    | zero =>
                      obtain rfl : k = 1 := by omega
                      have h0 := HE.out rfl
                      have hw : wordZ st x = some ⟨st.n.set k0 z, st.t, k0 :: st.met⟩ := by
                        rw [HWZ.out, if_pos h0]
                      have HWD3 : Hid (wordsZ baseZ ws = wordsZ ⟨st.n.set k0 z, st.t, k0 :: st.met⟩ (ws.drop (i + 1))) := Lib.hid (by rw [HWD2.out, hw])
                      have HRD3 : Hid (RdAt G M (fun j => j = N ∨ j = P ∨ j = G ∨ j = M) ⟨st.n.set k0 z, st.t, k0 :: st.met⟩ v6 wr) := Lib.hid ⟨by rw [List.length_set]; exact HN10.out, fun y hy => by
                        rcases List.mem_or_eq_of_mem_set hy with h | h
                        · exact HNIN.out y h
                        · rw [h]; exact HZI.out h0, by have h := HRW.out; rwa [if_neg (by decide)] at h, HTr7.out.mov HMG.out (fun j h _ => .inr (.inr (.inl h))), cells_mov HMet7.out HMG.out (by omega)⟩
                      have HMV3 := Lib.hid (HM7.out.trans HMG.out (fun j _ h => .inl h))
                      clear hw h0
                      go_wp2
                      go_roundg g
                      case measure => omega
                      case rel => exact ⟨i + 1, ⟨st.n.set k0 z, st.t, k0 :: st.met⟩, _, by go_num, by have := HGI.out; omega, rfl, HWD3, HRD3, HMV3⟩
                    | succ g3 =>
                      obtain rfl : k = 0 := by omega
                      have hcy := (HMG.out.cell (k := V) (i := 0) hV0 (by omega)).trans hVc
                      have hVw : V < wr.heap.size := by have := HMG.out.size; omega
                      have hrow := HRW.out
                      rw [if_pos rfl] at hrow
                      have hl0 : k0 < st.n.length := by rw [HN10.out]; exact hk10
                      obtain ⟨o, hg0⟩ : ∃ o : Int, (valsI st.n).toArray[k0]? = some (.int .i64 o) := ⟨st.n[k0], by rw [List.getElem?_toArray]; exact valsI_at _ _ hl0⟩
                      have hgc := hrow.cell k0 _ hg0
                      have hgf := hrow.fro k0 _ hg0
                      have hGl := hrow.lt
                      by_cases h0 : e2 = 0
                      · have HRW2 : Hid (CellsAt G (valsI (if (0 + 1 : Nat) = 0 then st.n else st.n.set k0 z)).toArray (wr.setCell ⟨G, k0, none⟩ (.int .i64 z))) := Lib.hid (by
                          rw [if_neg (by decide), ← valsI_set]
                          exact hrow.set k0 _ (by simpa [valsI] using hl0))
                        have HMG2 := Lib.hid (HMG.out.set (k := G) rfl k0 (.int .i64 z))
                        subst h0
                        clear hrow hl0 hg0 HRW HMG
                        go_wp2_with fail
                        refine (hwh _).mono ?_
                        rintro e w9 ⟨rfl, rfl⟩
                        clear hwh
                        go_wp2
                        go_roundg g3
                        case measure => omega
                        case rel => exact ⟨0 + 1, by go_num, by omega, rfl, HRW2, HMG2, Lib.hid (by simp)⟩
                      · have hRn := HRN.out (by rw [HWZ.out, if_neg h0])
                        subst hRn
                        have HZ9 := Lib.hid (cells_mov HZ7.out HMG.out (by omega))
                        have HB9 := Lib.hid (HB7.out.trans (HMG.out.below (N := N) (fun j h => by omega) (Nat.le_of_lt HZ7.out.lt)))
                        clear HR HRN hrow hl0 hg0 hgc hgf HRW HMG
                        go_wp2_with fail
                        refine (hwh _).mono ?_
                        rintro e w9 ⟨rfl, rfl⟩
                        clear hwh
                        go_wp2_with (refine wpList_store_cells rfl 33 _ _ rfl N (valsP zeroN (.slice none 0 0)) (valsP zeroN (.slice none 0 0)) rfl rfl HZ9.out (by kernel_rfl) (by kernel_rfl) (by kernel_rfl) ?_)
                        refine bodyPost_ret (result_cell2 rfl rfl (load_ref (pol_put (n := zeroN) (v := .slice none 0 0) HZ9.out rfl rfl) rfl)) rfl ?_
                        exact ⟨.slice none 0 0, rfl, Tr.nil _ _, hN ▸ below_sets (Nat.le_refl N) _ 0 w _ HB9.out⟩
          · have hl2i : ¬ (lp : Int) = 2 := by omega
            have hRn := HRN.out (word_form (by rw [HPS.out, HLP.out]; exact hl2))
            subst hRn
            by_cases hat : a = nameN 10
            · rw [decide_eq_true hat] at htq
              clear hat hl2 HR
              go_wp2_with (refine wpList_store_cells rfl 33 _ _ rfl N (valsP zeroN (.slice none 0 0)) (valsP zeroN (.slice none 0 0)) rfl rfl HZ6.out (by kernel_rfl) (by kernel_rfl) (by kernel_rfl) ?_)
              refine bodyPost_ret (result_cell2 rfl rfl (load_ref (pol_put (n := zeroN) (v := .slice none 0 0) HZ6.out rfl rfl) rfl)) rfl ?_
              exact ⟨.slice none 0 0, rfl, Tr.nil _ _, hN ▸ below_sets (Nat.le_refl N) _ 0 w _ HB6.out⟩
            · rw [decide_eq_false hat] at htq
              clear hat hl2 HR
              go_wp2_with (refine wpList_store_cells rfl 33 _ _ rfl N (valsP zeroN (.slice none 0 0)) (valsP zeroN (.slice none 0 0)) rfl rfl HZ6.out (by kernel_rfl) (by kernel_rfl) (by kernel_rfl) ?_)
              refine bodyPost_ret (result_cell2 rfl rfl (load_ref (pol_put (n := zeroN) (v := .slice none 0 0) HZ6.out rfl rfl) rfl)) rfl ?_
              exact ⟨.slice none 0 0, rfl, Tr.nil _ _, hN ▸ below_sets (Nat.le_refl N) _ 0 w _ HB6.out⟩
        | succ g2 =>
          have hk : k < 10 := by omega
          have hki : (k : Int) < 10 := by omega
          have hGK := Lib.hid hgk
          clear hgk
          go_upto_region 16 with fail
          refine read_sixteen _ (by kernel_rfl) _ wr Hp lp cp k (tx a) (tx (nameN k)) (decide (a = nameN k)) hk hlp0 rfl (tx_eq a (nameN k)) (Nat.lt_of_lt_of_le hHl HB5.out.size) ((HB5.out.cell (p := ⟨Hp, 0, none⟩) hHl).trans hc0) _ _ _ _ _ _ _ _ _ _ _ _ _ _ _ _ _ _ _ _ _ _ _ _ _ _ _ _ _ _ _ _ _ _ _ _ _ _ _ _ _ _ _ _ _ _ _ _ _ _ _ _ _ _ _ _ _ _ _ _ _ _ _ _ _ _ _ _ _ _ _ _ _ _ _ _ _ _ _ _ _ _ _ _ _ _ _ _ _ _ _ _ _ _ _ _ _ _ _ _ _ _ _ _ _ _ _ _ _ _ _ _ _ _ _ ?_
          intro W' z43 z44 z45 z46 z47 z48 z49 hB'
          have HB6 := Lib.hid (HB5.out.trans (hB'.mono HB5.out.size))
          clear hB' HB5
          by_cases hak : a = nameN k
          · rw [decide_eq_true hak]
            have hat : atN a (k + 1) = (k : Int) := by rw [atN, if_pos hak.symm]
            have HAT := Lib.hid hat
            clear hak hat
            go_wp2
            go_roundg g2
            case measure => omega
            case rel => exact ⟨k + 1, by go_num, by have := hGK.out; omega, by rw [HAT.out], HB6⟩
          · rw [decide_eq_false hak]
            have hat : atN a (k + 1) = atN a k := by rw [atN, if_neg (fun h => hak h.symm)]
            have HAT := Lib.hid hat
            clear hak hat
            go_wp2
            go_roundg g2
            case measure => omega
            case rel => exact ⟨k + 1, by go_num, by have := hGK.out; omega, by rw [HAT.out], HB6⟩
end Go.Proofs.YtdhkonaebhpeeaaDoor.Po

namespace Go.Proofs.YtdhkonaebhpeeaaDoor.Po
open Go Go.RowKit

set_option maxRecDepth 100000 in
set_option maxHeartbeats 4000000 in
theorem ref_read_none (w : World) :
    Calls Tryd.prog 24 #[.string (tx [])] w fun e w' => ∃ v, e = .returned (ReadV (readZ []) v) ∧ Tr (fun _ => False) v (readZ []).2.1 w' ∧ Below w.heap.size w w' := by
  obtain ⟨N, hN⟩ : ∃ N, w.heap.size = N := ⟨_, rfl⟩
  have HZ0 : Hid (PolAt N zeroN (.slice none 0 0) (w.alloc (.cells #[.int .i64 0, .int .i64 0, .int .i64 0, .int .i64 0, .int .i64 0, .int .i64 0, .int .i64 0, .int .i64 0, .int .i64 0, .int .i64 0, .slice none 0 0] 33))) := Lib.hid (CellsAt.newAt #[.int .i64 0, .int .i64 0, .int .i64 0, .int .i64 0, .int .i64 0, .int .i64 0, .int .i64 0, .int .i64 0, .int .i64 0, .int .i64 0, .slice none 0 0] 33 w N hN.symm)
  have HB0 : Hid (Below N w (w.alloc (.cells #[.int .i64 0, .int .i64 0, .int .i64 0, .int .i64 0, .int .i64 0, .int .i64 0, .int .i64 0, .int .i64 0, .int .i64 0, .int .i64 0, .slice none 0 0] 33))) := Lib.hid ((Below.refl N w).alloc (by omega) _)
  have hs1 : (w.alloc (.cells #[.int .i64 0, .int .i64 0, .int .i64 0, .int .i64 0, .int .i64 0, .int .i64 0, .int .i64 0, .int .i64 0, .int .i64 0, .int .i64 0, .slice none 0 0] 33)).heap.size = N + 1 := by simp [hN]
  rw [show readZ [] = (baseZ.n, baseZ.t, 0) from rfl, show tx [] = (⟨#[]⟩ : ByteArray) from rfl]
  have hb := fun W => refbase_of W
  go_enter Tryd.func24, Tryd.ntmps24
  go_wp2_with fail
  refine (hb _).mono ?_
  rintro e w1 ⟨v, rfl, hO, hB1⟩
  rw [hs1] at hO hB1
  obtain ⟨P, hP⟩ : ∃ P, w1.heap.size = P := ⟨_, rfl⟩
  have hNP : N < P := by have := hB1.size; omega
  obtain ⟨p, c, hv⟩ := hO.len
  rw [show baseZ.t.length = 2 from rfl] at hv
  subst hv
  have hBp : Below w1.heap.size w1 (w1.alloc (.cells #[.int .i64 64, .int .i64 32, .int .i64 64, .int .i64 8, .int .i64 6, .int .i64 2, .int .i64 2, .int .i64 60, .int .i64 30, .int .i64 5, .slice p 2 c] 33)) := (Below.refl _ _).alloc (Nat.le_refl _) _
  have hTA : Tr (fun j => j = N) (.slice p 2 c) baseZ.t w1 := hO.tr2 (fun g h1 h2 => by omega) base_tin
  have HTA := Lib.hid (hTA.below hBp)
  have HZ1 : Hid (CellsAt N (valsP zeroN (.slice none 0 0)) (w1.alloc (.cells #[.int .i64 64, .int .i64 32, .int .i64 64, .int .i64 8, .int .i64 6, .int .i64 2, .int .i64 2, .int .i64 60, .int .i64 30, .int .i64 5, .slice p 2 c] 33))) := Lib.hid ((CellsAt.belowAt HZ0.out hB1 (by omega)).belowAt (hBp.mono (by omega : N + 1 ≤ w1.heap.size)) (by omega))
  have HB1 := Lib.hid ((HB0.out.trans (hB1.mono (by omega))).trans (hBp.mono (by omega)))
  rw [show valsP baseZ.n (.slice p 2 c) = #[.int .i64 64, .int .i64 32, .int .i64 64, .int .i64 8, .int .i64 6, .int .i64 2, .int .i64 2, .int .i64 60, .int .i64 30, .int .i64 5, .slice p 2 c] from rfl]
  clear hTA hO hB1 hBp HZ0 HB0 hb hs1
  go_wp2_with (refine wpList_store_cells rfl 33 _ _ rfl N (valsP baseZ.n (.slice p 2 c)) (valsP zeroN (.slice none 0 0)) rfl rfl HZ1.out (by kernel_rfl) (by kernel_rfl) (by simp [valsP, baseZ, Value.oneCell']) ?_)
  refine bodyPost_ret (result_cell2 rfl rfl (load_ref (pol_put (n := baseZ.n) (v := .slice p 2 c) HZ1.out rfl rfl) rfl)) rfl ?_
  exact ⟨.slice p 2 c, rfl, (HTA.out.mov (Mov.sets (S := fun j => j = N) rfl _ 0 _ (Mov.refl _ _)) (fun j h _ => h)).weak (fun j h _ => h.elim), hN ▸ below_sets (Nat.le_refl N) _ 0 w _ HB1.out⟩
theorem ref_read_any (s : List UInt8) (hl : s.length ≤ 1099511627776) (w : World) :
    Calls Tryd.prog 24 #[.string (tx s)] w fun e w' => ∃ v, e = .returned (ReadV (readZ s) v) ∧ Tr (fun _ => False) v (readZ s).2.1 w' ∧ Below w.heap.size w w' := by
  cases s with
  | nil => exact ref_read_none w
  | cons ch r => exact ref_read_some ch r hl w
end Go.Proofs.YtdhkonaebhpeeaaDoor.Po

