/- Whether two policies are the same: the program's answer. Whether two policies are the same: the program's answer, walked. -/
import Derived.Test.YtdhkonaebhpeeaaDoorPoR
import Derived.Test.YtdhkonaebhpeeaaDoorReg
namespace Go.Proofs.YtdhkonaebhpeeaaDoor.Po
open Go Go.RowKit

theorem eq_drop {x y : List Int} {k : Nat} (h1 : k < x.length) (h2 : k < y.length) : (x.drop k = y.drop k) ↔ (x[k] = y[k] ∧ x.drop (k + 1) = y.drop (k + 1)) := by
  rw [List.drop_eq_getElem_cons h1, List.drop_eq_getElem_cons h2, List.cons.injEq]
set_option maxRecDepth 100000 in
set_option maxHeartbeats 8000000 in
theorem equal_any (S S' : Nat → Prop) (u v : Value) (x y : List Int) (w : World) (hx : Tr S u x w) (hy : Tr S' v y w) :
    Calls Tryd.prog 36 #[u, v] w fun e w' => e = .returned (.bool (decide (x = y))) ∧ Below w.heap.size w w' := by
  obtain ⟨p, c, rfl⟩ := hx.len
  obtain ⟨q, d, rfl⟩ := hy.len
  have sx : x.length ≤ 9223372036854775807 := hx.short
  have sy : y.length ≤ 9223372036854775807 := hy.short
  obtain ⟨_, _, _, _, hxa⟩ := hx.at
  obtain ⟨_, _, _, _, hya⟩ := hy.at
  have HX := Lib.hid hxa
  have HY := Lib.hid hya
  have HB0 := Lib.hid (Below.refl w.heap.size w)
  obtain ⟨V, hV⟩ : ∃ V, decide (x = y) = V := ⟨_, rfl⟩
  rw [hV]
  have HV := Lib.hid hV
  clear hx hy hxa hya hV
  by_cases hl : x.length = y.length
  · have HL := Lib.hid hl
    obtain ⟨n, hn⟩ : ∃ n, x.length = n := ⟨_, rfl⟩
    have HN := Lib.hid hn
    have HN2 : Hid (y.length = n) := Lib.hid (by rw [← hn, hl])
    have hn2 := HN2.out
    have hnb : n ≤ 9223372036854775807 := by rw [← hn]; exact sx
    rw [hn2, hn]
    clear hl hn hn2 sx sy
    have hnn : ((n : Int) != (n : Int)) = false := by simp
    go_enter Tryd.func36, Tryd.ntmps36
    go_wp2
    go_loopg [13] n (fun g s13 wx => ∃ k : Nat, s13 = .int .i64 (k : Int) ∧ g + k = n ∧ Hid ((x = y) ↔ x.drop k = y.drop k) ∧ Hid (Below w.heap.size w wx))
    case atStart => exact ⟨0, rfl, rfl, Lib.hid Iff.rfl, HB0⟩
    case round =>
      clear HB0
      obtain ⟨k, rfl, hgk, HE, HB⟩ := hrel
      cases gk with
      | zero =>
        obtain rfl : k = n := by omega
        have hf : true = V := by
          rw [← HV.out, decide_eq_true]
          rw [HE.out, List.drop_of_length_le (by rw [HN.out]; exact Nat.le_refl _), List.drop_of_length_le (by rw [HN2.out]; exact Nat.le_refl _)]
        subst hf
        go_wp2
        go_ret
        exact ⟨rfl, HB.out⟩
      | succ g =>
        have h1 : k < x.length := by rw [HN.out]; omega
        have h2 : k < y.length := by rw [HN2.out]; omega
        obtain ⟨C, off, rfl, hC, c0⟩ := HX.out k h1
        obtain ⟨D, ofd, rfl, hD, d0⟩ := HY.out k h2
        have HS := Lib.hid (eq_drop h1 h2)
        generalize x[k] = a at *
        generalize y[k] = b at *
        have c1 := (HB.out.cell (p := ⟨C, off + k, none⟩) hC).trans c0
        have d1 := (HB.out.cell (p := ⟨D, ofd + k, none⟩) hD).trans d0
        have i1 : (k : Int) < (n : Int) := by omega
        have hCr : C < wr.heap.size := Nat.lt_of_lt_of_le hC HB.out.size
        have hDr : D < wr.heap.size := Nat.lt_of_lt_of_le hD HB.out.size
        clear c0 d0 hC hD h1 h2
        go_wp2
        go_quiet (fail)
        have HBq : Hid (Below w.heap.size w (wr.drewN nq)) := Lib.hid ⟨HB.out.os, HB.out.tape, HB.out.output, HB.out.size, HB.out.block⟩
        clear HB c1 d1 hCr hDr
        generalize wr.drewN nq = wq at *
        by_cases hab : a = b
        · subst hab
          have HE2 : Hid ((x = y) ↔ x.drop (k + 1) = y.drop (k + 1)) := Lib.hid (by rw [HE.out, HS.out]; simp)
          have e0 : (a != a) = false := by simp
          go_wp2
          go_roundg g
          case measure => omega
          case rel => exact ⟨k + 1, by go_num, by omega, HE2, HBq⟩
        · have hf : false = V := by
            rw [← HV.out, decide_eq_false]
            rw [HE.out, HS.out]
            exact fun h => hab h.1
          have e0 : (a != b) = true := by simpa using hab
          subst hf
          clear hab
          go_wp2
          go_ret
          exact ⟨rfl, HBq.out⟩
  · have hf : false = V := by
      rw [← HV.out, decide_eq_false]
      intro h
      exact hl (by rw [h])
    subst hf
    have e0 : ((x.length : Int) != (y.length : Int)) = true := by simp; omega
    clear hl
    go_enter Tryd.func36, Tryd.ntmps36
    go_wp2
    go_ret
    exact ⟨rfl, HB0.out⟩
end Go.Proofs.YtdhkonaebhpeeaaDoor.Po

namespace Go.Proofs.YtdhkonaebhpeeaaDoor.Po
open Go Go.RowKit

theorem same_nums {n m t r : List Int} (hn : n.length = 10) (hm : m.length = 10) : (n = m ∧ t = r) ↔ ∀ j, 0 ≤ j → j < 11 → numsN n t j = numsN m r j := by
  constructor
  · rintro ⟨rfl, rfl⟩ j _ _; rfl
  · intro h
    refine ⟨List.ext_getElem (by omega) fun i h1 h2 => ?_, ?_⟩
    · have := h i (by omega) (by omega)
      unfold numsN at this
      rw [if_neg (by omega), if_neg (by omega), List.getD_eq_getElem?_getD, List.getD_eq_getElem?_getD, List.getElem?_eq_getElem h1, List.getElem?_eq_getElem h2] at this
      simpa using this
    · have := h 10 (by omega) (by omega)
      simpa [numsN] using this
/-- What each operation of the test yields. -/
def SamePhi (P Q F k : Nat) (x y : List Int) : Nat → Value → World → Prop
  | 1, v, w => Tr (fun _ => False) v x w
  | 6, v, w => Tr (fun _ => False) v y w
  | i, v, _ => v = ([fieldV P k, undef, .slice (some ⟨F, 0, none⟩) 11 11, .int .i64 (k : Int), .pointer (some ⟨F, k * 6, none⟩), fieldV Q k, undef, .bool (decide (x = y)), .bool (!decide (x = y))] : List Value).getD i undef
theorem SamePhi.stays {P Q F k : Nat} {x y : List Int} : ∀ i v w w', SamePhi P Q F k x y i v w → Reg.Old w w' → SamePhi P Q F k x y i v w' := by
  intro i v w w' hv hB
  unfold SamePhi at *
  split at hv
  · exact hv.below hB
  · exact hv.below hB
  · exact hv
set_option maxRecDepth 100000 in
set_option maxHeartbeats 16000000 in
theorem same_any (S S' : Nat → Prop) (n t m r : List Int) (v u : Value) (w : World) (hn : n.length = 10) (hin : ∀ x ∈ n, In64 x) (hT : Tr S v t w) (hm : m.length = 10) (him : ∀ x ∈ m, In64 x) (hR : Tr S' u r w) :
    Calls Tryd.prog 17 #[.agg (valsP n v), .agg (valsP m u)] w fun e w' => e = .returned (.bool (decide (n = m ∧ t = r))) ∧ Below w.heap.size w w' := by
  have hB1 : Below w.heap.size w (w.alloc (.cells (valsP n v) 24)) := (Below.refl _ _).alloc (Nat.le_refl _) _
  have hB2 : Below w.heap.size w ((w.alloc (.cells (valsP n v) 24)).alloc (.cells (valsP m u) 24)) := hB1.alloc (by simp) _
  have HB0 := Lib.hid hB2
  have HT0 := Lib.hid ((hT.weak (S' := fun _ => False) (fun _ h _ => h.elim)).below hB2)
  have HR0 := Lib.hid ((hR.weak (S' := fun _ => False) (fun _ h _ => h.elim)).below hB2)
  have HP0 := Lib.hid ((CellsAt.new (valsP n v) 24 w).past (.cells (valsP m u) 24))
  have HQ0 := Lib.hid (CellsAt.newAt (valsP m u) 24 (w.alloc (.cells (valsP n v) 24)) (w.heap.size + 1) (by simp))
  have HNA := Lib.hid (fun P k hk W (h1 : PolAt P n v W) (h2 : Tr (fun _ => False) v t W) => numbers_any P k hk n t v W (fun _ => False) hn hin h1 h2 (fun _ h => h.elim))
  have HNB := Lib.hid (fun P k hk W (h1 : PolAt P m u W) (h2 : Tr (fun _ => False) u r W) => numbers_any P k hk m r u W (fun _ => False) hm him h1 h2 (fun _ h => h.elim))
  have hsn := same_nums (t := t) (r := r) hn hm
  obtain ⟨V, hV⟩ : ∃ V, decide (n = m ∧ t = r) = V := ⟨_, rfl⟩
  have HV : Hid ((∀ j, 0 ≤ j → j < 11 → numsN n t j = numsN m r j) ↔ V = true) := Lib.hid (by rw [← hsn, ← hV, decide_eq_true_eq])
  rw [hV]
  clear hV hsn hB1 hB2
  obtain ⟨p, c, rfl⟩ := hT.len
  obtain ⟨q, d, rfl⟩ := hR.len
  clear hT hR hin him
  obtain ⟨a0, a1, a2, a3, a4, a5, a6, a7, a8, a9, hne⟩ := ten_of hn
  obtain ⟨b0, b1, b2, b3, b4, b5, b6, b7, b8, b9, hme⟩ := ten_of hm
  have e1 : valsP n (.slice p t.length c) = #[.int .i64 a0, .int .i64 a1, .int .i64 a2, .int .i64 a3, .int .i64 a4, .int .i64 a5, .int .i64 a6, .int .i64 a7, .int .i64 a8, .int .i64 a9, .slice p t.length c] := by rw [hne]; rfl
  have e2 : valsP m (.slice q r.length d) = #[.int .i64 b0, .int .i64 b1, .int .i64 b2, .int .i64 b3, .int .i64 b4, .int .i64 b5, .int .i64 b6, .int .i64 b7, .int .i64 b8, .int .i64 b9, .slice q r.length d] := by rw [hme]; rfl
  have HP1 : Hid (PolAt w.heap.size n (.slice p t.length c) ((w.alloc (.cells #[.int .i64 a0, .int .i64 a1, .int .i64 a2, .int .i64 a3, .int .i64 a4, .int .i64 a5, .int .i64 a6, .int .i64 a7, .int .i64 a8, .int .i64 a9, .slice p t.length c] 24)).alloc (.cells #[.int .i64 b0, .int .i64 b1, .int .i64 b2, .int .i64 b3, .int .i64 b4, .int .i64 b5, .int .i64 b6, .int .i64 b7, .int .i64 b8, .int .i64 b9, .slice q r.length d] 24))) := Lib.hid (by rw [← e1, ← e2]; exact HP0.out)
  have HQ1 : Hid (PolAt (w.heap.size + 1) m (.slice q r.length d) ((w.alloc (.cells #[.int .i64 a0, .int .i64 a1, .int .i64 a2, .int .i64 a3, .int .i64 a4, .int .i64 a5, .int .i64 a6, .int .i64 a7, .int .i64 a8, .int .i64 a9, .slice p t.length c] 24)).alloc (.cells #[.int .i64 b0, .int .i64 b1, .int .i64 b2, .int .i64 b3, .int .i64 b4, .int .i64 b5, .int .i64 b6, .int .i64 b7, .int .i64 b8, .int .i64 b9, .slice q r.length d] 24))) := Lib.hid (by rw [← e1, ← e2]; exact HQ0.out)
  rw [e1, e2] at HT0 HR0 HB0 ⊢
  clear e1 e2 hne hme HP0 HQ0 hn hm
  have hf2 := fun W => fields_of (w.heap.size + 1) W
  have hf1 := fun W => fields_of w.heap.size W
  go_enter Tryd.func17, Tryd.ntmps17
  go_wp2_with fail
  refine (hf2 _).mono ?_
  rintro e w2 ⟨rfl, hF2, hB2⟩
  obtain ⟨W0, hW0⟩ : ∃ W0, (w.alloc (.cells #[.int .i64 a0, .int .i64 a1, .int .i64 a2, .int .i64 a3, .int .i64 a4, .int .i64 a5, .int .i64 a6, .int .i64 a7, .int .i64 a8, .int .i64 a9, .slice p t.length c] 24)).alloc (.cells #[.int .i64 b0, .int .i64 b1, .int .i64 b2, .int .i64 b3, .int .i64 b4, .int .i64 b5, .int .i64 b6, .int .i64 b7, .int .i64 b8, .int .i64 b9, .slice q r.length d] 24) = W0 := ⟨_, rfl⟩
  rw [hW0] at hF2 hB2 HP1 HQ1 HT0 HR0 HB0 ⊢
  obtain ⟨F, hFe⟩ : ∃ F, W0.heap.size = F := ⟨_, rfl⟩
  rw [hFe] at hF2 ⊢
  have HF2 := Lib.hid hF2
  have HP2 := Lib.hid (CellsAt.below HP1.out hB2)
  have HQ2 := Lib.hid (CellsAt.below HQ1.out hB2)
  have HT2 := Lib.hid (HT0.out.below hB2)
  have HR2 := Lib.hid (HR0.out.below hB2)
  have HB2 := Lib.hid (HB0.out.trans (hB2.mono (by rw [← hW0]; simp; omega)))
  clear hF2 HP1 HQ1 HT0 HR0 hB2 HB0 hf2 hFe hW0
  go_wp2_with fail
  refine (hf1 _).mono ?_
  rintro e w3 ⟨rfl, hG3, hB3⟩
  obtain ⟨G, hGe⟩ : ∃ G, w2.heap.size = G := ⟨_, rfl⟩
  have HG3 : Hid (PartsAt G w.heap.size (List.range 11) w3) := Lib.hid (hGe ▸ hG3)
  have HF3 := Lib.hid (CellsAt.below HF2.out hB3)
  have HP3 := Lib.hid (CellsAt.below HP2.out hB3)
  have HQ3 := Lib.hid (CellsAt.below HQ2.out hB3)
  have HT3 := Lib.hid (HT2.out.below hB3)
  have HR3 := Lib.hid (HR2.out.below hB3)
  have HB3 := Lib.hid (HB2.out.trans (hB3.mono HB2.out.size))
  rw [hGe]
  clear hG3 HF2 HP2 HQ2 HT2 HR2 HB2 hB3 hf1 hGe
  go_wp2
  go_loopg [11] 11 (fun g s11 wx => ∃ k : Nat, s11 = .int .i64 (k : Int) ∧ g + k = 11 ∧ Hid ((∀ j, 0 ≤ j → j < 11 → numsN n t j = numsN m r j) ↔ ∀ j, k ≤ j → j < 11 → numsN n t j = numsN m r j) ∧ Hid (PartsAt F (w.heap.size + 1) (List.range 11) wx) ∧ Hid (PartsAt G w.heap.size (List.range 11) wx) ∧ Hid (PolAt w.heap.size n (.slice p t.length c) wx) ∧ Hid (PolAt (w.heap.size + 1) m (.slice q r.length d) wx) ∧ Hid (Tr (fun _ => False) (.slice p t.length c) t wx) ∧ Hid (Tr (fun _ => False) (.slice q r.length d) r wx) ∧ Hid (Below w.heap.size w wx))
  case atStart => exact ⟨0, rfl, rfl, Lib.hid Iff.rfl, HF3, HG3, HP3, HQ3, HT3, HR3, HB3⟩
  case round =>
    clear HF3 HG3 HP3 HQ3 HT3 HR3 HB3
    obtain ⟨k, rfl, hgk, HO, HF, HG, HP, HQ, HT, HR, HB⟩ := hrel
    cases gk with
    | zero =>
      obtain rfl : k = 11 := by omega
      have hf : V = true := HV.out.1 (HO.out.2 fun j h1 h2 => by omega)
      subst hf
      go_wp2
      go_ret
      exact ⟨rfl, HB.out⟩
    | succ g =>
      have hk : k < 11 := by omega
      obtain ⟨c0, c1, c2, c3, c4, c5⟩ := HG.out.row hk
      have hGl := HG.out.lt
      obtain ⟨ns, hns⟩ : ∃ z, numsN n t k = z := ⟨_, rfl⟩
      obtain ⟨ms, hms⟩ : ∃ z, numsN m r k = z := ⟨_, rfl⟩
      have HNX : Hid ((∀ j, 0 ≤ j → j < 11 → numsN n t j = numsN m r j) ↔ (ns = ms ∧ ∀ j, k + 1 ≤ j → j < 11 → numsN n t j = numsN m r j)) := Lib.hid (by
        rw [HO.out]
        constructor
        · intro h
          exact ⟨by rw [← hns, ← hms]; exact h k (Nat.le_refl _) hk, fun j h1 h2 => h j (by omega) h2⟩
        · rintro ⟨h1, h2⟩ j h3 h4
          by_cases e : j = k
          · rw [e, hns, hms, h1]
          · exact h2 j (by omega) h4)
      have HCA : Hid (∀ W, PolAt w.heap.size n (.slice p t.length c) W → Tr (fun _ => False) (.slice p t.length c) t W → Calls Tryd.prog 30 #[fieldV w.heap.size k] W fun e w' => ∃ z, e = .returned z ∧ Tr (fun _ => False) z ns w' ∧ Below W.heap.size W w') := Lib.hid (fun W h1 h2 => by rw [← hns]; exact HNA.out w.heap.size k hk W h1 h2)
      have HCB : Hid (∀ W, PolAt (w.heap.size + 1) m (.slice q r.length d) W → Tr (fun _ => False) (.slice q r.length d) r W → Calls Tryd.prog 30 #[fieldV (w.heap.size + 1) k] W fun e w' => ∃ z, e = .returned z ∧ Tr (fun _ => False) z ms w' ∧ Below W.heap.size W w') := Lib.hid (fun W h1 h2 => by rw [← hms]; exact HNB.out (w.heap.size + 1) k hk W h1 h2)
      clear hns hms HO
      have hBa : Below wr.heap.size wr (wr.alloc (.cells #[.string (tx (tellN k)), .int .i64 (loN k), .int .i64 (hiN k), .pointer (cntP w.heap.size k), .pointer (timP w.heap.size k), .pointer (tieP w.heap.size k)] 70)) := (Below.refl _ _).alloc (Nat.le_refl _) _
      have HC := Lib.hid (CellsAt.new #[.string (tx (tellN k)), .int .i64 (loN k), .int .i64 (hiN k), .pointer (cntP w.heap.size k), .pointer (timP w.heap.size k), .pointer (tieP w.heap.size k)] 70 wr)
      have HF1 := Lib.hid (CellsAt.below HF.out hBa)
      have HG1 := Lib.hid (CellsAt.below HG.out hBa)
      have HP1 := Lib.hid (CellsAt.below HP.out hBa)
      have HQ1 := Lib.hid (CellsAt.below HQ.out hBa)
      have HT1 := Lib.hid (HT.out.below hBa)
      have HR1 := Lib.hid (HR.out.below hBa)
      have HB1 := Lib.hid (HB.out.trans (hBa.mono HB.out.size))
      clear HF HG HP HQ HT HR HB hBa
      go_wp2
      obtain ⟨W1, hW1⟩ : ∃ W1, wr.alloc (.cells #[.string (tx (tellN k)), .int .i64 (loN k), .int .i64 (hiN k), .pointer (cntP w.heap.size k), .pointer (timP w.heap.size k), .pointer (tieP w.heap.size k)] 70) = W1 := ⟨_, rfl⟩
      rw [hW1] at HC HF1 HG1 HP1 HQ1 HT1 HR1 HB1 ⊢
      obtain ⟨D, hD⟩ : ∃ D, wr.heap.size = D := ⟨_, rfl⟩
      rw [hD] at HC ⊢
      clear c0 c1 c2 c3 c4 c5 hGl hW1 hD
      refine Reg.wp_region_inv (n := 26) (SamePhi w.heap.size (w.heap.size + 1) F k ns ms) (by kernel_rfl) (by kernel_rfl) rfl SamePhi.stays ?_ ?_
      · refine ⟨?_, ?_, ?_, ?_, ?_, ?_, ?_, ?_, ?_, trivial⟩
        · intro cx wc hB hp hs
          have g7 : cx.tmps[7]? = some (.pointer (some ⟨D, 0, none⟩)) := (hs 7 (by kernel_rfl)).trans rfl
          have hc := HC.out.drew.below hB
          have k0 := hc.cell 0 _ rfl
          have k1 := hc.cell 1 _ rfl
          have k2 := hc.cell 2 _ rfl
          have k3 := hc.cell 3 _ rfl
          have k4 := hc.cell 4 _ rfl
          have k5 := hc.cell 5 _ rfl
          refine Reg.ok_value Reg.Old.refl (v := fieldV w.heap.size k) (Reg.wanted_none rfl) ?_ rfl
          unfold fieldV
          go_simp
        · intro cx wc hB hp hs
          have g16 : cx.tmps[16]? = some (fieldV w.heap.size k) := by obtain ⟨_, g, hv⟩ := Reg.pred hp 0 16 (by kernel_rfl) rfl rfl; exact g.trans (congrArg some hv)
          refine Reg.ok_call (f := 30) (args := #[fieldV w.heap.size k]) (Reg.wanted_none rfl) (by go_simp) ((HCA.out wc (CellsAt.below HP1.out.drew hB) (HT1.out.below ((Below.refl _ _).drew.trans hB))).mono ?_)
          rintro e w' ⟨z, rfl, hz, hB2⟩
          exact ⟨_, rfl, hB2, hz⟩
        · intro cx wc hB hp hs
          have g5 : cx.tmps[5]? = some (.slice (some ⟨F, 0, none⟩) 11 11) := (hs 5 (by kernel_rfl)).trans rfl
          refine Reg.ok_value Reg.Old.refl (v := .slice (some ⟨F, 0, none⟩) 11 11) (Reg.wanted_none rfl) ?_ rfl
          go_simp
        · intro cx wc hB hp hs
          have g6 : cx.tmps[6]? = some (.int .i64 (k : Int)) := (hs 6 (by kernel_rfl)).trans rfl
          refine Reg.ok_value Reg.Old.refl (v := .int .i64 (k : Int)) (Reg.wanted_none rfl) ?_ rfl
          go_simp
        · intro cx wc hB hp hs
          have g18 : cx.tmps[18]? = some (.slice (some ⟨F, 0, none⟩) 11 11) := by obtain ⟨_, g, hv⟩ := Reg.pred hp 2 18 (by kernel_rfl) rfl rfl; exact g.trans (congrArg some hv)
          have g19 : cx.tmps[19]? = some (.int .i64 (k : Int)) := by obtain ⟨_, g, hv⟩ := Reg.pred hp 3 19 (by kernel_rfl) rfl rfl; exact g.trans (congrArg some hv)
          refine Reg.ok_value Reg.Old.refl (v := .pointer (some ⟨F, k * 6, none⟩)) (Reg.wanted_none rfl) ?_ rfl
          go_simp
        · intro cx wc hB hp hs
          have g20 : cx.tmps[20]? = some (.pointer (some ⟨F, k * 6, none⟩)) := by obtain ⟨_, g, hv⟩ := Reg.pred hp 4 20 (by kernel_rfl) rfl rfl; exact g.trans (congrArg some hv)
          obtain ⟨k0, k1, k2, k3, k4, k5⟩ := PartsAt.row (CellsAt.below HF1.out.drew hB) hk
          refine Reg.ok_value Reg.Old.refl (v := fieldV (w.heap.size + 1) k) (Reg.wanted_none rfl) ?_ rfl
          unfold fieldV
          go_simp
        · intro cx wc hB hp hs
          have g21 : cx.tmps[21]? = some (fieldV (w.heap.size + 1) k) := by obtain ⟨_, g, hv⟩ := Reg.pred hp 5 21 (by kernel_rfl) rfl rfl; exact g.trans (congrArg some hv)
          refine Reg.ok_call (f := 30) (args := #[fieldV (w.heap.size + 1) k]) (Reg.wanted_none rfl) (by go_simp) ((HCB.out wc (CellsAt.below HQ1.out.drew hB) (HR1.out.below ((Below.refl _ _).drew.trans hB))).mono ?_)
          rintro e w' ⟨z, rfl, hz, hB2⟩
          exact ⟨_, rfl, hB2, hz⟩
        · intro cx wc hB hp hs
          obtain ⟨y1, g17, hy1⟩ := Reg.pred hp 1 17 (by kernel_rfl) rfl rfl
          obtain ⟨y2, g22, hy2⟩ := Reg.pred hp 6 22 (by kernel_rfl) rfl rfl
          refine Reg.ok_call (f := 36) (args := #[y1, y2]) (Reg.wanted_none rfl) (by go_simp) ((equal_any _ _ y1 y2 ns ms wc hy1 hy2).mono ?_)
          rintro e w' ⟨rfl, hB2⟩
          exact ⟨_, rfl, hB2, rfl⟩
        · intro cx wc hB hp hs
          have g23 : cx.tmps[23]? = some (.bool (decide (ns = ms))) := by obtain ⟨_, g, hv⟩ := Reg.pred hp 7 23 (by kernel_rfl) rfl rfl; exact g.trans (congrArg some hv)
          refine Reg.ok_value Reg.Old.refl (v := .bool (!decide (ns = ms))) (Reg.wanted_none rfl) ?_ rfl
          go_simp
      · intro cc wc hB hsz hdf hv ho
        obtain ⟨y1, h17, _⟩ := hv 1 _ 17 rfl rfl
        obtain ⟨y2, h22, _⟩ := hv 6 _ 22 rfl rfl
        have hfr := Reg.frame_eq [_, _, _, _, _, _, _, _, _, _, _, _, _, _, _, _, fieldV w.heap.size k, y1, .slice (some ⟨F, 0, none⟩) 11 11, .int .i64 (k : Int), .pointer (some ⟨F, k * 6, none⟩), fieldV (w.heap.size + 1) k, y2, .bool (decide (ns = ms)), .bool (!decide (ns = ms)), _] (by simpa using hsz) hdf ⟨((Reg.kept ho 0 (by kernel_rfl)).trans rfl), ((Reg.kept ho 1 (by kernel_rfl)).trans rfl), ((Reg.kept ho 2 (by kernel_rfl)).trans rfl), ((Reg.kept ho 3 (by kernel_rfl)).trans rfl), ((Reg.kept ho 4 (by kernel_rfl)).trans rfl), ((Reg.kept ho 5 (by kernel_rfl)).trans rfl), ((Reg.kept ho 6 (by kernel_rfl)).trans rfl), ((Reg.kept ho 7 (by kernel_rfl)).trans rfl), ((Reg.kept ho 8 (by kernel_rfl)).trans rfl), ((Reg.kept ho 9 (by kernel_rfl)).trans rfl), ((Reg.kept ho 10 (by kernel_rfl)).trans rfl), ((Reg.kept ho 11 (by kernel_rfl)).trans rfl), ((Reg.kept ho 12 (by kernel_rfl)).trans rfl), ((Reg.kept ho 13 (by kernel_rfl)).trans rfl), ((Reg.kept ho 14 (by kernel_rfl)).trans rfl), ((Reg.kept ho 15 (by kernel_rfl)).trans rfl), (by obtain ⟨_, g, hx⟩ := hv 0 _ 16 rfl rfl; exact g.trans (congrArg some hx)), h17, (by obtain ⟨_, g, hx⟩ := hv 2 _ 18 rfl rfl; exact g.trans (congrArg some hx)), (by obtain ⟨_, g, hx⟩ := hv 3 _ 19 rfl rfl; exact g.trans (congrArg some hx)), (by obtain ⟨_, g, hx⟩ := hv 4 _ 20 rfl rfl; exact g.trans (congrArg some hx)), (by obtain ⟨_, g, hx⟩ := hv 5 _ 21 rfl rfl; exact g.trans (congrArg some hx)), h22, (by obtain ⟨_, g, hx⟩ := hv 7 _ 23 rfl rfl; exact g.trans (congrArg some hx)), (by obtain ⟨_, g, hx⟩ := hv 8 _ 24 rfl rfl; exact g.trans (congrArg some hx)), ((Reg.kept ho 25 (by kernel_rfl)).trans rfl), trivial⟩
        subst hfr
        have HF2 := Lib.hid (CellsAt.below HF1.out hB)
        have HG2 := Lib.hid (CellsAt.below HG1.out hB)
        have HP2 := Lib.hid (CellsAt.below HP1.out hB)
        have HQ2 := Lib.hid (CellsAt.below HQ1.out hB)
        have HT2 := Lib.hid (HT1.out.below hB)
        have HR2 := Lib.hid (HR1.out.below hB)
        have HB2 := Lib.hid (HB1.out.trans (hB.mono HB1.out.size))
        clear HF1 HG1 HP1 HQ1 HT1 HR1 HB1 hB hv ho hsz hdf h17 h22 HC
        generalize fieldV w.heap.size k = f1
        generalize fieldV (w.heap.size + 1) k = f2
        by_cases hnm : ns = ms
        · have HO2 : Hid ((∀ j, 0 ≤ j → j < 11 → numsN n t j = numsN m r j) ↔ ∀ j, k + 1 ≤ j → j < 11 → numsN n t j = numsN m r j) := Lib.hid (by rw [HNX.out]; exact ⟨fun h => h.2, fun h => ⟨hnm, h⟩⟩)
          rw [decide_eq_true hnm]
          clear hnm HNX
          go_wp2
          go_roundg g
          case measure => omega
          case rel => exact ⟨k + 1, by go_num, by omega, HO2, HF2, HG2, HP2, HQ2, HT2, HR2, HB2⟩
        · have hf : V = false := by
            rw [← Bool.not_eq_true]
            intro h
            exact hnm (HNX.out.1 (HV.out.2 h)).1
          subst hf
          rw [decide_eq_false hnm]
          clear hnm HNX HV
          go_wp2
          go_ret
          exact ⟨rfl, HB2.out⟩
end Go.Proofs.YtdhkonaebhpeeaaDoor.Po

