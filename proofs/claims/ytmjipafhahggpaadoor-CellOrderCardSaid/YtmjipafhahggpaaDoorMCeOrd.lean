/- CellOrder, walked. -/
import Derived.Test.YtmjipafhahggpaaDoorMCeE
import Derived.Test.YtmjipafhahggpaaDoorMcO
namespace Go.Proofs.YtmjipafhahggpaaDoor.Ce
open Go Go.RowKit Hi

theorem unwanted_undef {l : List Oper} {o o' : Oper} {a : Act} {j d : Nat} {want : Bool} (h : o.guard = some (j, want)) (ho : l[j]? = some o') (hd : o'.dst = some d) (hv : a.tmps[d]? = some undef) :
    Region.wanted o (yielded l.toArray a.tmps) = false := by
  unfold Region.wanted
  rw [h]
  simp [yielded, ho, hd, hv, undef]
theorem lowN_cons (y : Int) (l : List Int) : lowN (y :: l) = min (lowN l) y := by
  unfold lowN
  rw [show y :: l = [y] ++ l from rfl, foldl_min_perm (List.perm_append_comm (l₁ := [y]) (l₂ := l)), List.foldl_append]
  rfl
theorem topN_cons (y : Int) (l : List Int) : topN (y :: l) = max (topN l) y := by
  unfold topN
  rw [show y :: l = [y] ++ l from rfl, foldl_max_perm (List.perm_append_comm (l₁ := [y]) (l₂ := l)), List.foldl_append]
  rfl
theorem sum_in {l : List Int} (h : ∀ x ∈ l, In64 x) (hl : l.length ≤ 1000) : Wi.InS l.sum := by
  have h1 := sum_ge (a := -9223372036854775808) fun x hx => (h x hx).1
  have h2 := sum_le (a := 9223372036854775807) fun x hx => (h x hx).2
  unfold Wi.InS
  omega
def OrdPhi0 (Ca Ba Cb Bb Cc _ _ : Nat) (_ : Cel) (_ : List Int) (m m2 : Nat) (z _ _ : Int) (pB : Option Addr) (capB : Nat) (p' : Option Addr) (cap' : Nat) : Nat → Value → World → Prop
  | i, v, _ => v = ([.bool true, .bool true, .int .i64 0, .bool true, .bool true, .bool true, .pointer (some ⟨Ca, 0, none⟩), .pointer (some ⟨Cc, 0, none⟩), .bool true, .bool true, .bool true, .pointer (some ⟨Ca, 0, none⟩), Wi.sv z, Wi.sv z, .bool true, .bool true, .bool true, .pointer (some ⟨Ca, 0, none⟩), .pointer (some ⟨Ca, 0, none⟩), .pointer (some ⟨Ca, 0, none⟩), .pointer (some ⟨Ba, 0, none⟩), .int .u64 ((m : Int)), .slice pB m capB, .int .i64 ((m : Int)), .int .u64 ((m : Int)), .bool true, .bool true, .bool true, .bool false, .slice pB m capB, .int .i64 ((m : Int)), .bool false, .bool true, .bool true, .bool true, .bool false, .bool true, .bool true, undef, undef, undef, undef, undef, undef, undef, undef, .bool true, .bool true, .bool true, .pointer (some ⟨Cb, 0, none⟩), .pointer (some ⟨Cb, 0, none⟩), .pointer (some ⟨Cb, 0, none⟩), .pointer (some ⟨Bb, 0, none⟩), .int .u64 ((m2 : Int)), (.slice p' m2 cap'), .int .i64 ((m2 : Int)), .int .u64 ((m2 : Int)), .bool true, .bool true, .bool true, .pointer (some ⟨Ca, 0, none⟩), .int .i64 3, .bool true, .bool true, .bool true] : List Value).getD i undef
theorem OrdPhi0.stays {Ca Ba Cb Bb Cc K k : Nat} {q : Cel} {L2 : List Int} {m m2 : Nat} {z lo hi : Int} {pB : Option Addr} {capB : Nat} {p' : Option Addr} {cap' : Nat} : ∀ i v wx wy, OrdPhi0 Ca Ba Cb Bb Cc K k q L2 m m2 z lo hi pB capB p' cap' i v wx → Reg.Old wx wy → OrdPhi0 Ca Ba Cb Bb Cc K k q L2 m m2 z lo hi pB capB p' cap' i v wy := fun _ _ _ _ h _ => h
def OrdPhi1 (Ca Ba Cb Bb Cc _ _ : Nat) (_ : Cel) (_ : List Int) (m m2 : Nat) (z lo hi : Int) (pB : Option Addr) (capB : Nat) (p' : Option Addr) (cap' : Nat) : Nat → Value → World → Prop
  | i, v, _ => v = ([.bool true, .bool true, .int .i64 0, .bool true, .bool true, .bool true, .pointer (some ⟨Ca, 0, none⟩), .pointer (some ⟨Cc, 0, none⟩), .bool true, .bool true, .bool true, .pointer (some ⟨Ca, 0, none⟩), Wi.sv z, Wi.sv z, .bool true, .bool true, .bool true, .pointer (some ⟨Ca, 0, none⟩), .pointer (some ⟨Ca, 0, none⟩), .pointer (some ⟨Ca, 0, none⟩), .pointer (some ⟨Ba, 0, none⟩), .int .u64 ((m : Int)), .slice pB m capB, .int .i64 ((m : Int)), .int .u64 ((m : Int)), .bool true, .bool true, .bool true, .bool true, .slice pB m capB, .int .i64 ((m : Int)), .bool true, .bool true, .bool true, .bool true, .bool true, .bool false, .bool false, .int .i64 lo, .int .i64 lo, .bool true, .bool true, .int .i64 hi, .int .i64 hi, .bool true, .bool true, .bool true, .bool true, .bool true, .pointer (some ⟨Cb, 0, none⟩), .pointer (some ⟨Cb, 0, none⟩), .pointer (some ⟨Cb, 0, none⟩), .pointer (some ⟨Bb, 0, none⟩), .int .u64 ((m2 : Int)), (.slice p' m2 cap'), .int .i64 ((m2 : Int)), .int .u64 ((m2 : Int)), .bool true, .bool true, .bool true, .pointer (some ⟨Ca, 0, none⟩), .int .i64 3, .bool true, .bool true, .bool true] : List Value).getD i undef
theorem OrdPhi1.stays {Ca Ba Cb Bb Cc K k : Nat} {q : Cel} {L2 : List Int} {m m2 : Nat} {z lo hi : Int} {pB : Option Addr} {capB : Nat} {p' : Option Addr} {cap' : Nat} : ∀ i v wx wy, OrdPhi1 Ca Ba Cb Bb Cc K k q L2 m m2 z lo hi pB capB p' cap' i v wx → Reg.Old wx wy → OrdPhi1 Ca Ba Cb Bb Cc K k q L2 m m2 z lo hi pB capB p' cap' i v wy := fun _ _ _ _ h _ => h
set_option maxRecDepth 100000 in
set_option maxHeartbeats 16000000 in
theorem CellOrder_core (x : Nat) (hx : x < 256) (p : Option Addr) (xs : List Int) (cap : Nat) (hc : xs.length ≤ cap) (_ : cap ≤ 9223372036854775807) (p' : Option Addr) (ys : List Int) (cap' : Nat) (hc' : ys.length ≤ cap') (_ : cap' ≤ 9223372036854775807)
    (hz : p = none → cap = 0) (hz' : p' = none → cap' = 0) (w : World) (hT : Wi.Tens w) (hN : Ints p xs w) (hN' : Ints p' ys w) :
    Calls Tryd.prog 3 #[.int .u8 x, .slice p xs.length cap, .slice p' ys.length cap'] w fun e w' => e = .returned (.bool true) ∧ Below w.heap.size w w' := by
  have HT := Lib.hid hT
  have HZ1 := Lib.hid hz
  have HZ2 := Lib.hid hz'
  have HN1 := Lib.hid (hN.take 30)
  have HN2 := Lib.hid (hN'.take 30)
  obtain ⟨k, hk⟩ : ∃ k, x % 5 = k := ⟨_, rfl⟩
  have HK : Hid (k ≤ 4) := Lib.hid (by omega)
  have HXK : Hid ((x : Int) % 5 = (k : Int)) := Lib.hid (by omega)
  have hki : (x : Int) % 5 = (k : Int) := by omega
  have e1 : (xs.take 30).length = min xs.length 30 := by rw [List.length_take]; omega
  have e2 : (ys.take 30).length = min ys.length 30 := by rw [List.length_take]; omega
  generalize xs.take 30 = L1 at *
  generalize ys.take 30 = L2 at *
  generalize xs.length = nx at *
  generalize ys.length = ny at *
  obtain ⟨m1, hm1⟩ : ∃ m1, L1.length = m1 := ⟨_, rfl⟩
  obtain ⟨m2, hm2⟩ : ∃ m2, L2.length = m2 := ⟨_, rfl⟩
  have HM1 := Lib.hid hm1
  have HM2 := Lib.hid hm2
  rw [hm1] at e1
  rw [hm2] at e2
  have i1 : min (nx : Int) 30 = (m1 : Int) := by omega
  have i2 : min (ny : Int) 30 = (m2 : Int) := by omega
  have b1 : m1 ≤ 30 := by omega
  have b2 : m2 ≤ 30 := by omega
  have b3 : m1 ≤ cap := by omega
  have b4 : m2 ≤ cap' := by omega
  obtain ⟨A, hA⟩ : ∃ A, L1 ++ L2 = A := ⟨_, rfl⟩
  have HA := Lib.hid hA
  obtain ⟨m, hm⟩ : ∃ m, m1 + m2 = m := ⟨_, rfl⟩
  have HAM : Hid (A.length = m) := Lib.hid (by rw [← hA, List.length_append, hm1, hm2, hm])
  have H64 : Hid (∀ y ∈ A, In64 y) := Lib.hid fun y hy => by
    rw [← hA] at hy
    rcases List.mem_append.1 hy with hy | hy
    · exact HN1.out.in64 y hy
    · exact HN2.out.in64 y hy
  have HMM := Lib.hid hm
  have hm60 : m ≤ 60 := by omega
  clear hN hN' hk e1 e2 hm1 hm2 hT hz hz' hA hm
  go_enter Tryd.func3, Tryd.ntmps3
  go_wp2_with fail
  refine (examples_any _ HT.out).mono ?_
  rintro e w1 ⟨rfl, hB⟩
  have hBs : Below w.heap.size w (w1.alloc (.cells #[.int .i64 0, .int .u64 0] 26)) := hB.alloc hB.size _
  obtain ⟨K, hK⟩ : ∃ K, w1.heap.size = K := ⟨_, rfl⟩
  have hX : CellsAt w1.heap.size #[.int .i64 0, .int .u64 0] (w1.alloc (.cells #[.int .i64 0, .int .u64 0] 26)) := CellsAt.new _ _ _
  have hwK : w.heap.size ≤ w1.heap.size := hB.size
  have hsz : (w1.alloc (.cells #[.int .i64 0, .int .u64 0] 26)).heap.size = w1.heap.size + 1 := by simp
  obtain ⟨w2, hw2⟩ : ∃ w2, w1.alloc (.cells #[.int .i64 0, .int .u64 0] 26) = w2 := ⟨_, rfl⟩
  rw [hw2] at hBs hX hsz
  obtain ⟨vA, wA, hrA, hOA, hMA, hatA⟩ := append_longs (c := cap) 22 (OwnL.nil w2.heap.size w2) ((HN1.out.below hBs).src HZ1.out) (by rw [List.length_nil, HM1.out]; omega) (Nat.le_refl _)
  rw [List.nil_append] at hOA
  have hBA : Below w.heap.size w wA := hBs.trans (hMA.below (fun j hj => by simp [Value.ownBlock] at hj) hBs.size)
  obtain ⟨vB, wB, hrB, hOB, hMB, hatB⟩ := append_longs (c := cap') 22 hOA ((HN2.out.below hBA).src HZ2.out) (by rw [HM1.out, HM2.out]; omega) (hMA.size)
  rw [HA.out] at hOB
  have hBB : Below w.heap.size w wB := hBA.trans (hMB.below (fun j hj => by have := (hOA.lt hj).1; omega) hBA.size)
  have hXB : CellsAt w1.heap.size #[.int .i64 0, .int .u64 0] wB := (hX.mov hMA (fun h => by simp [Value.ownBlock] at h)).mov hMB (fun h => by have := (hOA.lt h).1; omega)
  rw [HM1.out] at hrA
  rw [HM2.out] at hrB
  obtain ⟨N8, hN8⟩ : ∃ N, wB.heap.size = N := ⟨_, rfl⟩
  have HVB : Hid (∀ g, vB.ownBlock = some g → w1.heap.size < g ∧ g < N8) := Lib.hid fun g hg => by have := hOB.lt hg; omega
  have HKN : Hid (w1.heap.size < N8 ∧ w.heap.size ≤ w1.heap.size) := Lib.hid ⟨by have := hXB.lt; omega, hwK⟩
  have HO12 : Hid (OwnL (w1.heap.size + 1) vB A wB) := Lib.hid (hOB.mono (by omega))
  have HBB := Lib.hid hBB
  have HXB := Lib.hid hXB
  have HON : Hid (OwnL N8 (.slice none 0 0) ((A.drop m).reverse) wB) := Lib.hid (by rw [List.drop_eq_nil_of_le (by rw [HAM.out]; exact Nat.le_refl _)]; exact OwnL.nil _ _)
  have HL0 : Hid (lowN (A.drop m) = 9223372036854775807 ∧ topN (A.drop m) = -9223372036854775808 ∧ (A.drop m).sum = 0) := Lib.hid (by rw [List.drop_eq_nil_of_le (by rw [HAM.out]; exact Nat.le_refl _)]; exact ⟨rfl, rfl, rfl⟩)
  have HN8s : Hid (N8 ≤ wB.heap.size) := Lib.hid (Nat.le_of_eq hN8.symm)
  obtain ⟨pB, capB, hvB, hcB, hmB⟩ : ∃ pB capB, vB = .slice pB m capB ∧ m ≤ capB ∧ capB ≤ maxLen := by
    obtain ⟨pB, capB, h1, h2, h3, _⟩ := hOB.ints H64.out
    rw [HAM.out] at h1 h2
    exact ⟨pB, capB, h1, h2, h3⟩
  subst hvB
  clear hB hBs hX hwK hsz hOA hMA hatA hBA hOB hMB hatB hBB hXB hN8 hK
  subst hw2
  go_wp2_with (at_builtin; first | refine Lib.wpList_append_run _ rfl _ _ _ _ rfl _ _ rfl rfl _ _ hrA ?_ | refine Lib.wpList_append_run _ rfl _ _ _ _ rfl _ _ rfl rfl _ _ hrB ?_)
  generalize w1.heap.size = K at *
  have HI : Hid (∀ wx, OwnL (K + 1) (.slice pB m capB) A wx → Ints pB A wx) := Lib.hid fun wx h => by
    obtain ⟨p1, c1, e1, _, _, h4⟩ := h.ints H64.out
    cases e1
    exact h4
  have HX0 : Hid (CellsAt K #[.int .i64 (Wi.shi 0), .int .u64 (Wi.slo 0)] wB) := HXB
  clear hrA hrB HXB hki
  go_loopg [8, 10, 11, 13] m (fun g s8 s10 s11 s13 wx => ∃ z lo hi : Int, s13 = .int .i64 ((g : Int) - 1) ∧ g ≤ m ∧ s10 = .int .i64 lo ∧ s11 = .int .i64 hi ∧ Hid (lowN (A.drop g) = lo ∧ topN (A.drop g) = hi ∧ (A.drop g).sum = z) ∧ Hid (OwnL N8 s8 (A.drop g).reverse wx) ∧ Hid (CellsAt K #[.int .i64 (Wi.shi z), .int .u64 (Wi.slo z)] wx) ∧ Hid (OwnL (K + 1) (.slice pB m capB) A wx) ∧ Hid (N8 ≤ wx.heap.size) ∧ Hid (Below w.heap.size w wx))
  case atStart => exact ⟨0, 9223372036854775807, -9223372036854775808, by go_num, Nat.le_refl _, rfl, rfl, HL0, HON, HX0, HO12, HN8s, HBB⟩
  case round =>
    clear HL0 HON HX0 HO12 HN8s HBB
    obtain ⟨z, lo, hi, rfl, hg, rfl, rfl, HV, HO, HX, HO12, HNs, HB⟩ := hrel
    cases gk with
    | succ g =>
      have hgA : g < A.length := by rw [HAM.out]; omega
      obtain ⟨C, off, hpB, hC, hcell, hlt⟩ := HI.out _ HO12.out g hgA
      subst hpB
      have hCb := HVB.out C rfl
      obtain ⟨y, hy⟩ : ∃ y, A[g] = y := ⟨_, rfl⟩
      obtain ⟨v', w', hr, hO', hM', hat'⟩ := append_long 22 HO.out A[g] (by rw [List.length_reverse, List.length_drop, HAM.out]; omega) HNs.out
      rw [rev_drop hgA] at hO'
      rw [hy] at hcell hr hlt
      have hK8 := HKN.out.1
      have hown := fun (j : Nat) hj => (HO.out.lt (g := j) hj).1
      have hcell' : w'.cell? ⟨C, off + g, none⟩ = some (.int .i64 y) := (hM'.cell hC (fun h => by have := hown C h; omega)).trans hcell
      have hX' := HX.out.mov hM' (fun h => by have := hown K h; omega)
      have hO12' := HO12.out.mov hM' (fun j hj h => by have := hown j h; have := HVB.out j hj; omega)
      have hB' : Below w.heap.size w w' := below_mov HB.out hM' (fun j hj => by have := hown j hj; have := HKN.out; omega) (by have := HB.out.size; omega)
      have hN' : N8 ≤ w'.heap.size := Nat.le_trans HNs.out hM'.size
      have hv' : ∀ j, v'.ownBlock = some j → N8 ≤ j := fun j hj => (hO'.lt hj).1
      have hC' : C < w'.heap.size := Nat.lt_of_lt_of_le hC hM'.size
      obtain ⟨z2, hz2⟩ : ∃ z2, z + y = z2 := ⟨_, rfl⟩
      have hdr : A.drop g = y :: A.drop (g + 1) := by rw [List.drop_eq_getElem_cons hgA, hy]
      have HV2 : Hid (lowN (A.drop g) = min lo y ∧ topN (A.drop g) = max hi y ∧ (A.drop g).sum = z2) := Lib.hid (by
        obtain ⟨h1, h2, h3⟩ := HV.out
        rw [hdr, lowN_cons, topN_cons, List.sum_cons, h1, h2, h3]
        exact ⟨rfl, rfl, by omega⟩)
      have hin : ∀ q : Nat, Wi.InS (A.drop q).sum := fun q => sum_in (fun x hx => H64.out x (List.drop_subset q A hx)) (by rw [List.length_drop, HAM.out]; omega)
      have hiz : Wi.InS z := HV.out.2.2 ▸ hin (g + 1)
      have hiz2 : Wi.InS z2 := HV2.out.2.2 ▸ hin g
      have HOF : Hid (∀ W, Calls Tryd.prog 9 #[.int .i64 y] W fun e w' => e = .returned (Wi.sv y) ∧ Below W.heap.size W w') := Lib.hid fun W => Wi.of_any y hlt.1 hlt.2 W
      have HAD : Hid (∀ W, Calls Tryd.prog 8 #[Wi.sv z, Wi.sv y] W fun e w' => e = .returned (Wi.sv z2) ∧ Below W.heap.size W w') := Lib.hid fun W => by
        have h := Wi.add_any z y hiz (Wi.InS.small hlt.1 hlt.2) W
        rwa [hz2, Wi.w128_of hiz2] at h
      have HX1 := Lib.hid hX'
      have HO1 := Lib.hid hO'
      have HO12' := Lib.hid hO12'
      have HB1 := Lib.hid hB'
      have HN1' := Lib.hid hN'
      have HCC := Lib.hid hcell'
      have HCs := Lib.hid hC'
      have HCb := Lib.hid hCb
      have c0 := hX'.cell 0 _ rfl
      have c1 := hX'.cell 1 _ rfl
      have e10 : ((g + 1 : Nat) : Int) - 1 = (g : Int) := by omega
      rw [e10]
      have hgm : (g : Int) < (m : Int) := by omega
      clear hO' hM' hat' HO HB hy e10 hX' hO12' hB' hN' hv' hC' hCb hz2 hdr HV hin hiz hiz2 hown HX HO12 HNs hK8 hlt hC
      go_wp2_with (at_builtin; refine Lib.wpList_append_run _ rfl _ _ _ _ rfl _ _ rfl rfl _ _ hr ?_)
      go_region_with (first | (refine (HOF.out _).mono ?_; rintro e Wa ⟨rfl, hBa⟩; have hXa := HX1.out.drew.below hBa; have y0 := hXa.cell 0 _ rfl; have y1 := hXa.cell 1 _ rfl) | (refine (HAD.out _).mono ?_; rintro e Wb ⟨rfl, hBb⟩; have hXb := hXa.below hBb; have v0 := hXb.cell 0 _ rfl; have v1 := hXb.cell 1 _ rfl; have f0 := hXb.fro 0 _ rfl; have f1 := hXb.fro 1 _ rfl))
      all_goals
        have hBw : Below w'.heap.size w' Wb := ((Below.refl w'.heap.size w').drew.trans hBa).trans (hBb.mono hBa.size)
        have hMv : Mov (fun i => i = K) w' ((Wb.setCell ⟨K, 0, none⟩ (.int .i64 (Wi.shi z2))).setCell ⟨K, 1, none⟩ (.int .u64 (Wi.slo z2))) := ((Mov.ofB (S := fun i => i = K) hBw).set rfl 0 _).set rfl 1 _
        have HX2 : Hid (CellsAt K #[.int .i64 (Wi.shi z2), .int .u64 (Wi.slo z2)] ((Wb.setCell ⟨K, 0, none⟩ (.int .i64 (Wi.shi z2))).setCell ⟨K, 1, none⟩ (.int .u64 (Wi.slo z2)))) := Lib.hid ((hXb.set 0 _ (by simp)).set 1 _ (by simp))
        have HO2 := Lib.hid (HO1.out.mov hMv (fun j hj e => by have := (HO1.out.lt hj).1; have := HKN.out.1; omega))
        have HO122 := Lib.hid (HO12'.out.mov hMv (fun j hj e => by have := HVB.out j hj; omega))
        have HB2 := Lib.hid (HB1.out.trans (hMv.below (fun j hj => by rw [hj]; exact HKN.out.2) HB1.out.size))
        have HN2' := Lib.hid (Nat.le_trans HN1'.out hMv.size)
        have hc3 : ((Wb.setCell ⟨K, 0, none⟩ (.int .i64 (Wi.shi z2))).setCell ⟨K, 1, none⟩ (.int .u64 (Wi.slo z2))).cell? ⟨C, off + g, none⟩ = some (.int .i64 y) := (hMv.cell HCs.out (fun e => by have := HCb.out; omega)).trans HCC.out
        have hC3 : C < ((Wb.setCell ⟨K, 0, none⟩ (.int .i64 (Wi.shi z2))).setCell ⟨K, 1, none⟩ (.int .u64 (Wi.slo z2))).heap.size := Nat.lt_of_lt_of_le HCs.out hMv.size
        generalize ((Wb.setCell ⟨K, 0, none⟩ (.int .i64 (Wi.shi z2))).setCell ⟨K, 1, none⟩ (.int .u64 (Wi.slo z2))) = W3 at *
        clear c0 c1 hBa hBb hXa hXb y0 y1 v0 v1 f0 f1 hBw hMv hcell hcell' hr HX1 HO1 HO12' HB1 HN1' HCC HCs HCb HOF HAD
        go_wp2
        go_roundg g
        case measure => omega
        case rel => exact ⟨z2, min lo y, max hi y, by go_num, by omega, rfl, rfl, HV2, HO2, HX2, HO122, HN2', HB2⟩
    | zero =>
      have e10 : ((0 : Nat) : Int) - 1 = -1 := rfl
      rw [e10]
      rw [List.drop_zero] at HO HV
      have h64r : ∀ y ∈ A.reverse, In64 y := fun y hy => H64.out y (List.mem_reverse.1 hy)
      obtain ⟨pC, capC, rfl, hcC, hmC, hIC⟩ := HO.out.ints h64r
      have hrl : A.reverse.length = m := by rw [List.length_reverse]; exact HAM.out
      have HOF1 : Hid (∀ W, Ints p L1 W → Calls Tryd.prog 10 #[.int .i64 3, .int .i64 k, .slice p m1 cap] W fun e w' => ∃ C S, e = .returned (.pointer (some ⟨C, 0, none⟩)) ∧ At.Made (celN k 3 L1) W C S w') := Lib.hid fun W hW => by
        have := of_any 3 (by unfold In64; omega) k HK.out p L1 cap (by rw [HM1.out]; omega) W hW
        rwa [HM1.out] at this
      have HOF2 : Hid (∀ W, Ints p' L2 W → Calls Tryd.prog 10 #[.int .i64 8, .int .i64 k, .slice p' m2 cap'] W fun e w' => ∃ C S, e = .returned (.pointer (some ⟨C, 0, none⟩)) ∧ At.Made (celN k 8 L2) W C S w') := Lib.hid fun W hW => by
        have := of_any 8 (by unfold In64; omega) k HK.out p' L2 cap' (by rw [HM2.out]; omega) W hW
        rwa [HM2.out] at this
      have HOF3 : Hid (∀ W, Ints pC A.reverse W → Calls Tryd.prog 10 #[.int .i64 3, .int .i64 k, .slice pC m capC] W fun e w' => ∃ C S, e = .returned (.pointer (some ⟨C, 0, none⟩)) ∧ At.Made (celN k 3 A) W C S w') := Lib.hid fun W hW => by
        have := of_any 3 (by unfold In64; omega) k HK.out pC A.reverse capC (by rw [hrl]; omega) W hW
        rwa [hrl, celN_perm (List.reverse_perm A)] at this
      have HI1 := Lib.hid (HN1.out.below HB.out)
      have HI2 := Lib.hid (HN2.out.below HB.out)
      have HI3 := Lib.hid hIC
      have HMG : Hid ((celN k 3 L1).merge (celN k 8 L2) = celN k 3 A) := Lib.hid (by rw [celN_merge k 3 8 L1 L2 HN1.out.in64 HN2.out.in64, HA.out])
      have HC1 : Hid (countH (celN k 3 L1).its = m1) := Lib.hid (by rw [celN_many]; exact HM1.out)
      have HC2 : Hid (countH (celN k 8 L2).its = m2) := Lib.hid (by rw [celN_many]; exact HM2.out)
      have HC3 : Hid (countH (celN k 3 A).its = m) := Lib.hid (by rw [celN_many]; exact HAM.out)
      have HKK : Hid ((celN k 8 L2).k = (celN k 3 L1).k) := Lib.hid (by rw [celN_eq, celN_eq])
      have HQ : Hid ((celN k 3 A).sum = z ∧ (celN k 3 A).low = lo ∧ (celN k 3 A).top = hi ∧ (celN k 3 A).frm = 3) := Lib.hid (by rw [celN_eq]; exact ⟨HV.out.2.2, HV.out.1, HV.out.2.1, rfl⟩)
      have hki : (x : Int) % 5 = (k : Int) := by have := HXK.out; omega
      rw [hrl] at hcC ⊢
      clear e10 h64r hrl hIC HO HV HO12 HNs HN1 HN2 HI H64 HVB HKN
      by_cases hm0 : m = 0
      · have hgt : decide ((0 : Int) < (m : Int)) = false := decide_eq_false (by omega)
        have HM0 := Lib.hid hm0
        have HGT := Lib.hid hgt
        have HW1 : Hid (IntKind.u64.wrap (m : Int) = (m : Int)) := Lib.hid (by rw [IntKind.wrap_u64]; omega)
        have HW2 : Hid (IntKind.u64.wrap (m2 : Int) = (m2 : Int)) := Lib.hid (by rw [IntKind.wrap_u64]; omega)
        clear hm0 hgt
        have HB5 : Hid (Below wr.heap.size wr wr) := Lib.hid (Below.refl _ _)
        have h1 := HOF1.out _ HI1.out
        go_wp2_with fail
        refine (h1).mono ?_
        rintro e w6 ⟨Ca, Sa, rfl, hA, hlo, hB⟩
        have HA := Lib.hid hA
        have HSa : Hid (∀ i, Sa i → wr.heap.size ≤ i) := Lib.hid fun i hi => Nat.le_trans HB5.out.size (hlo i hi)
        clear hA hlo
        have HB6 : Hid (Below wr.heap.size wr w6) := Lib.hid (HB5.out.trans (hB.mono HB5.out.size))
        clear hB HB5 h1 HOF1 HI1
        have Ha6 : Hid (At Sa Ca (celN k 3 L1) w6) := HA
        clear HA
        have h1 := HOF2.out _ (HI2.out.below HB6.out)
        go_wp2_with fail
        refine (h1).mono ?_
        rintro e w7 ⟨Cb, Sb, rfl, hA, hlo, hB⟩
        have HA := Lib.hid hA
        have HSb : Hid (∀ i, Sb i → wr.heap.size ≤ i) := Lib.hid fun i hi => Nat.le_trans HB6.out.size (hlo i hi)
        have HDab : Hid (∀ i, Sa i → ¬ Sb i) := Lib.hid fun i hi hj => by
          have h1 := Ha6.out.own i hi
          have h2 := hlo i hj
          omega
        clear hA hlo
        have HB7 : Hid (Below wr.heap.size wr w7) := Lib.hid (HB6.out.trans (hB.mono HB6.out.size))
        have Ha7 := Lib.hid (Ha6.out.below hB)
        clear hB HB6 Ha6 h1 HOF2 HI2
        have Hb7 : Hid (At Sb Cb (celN k 8 L2) w7) := HA
        clear HA
        have h1 := HOF3.out _ (HI3.out.below HB7.out)
        go_wp2_with fail
        refine (h1).mono ?_
        rintro e w8 ⟨Cc, Sc, rfl, hA, hlo, hB⟩
        have HA := Lib.hid hA
        have HSc : Hid (∀ i, Sc i → wr.heap.size ≤ i) := Lib.hid fun i hi => Nat.le_trans HB7.out.size (hlo i hi)
        have HDac : Hid (∀ i, Sa i → ¬ Sc i) := Lib.hid fun i hi hj => by
          have h1 := Ha7.out.own i hi
          have h2 := hlo i hj
          omega
        have HDbc : Hid (∀ i, Sb i → ¬ Sc i) := Lib.hid fun i hi hj => by
          have h1 := Hb7.out.own i hi
          have h2 := hlo i hj
          omega
        clear hA hlo
        have HB8 : Hid (Below wr.heap.size wr w8) := Lib.hid (HB7.out.trans (hB.mono HB7.out.size))
        have Ha8 := Lib.hid (Ha7.out.below hB)
        have Hb8 := Lib.hid (Hb7.out.below hB)
        clear hB HB7 Ha7 Hb7 h1 HOF3 HI3
        have Hc8 : Hid (At Sc Cc (celN k 3 A) w8) := HA
        clear HA
        have h1 := merge_any Ha8.out Hb8.out HDab.out HKK.out (by rw [HC1.out, HC2.out]; omega)
        rw [HMG.out] at h1
        go_wp2_with fail
        refine (h1).mono ?_
        rintro e w9 ⟨rfl, Sax1, hA, hM, hat⟩
        have HSSax1 : Hid (∀ i, Sax1 i → wr.heap.size ≤ i) := Lib.hid fun i hi => (hat i hi).elim (fun h => HSa.out i h) (fun h => Nat.le_trans HB8.out.size h)
        have HDSax1b : Hid (∀ i, Sax1 i → ¬ Sb i) := Lib.hid fun i hi hj => (hat i hi).elim (fun h => HDab.out i h hj) (fun h => by have := Hb8.out.own i hj; omega)
        have Hb9 := Lib.hid (Hb8.out.mov hM (fun i hi hj => HDab.out i hj hi))
        have HDSax1c : Hid (∀ i, Sax1 i → ¬ Sc i) := Lib.hid fun i hi hj => (hat i hi).elim (fun h => HDac.out i h hj) (fun h => by have := Hc8.out.own i hj; omega)
        have Hc9 := Lib.hid (Hc8.out.mov hM (fun i hi hj => HDac.out i hj hi))
        have HB9 : Hid (Below wr.heap.size wr w9) := Lib.hid (HB8.out.trans (hM.below (fun i hi => HSa.out i hi) HB8.out.size))
        have Ha9 : Hid (At Sax1 Ca (celN k 3 A) w9) := Lib.hid hA
        clear hA hM hat HB8 Ha8 Hb8 Hc8 HSa HDab HDac h1 HMG HC1 HKK
        have HSax1 := HSSax1
        clear HSSax1
        generalize celN k 3 A = q at *
        have h1 := bounds_any Ha9.out
        rw [HC3.out] at h1
        unfold Cel.lowT Cel.topT at h1
        rw [HC3.out, if_pos HM0.out, if_pos HM0.out, show decide (m ≠ 0) = false from decide_eq_false (by have := HM0.out; omega)] at h1
        go_wp2_with fail
        refine (h1).mono ?_
        rintro e w10 ⟨rfl, hB⟩
        have HB10 : Hid (Below wr.heap.size wr w10) := Lib.hid (HB9.out.trans (hB.mono HB9.out.size))
        have Ha10 := Lib.hid (Ha9.out.below hB)
        have Hb10 := Lib.hid (Hb9.out.below hB)
        have Hc10 := Lib.hid (Hc9.out.below hB)
        clear hB HB9 Ha9 Hb9 Hc9 h1
        obtain ⟨Ba, va, hSa, hCa⟩ := Ha10.out
        have HKa := Lib.hid hCa.cells
        have HCa := Lib.hid hCa
        clear hCa hSa
        obtain ⟨Bb, vb, hSb, hCb⟩ := Hb10.out
        have HKb := Lib.hid hCb.cells
        have HCb := Lib.hid hCb
        clear hCb hSb
        have HSm : Hid (∀ wc, Below w10.drew.heap.size w10.drew wc → Calls Tryd.prog 13 #[.pointer (some ⟨Ca, 0, none⟩), .pointer (some ⟨Cc, 0, none⟩)] wc fun e w' => e = .returned (.bool true) ∧ Below wc.heap.size wc w') := Lib.hid fun wc hB => by
          have := same_any (Ha10.out.below ((Below.refl _ _).drew.trans hB)) (Hc10.out.below ((Below.refl _ _).drew.trans hB))
          rwa [show decide (q.put = q.put) = true from decide_eq_true rfl] at this
        have HSu : Hid (∀ wc, Below w10.drew.heap.size w10.drew wc → Calls Tryd.prog 14 #[.pointer (some ⟨Ca, 0, none⟩)] wc fun e w' => e = .returned (Wi.sv z) ∧ Below wc.heap.size wc w') := Lib.hid fun wc hB => by
          have := sum_any (Ha10.out.below ((Below.refl _ _).drew.trans hB))
          rwa [HQ.out.1] at this
        have HFr : Hid (∀ wc, Below w10.drew.heap.size w10.drew wc → Calls Tryd.prog 16 #[.pointer (some ⟨Ca, 0, none⟩)] wc fun e w' => e = .returned (.int .i64 3) ∧ Below wc.heap.size wc w') := Lib.hid fun wc hB => by
          have := from_any (Ha10.out.below ((Below.refl _ _).drew.trans hB))
          rwa [HQ.out.2.2.2] at this
        have HCa1 : Hid (∀ wc, Below w10.drew.heap.size w10.drew wc → Calls Tryd.prog 15 #[.pointer (some ⟨Ba, 0, none⟩)] wc fun e w' => e = .returned (.int .u64 (m : Int)) ∧ Below wc.heap.size wc w') := Lib.hid fun wc hB => by
          have := Hi.count_any (HCa.out.below ((Below.refl _ _).drew.trans hB)).hs
          rwa [HC3.out] at this
        have HCb1 : Hid (∀ wc, Below w10.drew.heap.size w10.drew wc → Calls Tryd.prog 15 #[.pointer (some ⟨Bb, 0, none⟩)] wc fun e w' => e = .returned (.int .u64 (m2 : Int)) ∧ Below wc.heap.size wc w') := Lib.hid fun wc hB => by
          have := Hi.count_any (HCb.out.below ((Below.refl _ _).drew.trans hB)).hs
          rwa [HC2.out] at this
        have HXe := Lib.hid (HX.out.belowAt HB10.out HX.out.lt)
        clear HC3 HC2
        go_wp2_with fail
        refine Reg.wp_region_inv (n := 170) (OrdPhi0 Ca Ba Cb Bb Cc K k q L2 m m2 z lo hi pB capB p' cap') (by kernel_rfl) (by kernel_rfl) rfl OrdPhi0.stays ?_ ?_
        · refine ⟨?_, ?_, ?_, ?_, ?_, ?_, ?_, ?_, ?_, ?_, ?_, ?_, ?_, ?_, ?_, ?_, ?_, ?_, ?_, ?_, ?_, ?_, ?_, ?_, ?_, ?_, ?_, ?_, ?_, ?_, ?_, ?_, ?_, ?_, ?_, ?_, ?_, ?_, ?_, ?_, ?_, ?_, ?_, ?_, ?_, ?_, ?_, ?_, ?_, ?_, ?_, ?_, ?_, ?_, ?_, ?_, ?_, ?_, ?_, ?_, ?_, ?_, ?_, ?_, ?_, trivial⟩
          · intro cx wc hB hp hs
            have g7 : cx.tmps[7]? = some (.bool true) := (hs 7 (by kernel_rfl)).trans rfl
            refine Reg.ok_value Reg.Old.refl (v := .bool true) (Reg.wanted_none rfl) ?_ rfl
            go_simp
          · intro cx wc hB hp hs
            have g106 : cx.tmps[106]? = some (.bool true) := by obtain ⟨_, g, hv⟩ := Reg.pred hp 0 106 (by kernel_rfl) rfl rfl; exact g.trans (congrArg some hv)
            refine Reg.ok_value Reg.Old.refl (v := .bool true) (Reg.wanted_none rfl) ?_ rfl
            go_simp
          · intro cx wc hB hp hs
            have g17 : cx.tmps[17]? = some (.int .i64 0) := (hs 17 (by kernel_rfl)).trans rfl
            have g107 : cx.tmps[107]? = some (.bool true) := by obtain ⟨_, g, hv⟩ := Reg.pred hp 1 107 (by kernel_rfl) rfl rfl; exact g.trans (congrArg some hv)
            refine Reg.ok_value Reg.Old.refl (v := .int .i64 0) (Reg.wanted_at (j := 1) (d := 107) rfl rfl rfl g107) ?_ rfl
            go_simp
          · intro cx wc hB hp hs
            have g108 : cx.tmps[108]? = some (.int .i64 0) := by obtain ⟨_, g, hv⟩ := Reg.pred hp 2 108 (by kernel_rfl) rfl rfl; exact g.trans (congrArg some hv)
            have g107 : cx.tmps[107]? = some (.bool true) := by obtain ⟨_, g, hv⟩ := Reg.pred hp 1 107 (by kernel_rfl) rfl rfl; exact g.trans (congrArg some hv)
            refine Reg.ok_value Reg.Old.refl (v := .bool true) (Reg.wanted_at (j := 1) (d := 107) rfl rfl rfl g107) ?_ rfl
            go_simp
          · intro cx wc hB hp hs
            have g107 : cx.tmps[107]? = some (.bool true) := by obtain ⟨_, g, hv⟩ := Reg.pred hp 1 107 (by kernel_rfl) rfl rfl; exact g.trans (congrArg some hv)
            have g109 : cx.tmps[109]? = some (.bool true) := by obtain ⟨_, g, hv⟩ := Reg.pred hp 3 109 (by kernel_rfl) rfl rfl; exact g.trans (congrArg some hv)
            refine Reg.ok_value Reg.Old.refl (v := .bool true) (Reg.wanted_none rfl) ?_ rfl
            go_simp
          · intro cx wc hB hp hs
            have g110 : cx.tmps[110]? = some (.bool true) := by obtain ⟨_, g, hv⟩ := Reg.pred hp 4 110 (by kernel_rfl) rfl rfl; exact g.trans (congrArg some hv)
            refine Reg.ok_value Reg.Old.refl (v := .bool true) (Reg.wanted_none rfl) ?_ rfl
            go_simp
          · intro cx wc hB hp hs
            have g14 : cx.tmps[14]? = some (.pointer (some ⟨Ca, 0, none⟩)) := (hs 14 (by kernel_rfl)).trans rfl
            have g111 : cx.tmps[111]? = some (.bool true) := by obtain ⟨_, g, hv⟩ := Reg.pred hp 5 111 (by kernel_rfl) rfl rfl; exact g.trans (congrArg some hv)
            refine Reg.ok_value Reg.Old.refl (v := .pointer (some ⟨Ca, 0, none⟩)) (Reg.wanted_at (j := 5) (d := 111) rfl rfl rfl g111) ?_ rfl
            go_simp
          · intro cx wc hB hp hs
            have g16 : cx.tmps[16]? = some (.pointer (some ⟨Cc, 0, none⟩)) := (hs 16 (by kernel_rfl)).trans rfl
            have g111 : cx.tmps[111]? = some (.bool true) := by obtain ⟨_, g, hv⟩ := Reg.pred hp 5 111 (by kernel_rfl) rfl rfl; exact g.trans (congrArg some hv)
            refine Reg.ok_value Reg.Old.refl (v := .pointer (some ⟨Cc, 0, none⟩)) (Reg.wanted_at (j := 5) (d := 111) rfl rfl rfl g111) ?_ rfl
            go_simp
          · intro cx wc hB hp hs
            have g112 : cx.tmps[112]? = some (.pointer (some ⟨Ca, 0, none⟩)) := by obtain ⟨_, g, hv⟩ := Reg.pred hp 6 112 (by kernel_rfl) rfl rfl; exact g.trans (congrArg some hv)
            have g113 : cx.tmps[113]? = some (.pointer (some ⟨Cc, 0, none⟩)) := by obtain ⟨_, g, hv⟩ := Reg.pred hp 7 113 (by kernel_rfl) rfl rfl; exact g.trans (congrArg some hv)
            have g111 : cx.tmps[111]? = some (.bool true) := by obtain ⟨_, g, hv⟩ := Reg.pred hp 5 111 (by kernel_rfl) rfl rfl; exact g.trans (congrArg some hv)
            refine Reg.ok_call (f := 13) (args := #[.pointer (some ⟨Ca, 0, none⟩), .pointer (some ⟨Cc, 0, none⟩)]) (Reg.wanted_at (j := 5) (d := 111) rfl rfl rfl g111) (by go_simp) ((HSm.out wc hB).mono ?_)
            rintro e w' ⟨rfl, hB2⟩
            exact ⟨_, rfl, hB2, rfl⟩
          · intro cx wc hB hp hs
            have g111 : cx.tmps[111]? = some (.bool true) := by obtain ⟨_, g, hv⟩ := Reg.pred hp 5 111 (by kernel_rfl) rfl rfl; exact g.trans (congrArg some hv)
            have g114 : cx.tmps[114]? = some (.bool true) := by obtain ⟨_, g, hv⟩ := Reg.pred hp 8 114 (by kernel_rfl) rfl rfl; exact g.trans (congrArg some hv)
            refine Reg.ok_value Reg.Old.refl (v := .bool true) (Reg.wanted_none rfl) ?_ rfl
            go_simp
          · intro cx wc hB hp hs
            have g115 : cx.tmps[115]? = some (.bool true) := by obtain ⟨_, g, hv⟩ := Reg.pred hp 9 115 (by kernel_rfl) rfl rfl; exact g.trans (congrArg some hv)
            refine Reg.ok_value Reg.Old.refl (v := .bool true) (Reg.wanted_none rfl) ?_ rfl
            go_simp
          · intro cx wc hB hp hs
            have g14 : cx.tmps[14]? = some (.pointer (some ⟨Ca, 0, none⟩)) := (hs 14 (by kernel_rfl)).trans rfl
            have g116 : cx.tmps[116]? = some (.bool true) := by obtain ⟨_, g, hv⟩ := Reg.pred hp 10 116 (by kernel_rfl) rfl rfl; exact g.trans (congrArg some hv)
            refine Reg.ok_value Reg.Old.refl (v := .pointer (some ⟨Ca, 0, none⟩)) (Reg.wanted_at (j := 10) (d := 116) rfl rfl rfl g116) ?_ rfl
            go_simp
          · intro cx wc hB hp hs
            have g117 : cx.tmps[117]? = some (.pointer (some ⟨Ca, 0, none⟩)) := by obtain ⟨_, g, hv⟩ := Reg.pred hp 11 117 (by kernel_rfl) rfl rfl; exact g.trans (congrArg some hv)
            have g116 : cx.tmps[116]? = some (.bool true) := by obtain ⟨_, g, hv⟩ := Reg.pred hp 10 116 (by kernel_rfl) rfl rfl; exact g.trans (congrArg some hv)
            refine Reg.ok_call (f := 14) (args := #[.pointer (some ⟨Ca, 0, none⟩)]) (Reg.wanted_at (j := 10) (d := 116) rfl rfl rfl g116) (by go_simp) ((HSu.out wc hB).mono ?_)
            rintro e w' ⟨rfl, hB2⟩
            exact ⟨_, rfl, hB2, rfl⟩
          · intro cx wc hB hp hs
            have g9 : cx.tmps[9]? = some (.pointer (some ⟨K, 0, none⟩)) := (hs 9 (by kernel_rfl)).trans rfl
            have g116 : cx.tmps[116]? = some (.bool true) := by obtain ⟨_, g, hv⟩ := Reg.pred hp 10 116 (by kernel_rfl) rfl rfl; exact g.trans (congrArg some hv)
            have hc := HXe.out.drew.below hB
            have k0 := hc.cell 0 (.int .i64 (Wi.shi z)) rfl
            have k1 := hc.cell 1 (.int .u64 (Wi.slo z)) rfl
            refine Reg.ok_value Reg.Old.refl (v := Wi.sv z) (Reg.wanted_at (j := 10) (d := 116) rfl rfl rfl g116) ?_ rfl
            go_simp
          · intro cx wc hB hp hs
            have g118 : cx.tmps[118]? = some (Wi.sv z) := by obtain ⟨_, g, hv⟩ := Reg.pred hp 12 118 (by kernel_rfl) rfl rfl; exact g.trans (congrArg some hv)
            have g119 : cx.tmps[119]? = some (Wi.sv z) := by obtain ⟨_, g, hv⟩ := Reg.pred hp 13 119 (by kernel_rfl) rfl rfl; exact g.trans (congrArg some hv)
            have g116 : cx.tmps[116]? = some (.bool true) := by obtain ⟨_, g, hv⟩ := Reg.pred hp 10 116 (by kernel_rfl) rfl rfl; exact g.trans (congrArg some hv)
            have e1 := sum_eql (Wi.shi z) (Wi.shi z) (Wi.slo z) (Wi.slo z) wc
            have e2 := sum_guard (.tmp 118) (.tmp 119) #[.int .i64 (Wi.shi z), .int .u64 (Wi.slo z)] #[.int .i64 (Wi.shi z), .int .u64 (Wi.slo z)] wc
            refine Reg.ok_value Reg.Old.refl (v := .bool true) (Reg.wanted_at (j := 10) (d := 116) rfl rfl rfl g116) ?_ rfl
            go_simp
          · intro cx wc hB hp hs
            have g116 : cx.tmps[116]? = some (.bool true) := by obtain ⟨_, g, hv⟩ := Reg.pred hp 10 116 (by kernel_rfl) rfl rfl; exact g.trans (congrArg some hv)
            have g120 : cx.tmps[120]? = some (.bool true) := by obtain ⟨_, g, hv⟩ := Reg.pred hp 14 120 (by kernel_rfl) rfl rfl; exact g.trans (congrArg some hv)
            refine Reg.ok_value Reg.Old.refl (v := .bool true) (Reg.wanted_none rfl) ?_ rfl
            go_simp
          · intro cx wc hB hp hs
            have g121 : cx.tmps[121]? = some (.bool true) := by obtain ⟨_, g, hv⟩ := Reg.pred hp 15 121 (by kernel_rfl) rfl rfl; exact g.trans (congrArg some hv)
            refine Reg.ok_value Reg.Old.refl (v := .bool true) (Reg.wanted_none rfl) ?_ rfl
            go_simp
          · intro cx wc hB hp hs
            have g14 : cx.tmps[14]? = some (.pointer (some ⟨Ca, 0, none⟩)) := (hs 14 (by kernel_rfl)).trans rfl
            have g122 : cx.tmps[122]? = some (.bool true) := by obtain ⟨_, g, hv⟩ := Reg.pred hp 16 122 (by kernel_rfl) rfl rfl; exact g.trans (congrArg some hv)
            refine Reg.ok_value Reg.Old.refl (v := .pointer (some ⟨Ca, 0, none⟩)) (Reg.wanted_at (j := 16) (d := 122) rfl rfl rfl g122) ?_ rfl
            go_simp
          · intro cx wc hB hp hs
            have g123 : cx.tmps[123]? = some (.pointer (some ⟨Ca, 0, none⟩)) := by obtain ⟨_, g, hv⟩ := Reg.pred hp 17 123 (by kernel_rfl) rfl rfl; exact g.trans (congrArg some hv)
            have g122 : cx.tmps[122]? = some (.bool true) := by obtain ⟨_, g, hv⟩ := Reg.pred hp 16 122 (by kernel_rfl) rfl rfl; exact g.trans (congrArg some hv)
            refine Reg.ok_value Reg.Old.refl (v := .pointer (some ⟨Ca, 0, none⟩)) (Reg.wanted_at (j := 16) (d := 122) rfl rfl rfl g122) ?_ rfl
            go_simp
          · intro cx wc hB hp hs
            have g124 : cx.tmps[124]? = some (.pointer (some ⟨Ca, 0, none⟩)) := by obtain ⟨_, g, hv⟩ := Reg.pred hp 18 124 (by kernel_rfl) rfl rfl; exact g.trans (congrArg some hv)
            have g122 : cx.tmps[122]? = some (.bool true) := by obtain ⟨_, g, hv⟩ := Reg.pred hp 16 122 (by kernel_rfl) rfl rfl; exact g.trans (congrArg some hv)
            refine Reg.ok_value Reg.Old.refl (v := .pointer (some ⟨Ca, 0, none⟩)) (Reg.wanted_at (j := 16) (d := 122) rfl rfl rfl g122) ?_ rfl
            go_simp
          · intro cx wc hB hp hs
            have g125 : cx.tmps[125]? = some (.pointer (some ⟨Ca, 0, none⟩)) := by obtain ⟨_, g, hv⟩ := Reg.pred hp 19 125 (by kernel_rfl) rfl rfl; exact g.trans (congrArg some hv)
            have g122 : cx.tmps[122]? = some (.bool true) := by obtain ⟨_, g, hv⟩ := Reg.pred hp 16 122 (by kernel_rfl) rfl rfl; exact g.trans (congrArg some hv)
            have hc := HKa.out.drew.below hB
            have k0 := hc.cell 0 (.pointer (some ⟨Ba, 0, none⟩)) rfl
            refine Reg.ok_value Reg.Old.refl (v := .pointer (some ⟨Ba, 0, none⟩)) (Reg.wanted_at (j := 16) (d := 122) rfl rfl rfl g122) ?_ rfl
            go_simp
          · intro cx wc hB hp hs
            have g126 : cx.tmps[126]? = some (.pointer (some ⟨Ba, 0, none⟩)) := by obtain ⟨_, g, hv⟩ := Reg.pred hp 20 126 (by kernel_rfl) rfl rfl; exact g.trans (congrArg some hv)
            have g122 : cx.tmps[122]? = some (.bool true) := by obtain ⟨_, g, hv⟩ := Reg.pred hp 16 122 (by kernel_rfl) rfl rfl; exact g.trans (congrArg some hv)
            refine Reg.ok_call (f := 15) (args := #[.pointer (some ⟨Ba, 0, none⟩)]) (Reg.wanted_at (j := 16) (d := 122) rfl rfl rfl g122) (by go_simp) ((HCa1.out wc hB).mono ?_)
            rintro e w' ⟨rfl, hB2⟩
            exact ⟨_, rfl, hB2, rfl⟩
          · intro cx wc hB hp hs
            have g12 : cx.tmps[12]? = some (.slice pB m capB) := (hs 12 (by kernel_rfl)).trans rfl
            have g122 : cx.tmps[122]? = some (.bool true) := by obtain ⟨_, g, hv⟩ := Reg.pred hp 16 122 (by kernel_rfl) rfl rfl; exact g.trans (congrArg some hv)
            refine Reg.ok_value Reg.Old.refl (v := .slice pB m capB) (Reg.wanted_at (j := 16) (d := 122) rfl rfl rfl g122) ?_ rfl
            go_simp
          · intro cx wc hB hp hs
            have g128 : cx.tmps[128]? = some (.slice pB m capB) := by obtain ⟨_, g, hv⟩ := Reg.pred hp 22 128 (by kernel_rfl) rfl rfl; exact g.trans (congrArg some hv)
            have g122 : cx.tmps[122]? = some (.bool true) := by obtain ⟨_, g, hv⟩ := Reg.pred hp 16 122 (by kernel_rfl) rfl rfl; exact g.trans (congrArg some hv)
            refine Reg.ok_value Reg.Old.refl (v := .int .i64 ((m : Int))) (Reg.wanted_at (j := 16) (d := 122) rfl rfl rfl g122) ?_ rfl
            go_simp
          · intro cx wc hB hp hs
            have g129 : cx.tmps[129]? = some (.int .i64 ((m : Int))) := by obtain ⟨_, g, hv⟩ := Reg.pred hp 23 129 (by kernel_rfl) rfl rfl; exact g.trans (congrArg some hv)
            have g122 : cx.tmps[122]? = some (.bool true) := by obtain ⟨_, g, hv⟩ := Reg.pred hp 16 122 (by kernel_rfl) rfl rfl; exact g.trans (congrArg some hv)
            have e1 := HW1.out
            refine Reg.ok_value Reg.Old.refl (v := .int .u64 ((m : Int))) (Reg.wanted_at (j := 16) (d := 122) rfl rfl rfl g122) ?_ rfl
            go_simp
          · intro cx wc hB hp hs
            have g127 : cx.tmps[127]? = some (.int .u64 ((m : Int))) := by obtain ⟨_, g, hv⟩ := Reg.pred hp 21 127 (by kernel_rfl) rfl rfl; exact g.trans (congrArg some hv)
            have g130 : cx.tmps[130]? = some (.int .u64 ((m : Int))) := by obtain ⟨_, g, hv⟩ := Reg.pred hp 24 130 (by kernel_rfl) rfl rfl; exact g.trans (congrArg some hv)
            have g122 : cx.tmps[122]? = some (.bool true) := by obtain ⟨_, g, hv⟩ := Reg.pred hp 16 122 (by kernel_rfl) rfl rfl; exact g.trans (congrArg some hv)
            refine Reg.ok_value Reg.Old.refl (v := .bool true) (Reg.wanted_at (j := 16) (d := 122) rfl rfl rfl g122) ?_ rfl
            go_simp
          · intro cx wc hB hp hs
            have g122 : cx.tmps[122]? = some (.bool true) := by obtain ⟨_, g, hv⟩ := Reg.pred hp 16 122 (by kernel_rfl) rfl rfl; exact g.trans (congrArg some hv)
            have g131 : cx.tmps[131]? = some (.bool true) := by obtain ⟨_, g, hv⟩ := Reg.pred hp 25 131 (by kernel_rfl) rfl rfl; exact g.trans (congrArg some hv)
            refine Reg.ok_value Reg.Old.refl (v := .bool true) (Reg.wanted_none rfl) ?_ rfl
            go_simp
          · intro cx wc hB hp hs
            have g132 : cx.tmps[132]? = some (.bool true) := by obtain ⟨_, g, hv⟩ := Reg.pred hp 26 132 (by kernel_rfl) rfl rfl; exact g.trans (congrArg some hv)
            refine Reg.ok_value Reg.Old.refl (v := .bool true) (Reg.wanted_none rfl) ?_ rfl
            go_simp
          · intro cx wc hB hp hs
            have g20 : cx.tmps[20]? = some (.bool false) := (hs 20 (by kernel_rfl)).trans rfl
            have g133 : cx.tmps[133]? = some (.bool true) := by obtain ⟨_, g, hv⟩ := Reg.pred hp 27 133 (by kernel_rfl) rfl rfl; exact g.trans (congrArg some hv)
            refine Reg.ok_value Reg.Old.refl (v := .bool false) (Reg.wanted_at (j := 27) (d := 133) rfl rfl rfl g133) ?_ rfl
            go_simp
          · intro cx wc hB hp hs
            have g12 : cx.tmps[12]? = some (.slice pB m capB) := (hs 12 (by kernel_rfl)).trans rfl
            have g133 : cx.tmps[133]? = some (.bool true) := by obtain ⟨_, g, hv⟩ := Reg.pred hp 27 133 (by kernel_rfl) rfl rfl; exact g.trans (congrArg some hv)
            refine Reg.ok_value Reg.Old.refl (v := .slice pB m capB) (Reg.wanted_at (j := 27) (d := 133) rfl rfl rfl g133) ?_ rfl
            go_simp
          · intro cx wc hB hp hs
            have g135 : cx.tmps[135]? = some (.slice pB m capB) := by obtain ⟨_, g, hv⟩ := Reg.pred hp 29 135 (by kernel_rfl) rfl rfl; exact g.trans (congrArg some hv)
            have g133 : cx.tmps[133]? = some (.bool true) := by obtain ⟨_, g, hv⟩ := Reg.pred hp 27 133 (by kernel_rfl) rfl rfl; exact g.trans (congrArg some hv)
            refine Reg.ok_value Reg.Old.refl (v := .int .i64 ((m : Int))) (Reg.wanted_at (j := 27) (d := 133) rfl rfl rfl g133) ?_ rfl
            go_simp
          · intro cx wc hB hp hs
            have g136 : cx.tmps[136]? = some (.int .i64 ((m : Int))) := by obtain ⟨_, g, hv⟩ := Reg.pred hp 30 136 (by kernel_rfl) rfl rfl; exact g.trans (congrArg some hv)
            have g133 : cx.tmps[133]? = some (.bool true) := by obtain ⟨_, g, hv⟩ := Reg.pred hp 27 133 (by kernel_rfl) rfl rfl; exact g.trans (congrArg some hv)
            have e1 := HGT.out
            refine Reg.ok_value Reg.Old.refl (v := .bool false) (Reg.wanted_at (j := 27) (d := 133) rfl rfl rfl g133) ?_ rfl
            go_simp
            exact HM0.out
          · intro cx wc hB hp hs
            have g134 : cx.tmps[134]? = some (.bool false) := by obtain ⟨_, g, hv⟩ := Reg.pred hp 28 134 (by kernel_rfl) rfl rfl; exact g.trans (congrArg some hv)
            have g137 : cx.tmps[137]? = some (.bool false) := by obtain ⟨_, g, hv⟩ := Reg.pred hp 31 137 (by kernel_rfl) rfl rfl; exact g.trans (congrArg some hv)
            have g133 : cx.tmps[133]? = some (.bool true) := by obtain ⟨_, g, hv⟩ := Reg.pred hp 27 133 (by kernel_rfl) rfl rfl; exact g.trans (congrArg some hv)
            refine Reg.ok_value Reg.Old.refl (v := .bool true) (Reg.wanted_at (j := 27) (d := 133) rfl rfl rfl g133) ?_ rfl
            go_simp
          · intro cx wc hB hp hs
            have g133 : cx.tmps[133]? = some (.bool true) := by obtain ⟨_, g, hv⟩ := Reg.pred hp 27 133 (by kernel_rfl) rfl rfl; exact g.trans (congrArg some hv)
            have g138 : cx.tmps[138]? = some (.bool true) := by obtain ⟨_, g, hv⟩ := Reg.pred hp 32 138 (by kernel_rfl) rfl rfl; exact g.trans (congrArg some hv)
            refine Reg.ok_value Reg.Old.refl (v := .bool true) (Reg.wanted_none rfl) ?_ rfl
            go_simp
          · intro cx wc hB hp hs
            have g139 : cx.tmps[139]? = some (.bool true) := by obtain ⟨_, g, hv⟩ := Reg.pred hp 33 139 (by kernel_rfl) rfl rfl; exact g.trans (congrArg some hv)
            refine Reg.ok_value Reg.Old.refl (v := .bool true) (Reg.wanted_none rfl) ?_ rfl
            go_simp
          · intro cx wc hB hp hs
            have g20 : cx.tmps[20]? = some (.bool false) := (hs 20 (by kernel_rfl)).trans rfl
            have g140 : cx.tmps[140]? = some (.bool true) := by obtain ⟨_, g, hv⟩ := Reg.pred hp 34 140 (by kernel_rfl) rfl rfl; exact g.trans (congrArg some hv)
            refine Reg.ok_value Reg.Old.refl (v := .bool false) (Reg.wanted_at (j := 34) (d := 140) rfl rfl rfl g140) ?_ rfl
            go_simp
          · intro cx wc hB hp hs
            have g141 : cx.tmps[141]? = some (.bool false) := by obtain ⟨_, g, hv⟩ := Reg.pred hp 35 141 (by kernel_rfl) rfl rfl; exact g.trans (congrArg some hv)
            have g140 : cx.tmps[140]? = some (.bool true) := by obtain ⟨_, g, hv⟩ := Reg.pred hp 34 140 (by kernel_rfl) rfl rfl; exact g.trans (congrArg some hv)
            refine Reg.ok_value Reg.Old.refl (v := .bool true) (Reg.wanted_at (j := 34) (d := 140) rfl rfl rfl g140) ?_ rfl
            go_simp
          · intro cx wc hB hp hs
            have g142 : cx.tmps[142]? = some (.bool true) := by obtain ⟨_, g, hv⟩ := Reg.pred hp 36 142 (by kernel_rfl) rfl rfl; exact g.trans (congrArg some hv)
            have g140 : cx.tmps[140]? = some (.bool true) := by obtain ⟨_, g, hv⟩ := Reg.pred hp 34 140 (by kernel_rfl) rfl rfl; exact g.trans (congrArg some hv)
            refine Reg.ok_value Reg.Old.refl (v := .bool true) (Reg.wanted_at (j := 34) (d := 140) rfl rfl rfl g140) ?_ rfl
            go_simp
          · intro cx wc hB hp hs
            have g143 : cx.tmps[143]? = some (.bool true) := by obtain ⟨_, g, hv⟩ := Reg.pred hp 37 143 (by kernel_rfl) rfl rfl; exact g.trans (congrArg some hv)
            exact Reg.ok_skip (Reg.unwanted_at (j := 37) (d := 143) rfl rfl rfl g143 rfl) rfl
          · intro cx wc hB hp hs
            have g143 : cx.tmps[143]? = some (.bool true) := by obtain ⟨_, g, hv⟩ := Reg.pred hp 37 143 (by kernel_rfl) rfl rfl; exact g.trans (congrArg some hv)
            exact Reg.ok_skip (Reg.unwanted_at (j := 37) (d := 143) rfl rfl rfl g143 rfl) rfl
          · intro cx wc hB hp hs
            have g143 : cx.tmps[143]? = some (.bool true) := by obtain ⟨_, g, hv⟩ := Reg.pred hp 37 143 (by kernel_rfl) rfl rfl; exact g.trans (congrArg some hv)
            exact Reg.ok_skip (Reg.unwanted_at (j := 37) (d := 143) rfl rfl rfl g143 rfl) rfl
          · intro cx wc hB hp hs
            have g143 : cx.tmps[143]? = some (.bool true) := by obtain ⟨_, g, hv⟩ := Reg.pred hp 37 143 (by kernel_rfl) rfl rfl; exact g.trans (congrArg some hv)
            exact Reg.ok_skip (Reg.unwanted_at (j := 37) (d := 143) rfl rfl rfl g143 rfl) rfl
          · intro cx wc hB hp hs
            have g147 : cx.tmps[147]? = some (undef) := by obtain ⟨_, g, hv⟩ := Reg.pred hp 41 147 (by kernel_rfl) rfl rfl; exact g.trans (congrArg some hv)
            exact Reg.ok_skip (unwanted_undef (j := 41) (d := 147) rfl rfl rfl g147) rfl
          · intro cx wc hB hp hs
            have g147 : cx.tmps[147]? = some (undef) := by obtain ⟨_, g, hv⟩ := Reg.pred hp 41 147 (by kernel_rfl) rfl rfl; exact g.trans (congrArg some hv)
            exact Reg.ok_skip (unwanted_undef (j := 41) (d := 147) rfl rfl rfl g147) rfl
          · intro cx wc hB hp hs
            have g147 : cx.tmps[147]? = some (undef) := by obtain ⟨_, g, hv⟩ := Reg.pred hp 41 147 (by kernel_rfl) rfl rfl; exact g.trans (congrArg some hv)
            exact Reg.ok_skip (unwanted_undef (j := 41) (d := 147) rfl rfl rfl g147) rfl
          · intro cx wc hB hp hs
            have g143 : cx.tmps[143]? = some (.bool true) := by obtain ⟨_, g, hv⟩ := Reg.pred hp 37 143 (by kernel_rfl) rfl rfl; exact g.trans (congrArg some hv)
            exact Reg.ok_skip (Reg.unwanted_at (j := 37) (d := 143) rfl rfl rfl g143 rfl) rfl
          · intro cx wc hB hp hs
            have g143 : cx.tmps[143]? = some (.bool true) := by obtain ⟨_, g, hv⟩ := Reg.pred hp 37 143 (by kernel_rfl) rfl rfl; exact g.trans (congrArg some hv)
            have g140 : cx.tmps[140]? = some (.bool true) := by obtain ⟨_, g, hv⟩ := Reg.pred hp 34 140 (by kernel_rfl) rfl rfl; exact g.trans (congrArg some hv)
            refine Reg.ok_value Reg.Old.refl (v := .bool true) (Reg.wanted_at (j := 34) (d := 140) rfl rfl rfl g140) ?_ rfl
            go_simp
          · intro cx wc hB hp hs
            have g140 : cx.tmps[140]? = some (.bool true) := by obtain ⟨_, g, hv⟩ := Reg.pred hp 34 140 (by kernel_rfl) rfl rfl; exact g.trans (congrArg some hv)
            have g152 : cx.tmps[152]? = some (.bool true) := by obtain ⟨_, g, hv⟩ := Reg.pred hp 46 152 (by kernel_rfl) rfl rfl; exact g.trans (congrArg some hv)
            refine Reg.ok_value Reg.Old.refl (v := .bool true) (Reg.wanted_none rfl) ?_ rfl
            go_simp
          · intro cx wc hB hp hs
            have g153 : cx.tmps[153]? = some (.bool true) := by obtain ⟨_, g, hv⟩ := Reg.pred hp 47 153 (by kernel_rfl) rfl rfl; exact g.trans (congrArg some hv)
            refine Reg.ok_value Reg.Old.refl (v := .bool true) (Reg.wanted_none rfl) ?_ rfl
            go_simp
          · intro cx wc hB hp hs
            have g15 : cx.tmps[15]? = some (.pointer (some ⟨Cb, 0, none⟩)) := (hs 15 (by kernel_rfl)).trans rfl
            have g154 : cx.tmps[154]? = some (.bool true) := by obtain ⟨_, g, hv⟩ := Reg.pred hp 48 154 (by kernel_rfl) rfl rfl; exact g.trans (congrArg some hv)
            refine Reg.ok_value Reg.Old.refl (v := .pointer (some ⟨Cb, 0, none⟩)) (Reg.wanted_at (j := 48) (d := 154) rfl rfl rfl g154) ?_ rfl
            go_simp
          · intro cx wc hB hp hs
            have g155 : cx.tmps[155]? = some (.pointer (some ⟨Cb, 0, none⟩)) := by obtain ⟨_, g, hv⟩ := Reg.pred hp 49 155 (by kernel_rfl) rfl rfl; exact g.trans (congrArg some hv)
            have g154 : cx.tmps[154]? = some (.bool true) := by obtain ⟨_, g, hv⟩ := Reg.pred hp 48 154 (by kernel_rfl) rfl rfl; exact g.trans (congrArg some hv)
            refine Reg.ok_value Reg.Old.refl (v := .pointer (some ⟨Cb, 0, none⟩)) (Reg.wanted_at (j := 48) (d := 154) rfl rfl rfl g154) ?_ rfl
            go_simp
          · intro cx wc hB hp hs
            have g156 : cx.tmps[156]? = some (.pointer (some ⟨Cb, 0, none⟩)) := by obtain ⟨_, g, hv⟩ := Reg.pred hp 50 156 (by kernel_rfl) rfl rfl; exact g.trans (congrArg some hv)
            have g154 : cx.tmps[154]? = some (.bool true) := by obtain ⟨_, g, hv⟩ := Reg.pred hp 48 154 (by kernel_rfl) rfl rfl; exact g.trans (congrArg some hv)
            refine Reg.ok_value Reg.Old.refl (v := .pointer (some ⟨Cb, 0, none⟩)) (Reg.wanted_at (j := 48) (d := 154) rfl rfl rfl g154) ?_ rfl
            go_simp
          · intro cx wc hB hp hs
            have g157 : cx.tmps[157]? = some (.pointer (some ⟨Cb, 0, none⟩)) := by obtain ⟨_, g, hv⟩ := Reg.pred hp 51 157 (by kernel_rfl) rfl rfl; exact g.trans (congrArg some hv)
            have g154 : cx.tmps[154]? = some (.bool true) := by obtain ⟨_, g, hv⟩ := Reg.pred hp 48 154 (by kernel_rfl) rfl rfl; exact g.trans (congrArg some hv)
            have hc := HKb.out.drew.below hB
            have k0 := hc.cell 0 (.pointer (some ⟨Bb, 0, none⟩)) rfl
            refine Reg.ok_value Reg.Old.refl (v := .pointer (some ⟨Bb, 0, none⟩)) (Reg.wanted_at (j := 48) (d := 154) rfl rfl rfl g154) ?_ rfl
            go_simp
          · intro cx wc hB hp hs
            have g158 : cx.tmps[158]? = some (.pointer (some ⟨Bb, 0, none⟩)) := by obtain ⟨_, g, hv⟩ := Reg.pred hp 52 158 (by kernel_rfl) rfl rfl; exact g.trans (congrArg some hv)
            have g154 : cx.tmps[154]? = some (.bool true) := by obtain ⟨_, g, hv⟩ := Reg.pred hp 48 154 (by kernel_rfl) rfl rfl; exact g.trans (congrArg some hv)
            refine Reg.ok_call (f := 15) (args := #[.pointer (some ⟨Bb, 0, none⟩)]) (Reg.wanted_at (j := 48) (d := 154) rfl rfl rfl g154) (by go_simp) ((HCb1.out wc hB).mono ?_)
            rintro e w' ⟨rfl, hB2⟩
            exact ⟨_, rfl, hB2, rfl⟩
          · intro cx wc hB hp hs
            have g2 : cx.tmps[2]? = some ((.slice p' m2 cap')) := (hs 2 (by kernel_rfl)).trans rfl
            have g154 : cx.tmps[154]? = some (.bool true) := by obtain ⟨_, g, hv⟩ := Reg.pred hp 48 154 (by kernel_rfl) rfl rfl; exact g.trans (congrArg some hv)
            refine Reg.ok_value Reg.Old.refl (v := (.slice p' m2 cap')) (Reg.wanted_at (j := 48) (d := 154) rfl rfl rfl g154) ?_ rfl
            go_simp
          · intro cx wc hB hp hs
            have g160 : cx.tmps[160]? = some ((.slice p' m2 cap')) := by obtain ⟨_, g, hv⟩ := Reg.pred hp 54 160 (by kernel_rfl) rfl rfl; exact g.trans (congrArg some hv)
            have g154 : cx.tmps[154]? = some (.bool true) := by obtain ⟨_, g, hv⟩ := Reg.pred hp 48 154 (by kernel_rfl) rfl rfl; exact g.trans (congrArg some hv)
            refine Reg.ok_value Reg.Old.refl (v := .int .i64 ((m2 : Int))) (Reg.wanted_at (j := 48) (d := 154) rfl rfl rfl g154) ?_ rfl
            go_simp
          · intro cx wc hB hp hs
            have g161 : cx.tmps[161]? = some (.int .i64 ((m2 : Int))) := by obtain ⟨_, g, hv⟩ := Reg.pred hp 55 161 (by kernel_rfl) rfl rfl; exact g.trans (congrArg some hv)
            have g154 : cx.tmps[154]? = some (.bool true) := by obtain ⟨_, g, hv⟩ := Reg.pred hp 48 154 (by kernel_rfl) rfl rfl; exact g.trans (congrArg some hv)
            have e1 := HW2.out
            refine Reg.ok_value Reg.Old.refl (v := .int .u64 ((m2 : Int))) (Reg.wanted_at (j := 48) (d := 154) rfl rfl rfl g154) ?_ rfl
            go_simp
          · intro cx wc hB hp hs
            have g159 : cx.tmps[159]? = some (.int .u64 ((m2 : Int))) := by obtain ⟨_, g, hv⟩ := Reg.pred hp 53 159 (by kernel_rfl) rfl rfl; exact g.trans (congrArg some hv)
            have g162 : cx.tmps[162]? = some (.int .u64 ((m2 : Int))) := by obtain ⟨_, g, hv⟩ := Reg.pred hp 56 162 (by kernel_rfl) rfl rfl; exact g.trans (congrArg some hv)
            have g154 : cx.tmps[154]? = some (.bool true) := by obtain ⟨_, g, hv⟩ := Reg.pred hp 48 154 (by kernel_rfl) rfl rfl; exact g.trans (congrArg some hv)
            refine Reg.ok_value Reg.Old.refl (v := .bool true) (Reg.wanted_at (j := 48) (d := 154) rfl rfl rfl g154) ?_ rfl
            go_simp
          · intro cx wc hB hp hs
            have g154 : cx.tmps[154]? = some (.bool true) := by obtain ⟨_, g, hv⟩ := Reg.pred hp 48 154 (by kernel_rfl) rfl rfl; exact g.trans (congrArg some hv)
            have g163 : cx.tmps[163]? = some (.bool true) := by obtain ⟨_, g, hv⟩ := Reg.pred hp 57 163 (by kernel_rfl) rfl rfl; exact g.trans (congrArg some hv)
            refine Reg.ok_value Reg.Old.refl (v := .bool true) (Reg.wanted_none rfl) ?_ rfl
            go_simp
          · intro cx wc hB hp hs
            have g164 : cx.tmps[164]? = some (.bool true) := by obtain ⟨_, g, hv⟩ := Reg.pred hp 58 164 (by kernel_rfl) rfl rfl; exact g.trans (congrArg some hv)
            refine Reg.ok_value Reg.Old.refl (v := .bool true) (Reg.wanted_none rfl) ?_ rfl
            go_simp
          · intro cx wc hB hp hs
            have g14 : cx.tmps[14]? = some (.pointer (some ⟨Ca, 0, none⟩)) := (hs 14 (by kernel_rfl)).trans rfl
            have g165 : cx.tmps[165]? = some (.bool true) := by obtain ⟨_, g, hv⟩ := Reg.pred hp 59 165 (by kernel_rfl) rfl rfl; exact g.trans (congrArg some hv)
            refine Reg.ok_value Reg.Old.refl (v := .pointer (some ⟨Ca, 0, none⟩)) (Reg.wanted_at (j := 59) (d := 165) rfl rfl rfl g165) ?_ rfl
            go_simp
          · intro cx wc hB hp hs
            have g166 : cx.tmps[166]? = some (.pointer (some ⟨Ca, 0, none⟩)) := by obtain ⟨_, g, hv⟩ := Reg.pred hp 60 166 (by kernel_rfl) rfl rfl; exact g.trans (congrArg some hv)
            have g165 : cx.tmps[165]? = some (.bool true) := by obtain ⟨_, g, hv⟩ := Reg.pred hp 59 165 (by kernel_rfl) rfl rfl; exact g.trans (congrArg some hv)
            refine Reg.ok_call (f := 16) (args := #[.pointer (some ⟨Ca, 0, none⟩)]) (Reg.wanted_at (j := 59) (d := 165) rfl rfl rfl g165) (by go_simp) ((HFr.out wc hB).mono ?_)
            rintro e w' ⟨rfl, hB2⟩
            exact ⟨_, rfl, hB2, rfl⟩
          · intro cx wc hB hp hs
            have g167 : cx.tmps[167]? = some (.int .i64 3) := by obtain ⟨_, g, hv⟩ := Reg.pred hp 61 167 (by kernel_rfl) rfl rfl; exact g.trans (congrArg some hv)
            have g165 : cx.tmps[165]? = some (.bool true) := by obtain ⟨_, g, hv⟩ := Reg.pred hp 59 165 (by kernel_rfl) rfl rfl; exact g.trans (congrArg some hv)
            refine Reg.ok_value Reg.Old.refl (v := .bool true) (Reg.wanted_at (j := 59) (d := 165) rfl rfl rfl g165) ?_ rfl
            go_simp
          · intro cx wc hB hp hs
            have g165 : cx.tmps[165]? = some (.bool true) := by obtain ⟨_, g, hv⟩ := Reg.pred hp 59 165 (by kernel_rfl) rfl rfl; exact g.trans (congrArg some hv)
            have g168 : cx.tmps[168]? = some (.bool true) := by obtain ⟨_, g, hv⟩ := Reg.pred hp 62 168 (by kernel_rfl) rfl rfl; exact g.trans (congrArg some hv)
            refine Reg.ok_value Reg.Old.refl (v := .bool true) (Reg.wanted_none rfl) ?_ rfl
            go_simp
          · intro cx wc hB hp hs
            have g169 : cx.tmps[169]? = some (.bool true) := by obtain ⟨_, g, hv⟩ := Reg.pred hp 63 169 (by kernel_rfl) rfl rfl; exact g.trans (congrArg some hv)
            refine Reg.ok_value Reg.Old.refl (v := .bool true) (Reg.wanted_none rfl) ?_ rfl
            go_simp
        · intro d wc hB hsz hdf hv ho
          have gr : d.tmps[6]? = some (.bool true) := by obtain ⟨_, g, hv⟩ := hv 64 _ 6 rfl rfl; exact g.trans (congrArg some hv)
          have hF : Below w.heap.size w wc := (HB.out.trans (HB10.out.mono HB.out.size)).trans (hB.mono (Nat.le_trans HB.out.size HB10.out.size))
          clear hv ho hB
          go_wp2
          refine bodyPost_ret (v := .bool true) ?_ hdf ⟨rfl, hF⟩
          simp [results, Tryd.results3, go_sem, gr]
      · have hgt : decide ((0 : Int) < (m : Int)) = true := decide_eq_true (by omega)
        have HM0 := Lib.hid hm0
        have HGT := Lib.hid hgt
        have HW1 : Hid (IntKind.u64.wrap (m : Int) = (m : Int)) := Lib.hid (by rw [IntKind.wrap_u64]; omega)
        have HW2 : Hid (IntKind.u64.wrap (m2 : Int) = (m2 : Int)) := Lib.hid (by rw [IntKind.wrap_u64]; omega)
        clear hm0 hgt
        have HB5 : Hid (Below wr.heap.size wr wr) := Lib.hid (Below.refl _ _)
        have h1 := HOF1.out _ HI1.out
        go_wp2_with fail
        refine (h1).mono ?_
        rintro e w6 ⟨Ca, Sa, rfl, hA, hlo, hB⟩
        have HA := Lib.hid hA
        have HSa : Hid (∀ i, Sa i → wr.heap.size ≤ i) := Lib.hid fun i hi => Nat.le_trans HB5.out.size (hlo i hi)
        clear hA hlo
        have HB6 : Hid (Below wr.heap.size wr w6) := Lib.hid (HB5.out.trans (hB.mono HB5.out.size))
        clear hB HB5 h1 HOF1 HI1
        have Ha6 : Hid (At Sa Ca (celN k 3 L1) w6) := HA
        clear HA
        have h1 := HOF2.out _ (HI2.out.below HB6.out)
        go_wp2_with fail
        refine (h1).mono ?_
        rintro e w7 ⟨Cb, Sb, rfl, hA, hlo, hB⟩
        have HA := Lib.hid hA
        have HSb : Hid (∀ i, Sb i → wr.heap.size ≤ i) := Lib.hid fun i hi => Nat.le_trans HB6.out.size (hlo i hi)
        have HDab : Hid (∀ i, Sa i → ¬ Sb i) := Lib.hid fun i hi hj => by
          have h1 := Ha6.out.own i hi
          have h2 := hlo i hj
          omega
        clear hA hlo
        have HB7 : Hid (Below wr.heap.size wr w7) := Lib.hid (HB6.out.trans (hB.mono HB6.out.size))
        have Ha7 := Lib.hid (Ha6.out.below hB)
        clear hB HB6 Ha6 h1 HOF2 HI2
        have Hb7 : Hid (At Sb Cb (celN k 8 L2) w7) := HA
        clear HA
        have h1 := HOF3.out _ (HI3.out.below HB7.out)
        go_wp2_with fail
        refine (h1).mono ?_
        rintro e w8 ⟨Cc, Sc, rfl, hA, hlo, hB⟩
        have HA := Lib.hid hA
        have HSc : Hid (∀ i, Sc i → wr.heap.size ≤ i) := Lib.hid fun i hi => Nat.le_trans HB7.out.size (hlo i hi)
        have HDac : Hid (∀ i, Sa i → ¬ Sc i) := Lib.hid fun i hi hj => by
          have h1 := Ha7.out.own i hi
          have h2 := hlo i hj
          omega
        have HDbc : Hid (∀ i, Sb i → ¬ Sc i) := Lib.hid fun i hi hj => by
          have h1 := Hb7.out.own i hi
          have h2 := hlo i hj
          omega
        clear hA hlo
        have HB8 : Hid (Below wr.heap.size wr w8) := Lib.hid (HB7.out.trans (hB.mono HB7.out.size))
        have Ha8 := Lib.hid (Ha7.out.below hB)
        have Hb8 := Lib.hid (Hb7.out.below hB)
        clear hB HB7 Ha7 Hb7 h1 HOF3 HI3
        have Hc8 : Hid (At Sc Cc (celN k 3 A) w8) := HA
        clear HA
        have h1 := merge_any Ha8.out Hb8.out HDab.out HKK.out (by rw [HC1.out, HC2.out]; omega)
        rw [HMG.out] at h1
        go_wp2_with fail
        refine (h1).mono ?_
        rintro e w9 ⟨rfl, Sax1, hA, hM, hat⟩
        have HSSax1 : Hid (∀ i, Sax1 i → wr.heap.size ≤ i) := Lib.hid fun i hi => (hat i hi).elim (fun h => HSa.out i h) (fun h => Nat.le_trans HB8.out.size h)
        have HDSax1b : Hid (∀ i, Sax1 i → ¬ Sb i) := Lib.hid fun i hi hj => (hat i hi).elim (fun h => HDab.out i h hj) (fun h => by have := Hb8.out.own i hj; omega)
        have Hb9 := Lib.hid (Hb8.out.mov hM (fun i hi hj => HDab.out i hj hi))
        have HDSax1c : Hid (∀ i, Sax1 i → ¬ Sc i) := Lib.hid fun i hi hj => (hat i hi).elim (fun h => HDac.out i h hj) (fun h => by have := Hc8.out.own i hj; omega)
        have Hc9 := Lib.hid (Hc8.out.mov hM (fun i hi hj => HDac.out i hj hi))
        have HB9 : Hid (Below wr.heap.size wr w9) := Lib.hid (HB8.out.trans (hM.below (fun i hi => HSa.out i hi) HB8.out.size))
        have Ha9 : Hid (At Sax1 Ca (celN k 3 A) w9) := Lib.hid hA
        clear hA hM hat HB8 Ha8 Hb8 Hc8 HSa HDab HDac h1 HMG HC1 HKK
        have HSax1 := HSSax1
        clear HSSax1
        generalize celN k 3 A = q at *
        have h1 := bounds_any Ha9.out
        rw [HC3.out] at h1
        unfold Cel.lowT Cel.topT at h1
        rw [HC3.out, if_neg HM0.out, if_neg HM0.out, show decide (m ≠ 0) = true from decide_eq_true HM0.out, HQ.out.2.1, HQ.out.2.2.1] at h1
        go_wp2_with fail
        refine (h1).mono ?_
        rintro e w10 ⟨rfl, hB⟩
        have HB10 : Hid (Below wr.heap.size wr w10) := Lib.hid (HB9.out.trans (hB.mono HB9.out.size))
        have Ha10 := Lib.hid (Ha9.out.below hB)
        have Hb10 := Lib.hid (Hb9.out.below hB)
        have Hc10 := Lib.hid (Hc9.out.below hB)
        clear hB HB9 Ha9 Hb9 Hc9 h1
        obtain ⟨Ba, va, hSa, hCa⟩ := Ha10.out
        have HKa := Lib.hid hCa.cells
        have HCa := Lib.hid hCa
        clear hCa hSa
        obtain ⟨Bb, vb, hSb, hCb⟩ := Hb10.out
        have HKb := Lib.hid hCb.cells
        have HCb := Lib.hid hCb
        clear hCb hSb
        have HSm : Hid (∀ wc, Below w10.drew.heap.size w10.drew wc → Calls Tryd.prog 13 #[.pointer (some ⟨Ca, 0, none⟩), .pointer (some ⟨Cc, 0, none⟩)] wc fun e w' => e = .returned (.bool true) ∧ Below wc.heap.size wc w') := Lib.hid fun wc hB => by
          have := same_any (Ha10.out.below ((Below.refl _ _).drew.trans hB)) (Hc10.out.below ((Below.refl _ _).drew.trans hB))
          rwa [show decide (q.put = q.put) = true from decide_eq_true rfl] at this
        have HSu : Hid (∀ wc, Below w10.drew.heap.size w10.drew wc → Calls Tryd.prog 14 #[.pointer (some ⟨Ca, 0, none⟩)] wc fun e w' => e = .returned (Wi.sv z) ∧ Below wc.heap.size wc w') := Lib.hid fun wc hB => by
          have := sum_any (Ha10.out.below ((Below.refl _ _).drew.trans hB))
          rwa [HQ.out.1] at this
        have HFr : Hid (∀ wc, Below w10.drew.heap.size w10.drew wc → Calls Tryd.prog 16 #[.pointer (some ⟨Ca, 0, none⟩)] wc fun e w' => e = .returned (.int .i64 3) ∧ Below wc.heap.size wc w') := Lib.hid fun wc hB => by
          have := from_any (Ha10.out.below ((Below.refl _ _).drew.trans hB))
          rwa [HQ.out.2.2.2] at this
        have HCa1 : Hid (∀ wc, Below w10.drew.heap.size w10.drew wc → Calls Tryd.prog 15 #[.pointer (some ⟨Ba, 0, none⟩)] wc fun e w' => e = .returned (.int .u64 (m : Int)) ∧ Below wc.heap.size wc w') := Lib.hid fun wc hB => by
          have := Hi.count_any (HCa.out.below ((Below.refl _ _).drew.trans hB)).hs
          rwa [HC3.out] at this
        have HCb1 : Hid (∀ wc, Below w10.drew.heap.size w10.drew wc → Calls Tryd.prog 15 #[.pointer (some ⟨Bb, 0, none⟩)] wc fun e w' => e = .returned (.int .u64 (m2 : Int)) ∧ Below wc.heap.size wc w') := Lib.hid fun wc hB => by
          have := Hi.count_any (HCb.out.below ((Below.refl _ _).drew.trans hB)).hs
          rwa [HC2.out] at this
        have HXe := Lib.hid (HX.out.belowAt HB10.out HX.out.lt)
        clear HC3 HC2
        go_wp2_with fail
        refine Reg.wp_region_inv (n := 170) (OrdPhi1 Ca Ba Cb Bb Cc K k q L2 m m2 z lo hi pB capB p' cap') (by kernel_rfl) (by kernel_rfl) rfl OrdPhi1.stays ?_ ?_
        · refine ⟨?_, ?_, ?_, ?_, ?_, ?_, ?_, ?_, ?_, ?_, ?_, ?_, ?_, ?_, ?_, ?_, ?_, ?_, ?_, ?_, ?_, ?_, ?_, ?_, ?_, ?_, ?_, ?_, ?_, ?_, ?_, ?_, ?_, ?_, ?_, ?_, ?_, ?_, ?_, ?_, ?_, ?_, ?_, ?_, ?_, ?_, ?_, ?_, ?_, ?_, ?_, ?_, ?_, ?_, ?_, ?_, ?_, ?_, ?_, ?_, ?_, ?_, ?_, ?_, ?_, trivial⟩
          · intro cx wc hB hp hs
            have g7 : cx.tmps[7]? = some (.bool true) := (hs 7 (by kernel_rfl)).trans rfl
            refine Reg.ok_value Reg.Old.refl (v := .bool true) (Reg.wanted_none rfl) ?_ rfl
            go_simp
          · intro cx wc hB hp hs
            have g106 : cx.tmps[106]? = some (.bool true) := by obtain ⟨_, g, hv⟩ := Reg.pred hp 0 106 (by kernel_rfl) rfl rfl; exact g.trans (congrArg some hv)
            refine Reg.ok_value Reg.Old.refl (v := .bool true) (Reg.wanted_none rfl) ?_ rfl
            go_simp
          · intro cx wc hB hp hs
            have g17 : cx.tmps[17]? = some (.int .i64 0) := (hs 17 (by kernel_rfl)).trans rfl
            have g107 : cx.tmps[107]? = some (.bool true) := by obtain ⟨_, g, hv⟩ := Reg.pred hp 1 107 (by kernel_rfl) rfl rfl; exact g.trans (congrArg some hv)
            refine Reg.ok_value Reg.Old.refl (v := .int .i64 0) (Reg.wanted_at (j := 1) (d := 107) rfl rfl rfl g107) ?_ rfl
            go_simp
          · intro cx wc hB hp hs
            have g108 : cx.tmps[108]? = some (.int .i64 0) := by obtain ⟨_, g, hv⟩ := Reg.pred hp 2 108 (by kernel_rfl) rfl rfl; exact g.trans (congrArg some hv)
            have g107 : cx.tmps[107]? = some (.bool true) := by obtain ⟨_, g, hv⟩ := Reg.pred hp 1 107 (by kernel_rfl) rfl rfl; exact g.trans (congrArg some hv)
            refine Reg.ok_value Reg.Old.refl (v := .bool true) (Reg.wanted_at (j := 1) (d := 107) rfl rfl rfl g107) ?_ rfl
            go_simp
          · intro cx wc hB hp hs
            have g107 : cx.tmps[107]? = some (.bool true) := by obtain ⟨_, g, hv⟩ := Reg.pred hp 1 107 (by kernel_rfl) rfl rfl; exact g.trans (congrArg some hv)
            have g109 : cx.tmps[109]? = some (.bool true) := by obtain ⟨_, g, hv⟩ := Reg.pred hp 3 109 (by kernel_rfl) rfl rfl; exact g.trans (congrArg some hv)
            refine Reg.ok_value Reg.Old.refl (v := .bool true) (Reg.wanted_none rfl) ?_ rfl
            go_simp
          · intro cx wc hB hp hs
            have g110 : cx.tmps[110]? = some (.bool true) := by obtain ⟨_, g, hv⟩ := Reg.pred hp 4 110 (by kernel_rfl) rfl rfl; exact g.trans (congrArg some hv)
            refine Reg.ok_value Reg.Old.refl (v := .bool true) (Reg.wanted_none rfl) ?_ rfl
            go_simp
          · intro cx wc hB hp hs
            have g14 : cx.tmps[14]? = some (.pointer (some ⟨Ca, 0, none⟩)) := (hs 14 (by kernel_rfl)).trans rfl
            have g111 : cx.tmps[111]? = some (.bool true) := by obtain ⟨_, g, hv⟩ := Reg.pred hp 5 111 (by kernel_rfl) rfl rfl; exact g.trans (congrArg some hv)
            refine Reg.ok_value Reg.Old.refl (v := .pointer (some ⟨Ca, 0, none⟩)) (Reg.wanted_at (j := 5) (d := 111) rfl rfl rfl g111) ?_ rfl
            go_simp
          · intro cx wc hB hp hs
            have g16 : cx.tmps[16]? = some (.pointer (some ⟨Cc, 0, none⟩)) := (hs 16 (by kernel_rfl)).trans rfl
            have g111 : cx.tmps[111]? = some (.bool true) := by obtain ⟨_, g, hv⟩ := Reg.pred hp 5 111 (by kernel_rfl) rfl rfl; exact g.trans (congrArg some hv)
            refine Reg.ok_value Reg.Old.refl (v := .pointer (some ⟨Cc, 0, none⟩)) (Reg.wanted_at (j := 5) (d := 111) rfl rfl rfl g111) ?_ rfl
            go_simp
          · intro cx wc hB hp hs
            have g112 : cx.tmps[112]? = some (.pointer (some ⟨Ca, 0, none⟩)) := by obtain ⟨_, g, hv⟩ := Reg.pred hp 6 112 (by kernel_rfl) rfl rfl; exact g.trans (congrArg some hv)
            have g113 : cx.tmps[113]? = some (.pointer (some ⟨Cc, 0, none⟩)) := by obtain ⟨_, g, hv⟩ := Reg.pred hp 7 113 (by kernel_rfl) rfl rfl; exact g.trans (congrArg some hv)
            have g111 : cx.tmps[111]? = some (.bool true) := by obtain ⟨_, g, hv⟩ := Reg.pred hp 5 111 (by kernel_rfl) rfl rfl; exact g.trans (congrArg some hv)
            refine Reg.ok_call (f := 13) (args := #[.pointer (some ⟨Ca, 0, none⟩), .pointer (some ⟨Cc, 0, none⟩)]) (Reg.wanted_at (j := 5) (d := 111) rfl rfl rfl g111) (by go_simp) ((HSm.out wc hB).mono ?_)
            rintro e w' ⟨rfl, hB2⟩
            exact ⟨_, rfl, hB2, rfl⟩
          · intro cx wc hB hp hs
            have g111 : cx.tmps[111]? = some (.bool true) := by obtain ⟨_, g, hv⟩ := Reg.pred hp 5 111 (by kernel_rfl) rfl rfl; exact g.trans (congrArg some hv)
            have g114 : cx.tmps[114]? = some (.bool true) := by obtain ⟨_, g, hv⟩ := Reg.pred hp 8 114 (by kernel_rfl) rfl rfl; exact g.trans (congrArg some hv)
            refine Reg.ok_value Reg.Old.refl (v := .bool true) (Reg.wanted_none rfl) ?_ rfl
            go_simp
          · intro cx wc hB hp hs
            have g115 : cx.tmps[115]? = some (.bool true) := by obtain ⟨_, g, hv⟩ := Reg.pred hp 9 115 (by kernel_rfl) rfl rfl; exact g.trans (congrArg some hv)
            refine Reg.ok_value Reg.Old.refl (v := .bool true) (Reg.wanted_none rfl) ?_ rfl
            go_simp
          · intro cx wc hB hp hs
            have g14 : cx.tmps[14]? = some (.pointer (some ⟨Ca, 0, none⟩)) := (hs 14 (by kernel_rfl)).trans rfl
            have g116 : cx.tmps[116]? = some (.bool true) := by obtain ⟨_, g, hv⟩ := Reg.pred hp 10 116 (by kernel_rfl) rfl rfl; exact g.trans (congrArg some hv)
            refine Reg.ok_value Reg.Old.refl (v := .pointer (some ⟨Ca, 0, none⟩)) (Reg.wanted_at (j := 10) (d := 116) rfl rfl rfl g116) ?_ rfl
            go_simp
          · intro cx wc hB hp hs
            have g117 : cx.tmps[117]? = some (.pointer (some ⟨Ca, 0, none⟩)) := by obtain ⟨_, g, hv⟩ := Reg.pred hp 11 117 (by kernel_rfl) rfl rfl; exact g.trans (congrArg some hv)
            have g116 : cx.tmps[116]? = some (.bool true) := by obtain ⟨_, g, hv⟩ := Reg.pred hp 10 116 (by kernel_rfl) rfl rfl; exact g.trans (congrArg some hv)
            refine Reg.ok_call (f := 14) (args := #[.pointer (some ⟨Ca, 0, none⟩)]) (Reg.wanted_at (j := 10) (d := 116) rfl rfl rfl g116) (by go_simp) ((HSu.out wc hB).mono ?_)
            rintro e w' ⟨rfl, hB2⟩
            exact ⟨_, rfl, hB2, rfl⟩
          · intro cx wc hB hp hs
            have g9 : cx.tmps[9]? = some (.pointer (some ⟨K, 0, none⟩)) := (hs 9 (by kernel_rfl)).trans rfl
            have g116 : cx.tmps[116]? = some (.bool true) := by obtain ⟨_, g, hv⟩ := Reg.pred hp 10 116 (by kernel_rfl) rfl rfl; exact g.trans (congrArg some hv)
            have hc := HXe.out.drew.below hB
            have k0 := hc.cell 0 (.int .i64 (Wi.shi z)) rfl
            have k1 := hc.cell 1 (.int .u64 (Wi.slo z)) rfl
            refine Reg.ok_value Reg.Old.refl (v := Wi.sv z) (Reg.wanted_at (j := 10) (d := 116) rfl rfl rfl g116) ?_ rfl
            go_simp
          · intro cx wc hB hp hs
            have g118 : cx.tmps[118]? = some (Wi.sv z) := by obtain ⟨_, g, hv⟩ := Reg.pred hp 12 118 (by kernel_rfl) rfl rfl; exact g.trans (congrArg some hv)
            have g119 : cx.tmps[119]? = some (Wi.sv z) := by obtain ⟨_, g, hv⟩ := Reg.pred hp 13 119 (by kernel_rfl) rfl rfl; exact g.trans (congrArg some hv)
            have g116 : cx.tmps[116]? = some (.bool true) := by obtain ⟨_, g, hv⟩ := Reg.pred hp 10 116 (by kernel_rfl) rfl rfl; exact g.trans (congrArg some hv)
            have e1 := sum_eql (Wi.shi z) (Wi.shi z) (Wi.slo z) (Wi.slo z) wc
            have e2 := sum_guard (.tmp 118) (.tmp 119) #[.int .i64 (Wi.shi z), .int .u64 (Wi.slo z)] #[.int .i64 (Wi.shi z), .int .u64 (Wi.slo z)] wc
            refine Reg.ok_value Reg.Old.refl (v := .bool true) (Reg.wanted_at (j := 10) (d := 116) rfl rfl rfl g116) ?_ rfl
            go_simp
          · intro cx wc hB hp hs
            have g116 : cx.tmps[116]? = some (.bool true) := by obtain ⟨_, g, hv⟩ := Reg.pred hp 10 116 (by kernel_rfl) rfl rfl; exact g.trans (congrArg some hv)
            have g120 : cx.tmps[120]? = some (.bool true) := by obtain ⟨_, g, hv⟩ := Reg.pred hp 14 120 (by kernel_rfl) rfl rfl; exact g.trans (congrArg some hv)
            refine Reg.ok_value Reg.Old.refl (v := .bool true) (Reg.wanted_none rfl) ?_ rfl
            go_simp
          · intro cx wc hB hp hs
            have g121 : cx.tmps[121]? = some (.bool true) := by obtain ⟨_, g, hv⟩ := Reg.pred hp 15 121 (by kernel_rfl) rfl rfl; exact g.trans (congrArg some hv)
            refine Reg.ok_value Reg.Old.refl (v := .bool true) (Reg.wanted_none rfl) ?_ rfl
            go_simp
          · intro cx wc hB hp hs
            have g14 : cx.tmps[14]? = some (.pointer (some ⟨Ca, 0, none⟩)) := (hs 14 (by kernel_rfl)).trans rfl
            have g122 : cx.tmps[122]? = some (.bool true) := by obtain ⟨_, g, hv⟩ := Reg.pred hp 16 122 (by kernel_rfl) rfl rfl; exact g.trans (congrArg some hv)
            refine Reg.ok_value Reg.Old.refl (v := .pointer (some ⟨Ca, 0, none⟩)) (Reg.wanted_at (j := 16) (d := 122) rfl rfl rfl g122) ?_ rfl
            go_simp
          · intro cx wc hB hp hs
            have g123 : cx.tmps[123]? = some (.pointer (some ⟨Ca, 0, none⟩)) := by obtain ⟨_, g, hv⟩ := Reg.pred hp 17 123 (by kernel_rfl) rfl rfl; exact g.trans (congrArg some hv)
            have g122 : cx.tmps[122]? = some (.bool true) := by obtain ⟨_, g, hv⟩ := Reg.pred hp 16 122 (by kernel_rfl) rfl rfl; exact g.trans (congrArg some hv)
            refine Reg.ok_value Reg.Old.refl (v := .pointer (some ⟨Ca, 0, none⟩)) (Reg.wanted_at (j := 16) (d := 122) rfl rfl rfl g122) ?_ rfl
            go_simp
          · intro cx wc hB hp hs
            have g124 : cx.tmps[124]? = some (.pointer (some ⟨Ca, 0, none⟩)) := by obtain ⟨_, g, hv⟩ := Reg.pred hp 18 124 (by kernel_rfl) rfl rfl; exact g.trans (congrArg some hv)
            have g122 : cx.tmps[122]? = some (.bool true) := by obtain ⟨_, g, hv⟩ := Reg.pred hp 16 122 (by kernel_rfl) rfl rfl; exact g.trans (congrArg some hv)
            refine Reg.ok_value Reg.Old.refl (v := .pointer (some ⟨Ca, 0, none⟩)) (Reg.wanted_at (j := 16) (d := 122) rfl rfl rfl g122) ?_ rfl
            go_simp
          · intro cx wc hB hp hs
            have g125 : cx.tmps[125]? = some (.pointer (some ⟨Ca, 0, none⟩)) := by obtain ⟨_, g, hv⟩ := Reg.pred hp 19 125 (by kernel_rfl) rfl rfl; exact g.trans (congrArg some hv)
            have g122 : cx.tmps[122]? = some (.bool true) := by obtain ⟨_, g, hv⟩ := Reg.pred hp 16 122 (by kernel_rfl) rfl rfl; exact g.trans (congrArg some hv)
            have hc := HKa.out.drew.below hB
            have k0 := hc.cell 0 (.pointer (some ⟨Ba, 0, none⟩)) rfl
            refine Reg.ok_value Reg.Old.refl (v := .pointer (some ⟨Ba, 0, none⟩)) (Reg.wanted_at (j := 16) (d := 122) rfl rfl rfl g122) ?_ rfl
            go_simp
          · intro cx wc hB hp hs
            have g126 : cx.tmps[126]? = some (.pointer (some ⟨Ba, 0, none⟩)) := by obtain ⟨_, g, hv⟩ := Reg.pred hp 20 126 (by kernel_rfl) rfl rfl; exact g.trans (congrArg some hv)
            have g122 : cx.tmps[122]? = some (.bool true) := by obtain ⟨_, g, hv⟩ := Reg.pred hp 16 122 (by kernel_rfl) rfl rfl; exact g.trans (congrArg some hv)
            refine Reg.ok_call (f := 15) (args := #[.pointer (some ⟨Ba, 0, none⟩)]) (Reg.wanted_at (j := 16) (d := 122) rfl rfl rfl g122) (by go_simp) ((HCa1.out wc hB).mono ?_)
            rintro e w' ⟨rfl, hB2⟩
            exact ⟨_, rfl, hB2, rfl⟩
          · intro cx wc hB hp hs
            have g12 : cx.tmps[12]? = some (.slice pB m capB) := (hs 12 (by kernel_rfl)).trans rfl
            have g122 : cx.tmps[122]? = some (.bool true) := by obtain ⟨_, g, hv⟩ := Reg.pred hp 16 122 (by kernel_rfl) rfl rfl; exact g.trans (congrArg some hv)
            refine Reg.ok_value Reg.Old.refl (v := .slice pB m capB) (Reg.wanted_at (j := 16) (d := 122) rfl rfl rfl g122) ?_ rfl
            go_simp
          · intro cx wc hB hp hs
            have g128 : cx.tmps[128]? = some (.slice pB m capB) := by obtain ⟨_, g, hv⟩ := Reg.pred hp 22 128 (by kernel_rfl) rfl rfl; exact g.trans (congrArg some hv)
            have g122 : cx.tmps[122]? = some (.bool true) := by obtain ⟨_, g, hv⟩ := Reg.pred hp 16 122 (by kernel_rfl) rfl rfl; exact g.trans (congrArg some hv)
            refine Reg.ok_value Reg.Old.refl (v := .int .i64 ((m : Int))) (Reg.wanted_at (j := 16) (d := 122) rfl rfl rfl g122) ?_ rfl
            go_simp
          · intro cx wc hB hp hs
            have g129 : cx.tmps[129]? = some (.int .i64 ((m : Int))) := by obtain ⟨_, g, hv⟩ := Reg.pred hp 23 129 (by kernel_rfl) rfl rfl; exact g.trans (congrArg some hv)
            have g122 : cx.tmps[122]? = some (.bool true) := by obtain ⟨_, g, hv⟩ := Reg.pred hp 16 122 (by kernel_rfl) rfl rfl; exact g.trans (congrArg some hv)
            have e1 := HW1.out
            refine Reg.ok_value Reg.Old.refl (v := .int .u64 ((m : Int))) (Reg.wanted_at (j := 16) (d := 122) rfl rfl rfl g122) ?_ rfl
            go_simp
          · intro cx wc hB hp hs
            have g127 : cx.tmps[127]? = some (.int .u64 ((m : Int))) := by obtain ⟨_, g, hv⟩ := Reg.pred hp 21 127 (by kernel_rfl) rfl rfl; exact g.trans (congrArg some hv)
            have g130 : cx.tmps[130]? = some (.int .u64 ((m : Int))) := by obtain ⟨_, g, hv⟩ := Reg.pred hp 24 130 (by kernel_rfl) rfl rfl; exact g.trans (congrArg some hv)
            have g122 : cx.tmps[122]? = some (.bool true) := by obtain ⟨_, g, hv⟩ := Reg.pred hp 16 122 (by kernel_rfl) rfl rfl; exact g.trans (congrArg some hv)
            refine Reg.ok_value Reg.Old.refl (v := .bool true) (Reg.wanted_at (j := 16) (d := 122) rfl rfl rfl g122) ?_ rfl
            go_simp
          · intro cx wc hB hp hs
            have g122 : cx.tmps[122]? = some (.bool true) := by obtain ⟨_, g, hv⟩ := Reg.pred hp 16 122 (by kernel_rfl) rfl rfl; exact g.trans (congrArg some hv)
            have g131 : cx.tmps[131]? = some (.bool true) := by obtain ⟨_, g, hv⟩ := Reg.pred hp 25 131 (by kernel_rfl) rfl rfl; exact g.trans (congrArg some hv)
            refine Reg.ok_value Reg.Old.refl (v := .bool true) (Reg.wanted_none rfl) ?_ rfl
            go_simp
          · intro cx wc hB hp hs
            have g132 : cx.tmps[132]? = some (.bool true) := by obtain ⟨_, g, hv⟩ := Reg.pred hp 26 132 (by kernel_rfl) rfl rfl; exact g.trans (congrArg some hv)
            refine Reg.ok_value Reg.Old.refl (v := .bool true) (Reg.wanted_none rfl) ?_ rfl
            go_simp
          · intro cx wc hB hp hs
            have g20 : cx.tmps[20]? = some (.bool true) := (hs 20 (by kernel_rfl)).trans rfl
            have g133 : cx.tmps[133]? = some (.bool true) := by obtain ⟨_, g, hv⟩ := Reg.pred hp 27 133 (by kernel_rfl) rfl rfl; exact g.trans (congrArg some hv)
            refine Reg.ok_value Reg.Old.refl (v := .bool true) (Reg.wanted_at (j := 27) (d := 133) rfl rfl rfl g133) ?_ rfl
            go_simp
          · intro cx wc hB hp hs
            have g12 : cx.tmps[12]? = some (.slice pB m capB) := (hs 12 (by kernel_rfl)).trans rfl
            have g133 : cx.tmps[133]? = some (.bool true) := by obtain ⟨_, g, hv⟩ := Reg.pred hp 27 133 (by kernel_rfl) rfl rfl; exact g.trans (congrArg some hv)
            refine Reg.ok_value Reg.Old.refl (v := .slice pB m capB) (Reg.wanted_at (j := 27) (d := 133) rfl rfl rfl g133) ?_ rfl
            go_simp
          · intro cx wc hB hp hs
            have g135 : cx.tmps[135]? = some (.slice pB m capB) := by obtain ⟨_, g, hv⟩ := Reg.pred hp 29 135 (by kernel_rfl) rfl rfl; exact g.trans (congrArg some hv)
            have g133 : cx.tmps[133]? = some (.bool true) := by obtain ⟨_, g, hv⟩ := Reg.pred hp 27 133 (by kernel_rfl) rfl rfl; exact g.trans (congrArg some hv)
            refine Reg.ok_value Reg.Old.refl (v := .int .i64 ((m : Int))) (Reg.wanted_at (j := 27) (d := 133) rfl rfl rfl g133) ?_ rfl
            go_simp
          · intro cx wc hB hp hs
            have g136 : cx.tmps[136]? = some (.int .i64 ((m : Int))) := by obtain ⟨_, g, hv⟩ := Reg.pred hp 30 136 (by kernel_rfl) rfl rfl; exact g.trans (congrArg some hv)
            have g133 : cx.tmps[133]? = some (.bool true) := by obtain ⟨_, g, hv⟩ := Reg.pred hp 27 133 (by kernel_rfl) rfl rfl; exact g.trans (congrArg some hv)
            have e1 := HGT.out
            refine Reg.ok_value Reg.Old.refl (v := .bool true) (Reg.wanted_at (j := 27) (d := 133) rfl rfl rfl g133) ?_ rfl
            go_simp
            exact Nat.pos_of_ne_zero HM0.out
          · intro cx wc hB hp hs
            have g134 : cx.tmps[134]? = some (.bool true) := by obtain ⟨_, g, hv⟩ := Reg.pred hp 28 134 (by kernel_rfl) rfl rfl; exact g.trans (congrArg some hv)
            have g137 : cx.tmps[137]? = some (.bool true) := by obtain ⟨_, g, hv⟩ := Reg.pred hp 31 137 (by kernel_rfl) rfl rfl; exact g.trans (congrArg some hv)
            have g133 : cx.tmps[133]? = some (.bool true) := by obtain ⟨_, g, hv⟩ := Reg.pred hp 27 133 (by kernel_rfl) rfl rfl; exact g.trans (congrArg some hv)
            refine Reg.ok_value Reg.Old.refl (v := .bool true) (Reg.wanted_at (j := 27) (d := 133) rfl rfl rfl g133) ?_ rfl
            go_simp
          · intro cx wc hB hp hs
            have g133 : cx.tmps[133]? = some (.bool true) := by obtain ⟨_, g, hv⟩ := Reg.pred hp 27 133 (by kernel_rfl) rfl rfl; exact g.trans (congrArg some hv)
            have g138 : cx.tmps[138]? = some (.bool true) := by obtain ⟨_, g, hv⟩ := Reg.pred hp 32 138 (by kernel_rfl) rfl rfl; exact g.trans (congrArg some hv)
            refine Reg.ok_value Reg.Old.refl (v := .bool true) (Reg.wanted_none rfl) ?_ rfl
            go_simp
          · intro cx wc hB hp hs
            have g139 : cx.tmps[139]? = some (.bool true) := by obtain ⟨_, g, hv⟩ := Reg.pred hp 33 139 (by kernel_rfl) rfl rfl; exact g.trans (congrArg some hv)
            refine Reg.ok_value Reg.Old.refl (v := .bool true) (Reg.wanted_none rfl) ?_ rfl
            go_simp
          · intro cx wc hB hp hs
            have g20 : cx.tmps[20]? = some (.bool true) := (hs 20 (by kernel_rfl)).trans rfl
            have g140 : cx.tmps[140]? = some (.bool true) := by obtain ⟨_, g, hv⟩ := Reg.pred hp 34 140 (by kernel_rfl) rfl rfl; exact g.trans (congrArg some hv)
            refine Reg.ok_value Reg.Old.refl (v := .bool true) (Reg.wanted_at (j := 34) (d := 140) rfl rfl rfl g140) ?_ rfl
            go_simp
          · intro cx wc hB hp hs
            have g141 : cx.tmps[141]? = some (.bool true) := by obtain ⟨_, g, hv⟩ := Reg.pred hp 35 141 (by kernel_rfl) rfl rfl; exact g.trans (congrArg some hv)
            have g140 : cx.tmps[140]? = some (.bool true) := by obtain ⟨_, g, hv⟩ := Reg.pred hp 34 140 (by kernel_rfl) rfl rfl; exact g.trans (congrArg some hv)
            refine Reg.ok_value Reg.Old.refl (v := .bool false) (Reg.wanted_at (j := 34) (d := 140) rfl rfl rfl g140) ?_ rfl
            go_simp
          · intro cx wc hB hp hs
            have g142 : cx.tmps[142]? = some (.bool false) := by obtain ⟨_, g, hv⟩ := Reg.pred hp 36 142 (by kernel_rfl) rfl rfl; exact g.trans (congrArg some hv)
            have g140 : cx.tmps[140]? = some (.bool true) := by obtain ⟨_, g, hv⟩ := Reg.pred hp 34 140 (by kernel_rfl) rfl rfl; exact g.trans (congrArg some hv)
            refine Reg.ok_value Reg.Old.refl (v := .bool false) (Reg.wanted_at (j := 34) (d := 140) rfl rfl rfl g140) ?_ rfl
            go_simp
          · intro cx wc hB hp hs
            have g18 : cx.tmps[18]? = some (.int .i64 lo) := (hs 18 (by kernel_rfl)).trans rfl
            have g143 : cx.tmps[143]? = some (.bool false) := by obtain ⟨_, g, hv⟩ := Reg.pred hp 37 143 (by kernel_rfl) rfl rfl; exact g.trans (congrArg some hv)
            refine Reg.ok_value Reg.Old.refl (v := .int .i64 lo) (Reg.wanted_at (j := 37) (d := 143) rfl rfl rfl g143) ?_ rfl
            go_simp
          · intro cx wc hB hp hs
            have g10 : cx.tmps[10]? = some (.int .i64 lo) := (hs 10 (by kernel_rfl)).trans rfl
            have g143 : cx.tmps[143]? = some (.bool false) := by obtain ⟨_, g, hv⟩ := Reg.pred hp 37 143 (by kernel_rfl) rfl rfl; exact g.trans (congrArg some hv)
            refine Reg.ok_value Reg.Old.refl (v := .int .i64 lo) (Reg.wanted_at (j := 37) (d := 143) rfl rfl rfl g143) ?_ rfl
            go_simp
          · intro cx wc hB hp hs
            have g144 : cx.tmps[144]? = some (.int .i64 lo) := by obtain ⟨_, g, hv⟩ := Reg.pred hp 38 144 (by kernel_rfl) rfl rfl; exact g.trans (congrArg some hv)
            have g145 : cx.tmps[145]? = some (.int .i64 lo) := by obtain ⟨_, g, hv⟩ := Reg.pred hp 39 145 (by kernel_rfl) rfl rfl; exact g.trans (congrArg some hv)
            have g143 : cx.tmps[143]? = some (.bool false) := by obtain ⟨_, g, hv⟩ := Reg.pred hp 37 143 (by kernel_rfl) rfl rfl; exact g.trans (congrArg some hv)
            refine Reg.ok_value Reg.Old.refl (v := .bool true) (Reg.wanted_at (j := 37) (d := 143) rfl rfl rfl g143) ?_ rfl
            go_simp
          · intro cx wc hB hp hs
            have g146 : cx.tmps[146]? = some (.bool true) := by obtain ⟨_, g, hv⟩ := Reg.pred hp 40 146 (by kernel_rfl) rfl rfl; exact g.trans (congrArg some hv)
            have g143 : cx.tmps[143]? = some (.bool false) := by obtain ⟨_, g, hv⟩ := Reg.pred hp 37 143 (by kernel_rfl) rfl rfl; exact g.trans (congrArg some hv)
            refine Reg.ok_value Reg.Old.refl (v := .bool true) (Reg.wanted_at (j := 37) (d := 143) rfl rfl rfl g143) ?_ rfl
            go_simp
          · intro cx wc hB hp hs
            have g19 : cx.tmps[19]? = some (.int .i64 hi) := (hs 19 (by kernel_rfl)).trans rfl
            have g147 : cx.tmps[147]? = some (.bool true) := by obtain ⟨_, g, hv⟩ := Reg.pred hp 41 147 (by kernel_rfl) rfl rfl; exact g.trans (congrArg some hv)
            refine Reg.ok_value Reg.Old.refl (v := .int .i64 hi) (Reg.wanted_at (j := 41) (d := 147) rfl rfl rfl g147) ?_ rfl
            go_simp
          · intro cx wc hB hp hs
            have g11 : cx.tmps[11]? = some (.int .i64 hi) := (hs 11 (by kernel_rfl)).trans rfl
            have g147 : cx.tmps[147]? = some (.bool true) := by obtain ⟨_, g, hv⟩ := Reg.pred hp 41 147 (by kernel_rfl) rfl rfl; exact g.trans (congrArg some hv)
            refine Reg.ok_value Reg.Old.refl (v := .int .i64 hi) (Reg.wanted_at (j := 41) (d := 147) rfl rfl rfl g147) ?_ rfl
            go_simp
          · intro cx wc hB hp hs
            have g148 : cx.tmps[148]? = some (.int .i64 hi) := by obtain ⟨_, g, hv⟩ := Reg.pred hp 42 148 (by kernel_rfl) rfl rfl; exact g.trans (congrArg some hv)
            have g149 : cx.tmps[149]? = some (.int .i64 hi) := by obtain ⟨_, g, hv⟩ := Reg.pred hp 43 149 (by kernel_rfl) rfl rfl; exact g.trans (congrArg some hv)
            have g147 : cx.tmps[147]? = some (.bool true) := by obtain ⟨_, g, hv⟩ := Reg.pred hp 41 147 (by kernel_rfl) rfl rfl; exact g.trans (congrArg some hv)
            refine Reg.ok_value Reg.Old.refl (v := .bool true) (Reg.wanted_at (j := 41) (d := 147) rfl rfl rfl g147) ?_ rfl
            go_simp
          · intro cx wc hB hp hs
            have g147 : cx.tmps[147]? = some (.bool true) := by obtain ⟨_, g, hv⟩ := Reg.pred hp 41 147 (by kernel_rfl) rfl rfl; exact g.trans (congrArg some hv)
            have g150 : cx.tmps[150]? = some (.bool true) := by obtain ⟨_, g, hv⟩ := Reg.pred hp 44 150 (by kernel_rfl) rfl rfl; exact g.trans (congrArg some hv)
            have g143 : cx.tmps[143]? = some (.bool false) := by obtain ⟨_, g, hv⟩ := Reg.pred hp 37 143 (by kernel_rfl) rfl rfl; exact g.trans (congrArg some hv)
            refine Reg.ok_value Reg.Old.refl (v := .bool true) (Reg.wanted_at (j := 37) (d := 143) rfl rfl rfl g143) ?_ rfl
            go_simp
          · intro cx wc hB hp hs
            have g143 : cx.tmps[143]? = some (.bool false) := by obtain ⟨_, g, hv⟩ := Reg.pred hp 37 143 (by kernel_rfl) rfl rfl; exact g.trans (congrArg some hv)
            have g151 : cx.tmps[151]? = some (.bool true) := by obtain ⟨_, g, hv⟩ := Reg.pred hp 45 151 (by kernel_rfl) rfl rfl; exact g.trans (congrArg some hv)
            have g140 : cx.tmps[140]? = some (.bool true) := by obtain ⟨_, g, hv⟩ := Reg.pred hp 34 140 (by kernel_rfl) rfl rfl; exact g.trans (congrArg some hv)
            refine Reg.ok_value Reg.Old.refl (v := .bool true) (Reg.wanted_at (j := 34) (d := 140) rfl rfl rfl g140) ?_ rfl
            go_simp
          · intro cx wc hB hp hs
            have g140 : cx.tmps[140]? = some (.bool true) := by obtain ⟨_, g, hv⟩ := Reg.pred hp 34 140 (by kernel_rfl) rfl rfl; exact g.trans (congrArg some hv)
            have g152 : cx.tmps[152]? = some (.bool true) := by obtain ⟨_, g, hv⟩ := Reg.pred hp 46 152 (by kernel_rfl) rfl rfl; exact g.trans (congrArg some hv)
            refine Reg.ok_value Reg.Old.refl (v := .bool true) (Reg.wanted_none rfl) ?_ rfl
            go_simp
          · intro cx wc hB hp hs
            have g153 : cx.tmps[153]? = some (.bool true) := by obtain ⟨_, g, hv⟩ := Reg.pred hp 47 153 (by kernel_rfl) rfl rfl; exact g.trans (congrArg some hv)
            refine Reg.ok_value Reg.Old.refl (v := .bool true) (Reg.wanted_none rfl) ?_ rfl
            go_simp
          · intro cx wc hB hp hs
            have g15 : cx.tmps[15]? = some (.pointer (some ⟨Cb, 0, none⟩)) := (hs 15 (by kernel_rfl)).trans rfl
            have g154 : cx.tmps[154]? = some (.bool true) := by obtain ⟨_, g, hv⟩ := Reg.pred hp 48 154 (by kernel_rfl) rfl rfl; exact g.trans (congrArg some hv)
            refine Reg.ok_value Reg.Old.refl (v := .pointer (some ⟨Cb, 0, none⟩)) (Reg.wanted_at (j := 48) (d := 154) rfl rfl rfl g154) ?_ rfl
            go_simp
          · intro cx wc hB hp hs
            have g155 : cx.tmps[155]? = some (.pointer (some ⟨Cb, 0, none⟩)) := by obtain ⟨_, g, hv⟩ := Reg.pred hp 49 155 (by kernel_rfl) rfl rfl; exact g.trans (congrArg some hv)
            have g154 : cx.tmps[154]? = some (.bool true) := by obtain ⟨_, g, hv⟩ := Reg.pred hp 48 154 (by kernel_rfl) rfl rfl; exact g.trans (congrArg some hv)
            refine Reg.ok_value Reg.Old.refl (v := .pointer (some ⟨Cb, 0, none⟩)) (Reg.wanted_at (j := 48) (d := 154) rfl rfl rfl g154) ?_ rfl
            go_simp
          · intro cx wc hB hp hs
            have g156 : cx.tmps[156]? = some (.pointer (some ⟨Cb, 0, none⟩)) := by obtain ⟨_, g, hv⟩ := Reg.pred hp 50 156 (by kernel_rfl) rfl rfl; exact g.trans (congrArg some hv)
            have g154 : cx.tmps[154]? = some (.bool true) := by obtain ⟨_, g, hv⟩ := Reg.pred hp 48 154 (by kernel_rfl) rfl rfl; exact g.trans (congrArg some hv)
            refine Reg.ok_value Reg.Old.refl (v := .pointer (some ⟨Cb, 0, none⟩)) (Reg.wanted_at (j := 48) (d := 154) rfl rfl rfl g154) ?_ rfl
            go_simp
          · intro cx wc hB hp hs
            have g157 : cx.tmps[157]? = some (.pointer (some ⟨Cb, 0, none⟩)) := by obtain ⟨_, g, hv⟩ := Reg.pred hp 51 157 (by kernel_rfl) rfl rfl; exact g.trans (congrArg some hv)
            have g154 : cx.tmps[154]? = some (.bool true) := by obtain ⟨_, g, hv⟩ := Reg.pred hp 48 154 (by kernel_rfl) rfl rfl; exact g.trans (congrArg some hv)
            have hc := HKb.out.drew.below hB
            have k0 := hc.cell 0 (.pointer (some ⟨Bb, 0, none⟩)) rfl
            refine Reg.ok_value Reg.Old.refl (v := .pointer (some ⟨Bb, 0, none⟩)) (Reg.wanted_at (j := 48) (d := 154) rfl rfl rfl g154) ?_ rfl
            go_simp
          · intro cx wc hB hp hs
            have g158 : cx.tmps[158]? = some (.pointer (some ⟨Bb, 0, none⟩)) := by obtain ⟨_, g, hv⟩ := Reg.pred hp 52 158 (by kernel_rfl) rfl rfl; exact g.trans (congrArg some hv)
            have g154 : cx.tmps[154]? = some (.bool true) := by obtain ⟨_, g, hv⟩ := Reg.pred hp 48 154 (by kernel_rfl) rfl rfl; exact g.trans (congrArg some hv)
            refine Reg.ok_call (f := 15) (args := #[.pointer (some ⟨Bb, 0, none⟩)]) (Reg.wanted_at (j := 48) (d := 154) rfl rfl rfl g154) (by go_simp) ((HCb1.out wc hB).mono ?_)
            rintro e w' ⟨rfl, hB2⟩
            exact ⟨_, rfl, hB2, rfl⟩
          · intro cx wc hB hp hs
            have g2 : cx.tmps[2]? = some ((.slice p' m2 cap')) := (hs 2 (by kernel_rfl)).trans rfl
            have g154 : cx.tmps[154]? = some (.bool true) := by obtain ⟨_, g, hv⟩ := Reg.pred hp 48 154 (by kernel_rfl) rfl rfl; exact g.trans (congrArg some hv)
            refine Reg.ok_value Reg.Old.refl (v := (.slice p' m2 cap')) (Reg.wanted_at (j := 48) (d := 154) rfl rfl rfl g154) ?_ rfl
            go_simp
          · intro cx wc hB hp hs
            have g160 : cx.tmps[160]? = some ((.slice p' m2 cap')) := by obtain ⟨_, g, hv⟩ := Reg.pred hp 54 160 (by kernel_rfl) rfl rfl; exact g.trans (congrArg some hv)
            have g154 : cx.tmps[154]? = some (.bool true) := by obtain ⟨_, g, hv⟩ := Reg.pred hp 48 154 (by kernel_rfl) rfl rfl; exact g.trans (congrArg some hv)
            refine Reg.ok_value Reg.Old.refl (v := .int .i64 ((m2 : Int))) (Reg.wanted_at (j := 48) (d := 154) rfl rfl rfl g154) ?_ rfl
            go_simp
          · intro cx wc hB hp hs
            have g161 : cx.tmps[161]? = some (.int .i64 ((m2 : Int))) := by obtain ⟨_, g, hv⟩ := Reg.pred hp 55 161 (by kernel_rfl) rfl rfl; exact g.trans (congrArg some hv)
            have g154 : cx.tmps[154]? = some (.bool true) := by obtain ⟨_, g, hv⟩ := Reg.pred hp 48 154 (by kernel_rfl) rfl rfl; exact g.trans (congrArg some hv)
            have e1 := HW2.out
            refine Reg.ok_value Reg.Old.refl (v := .int .u64 ((m2 : Int))) (Reg.wanted_at (j := 48) (d := 154) rfl rfl rfl g154) ?_ rfl
            go_simp
          · intro cx wc hB hp hs
            have g159 : cx.tmps[159]? = some (.int .u64 ((m2 : Int))) := by obtain ⟨_, g, hv⟩ := Reg.pred hp 53 159 (by kernel_rfl) rfl rfl; exact g.trans (congrArg some hv)
            have g162 : cx.tmps[162]? = some (.int .u64 ((m2 : Int))) := by obtain ⟨_, g, hv⟩ := Reg.pred hp 56 162 (by kernel_rfl) rfl rfl; exact g.trans (congrArg some hv)
            have g154 : cx.tmps[154]? = some (.bool true) := by obtain ⟨_, g, hv⟩ := Reg.pred hp 48 154 (by kernel_rfl) rfl rfl; exact g.trans (congrArg some hv)
            refine Reg.ok_value Reg.Old.refl (v := .bool true) (Reg.wanted_at (j := 48) (d := 154) rfl rfl rfl g154) ?_ rfl
            go_simp
          · intro cx wc hB hp hs
            have g154 : cx.tmps[154]? = some (.bool true) := by obtain ⟨_, g, hv⟩ := Reg.pred hp 48 154 (by kernel_rfl) rfl rfl; exact g.trans (congrArg some hv)
            have g163 : cx.tmps[163]? = some (.bool true) := by obtain ⟨_, g, hv⟩ := Reg.pred hp 57 163 (by kernel_rfl) rfl rfl; exact g.trans (congrArg some hv)
            refine Reg.ok_value Reg.Old.refl (v := .bool true) (Reg.wanted_none rfl) ?_ rfl
            go_simp
          · intro cx wc hB hp hs
            have g164 : cx.tmps[164]? = some (.bool true) := by obtain ⟨_, g, hv⟩ := Reg.pred hp 58 164 (by kernel_rfl) rfl rfl; exact g.trans (congrArg some hv)
            refine Reg.ok_value Reg.Old.refl (v := .bool true) (Reg.wanted_none rfl) ?_ rfl
            go_simp
          · intro cx wc hB hp hs
            have g14 : cx.tmps[14]? = some (.pointer (some ⟨Ca, 0, none⟩)) := (hs 14 (by kernel_rfl)).trans rfl
            have g165 : cx.tmps[165]? = some (.bool true) := by obtain ⟨_, g, hv⟩ := Reg.pred hp 59 165 (by kernel_rfl) rfl rfl; exact g.trans (congrArg some hv)
            refine Reg.ok_value Reg.Old.refl (v := .pointer (some ⟨Ca, 0, none⟩)) (Reg.wanted_at (j := 59) (d := 165) rfl rfl rfl g165) ?_ rfl
            go_simp
          · intro cx wc hB hp hs
            have g166 : cx.tmps[166]? = some (.pointer (some ⟨Ca, 0, none⟩)) := by obtain ⟨_, g, hv⟩ := Reg.pred hp 60 166 (by kernel_rfl) rfl rfl; exact g.trans (congrArg some hv)
            have g165 : cx.tmps[165]? = some (.bool true) := by obtain ⟨_, g, hv⟩ := Reg.pred hp 59 165 (by kernel_rfl) rfl rfl; exact g.trans (congrArg some hv)
            refine Reg.ok_call (f := 16) (args := #[.pointer (some ⟨Ca, 0, none⟩)]) (Reg.wanted_at (j := 59) (d := 165) rfl rfl rfl g165) (by go_simp) ((HFr.out wc hB).mono ?_)
            rintro e w' ⟨rfl, hB2⟩
            exact ⟨_, rfl, hB2, rfl⟩
          · intro cx wc hB hp hs
            have g167 : cx.tmps[167]? = some (.int .i64 3) := by obtain ⟨_, g, hv⟩ := Reg.pred hp 61 167 (by kernel_rfl) rfl rfl; exact g.trans (congrArg some hv)
            have g165 : cx.tmps[165]? = some (.bool true) := by obtain ⟨_, g, hv⟩ := Reg.pred hp 59 165 (by kernel_rfl) rfl rfl; exact g.trans (congrArg some hv)
            refine Reg.ok_value Reg.Old.refl (v := .bool true) (Reg.wanted_at (j := 59) (d := 165) rfl rfl rfl g165) ?_ rfl
            go_simp
          · intro cx wc hB hp hs
            have g165 : cx.tmps[165]? = some (.bool true) := by obtain ⟨_, g, hv⟩ := Reg.pred hp 59 165 (by kernel_rfl) rfl rfl; exact g.trans (congrArg some hv)
            have g168 : cx.tmps[168]? = some (.bool true) := by obtain ⟨_, g, hv⟩ := Reg.pred hp 62 168 (by kernel_rfl) rfl rfl; exact g.trans (congrArg some hv)
            refine Reg.ok_value Reg.Old.refl (v := .bool true) (Reg.wanted_none rfl) ?_ rfl
            go_simp
          · intro cx wc hB hp hs
            have g169 : cx.tmps[169]? = some (.bool true) := by obtain ⟨_, g, hv⟩ := Reg.pred hp 63 169 (by kernel_rfl) rfl rfl; exact g.trans (congrArg some hv)
            refine Reg.ok_value Reg.Old.refl (v := .bool true) (Reg.wanted_none rfl) ?_ rfl
            go_simp
        · intro d wc hB hsz hdf hv ho
          have gr : d.tmps[6]? = some (.bool true) := by obtain ⟨_, g, hv⟩ := hv 64 _ 6 rfl rfl; exact g.trans (congrArg some hv)
          have hF : Below w.heap.size w wc := (HB.out.trans (HB10.out.mono HB.out.size)).trans (hB.mono (Nat.le_trans HB.out.size HB10.out.size))
          clear hv ho hB
          go_wp2
          refine bodyPost_ret (v := .bool true) ?_ hdf ⟨rfl, hF⟩
          simp [results, Tryd.results3, go_sem, gr]
theorem CellOrder_walk (a0 : Int) (h0 : (Lit.int .u8 a0).wf = true) (p1 : Option Addr) (xs1 : List Int) (cap1 : Nat) (hl1 : xs1.length ≤ cap1) (hm1 : cap1 ≤ maxLen) (p2 : Option Addr) (xs2 : List Int) (cap2 : Nat) (hl2 : xs2.length ≤ cap2) (hm2 : cap2 ≤ maxLen) (W : World) (hn1 : Ints p1 xs1 W) (hz1 : p1 = none → cap1 = 0) (hn2 : Ints p2 xs2 W) (hz2 : p2 = none → cap2 = 0) (hT : Wi.Tens W) :
    Calls Tryd.prog 3 #[.int .u8 a0, .slice p1 xs1.length cap1, .slice p2 xs2.length cap2] W fun e W' => e = .returned (.bool true) ∧ Below W.heap.size W W' := by
  obtain ⟨x, rfl, hx⟩ := wf_u8 h0
  exact CellOrder_core x hx p1 xs1 cap1 hl1 (by unfold maxLen at hm1; omega) p2 xs2 cap2 hl2 (by unfold maxLen at hm2; omega) hz1 hz2 W hT hn1 hn2
end Go.Proofs.YtmjipafhahggpaaDoor.Ce

