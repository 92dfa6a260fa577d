/- HistOrder, walked. -/
import Derived.Test.YtdcdhbkgeipdjaaHiLng
import Derived.Test.YtdcdhbkgeipdjaaHiCntW
import Derived.Test.YtdcdhbkgeipdjaaHiMrg
import Derived.BigQuiet
namespace Go.Proofs.Ytdcdhbkgeipdjaa
open Go Go.RowKit

theorem rev_drop {L : List Int} {g : Nat} (h : g < L.length) : (L.drop (g + 1)).reverse ++ [L[g]] = (L.drop g).reverse := by
  rw [List.drop_eq_getElem_cons h, List.reverse_cons]
theorem itemsN_merge (k : Nat) (xs ys : List Int) : mergeH (itemsN k xs) (itemsN k ys) = itemsN k (xs ++ ys) := by
  unfold itemsN
  rw [mergeH_items, List.map_append]
theorem itemsN_perm {k : Nat} {xs ys : List Int} (h : xs.Perm ys) : itemsN k xs = itemsN k ys := itemsOf_perm (h.map _)
theorem Ints.get {p : Option Addr} {xs : List Int} {w : World} (h : Ints p xs w) {k : Nat} (hk : k < xs.length) : ∃ B off, p = some ⟨B, off, none⟩ ∧ B < w.heap.size ∧ w.cell? ⟨B, off + k, none⟩ = some (.int .i64 xs[k]) := by
  obtain ⟨B, off, h1, h2, h3, _⟩ := h k hk
  exact ⟨B, off, h1, h2, h3⟩
set_option maxRecDepth 100000 in
set_option maxHeartbeats 4000000 in
theorem HistOrder_core (x : Nat) (hx : x < 256) (p : Option Addr) (xs : List Int) (cap : Nat) (hc : xs.length ≤ cap) (hcap : cap ≤ 9223372036854775807) (p' : Option Addr) (ys : List Int) (cap' : Nat) (hc' : ys.length ≤ cap') (hcap' : cap' ≤ 9223372036854775807)
    (w : World) (hN : Ints p xs w) (hN' : Ints p' ys w) :
    Calls Try.prog 6 #[.int .u8 x, .slice p xs.length cap, .slice p' ys.length cap'] w fun e w' => e = .returned (.bool true) ∧ Below w.heap.size w w' := by
  have HN1 := Lib.hid (hN.take 40)
  have HN2 := Lib.hid (hN'.take 40)
  obtain ⟨k, hk⟩ : ∃ k, x % 5 = k := ⟨_, rfl⟩
  have hk4 : k ≤ 4 := by omega
  have hki : (x : Int) % 5 = (k : Int) := by omega
  obtain ⟨k2, hk2⟩ : ∃ k2, (k + 1) % 5 = k2 := ⟨_, rfl⟩
  have hk24 : k2 ≤ 4 := by omega
  have hk2n : k2 ≠ k := by omega
  have hk2i : ((k : Int) + 1) % 5 = (k2 : Int) := by omega
  have HK := Lib.hid hk4
  have HK2 := Lib.hid hk24
  have HKN := Lib.hid hk2n
  have hkk : (k : Int) ≤ 4 := by omega
  have e1 : (xs.take 40).length = min xs.length 40 := by rw [List.length_take]; omega
  have e2 : (ys.take 40).length = min ys.length 40 := by rw [List.length_take]; omega
  generalize xs.take 40 = L1 at *
  generalize ys.take 40 = L2 at *
  generalize xs.length = nx at *
  generalize ys.length = ny at *
  obtain ⟨m1, hm1⟩ : ∃ m1, L1.length = m1 := ⟨_, rfl⟩
  obtain ⟨m2, hm2⟩ : ∃ m2, L2.length = m2 := ⟨_, rfl⟩
  have HM1 := Lib.hid hm1
  have HM2 := Lib.hid hm2
  rw [hm1] at e1
  rw [hm2] at e2
  have i1 : min (nx : Int) 40 = (m1 : Int) := by omega
  have i2 : min (ny : Int) 40 = (m2 : Int) := by omega
  have b1 : m1 ≤ 40 := by omega
  have b2 : m2 ≤ 40 := by omega
  have b3 : m1 ≤ cap := by omega
  have b4 : m2 ≤ cap' := by omega
  clear hN hN' hk hk2 hk4 hk24 hk2n e1 e2 hm1 hm2
  go_enter Try.func6, Try.ntmps6
  go_wp2_with fail
  refine (examples_any _).mono ?_
  rintro e W1 ⟨rfl, hB⟩
  have HB := Lib.hid hB
  have HO := Lib.hid (OwnL.nil w.heap.size W1)
  have HO0 : Hid (OwnL w.heap.size (.slice none 0 0) ((L2.drop m2).reverse) W1) := Lib.hid (by rw [List.drop_eq_nil_of_le (by rw [HM2.out]; exact Nat.le_refl _)]; exact HO.out)
  clear hB HO
  go_wp2
  rw [hki]
  go_loopg [9, 10] m2 (fun g s9 s10 wx => s10 = .int .i64 ((g : Int) - 1) ∧ g ≤ m2 ∧ Hid (OwnL w.heap.size s9 ((L2.drop g).reverse) wx) ∧ Hid (Below w.heap.size w wx))
  case atStart => exact ⟨by go_num, Nat.le_refl _, HO0, HB⟩
  case round =>
    clear HO0 HB
    obtain ⟨rfl, hg, HO, HB⟩ := hrel
    cases gk with
    | succ g =>
      have hgL : g < L2.length := by rw [HM2.out]; omega
      obtain ⟨C, off, rfl, hC, hcell⟩ := HN2.out.get hgL
      have hc0 := (HB.out.cell (p := ⟨C, off + g, none⟩) hC).trans hcell
      obtain ⟨v', w', hr, hO', hM', _⟩ := append_long 32 HO.out L2[g] (by rw [List.length_reverse, List.length_drop, HM2.out]; omega) HB.out.size
      rw [rev_drop hgL] at hO'
      have HO' := Lib.hid hO'
      have HB' := Lib.hid (below_mov HB.out hM' (fun j hj => (HO.out.lt hj).1) (Nat.le_refl _))
      obtain ⟨y, hy⟩ : ∃ y, L2[g] = y := ⟨_, rfl⟩
      rw [hy] at hc0 hr
      have e10 : ((g + 1 : Nat) : Int) - 1 = (g : Int) := by omega
      rw [e10]
      have hgm : (g : Int) < (m2 : Int) := by omega
      clear hcell hO' hM' HO HB hy e10
      go_wp2_with (at_builtin; refine Lib.wpList_append_run _ rfl _ _ _ _ rfl _ _ rfl rfl _ _ hr ?_)
      go_roundg g
      case measure => omega
      case rel => exact ⟨by go_num, by omega, HO', HB'⟩
    | zero =>
      rw [List.drop_zero] at HO
      have e10 : ((0 : Nat) : Int) - 1 = -1 := rfl
      rw [e10]
      have HO1 : Hid (∀ v wx, OwnL w.heap.size v L2.reverse wx → OwnL w.heap.size v (L2.reverse ++ (L1.drop m1).reverse) wx) := Lib.hid fun v wx h => by rw [List.drop_eq_nil_of_le (by rw [HM1.out]; exact Nat.le_refl _)]; simpa using h
      clear e10
      go_wp2
      go_loopg [9, 11] m1 (fun g s9 s11 wx => s11 = .int .i64 ((g : Int) - 1) ∧ g ≤ m1 ∧ Hid (OwnL w.heap.size s9 (L2.reverse ++ (L1.drop g).reverse) wx) ∧ Hid (Below w.heap.size w wx))
      case atStart => exact ⟨by go_num, Nat.le_refl _, Lib.hid (HO1.out _ _ HO.out), HB⟩
      case round =>
        clear HO HB HO1
        obtain ⟨rfl, hg1, HO, HB⟩ := hrel
        cases gk with
        | succ g =>
          have hgL : g < L1.length := by rw [HM1.out]; omega
          obtain ⟨C, off, rfl, hC, hcell⟩ := HN1.out.get hgL
          have hc0 := (HB.out.cell (p := ⟨C, off + g, none⟩) hC).trans hcell
          obtain ⟨v', w', hr, hO', hM', _⟩ := append_long 32 HO.out L1[g] (by rw [List.length_append, List.length_reverse, List.length_reverse, List.length_drop, HM1.out, HM2.out]; omega) HB.out.size
          rw [List.append_assoc, rev_drop hgL] at hO'
          have HO' := Lib.hid hO'
          have HB' := Lib.hid (below_mov HB.out hM' (fun j hj => (HO.out.lt hj).1) (Nat.le_refl _))
          obtain ⟨y, hy⟩ : ∃ y, L1[g] = y := ⟨_, rfl⟩
          rw [hy] at hc0 hr
          have e10 : ((g + 1 : Nat) : Int) - 1 = (g : Int) := by omega
          rw [e10]
          have hgm : (g : Int) < (m1 : Int) := by omega
          clear hcell hO' hM' HO HB hy e10
          go_wp2_with (at_builtin; refine Lib.wpList_append_run _ rfl _ _ _ _ rfl _ _ rfl rfl _ _ hr ?_)
          go_roundg g
          case measure => omega
          case rel => exact ⟨by go_num, by omega, HO', HB'⟩
        | zero =>
          rw [List.drop_zero] at HO
          have e10 : ((0 : Nat) : Int) - 1 = -1 := rfl
          rw [e10]
          have h64 : ∀ y ∈ L2.reverse ++ L1.reverse, In64 y := fun y hy => by
            rcases List.mem_append.1 hy with hy | hy
            · exact HN2.out.in64 y (List.mem_reverse.1 hy)
            · exact HN1.out.in64 y (List.mem_reverse.1 hy)
          obtain ⟨pL, capL, rfl, hcL, hmL, hI⟩ := HO.out.ints h64
          have hlen : (L2.reverse ++ L1.reverse).length = m1 + m2 := by rw [List.length_append, List.length_reverse, List.length_reverse, HM1.out, HM2.out]; omega
          have hf1 := fun (W : World) (hW : Ints p L1 W) => of_items k HK.out p L1 cap (by rw [HM1.out]; omega) W hW
          have hf2 := fun (W : World) (hW : Ints p' L2 W) => of_items k HK.out p' L2 cap' (by rw [HM2.out]; omega) W hW
          have hf3 := fun (W : World) (hW : Ints pL (L2.reverse ++ L1.reverse) W) => of_items k HK.out pL (L2.reverse ++ L1.reverse) capL (by rw [hlen]; omega) W hW
          have hf4 := fun (W : World) (hW : Ints p L1 W) => of_items k2 HK2.out p L1 cap (by rw [HM1.out]; omega) W hW
          have hperm : itemsN k (L2.reverse ++ L1.reverse) = itemsN k (L1 ++ L2) := itemsN_perm (by
            rw [← List.reverse_append]
            exact List.reverse_perm _)
          have hmrg := itemsN_merge k L1 L2
          have hcn1 : countH (itemsN k L1) = m1 := by rw [itemsN_count, HM1.out]
          have hcn2 : countH (itemsN k L2) = m2 := by rw [itemsN_count, HM2.out]
          have hcn3 : countH (itemsN k (L1 ++ L2)) = m1 + m2 := by rw [itemsN_count, List.length_append, HM1.out, HM2.out]
          rw [HM1.out] at hf1 hf4
          rw [HM2.out] at hf2
          rw [hlen] at hf3 hcL ⊢
          rw [hperm] at hf3
          have HF1 := Lib.hid hf1
          have HF2 := Lib.hid hf2
          have HF3 := Lib.hid hf3
          have HF4 := Lib.hid hf4
          have HMG := Lib.hid hmrg
          have HC1 := Lib.hid hcn1
          have HC2 := Lib.hid hcn2
          have HC3 := Lib.hid hcn3
          have HIL := Lib.hid hI
          generalize L2.reverse ++ L1.reverse = LR at *
          clear e10 h64 hI hlen hf1 hf2 hf3 hf4 hperm hmrg hcn1 hcn2 hcn3 HO
          have ho := HF1.out _ (HN1.out.below HB.out)
          go_wp2_with fail
          refine ho.mono ?_
          rintro e W3 ⟨Bh, vh, rfl, hH, hB2⟩
          have HH := Lib.hid (hH.mono HB.out.size)
          have HNA := Lib.hid (HN2.out.below (below_on HB.out hB2 (Nat.le_refl _)))
          have HIL3 := Lib.hid (HIL.out.below hB2)
          have HB3 := Lib.hid (below_on HB.out hB2 (Nat.le_refl _))
          clear ho hH hB2 HB HIL
          have ho := HF2.out _ HNA.out
          go_wp2_with fail
          refine ho.mono ?_
          rintro e W4 ⟨Bg, vg, rfl, hG, hB2⟩
          have HG := Lib.hid hG
          have h34 := hB2.size
          have HHl := Lib.hid (show Bh < W3.heap.size ∧ ∀ g, vh.ownBlock = some g → g < W3.heap.size from ⟨HH.out.lt, fun g hg => (HH.out.row.lt hg).2⟩)
          have HH4 := Lib.hid (HH.out.below hB2)
          have HIL4 := Lib.hid (HIL3.out.below hB2)
          have HB4 := Lib.hid (below_on HB3.out hB2 (Nat.le_refl _))
          have ho' := HF3.out _ HIL4.out
          clear ho hG hB2 HIL3 HH HNA
          go_wp2_with fail
          refine ho'.mono ?_
          rintro e W5 ⟨Ba, va, rfl, hA, hB2⟩
          have HA := Lib.hid hA
          have HH5 := Lib.hid (HH4.out.below hB2)
          have HG5 := Lib.hid (HG.out.below hB2)
          have HB5 := Lib.hid (below_on HB4.out hB2 (Nat.le_refl _))
          have hmr := merge_any HB5.out.size HH5.out HG5.out (by rw [HC1.out, HC2.out]; omega)
          rw [HMG.out] at hmr
          clear ho' hA hB2 HIL4 HH4 HG
          go_wp2_with fail
          refine hmr.mono ?_
          rintro e W6 ⟨rfl, vh', hH6, hM6, hat6⟩
          have hgl := HG5.out.lo
          have hnot : ∀ j, W3.heap.size ≤ j → ¬ OwnT Bh vh j := fun j hj hk => by
            rcases hk with rfl | e
            · have := HHl.out.1; omega
            · have := HHl.out.2 _ e; omega
          have HG6 := Lib.hid (HG5.out.mov hM6 (hnot _ hgl) (fun g hg => hnot _ (HG5.out.row.lt hg).1))
          have HA6 := Lib.hid (HA.out.mov hM6 (hnot _ (by have := HA.out.lo; omega)) (fun g hg => hnot _ (by have := (HA.out.row.lt hg).1; omega)))
          have HB6 := Lib.hid (below_mov HB5.out hM6 (fun j hj => by
            rcases hj with rfl | e
            · exact HH5.out.lo
            · exact (HH5.out.row.lt e).1) (Nat.le_refl _))
          have HH6 := Lib.hid hH6
          have hit := items_any hH6
          have HP := Lib.hid (fun (N B : Nat) (v : Value) (W : World) (hW : Hs N 62 B k v (itemsN k (L1 ++ L2)) W) => put_any hW)
          have HCT := Lib.hid (fun (W : World) (hW : Hs w.heap.size 62 Bh k vh' (itemsN k (L1 ++ L2)) W) => count_any hW)
          have HCG := Lib.hid (fun (W : World) (hW : Hs W3.heap.size 62 Bg k vg (itemsN k L2) W) => count_any hW)
          rw [HC3.out] at HCT
          rw [HC2.out] at HCG
          clear hmr hM6 hat6 hgl hnot HHl HG5 HA HH5 HB5 hH6 h34 HMG HC1 HC2 HF1 HF2 HF3 HB3 HB4 HN2
          obtain ⟨l, hle⟩ : ∃ l, itemsN k (L1 ++ L2) = l := ⟨_, rfl⟩
          rw [hle] at HH6 HA6 HP HCT HC3 hit
          have HR := Lib.hid HH6.out.inv.ris
          have hl2 := HH6.out.inv.len
          clear hle
          go_wp2_with fail
          refine hit.mono ?_
          rintro e W7 ⟨vi, rfl, hIt, hB2⟩
          have HH7 := Lib.hid (HH6.out.below hB2)
          have HG7 := Lib.hid (HG6.out.below hB2)
          have HA7 := Lib.hid (HA6.out.below hB2)
          have HB7 := Lib.hid (below_on HB6.out hB2 (Nat.le_refl _))
          obtain ⟨pi, capi, rfl, hci, hmi, hcell⟩ := its_cells hIt
          have HC := Lib.hid hcell
          clear hit hIt hB2 hcell hmi HH6 HG6 HA6 HB6
          obtain ⟨ln, hln⟩ : ∃ ln, l.length = ln := ⟨_, rfl⟩
          have HLN := Lib.hid hln
          rw [hln] at hl2 hci ⊢
          clear hln
          go_wp2
          go_loopg [16, 18] ln (fun g s16 s18 wx => ∃ (j : Nat), j + g = ln ∧ s18 = .int .i64 j ∧ s16 = .int .u64 (countH (l.take j)) ∧ Hid (Below W7.heap.size W7 wx))
          case atStart => exact ⟨0, by omega, rfl, rfl, Lib.hid (Below.refl _ _)⟩
          case round =>
            obtain ⟨j, hjg, rfl, rfl, HBx⟩ := hrel
            cases gk with
            | zero =>
              obtain rfl : j = ln := by omega
              have hT : countH (l.take j) = m1 + m2 := by rw [List.take_of_length_le (by rw [HLN.out]; exact Nat.le_refl _)]; exact HC3.out
              rw [hT]
              have HB8 := Lib.hid (below_on HB7.out HBx.out (Nat.le_refl _))
              have HH8 := Lib.hid (HH7.out.below HBx.out)
              have HG8 := Lib.hid (HG7.out.below HBx.out)
              have HA8 := Lib.hid (HA7.out.below HBx.out)
              have ho := HF4.out _ (HN1.out.below HB8.out)
              clear hT HBx HH7 HG7 HA7 HB7 HC
              go_wp2_with fail
              refine ho.mono ?_
              rintro e W9 ⟨Bo, vo, rfl, hO, hB2⟩
              have HOo := Lib.hid hO
              have HH9 := Lib.hid (HH8.out.below hB2)
              have HG9 := Lib.hid (HG8.out.below hB2)
              have HA9 := Lib.hid (HA8.out.below hB2)
              have HB9 := Lib.hid (below_on HB8.out hB2 (Nat.le_refl _))
              have hp := HP.out _ _ _ _ HH9.out
              clear ho hO hB2 HH8 HG8 HA8 HB8
              obtain ⟨t, ht⟩ : ∃ t, tx (putH k l) = t := ⟨_, rfl⟩
              rw [ht] at hp HP
              clear ht
              go_wp2_with fail
              refine hp.mono ?_
              rintro e Wa ⟨rfl, hB2⟩
              replace HOo := Lib.hid (HOo.out.below hB2)
              replace HH9 := Lib.hid (HH9.out.below hB2)
              replace HG9 := Lib.hid (HG9.out.below hB2)
              replace HA9 := Lib.hid (HA9.out.below hB2)
              replace HB9 := Lib.hid (below_on HB9.out hB2 (Nat.le_refl _))
              replace hp := HP.out _ _ _ _ HA9.out
              clear hB2
              go_wp2_with fail
              refine hp.mono ?_
              rintro e Wb ⟨rfl, hB2⟩
              replace HOo := Lib.hid (HOo.out.below hB2)
              replace HH9 := Lib.hid (HH9.out.below hB2)
              replace HG9 := Lib.hid (HG9.out.below hB2)
              replace HB9 := Lib.hid (below_on HB9.out hB2 (Nat.le_refl _))
              have hct := HCT.out _ HH9.out
              clear hB2 hp HA9
              go_wp2_with fail
              refine hct.mono ?_
              rintro e Wc ⟨rfl, hB2⟩
              replace HOo := Lib.hid (HOo.out.below hB2)
              replace HH9 := Lib.hid (HH9.out.below hB2)
              replace HG9 := Lib.hid (HG9.out.below hB2)
              replace HB9 := Lib.hid (below_on HB9.out hB2 (Nat.le_refl _))
              have hcg := HCG.out _ HG9.out
              clear hB2 hct
              go_wp2_with fail
              refine hcg.mono ?_
              rintro e Wd ⟨rfl, hB2⟩
              replace HOo := Lib.hid (HOo.out.below hB2)
              replace HH9 := Lib.hid (HH9.out.below hB2)
              replace HB9 := Lib.hid (below_on HB9.out hB2 (Nat.le_refl _))
              have hmb := merge_bits HH9.out HOo.out HKN.out
              clear hB2 hcg HG9
              go_wp2_with fail
              refine hmb.mono ?_
              rintro e We ⟨rfl, hB2⟩
              replace HB9 := Lib.hid (below_on HB9.out hB2 (Nat.le_refl _))
              clear hB2 hmb
              go_wp2
              go_ret
              exact ⟨rfl, HB9.out⟩
            | succ g =>
              have hj : j < ln := by omega
              have hjl : j < l.length := by rw [HLN.out]; exact hj
              obtain ⟨gg, rfl, hg, c0, c1⟩ := HC.out j hjl
              have d0 := (HBx.out.cell (p := ⟨gg, j * 2, none⟩) hg).trans c0
              have d1 := (HBx.out.cell (p := ⟨gg, j * 2 + 1, none⟩) hg).trans c1
              have hct := countH_take_succ l j hjl
              have hcl := countH_take_le l (j + 1)
              have hct3 := HC3.out
              have hpos := HR.out.2 _ (at_mem hjl)
              by_cases hj0 : j = 0
              · obtain ⟨a, ha⟩ : ∃ a, l[j]!.at_ = a := ⟨_, rfl⟩
                obtain ⟨b, hb⟩ : ∃ b, l[j]!.many = b := ⟨_, rfl⟩
                obtain ⟨q, hq⟩ : ∃ q, countH (l.take j) = q := ⟨_, rfl⟩
                rw [ha] at d0
                rw [hb] at d1 hct hpos
                rw [hq] at hct ⊢
                have HCT9 := Lib.hid hct
                have hqb : q + b ≤ 80 := by omega
                have hbn : decide ((b : Int) = 0) = false := decide_eq_false (by omega)
                have hbn2 : ((b : Int) == 0) = false := beq_false_of_ne (by omega)
                clear c0 c1 ha hb hq hct hcl hct3 hpos
                have hj1 : decide ((0 : Int) < (j : Int)) = false := decide_eq_false (by omega)
                have hj2 : decide (0 < j) = false := decide_eq_false (by omega)
                clear hj0
                go_wp2
                go_quiet (fail)
                have HBy := Lib.hid (below_drewN' HBx.out nq)
                clear d0 d1 HBx
                go_wp2
                go_roundg g
                case measure => omega
                case rel => exact ⟨j + 1, by omega, by go_num, by rw [HCT9.out]; go_num, HBy⟩
              · have hjl1 : j - 1 < l.length := by omega
                have hri := HR.out.lt (show j - 1 < j by omega) hjl
                obtain ⟨i, hi⟩ : ∃ i, j - 1 = i := ⟨_, rfl⟩
                have hij : (j : Int) - 1 = (i : Int) := by omega
                have hi0 : decide ((0 : Int) < (j : Int)) = true := decide_eq_true (by omega)
                have hi02 : decide (0 < j) = true := decide_eq_true (by omega)
                rw [hi] at hjl1 hri
                obtain ⟨gg2, hge, hg2, c2, _⟩ := HC.out i hjl1
                obtain rfl : gg = gg2 := by simpa using hge
                have d2 := (HBx.out.cell (p := ⟨gg, i * 2, none⟩) hg).trans c2
                have hiln : i < ln := by omega
                obtain ⟨a, ha⟩ : ∃ a, l[j]!.at_ = a := ⟨_, rfl⟩
                obtain ⟨a2, ha2⟩ : ∃ a, l[i]!.at_ = a := ⟨_, rfl⟩
                obtain ⟨b, hb⟩ : ∃ b, l[j]!.many = b := ⟨_, rfl⟩
                obtain ⟨q, hq⟩ : ∃ q, countH (l.take j) = q := ⟨_, rfl⟩
                rw [ha] at d0 hri
                rw [ha2] at d2 hri
                rw [hb] at d1 hct hpos
                rw [hq] at hct ⊢
                have HCT9 := Lib.hid hct
                have hqb : q + b ≤ 80 := by omega
                have hbn : decide ((b : Int) = 0) = false := decide_eq_false (by omega)
                have hbn2 : ((b : Int) == 0) = false := beq_false_of_ne (by omega)
                have hge2 : decide (a ≤ a2) = false := decide_eq_false (by omega)
                clear c0 c1 c2 ha ha2 hb hq hct hcl hct3 hpos hge hri hj0 hi
                go_wp2
                go_quiet (fail)
                have HBy := Lib.hid (below_drewN' HBx.out nq)
                clear d0 d1 d2 HBx
                go_wp2
                go_roundg g
                case measure => omega
                case rel => exact ⟨j + 1, by omega, by go_num, by rw [HCT9.out]; go_num, HBy⟩
theorem HistOrder_walk (a0 : Int) (h0 : (Lit.int .u8 a0).wf = true) (p1 : Option Addr) (xs1 : List Int) (cap1 : Nat) (hl1 : xs1.length ≤ cap1) (hm1 : cap1 ≤ maxLen) (p2 : Option Addr) (xs2 : List Int) (cap2 : Nat) (hl2 : xs2.length ≤ cap2) (hm2 : cap2 ≤ maxLen) (W : World) (hn1 : Ints p1 xs1 W) (hn2 : Ints p2 xs2 W) :
    Calls Try.prog 6 #[.int .u8 a0, .slice p1 xs1.length cap1, .slice p2 xs2.length cap2] W fun e w' => e = .returned (.bool true) ∧ Below W.heap.size W w' := by
  obtain ⟨x, rfl, hx⟩ := wf_u8 h0
  exact HistOrder_core x hx p1 xs1 cap1 hl1 hm1 p2 xs2 cap2 hl2 hm2 W hn1 hn2
end Go.Proofs.Ytdcdhbkgeipdjaa
