/- HllOrder, walked. -/
import Derived.Test.YtdcjfefnkjdchaaDoorHOrdM
import Derived.Deep.QuietTactic
import Derived.BigQuiet
namespace Go.Proofs.YtdcjfefnkjdchaaDoor
open Go Go.RowKit

theorem tx_get (l : List UInt8) (t : ByteArray) (h : tx l = t) (k : Nat) (hk : k < t.size) : t[k].toNat = (l.getD k 0).toNat := by
  subst h
  have h1 := get_list (tx l) k hk
  have h2 : (tx l).data.toList = l := by simp [tx]
  rw [h2] at h1
  rw [List.getD_eq_getElem?_getD, h1, Option.getD_some]
set_option maxRecDepth 100000 in
set_option maxHeartbeats 8000000 in
theorem HllOrder_core (x : Nat) (hx : x < 256) (p : Option Addr) (hs : List Nat) (cap : Nat) (hc : hs.length ≤ cap) (hcap : cap ≤ 9223372036854775807) (more : Nat) (hmore : more < 18446744073709551616)
    (w : World) (hT : Tab w) (hN : Nums p hs w) :
    Calls Tryd.prog 5 #[.int .u8 x, .slice p hs.length cap, .int .u64 more] w fun e w' => e = .returned (.bool true) ∧ Below w.heap.size w w' := by
  have HT := Lib.hid hT
  have HN := Lib.hid (hN.take 100)
  obtain ⟨b, hb⟩ : ∃ b, 4 + x % 7 = b := ⟨_, rfl⟩
  have lo : 4 ≤ b := by omega
  have hi : b ≤ 10 := by omega
  have hbi : (4 : Int) + (x : Int) % 7 = b := by omega
  have hlL : (hs.take 100).length = min hs.length 100 := by rw [List.length_take]; omega
  generalize hs.take 100 = L at *
  generalize hs.length = n at *
  have hm1i : min (n : Int) 100 = L.length := by omega
  have hL100 : L.length ≤ 100 := by omega
  have hLn : L.length ≤ n := by omega
  have hLt : L.take 100 = L := List.take_of_length_le (by omega)
  have hfL := fun W hT hN => fed_any b lo hi p L cap (by omega) W hT hN
  rw [hLt] at hfL
  generalize hLl : L.length = n1 at *
  have HLL := Lib.hid hLl
  clear hT hN hb hlL hLt hLl
  go_enter Tryd.func5, Tryd.ntmps5
  go_wp2_with fail
  refine (examples_any _ HT.out).mono ?_
  rintro e W1 ⟨rfl, hB⟩
  obtain ⟨h, hhe⟩ : ∃ h, n1 / 2 = h := ⟨_, rfl⟩
  have hhi : (n1 : Int) / 2 = h := by omega
  have HH := Lib.hid hhe
  clear hhe
  have hB0 := hB.size
  go_wp2_with fail
  go_loopg [9, 10] n1 (fun g s9 s10 wx => g ≤ n1 ∧ s10 = .int .i64 ((g : Int) - 1) ∧ ∃ v, s9 = v ∧ OwnU w.heap.size v (bk L h (n1 - g)) wx ∧ Below w.heap.size w wx)
  case atStart => exact ⟨Nat.le_refl _, rfl, _, rfl, by rw [Nat.sub_self]; exact OwnU.nil _ _, hB⟩
  case round =>
    obtain ⟨hg, rfl, v, rfl, hO, hBw⟩ := hrel
    clear hB
    cases gk with
    | zero =>
      rw [Nat.sub_zero] at hO
      have hmem : ∀ x ∈ bk L h n1, x ∈ L := fun x hx => by
        by_cases h0 : n1 = 0
        · rw [h0] at hx
          cases hx
        · have := HH.out
          exact bk_mem L h (by rw [HLL.out]; omega) n1 (by rw [HLL.out]; exact Nat.le_refl _) x hx
      have hbl := bk_length L h n1
      obtain ⟨P, C2, rfl, hNb, _, hbc, hbm⟩ := hO.slice fun x hx => HN.out.small x (hmem x hx)
      have HNB := Lib.hid hNb
      have HBLE := Lib.hid (regs_back_same b L ((bk L h n1).take 100) fun x hx => hmem x (List.mem_of_mem_take hx))
      have hfu := fun W hT hN => fed_any b lo hi P (bk L h n1) C2 (by omega) W hT hN
      have hft := fun W hT hN => fed_any b lo hi P ((bk L h n1).take 100) C2 (by rw [List.length_take]; omega) W hT hN
      rw [List.length_take, List.take_take, Nat.min_self] at hft
      generalize bk L h n1 = Bk at *
      rw [hbl] at hfu hft hbc ⊢
      obtain ⟨n2, hn2⟩ : ∃ n2, 2 * n1 = n2 := ⟨_, rfl⟩
      obtain ⟨m2, hm2⟩ : ∃ m2, min 100 n2 = m2 := ⟨_, rfl⟩
      rw [hn2] at hfu hft hbc ⊢
      rw [hm2] at hft
      have hm2i : min (n2 : Int) 100 = m2 := by omega
      have hm2b : m2 ≤ n2 := by omega
      have hn2b : n2 ≤ 200 := by omega
      have hC2 : C2 ≤ 9223372036854775807 := hbm
      clear hmem hbl hNb hO hn2 hm2 hbm hg
      go_wp2_with fail
      refine (hfL _ (HT.out.below hBw) (HN.out.below hBw)).mono ?_
      rintro e W2 ⟨rfl, hB2, hS1⟩
      have hR1 : w.heap.size ≤ wr.heap.size := hBw.size
      replace hBw := below_on hBw hB2 (Nat.le_refl _)
      replace HNB := Lib.hid (HNB.out.below hB2)
      generalize wr.heap.size = R1 at hS1 hR1 hB2
      clear hB2
      go_wp2_with fail
      refine (hft _ (HT.out.below hBw) (HNB.out.take 100)).mono ?_
      rintro e W3 ⟨rfl, hB2, _⟩
      replace hBw := below_on hBw hB2 (Nat.le_refl _)
      replace HNB := Lib.hid (HNB.out.below hB2)
      replace hS1 := hS1.below hB2
      generalize W2.heap.size = R2 at hB2
      clear hB2
      go_wp2_with fail
      refine (hfu _ (HT.out.below hBw) HNB.out).mono ?_
      rintro e W4 ⟨rfl, hB2, hS3⟩
      have hR3 : w.heap.size ≤ W3.heap.size := hBw.size
      have hR13 := hS1.lt
      replace hBw := below_on hBw hB2 (Nat.le_refl _)
      replace hS1 := hS1.below hB2
      generalize W3.heap.size = R3 at hS3 hR3 hR13 hB2
      clear hB2 HNB hft hfu hfL
      have HR13 := Lib.hid hR13
      clear hR13
      generalize Bk.take 100 = Bt at *
      go_wp2_with fail
      go_loopg [14] n1 (fun g s wx => ∃ k : Nat, k + g = n1 ∧ s = .int .i64 k ∧ Sk R1 b (regs b L) wx ∧ Sk R3 b (regs b (Bt ++ L.take k)) wx ∧ Below w.heap.size w wx)
      case atStart => exact ⟨0, by omega, rfl, hS1, by rw [List.take_zero, List.append_nil]; exact hS3, hBw⟩
      case round =>
        obtain ⟨k, hkg, rfl, hS1', hS3', hBw'⟩ := hrel
        clear hS1 hS3 hBw
        cases gk with
        | zero =>
          obtain rfl : k = n1 := by omega
          have hLt : L.take k = L := List.take_of_length_le (by rw [HLL.out]; exact Nat.le_refl _)
          rw [hLt, HBLE.out] at hS3'
          have hM := pow_hi lo hi
          have hls := regs_length b L
          clear hLt
          generalize regs b L = l at *
          obtain ⟨t1, ht1⟩ : ∃ t, tx l = t := ⟨_, rfl⟩
          obtain ⟨t2, ht2⟩ : ∃ t, tx (addL b more l) = t := ⟨_, rfl⟩
          have hs1 : t1.size = 2 ^ b := by rw [← ht1, tx_size, hls]
          have hs2 : t2.size = 2 ^ b := by rw [← ht2, tx_size, addL_length, hls]
          have hge : ∀ k (h1 : k < t1.size) (h2 : k < t2.size), t1[k].toNat ≤ t2[k].toNat := fun k h1 h2 => by
            rw [tx_get l t1 ht1 k h1, tx_get _ t2 ht2 k h2, addL_at b more l hls k]
            omega
          have HGE := Lib.hid hge
          have HT1 := Lib.hid ht1
          have HT2 := Lib.hid ht2
          generalize 2 ^ b = M at *
          obtain ⟨hM1, hM2⟩ := hM
          clear hge ht1 ht2 hls
          go_wp2_with fail
          refine (registers_any hS1').mono ?_
          rintro e W5 ⟨rfl, rfl⟩
          rw [HT1.out]
          go_wp2_with fail
          refine (registers_any hS3').mono ?_
          rintro e W6 ⟨rfl, rfl⟩
          rw [HT1.out]
          go_wp2_with fail
          refine (add_any more hmore (HT.out.below hBw') hS1').mono ?_
          rintro e W7 ⟨rfl, hCh, hS'⟩
          have hB2 := below_chg hBw' hCh hR1 (Nat.le_refl _)
          generalize addB b more l = vb
          clear hCh hS1' hS3' hBw'
          go_wp2_with fail
          refine (registers_any hS').mono ?_
          rintro e W8 ⟨rfl, rfl⟩
          rw [HT2.out]
          clear hS'
          go_wp2_with fail
          go_loopw [18] (fun i wx => ∃ j : Nat, j ≤ M ∧ i = .int .i64 j ∧ Below w.heap.size w wx) (fun i _ => M - (intOf i).toNat)
          case atStart => exact ⟨0, Nat.zero_le _, rfl, hB2⟩
          case round =>
            obtain ⟨j, hj, rfl, hB3⟩ := hrel
            clear hB2
            by_cases hlt : j < M
            · have h1 : j < t1.size := by rw [hs1]; exact hlt
              have h2 : j < t2.size := by rw [hs2]; exact hlt
              have hg2 : ¬ ((t2[j].toNat : Nat) : Int) < ((t1[j].toNat : Nat) : Int) := by have := HGE.out j h1 h2; omega
              go_wp2_with fail
              go_quiet (fail)
              go_wp2
              refine ⟨⟨j + 1, by omega, by go_num, hB3.trans ⟨rfl, rfl, rfl, Nat.le_refl _, fun _ _ => rfl⟩⟩, by simp [intOf]; omega⟩
            · obtain rfl : j = M := by omega
              go_wp2
              go_ret
              exact ⟨rfl, hB3⟩
        | succ g =>
          have hkL : k < L.length := by rw [HLL.out]; omega
          obtain ⟨C, off, hp, hC, hcg, hxg⟩ := HN.out k hkL
          subst hp
          have hcg' := (hBw'.cell (p := ⟨C, off + k, none⟩) hC).trans hcg
          have hst : addL b L[k] (regs b (Bt ++ L.take k)) = regs b (Bt ++ L.take (k + 1)) := by
            rw [regs_snoc, List.append_assoc, List.take_add_one, List.getElem?_eq_getElem hkL]; rfl
          have HST := Lib.hid hst
          have had := fun w hT hS => add_any (B := R3) (b := b) (l := regs b (Bt ++ L.take k)) L[k] hxg (w := w) hT hS
          have hk1 : k < n1 := by omega
          generalize L[k] = xg at *
          clear hst hcg hkL
          go_wp2_with fail
          refine (had _ (HT.out.below hBw') hS3').mono ?_
          rintro e w2 ⟨rfl, hCh, hS'⟩
          rw [HST.out] at hS'
          have hB2 := below_chg hBw' hCh hR3 (Nat.le_refl _)
          have hS1n := hS1'.chg hCh (Nat.ne_of_lt HR13.out)
          clear hCh hS3' hS1' hBw' had hcg'
          go_wp2
          go_roundg g
          case measure => omega
          case rel => exact ⟨k + 1, by omega, by go_num, hS1n, hS', hB2⟩
    | succ g =>
      have hgi : (((g + 1 : Nat) : Int) - 1) = g := by omega
      have hgL : g < L.length := by rw [HLL.out]; omega
      have hhL : h < L.length := by rw [HLL.out]; have := HH.out; omega
      obtain ⟨C, off, hp, hC, hcg, hxg⟩ := HN.out g hgL
      subst hp
      obtain ⟨C', off', hp, hC', hch, hxh⟩ := HN.out h hhL
      obtain ⟨rfl, rfl⟩ : C' = C ∧ off' = off := by simp at hp; exact ⟨hp.1.symm, hp.2.symm⟩
      obtain ⟨v1, w1, hap1, hO1, hB1⟩ := append_one 32 hO L[g] hxg (by rw [bk_length]; omega) hBw.size
      obtain ⟨v2, w2, hap2, hO2, hB2⟩ := append_one 32 hO1 L[h] hxh (by rw [List.length_append, bk_length]; simp; omega) (Nat.le_trans hBw.size hB1.size)
      have hcg' := (hBw.cell (p := ⟨C', off' + g, none⟩) hC).trans hcg
      have hch' := ((hBw.trans hB1).cell (p := ⟨C', off' + h, none⟩) hC).trans hch
      have hstep : bk L h (n1 - (g + 1)) ++ [L[g]] ++ [L[h]] = bk L h (n1 - g) := by
        rw [show n1 - g = (n1 - (g + 1)) + 1 by omega, bk]
        have e1 : L.getD (L.length - 1 - (n1 - (g + 1))) 0 = L[g] := by
          rw [show L.length - 1 - (n1 - (g + 1)) = g by rw [HLL.out]; omega, List.getD_eq_getElem?_getD, List.getElem?_eq_getElem hgL]; rfl
        have e2 : L.getD h 0 = L[h] := by rw [List.getD_eq_getElem?_getD, List.getElem?_eq_getElem hhL]; rfl
        rw [e1, e2]
      rw [hstep] at hO2
      have hg1 : g < n1 := by omega
      have hh1 : h < n1 := by rw [HLL.out] at hhL; exact hhL
      have HA1 := Lib.hid hap1
      have HA2 := Lib.hid hap2
      have hBe := (hBw.trans hB1).trans hB2
      generalize L[g] = xg at *
      generalize L[h] = xh at *
      clear hap1 hap2 hO hO1 hcg hch hp hstep hgL hhL hxg hxh hB1 hB2
      go_wp2_with (first | (at_builtin; refine wpList_append_run rfl (.tmp 38) (.tmp 43) 32 rfl _ _ _ rfl rfl HA1.out ?_) | (at_builtin; refine wpList_append_run rfl (.tmp 45) (.tmp 52) 32 rfl _ _ _ rfl rfl HA2.out ?_))
      go_roundg g
      case measure => omega
      case rel => exact ⟨by omega, rfl, _, rfl, hO2, hBe⟩
theorem HllOrder_walk (a : Int) (ha : (Lit.int .u8 a).wf = true) (p : Option Addr) (hs : List Nat) (cap : Nat) (hc : hs.length ≤ cap) (hcap : cap ≤ maxLen) (m : Int) (hm : (Lit.int .u64 m).wf = true) (w : World) (hT : Tab w) (hN : Nums p hs w) :
    Calls Tryd.prog 5 #[.int .u8 a, .slice p hs.length cap, .int .u64 m] w fun e w' => e = .returned (.bool true) ∧ Below w.heap.size w w' := by
  obtain ⟨x, rfl, hx⟩ := wf_u8 ha
  obtain ⟨n, rfl, hn⟩ := u64_nat hm
  exact HllOrder_core x hx p hs cap hc hcap n hn w hT hN
end Go.Proofs.YtdcjfefnkjdchaaDoor
