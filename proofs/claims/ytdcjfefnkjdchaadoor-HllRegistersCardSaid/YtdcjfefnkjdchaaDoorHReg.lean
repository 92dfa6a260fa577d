/- HllRegisters, walked. -/
import Derived.Test.YtdcjfefnkjdchaaDoorHRegM
namespace Go.Proofs.YtdcjfefnkjdchaaDoor
open Go Go.RowKit

theorem tx_get (l : List UInt8) (t : ByteArray) (h : tx l = t) (k : Nat) (hk : k < t.size) : t[k].toNat = (l.getD k 0).toNat := by
  subst h
  have h1 := get_list (tx l) k hk
  have h2 : (tx l).data.toList = l := by simp [tx]
  rw [h2] at h1
  rw [List.getD_eq_getElem?_getD, h1, Option.getD_some]
set_option maxRecDepth 100000 in
set_option maxHeartbeats 8000000 in
theorem HllRegisters_core (x : Nat) (hx : x < 256) (y : Nat) (hy : y < 65536) (p : Option Addr) (hs : List Nat) (cap : Nat) (hc : hs.length ≤ cap) (hcap : cap ≤ 9223372036854775807) (w : World) (hT : Tab w) (hN : Octs p hs w) :
    Calls Tryd.prog 8 #[.int .u8 x, .int .u16 y, .slice p hs.length cap] w fun e w' => e = .returned (.bool true) ∧ Below w.heap.size w w' := by
  have HT := Lib.hid hT
  have HN := Lib.hid hN
  obtain ⟨b, hb⟩ : ∃ b, 4 + x % 7 = b := ⟨_, rfl⟩
  have lo : 4 ≤ b := by omega
  have hi : b ≤ 10 := by omega
  have hM := pow_hi lo hi
  have hbi : (4 : Int) + (x : Int) % 7 = b := by omega
  have hfn := fun W hT => fed_any b lo hi none [] 0 (by decide) W hT (Nums.nil _ W)
  rw [show regs b (List.take 100 []) = List.replicate (2 ^ b) 0 from rfl, show ([] : List Nat).length = 0 from rfl] at hfn
  obtain ⟨M, hMe⟩ : ∃ M, 2 ^ b = M := ⟨_, rfl⟩
  have hpw : IntKind.i64.wrap ((2 : Int) ^ b) = (M : Int) := by
    rw [show (2 : Int) ^ b = ((2 ^ b : Nat) : Int) by push_cast; rfl, hMe]
    exact IntWalk.i64_in _ (by omega)
  have HME := Lib.hid hMe
  have hM1 : 16 ≤ M := by omega
  have hM2 : M ≤ 1024 := by omega
  have hkb : y % 2 ^ b < 2 ^ b := Nat.mod_lt _ (by omega)
  obtain ⟨k, hk⟩ : ∃ k, y % 2 ^ b = k := ⟨_, rfl⟩
  rw [hk] at hkb
  obtain ⟨n, hln⟩ : ∃ n, hs.length = n := ⟨_, rfl⟩
  have HLN := Lib.hid hln
  rw [hln] at hc ⊢
  rw [← rg_zero b k hkb] at hfn
  have HKB := Lib.hid hkb
  have HK := Lib.hid hk
  have hki : (y : Int) % (M : Int) = k := by rw [← hk, hMe]; omega
  clear hln hb hT hN hkb hk hM hMe
  go_enter Tryd.func8, Tryd.ntmps8
  go_wp2_with fail
  refine (examples_any _ HT.out).mono ?_
  rintro e W1 ⟨rfl, hB⟩
  go_wp2_with fail
  refine (hfn _ (HT.out.below hB)).mono ?_
  rintro e W2 ⟨rfl, hB2, hS⟩
  have hR : w.heap.size ≤ W1.heap.size := hB.size
  replace hB := below_on hB hB2 (Nat.le_refl _)
  generalize W1.heap.size = R at hS hR hB2
  clear hB2
  go_wp2_with fail
  rw [hki]
  go_loopg [11, 12] (min n 40) (fun g s i wx => ∃ j m : Nat, j + g = min n 40 ∧ i = .int .i64 j ∧ m ≤ 26 ∧ s = .int .i64 m ∧ Sk R b (rg b k m) wx ∧ Below w.heap.size w wx)
  case atStart => exact ⟨0, 0, by omega, rfl, by omega, rfl, hS, hB⟩
  case round =>
    obtain ⟨j, m, hjg, rfl, hm, rfl, hS', hBw⟩ := hrel
    clear hS hB
    cases gk with
    | zero =>
      have hall := fun i => rg_at b k m HKB.out hm i
      have hlen := rg_length b k m
      obtain ⟨t, ht⟩ : ∃ t, tx (rg b k m) = t := ⟨_, rfl⟩
      have hts : t.size = M := by rw [← ht, tx_size, hlen, HME.out]
      have hget : ∀ i (h : i < t.size), t[i].toNat = if i = k then m else 0 := fun i h => by rw [tx_get _ t ht i h, hall]
      have HGET := Lib.hid hget
      have HTX := Lib.hid ht
      clear hget ht hall hlen
      have hrg := fun w hS => registers_any (B := R) (b := b) (l := rg b k m) (w := w) hS
      rw [HTX.out] at hrg
      clear HTX
      by_cases hl : n ≤ 40
      · have hkl : ¬ ((j : Int) < (n : Int)) := by omega
        clear hjg
        go_wp2_with fail
        refine (hrg _ hS').mono ?_
        rintro e w2 ⟨rfl, rfl⟩
        clear hS' hrg
        go_wp2_with fail
        go_loop [17] (fun i => ∃ j : Nat, j ≤ M ∧ i = .int .i64 j) (fun i => M - (intOf i).toNat)
        case atStart => exact ⟨0, Nat.zero_le _, rfl⟩
        case round =>
          obtain ⟨i, hi', rfl⟩ := hrel
          by_cases hlt : i < M
          · have hit : i < t.size := by rw [hts]; exact hlt
            have hg := HGET.out i hit
            by_cases hik : i = k
            · obtain rfl : k = i := hik.symm
              rw [if_pos rfl] at hg
              have hgi : ((t[k].toNat : Nat) : Int) = (m : Int) := by omega
              clear hg hik
              go_wp2
              refine ⟨⟨k + 1, by omega, by go_num⟩, by simp [intOf]; omega⟩
            · rw [if_neg hik] at hg
              have hik2 : ¬ (i : Int) = (k : Int) := by omega
              have hg2 : ((t[i].toNat : Nat) : Int) = 0 := by omega
              clear hg hik
              go_wp2
              refine ⟨⟨i + 1, by omega, by go_num⟩, by simp [intOf]; omega⟩
          · obtain rfl : i = M := by omega
            go_wp2
            go_ret
            exact ⟨rfl, hBw⟩
      · obtain rfl : j = 40 := by omega
        have hkl : ((40 : Nat) : Int) < (n : Int) := by omega
        clear hjg
        go_wp2_with fail
        refine (hrg _ hS').mono ?_
        rintro e w2 ⟨rfl, rfl⟩
        clear hS' hrg
        go_wp2_with fail
        go_loop [17] (fun i => ∃ j : Nat, j ≤ M ∧ i = .int .i64 j) (fun i => M - (intOf i).toNat)
        case atStart => exact ⟨0, Nat.zero_le _, rfl⟩
        case round =>
          obtain ⟨i, hi', rfl⟩ := hrel
          by_cases hlt : i < M
          · have hit : i < t.size := by rw [hts]; exact hlt
            have hg := HGET.out i hit
            by_cases hik : i = k
            · obtain rfl : k = i := hik.symm
              rw [if_pos rfl] at hg
              have hgi : ((t[k].toNat : Nat) : Int) = (m : Int) := by omega
              clear hg hik
              go_wp2
              refine ⟨⟨k + 1, by omega, by go_num⟩, by simp [intOf]; omega⟩
            · rw [if_neg hik] at hg
              have hik2 : ¬ (i : Int) = (k : Int) := by omega
              have hg2 : ((t[i].toNat : Nat) : Int) = 0 := by omega
              clear hg hik
              go_wp2
              refine ⟨⟨i + 1, by omega, by go_num⟩, by simp [intOf]; omega⟩
          · obtain rfl : i = M := by omega
            go_wp2
            go_ret
            exact ⟨rfl, hBw⟩
    | succ g =>
      have hj1 : j < n := by omega
      have hj2 : j < 40 := by omega
      have hjL : j < hs.length := by rw [HLN.out]; exact hj1
      obtain ⟨C, off, hp, hC, hcg, hog⟩ := HN.out j hjL
      subst hp
      have hcg' := (hBw.cell (p := ⟨C, off + j, none⟩) hC).trans hcg
      generalize hs[j] = o at *
      obtain ⟨q, hq⟩ : ∃ q, o % (64 - b) = q := ⟨_, rfl⟩
      have hqb : b + q < 64 := by have := Nat.mod_lt o (show 0 < 64 - b by omega); omega
      have hqi : (o : Int) % (64 - (b : Int)) = q := by
        rw [show (64 : Int) - (b : Int) = ((64 - b : Nat) : Int) by omega]; omega
      have hsa := sumAt_add b k q m HKB.out hqb hm
      have hsl := sumAt_lt b k q HKB.out hqb
      have hsum : IntKind.u64.wrap (IntKind.u64.wrap (k : Int) + IntKind.u64.wrap ((2 : Int) ^ (b + q))) = (sumAt b k q : Nat) := by
        have hk1 := HKB.out
        unfold sumAt at hsl ⊢
        rw [show (2 : Int) ^ (b + q) = ((2 ^ (b + q) : Nat) : Int) by push_cast; rfl]
        generalize 2 ^ (b + q) = z at *
        rw [IntKind.wrap_u64, IntKind.wrap_u64, IntKind.wrap_u64]
        omega
      have HSUM := Lib.hid hsum
      obtain ⟨r, hr⟩ : ∃ r, min (q + 1) 26 = r := ⟨_, rfl⟩
      rw [hr] at hsa
      have hri : min ((q : Int) + 1) 26 = r := by omega
      have hr26 : r ≤ 26 := by omega
      clear hq hcg hsum hr
      by_cases hmr : m < r
      · have hmri : (m : Int) < (r : Int) := by omega
        have hmx : max (m : Int) (r : Int) = r := by omega
        rw [Nat.max_eq_right (Nat.le_of_lt hmr), show decide (m < r) = true from by simpa using hmr] at hsa
        have HSA := Lib.hid hsa
        have had := fun w hT hS => add_is (B := R) (b := b) (l := rg b k m) (w := w) hS hT (sumAt b k q) hsl HSA.out
        clear hsa hsl hmr
        go_wp2_with fail
        rw [HSUM.out]
        refine (had _ (HT.out.below hBw) hS').mono ?_
        rintro e w2 ⟨rfl, hCh, hS2⟩
        have hB2 := below_chg hBw hCh hR (Nat.le_refl _)
        clear hCh hS' hBw had hcg'
        go_wp2
        go_roundg g
        case measure => omega
        case rel => exact ⟨j + 1, r, by omega, by go_num, hr26, rfl, hS2, hB2⟩
      · have hmri : ¬ (m : Int) < (r : Int) := by omega
        have hmx : max (m : Int) (r : Int) = m := by omega
        rw [Nat.max_eq_left (by omega), show decide (m < r) = false from by simpa using hmr] at hsa
        have HSA := Lib.hid hsa
        have had := fun w hT hS => add_is (B := R) (b := b) (l := rg b k m) (w := w) hS hT (sumAt b k q) hsl HSA.out
        clear hsa hsl hmr
        go_wp2_with fail
        rw [HSUM.out]
        refine (had _ (HT.out.below hBw) hS').mono ?_
        rintro e w2 ⟨rfl, hCh, hS2⟩
        have hB2 := below_chg hBw hCh hR (Nat.le_refl _)
        clear hCh hS' hBw had hcg'
        go_wp2
        go_roundg g
        case measure => omega
        case rel => exact ⟨j + 1, m, by omega, by go_num, hm, rfl, hS2, hB2⟩
theorem HllRegisters_walk (a : Int) (ha : (Lit.int .u8 a).wf = true) (c : Int) (hc' : (Lit.int .u16 c).wf = true) (p : Option Addr) (hs : List Nat) (cap : Nat) (hc : hs.length ≤ cap) (hcap : cap ≤ maxLen) (w : World) (hT : Tab w) (hN : Octs p hs w) :
    Calls Tryd.prog 8 #[.int .u8 a, .int .u16 c, .slice p hs.length cap] w fun e w' => e = .returned (.bool true) ∧ Below w.heap.size w w' := by
  obtain ⟨x, rfl, hx⟩ := wf_u8 ha
  obtain ⟨y, rfl, hy⟩ := wf_u16 hc'
  exact HllRegisters_core x hx y hy p hs cap hc hcap w hT hN
end Go.Proofs.YtdcjfefnkjdchaaDoor
