/- HistParts, walked. -/
import Derived.Test.YtdcdhbkgeipdjaaHiLng
import Derived.Test.YtdcdhbkgeipdjaaHiRk
namespace Go.Proofs.Ytdcdhbkgeipdjaa
open Go Go.RowKit

theorem Hs.quant {N B k : Nat} {v : Value} {l : List Hit} {w : World} (h : Hs N 62 B k v l w) (hc : 1 ≤ countH l) {p den : Nat} (hd1 : 1 ≤ den) (hd2 : den ≤ 1000000) (hp : p ≤ den) {a : Int} (ha : rankH l (rkN (countH l) p den) = some a) :
    Calls Try.prog 21 #[.pointer (some ⟨B, 0, none⟩), .int .u64 p, .int .u64 den] w fun e w' => e = .returned (.tuple #[.int .i64 (lowI k a), .int .i64 (highI k a), .int .i64 0]) ∧ Below w.heap.size w w' := quant_any h p den hd1 hd2 hp hc a ha
set_option maxRecDepth 100000 in
set_option maxHeartbeats 4000000 in
theorem HistParts_core (x : Nat) (hx : x < 256) (n : Int) (hn : In64 n) (p : Option Addr) (xs : List Int) (cap : Nat) (hc : xs.length ≤ cap) (hcap : cap ≤ 9223372036854775807) (a b : Nat) (ha : a < 256) (hb : b < 256)
    (w : World) (hN : Ints p xs w) (hz : p = none → cap = 0) :
    Calls Try.prog 8 #[.int .u8 x, .int .i64 n, .slice p xs.length cap, .int .u8 a, .int .u8 b] w fun e w' => e = .returned (.bool true) ∧ Below w.heap.size w w' := by
  have HN := Lib.hid (hN.take 29)
  have HZ := Lib.hid hz
  obtain ⟨k, hk⟩ : ∃ k, x % 5 = k := ⟨_, rfl⟩
  have hk4 : k ≤ 4 := by omega
  have hki : (x : Int) % 5 = (k : Int) := by omega
  have HK := Lib.hid hk4
  have hlL : (xs.take 29).length = min xs.length 29 := by rw [List.length_take]; omega
  generalize xs.take 29 = T at *
  generalize xs.length = nn at *
  have hm1i : min (nn : Int) 29 = T.length := by omega
  have hT29 : T.length ≤ 29 := by omega
  have hTc : T.length ≤ cap := by omega
  obtain ⟨mn, hmn⟩ : ∃ mn, min a b = mn := ⟨_, rfl⟩
  obtain ⟨mx, hmx⟩ : ∃ mx, max a b = mx := ⟨_, rfl⟩
  obtain ⟨P, hP⟩ : ∃ P, mn % 21 = P := ⟨_, rfl⟩
  obtain ⟨Q0, hQ0⟩ : ∃ Q0, mx % 21 = Q0 := ⟨_, rfl⟩
  obtain ⟨Q, hQ⟩ : ∃ Q, max P Q0 = Q := ⟨_, rfl⟩
  have q1 : min (a : Int) (b : Int) = (mn : Int) := by omega
  have q2 : max (a : Int) (b : Int) = (mx : Int) := by omega
  have q1' : (if b < a then (b : Int) else (a : Int)) = (mn : Int) := by split <;> omega
  have q2' : (if a < b then (b : Int) else (a : Int)) = (mx : Int) := by split <;> omega
  have q3 : (mn : Int) % 21 = (P : Int) := by omega
  have q4 : (mx : Int) % 21 = (Q0 : Int) := by omega
  have q5 : max (P : Int) (Q0 : Int) = (Q : Int) := by omega
  have q5' : (if P < Q0 then (Q0 : Int) else (P : Int)) = (Q : Int) := by split <;> omega
  have hPQ : P ≤ Q := by omega
  have hQ20 : Q ≤ 20 := by omega
  have hmn2 : mn < 256 := by omega
  have hmx2 : mx < 256 := by omega
  have hP2 : P < 21 := by omega
  have hQ2 : Q0 < 21 := by omega
  obtain ⟨n1, n2⟩ := hn
  clear hN hk hlL hmn hmx hP hQ0 hQ hz hk4
  go_enter Try.func8, Try.ntmps8
  go_wp2_with fail
  refine (examples_any _).mono ?_
  rintro e W1 ⟨rfl, hB⟩
  have hO := OwnL.one n W1
  have hP1 := (Below.refl W1.heap.size W1).alloc (Nat.le_refl _) (.cells #[.int .i64 n] 2)
  have hs0 := hB.size
  obtain ⟨vA, wA, hr, hOA, hMA, hatA⟩ := append_longs (c := cap) 32 hO ((HN.out.below (hB.trans (hP1.mono hs0))).src HZ.out) (by simp; omega) (by simp)
  have hBA := below_mov (hB.trans (hP1.mono hs0)) hMA (fun j hj => by have : W1.heap.size = j := by simpa [Value.ownBlock] using hj
                                                                      omega) (Nat.le_refl _)
  rw [List.singleton_append] at hOA
  have h64 : ∀ y ∈ n :: T, In64 y := fun y hy => by
    rcases List.mem_cons.1 hy with rfl | hy
    · exact ⟨n1, n2⟩
    · exact HN.out.in64 y hy
  have H64 := Lib.hid h64
  obtain ⟨L, hL⟩ : ∃ L, n :: T = L := ⟨_, rfl⟩
  have hnL : n ∈ L := by rw [← hL]; simp
  have HNL := Lib.hid hnL
  have hLl : L.length = T.length + 1 := by rw [← hL]; rfl
  rw [hL] at hOA H64
  have HOA := Lib.hid hOA
  have HBA := Lib.hid hBA
  obtain ⟨lL, hlL⟩ : ∃ lL, L.length = lL := ⟨_, rfl⟩
  have HLL := Lib.hid hlL
  rw [hlL] at hLl
  have hl1 : 1 ≤ lL := by omega
  have hl30 : lL ≤ 30 := by omega
  clear hO hP1 hMA hatA hBA hOA h64 hL hnL hB hs0 HN hlL
  go_wp2_with (first | (at_builtin; refine Lib.wpList_append_run _ rfl _ _ _ _ rfl _ _ rfl rfl _ _ hr ?_))
  obtain ⟨pL, capL, rfl, hcL, hmL, hI⟩ := HOA.out.ints H64.out
  have hof := of_items k HK.out pL L capL (by rw [HLL.out]; omega) wA hI
  rw [HLL.out] at hof hcL ⊢
  have HI := Lib.hid hI
  clear hr hI hLl
  go_wp2_with fail
  refine hof.mono ?_
  rintro e W3 ⟨B, vh, rfl, hH, hB2⟩
  have HH := Lib.hid hH
  have HB3 := Lib.hid (below_on HBA.out hB2 (Nat.le_refl _))
  have HI3 := Lib.hid (HI.out.below hB2)
  clear hof hH hB2 HBA HI HOA
  go_wp2
  go_loopg [14, 15, 16] lL (fun g s14 s15 s16 wx => ∃ (j : Nat) (lo hi : Int), j + g = lL ∧ s16 = .int .i64 j ∧ s14 = .int .i64 lo ∧ s15 = .int .i64 hi ∧ Hid (lo ∈ L ∧ (∀ y ∈ L.take j, lo ≤ y)) ∧ Hid (hi ∈ L ∧ ∀ y ∈ L.take j, y ≤ hi) ∧ W3 = wx)
  case atStart => exact ⟨0, n, n, by omega, rfl, rfl, rfl, Lib.hid ⟨HNL.out, fun y hy => by simp at hy⟩, Lib.hid ⟨HNL.out, fun y hy => by simp at hy⟩, rfl⟩
  case round =>
    obtain ⟨j, lo, hi, hjg, rfl, rfl, rfl, HLO, HHI, rfl⟩ := hrel
    cases gk with
    | zero =>
      obtain rfl : j = lL := by omega
      have hT : L.take j = L := List.take_of_length_le (by rw [HLL.out]; exact Nat.le_refl _)
      rw [hT] at HLO HHI
      have hc1 : countH (itemsN k L) = j := by rw [itemsN_count]; exact HLL.out
      have hcI : 1 ≤ countH (itemsN k L) := by omega
      obtain ⟨A1, A2, r1, r2, o1, o2⟩ := parts_rise (den := 20) HH.out.inv hcI (by omega) hPQ hQ20
      have r3 : rankH (itemsN k L) (rkN (countH (itemsN k L)) 0 7) = some (ofI k lo) := by rw [rkN_zero (by omega)]; exact rank_first k H64.out HLO.out.1 HLO.out.2
      have r4 : rankH (itemsN k L) (rkN (countH (itemsN k L)) 9 9) = some (ofI k hi) := by
        rw [rkN_all hcI (by omega), itemsN_count]
        exact rank_last k H64.out HHI.out.1 HHI.out.2
      obtain ⟨i1, i2⟩ := in_bounds HK.out (H64.out lo HLO.out.1)
      obtain ⟨i3, i4⟩ := in_bounds HK.out (H64.out hi HHI.out.1)
      have f1 := fun (W : World) (hW : Hs wA.heap.size 62 B k vh (itemsN k L) W) => hW.quant hcI (by omega) (by omega) (show P ≤ 20 by omega) r1
      have f2 := fun (W : World) (hW : Hs wA.heap.size 62 B k vh (itemsN k L) W) => hW.quant hcI (by omega) (by omega) hQ20 r2
      have f3 := fun (W : World) (hW : Hs wA.heap.size 62 B k vh (itemsN k L) W) => hW.quant hcI (p := 0) (den := 7) (by omega) (by omega) (by omega) r3
      have f4 := fun (W : World) (hW : Hs wA.heap.size 62 B k vh (itemsN k L) W) => hW.quant hcI (p := 9) (den := 9) (by omega) (by omega) (by omega) r4
      have f5 := fun (W : World) => quant_bad B 3 2 (.inr (.inr (by omega))) W
      have f6 := fun (W : World) => quant_bad B 0 0 (.inl (by omega)) W
      have F1 := Lib.hid f1
      have F2 := Lib.hid f2
      have F3 := Lib.hid f3
      have F4 := Lib.hid f4
      clear f1 f2 f3 f4 r1 r2 r3 r4 hT hc1 hcI HLO HHI HI3
      obtain ⟨x1, hx1⟩ : ∃ y, lowI k A1 = y := ⟨_, rfl⟩
      obtain ⟨x2, hx2⟩ : ∃ y, highI k A1 = y := ⟨_, rfl⟩
      obtain ⟨y1, hy1⟩ : ∃ y, lowI k A2 = y := ⟨_, rfl⟩
      obtain ⟨y2, hy2⟩ : ∃ y, highI k A2 = y := ⟨_, rfl⟩
      obtain ⟨z1, hz1⟩ : ∃ y, lowI k (ofI k lo) = y := ⟨_, rfl⟩
      obtain ⟨z2, hz2⟩ : ∃ y, highI k (ofI k lo) = y := ⟨_, rfl⟩
      obtain ⟨t1, ht1⟩ : ∃ y, lowI k (ofI k hi) = y := ⟨_, rfl⟩
      obtain ⟨t2, ht2⟩ : ∃ y, highI k (ofI k hi) = y := ⟨_, rfl⟩
      rw [hx1, hy1] at o1
      rw [hx2, hy2] at o2
      rw [hz1] at i1
      rw [hz2] at i2
      rw [ht1] at i3
      rw [ht2] at i4
      rw [hx1, hx2] at F1
      rw [hy1, hy2] at F2
      rw [hz1, hz2] at F3
      rw [ht1, ht2] at F4
      clear hx1 hx2 hy1 hy2 hz1 hz2 ht1 ht2
      have g1 := F1.out _ HH.out
      go_wp2_with fail
      refine g1.mono ?_
      rintro e V1 ⟨rfl, hB4⟩
      replace HH := Lib.hid (HH.out.below hB4)
      replace HB3 := Lib.hid (below_on HB3.out hB4 (Nat.le_refl _))
      clear g1 hB4
      have g2 := F2.out _ HH.out
      go_wp2_with fail
      refine g2.mono ?_
      rintro e V2 ⟨rfl, hB4⟩
      replace HH := Lib.hid (HH.out.below hB4)
      replace HB3 := Lib.hid (below_on HB3.out hB4 (Nat.le_refl _))
      clear g2 hB4
      have g3 := F3.out _ HH.out
      go_wp2_with fail
      refine g3.mono ?_
      rintro e V3 ⟨rfl, hB4⟩
      replace HH := Lib.hid (HH.out.below hB4)
      replace HB3 := Lib.hid (below_on HB3.out hB4 (Nat.le_refl _))
      clear g3 hB4
      have g4 := F4.out _ HH.out
      go_wp2_with fail
      refine g4.mono ?_
      rintro e V4 ⟨rfl, hB4⟩
      replace HH := Lib.hid (HH.out.below hB4)
      replace HB3 := Lib.hid (below_on HB3.out hB4 (Nat.le_refl _))
      clear g4 hB4
      go_wp2_with fail
      refine (f5 _).mono ?_
      rintro e V5 ⟨rfl, rfl⟩
      go_wp2_with fail
      refine (f6 _).mono ?_
      rintro e V6 ⟨rfl, rfl⟩
      clear f5 f6
      go_wp2
      go_ret
      exact ⟨rfl, HB3.out⟩
    | succ g =>
      have hj : j < lL := by omega
      have hjL : j < L.length := by rw [HLL.out]; exact hj
      obtain ⟨C, off, rfl, hC, hcell, hb64⟩ := HI3.out j hjL
      obtain ⟨y, hy⟩ : ∃ y, L[j] = y := ⟨_, rfl⟩
      have hyL : y ∈ L := by rw [← hy]; exact List.getElem_mem hjL
      have htk : L.take (j + 1) = L.take j ++ [y] := by rw [List.take_add_one, List.getElem?_eq_getElem hjL, hy]; rfl
      rw [hy] at hcell hb64
      have HLO' : ∀ z, z ≤ lo → z ≤ y → z ∈ L → Hid (z ∈ L ∧ ∀ u ∈ L.take (j + 1), z ≤ u) := fun z h1 h2 h3 => Lib.hid ⟨h3, fun u hu => by
        rw [htk] at hu
        rcases List.mem_append.1 hu with hu | hu
        · exact Int.le_trans h1 (HLO.out.2 u hu)
        · simp at hu; rw [hu]; exact h2⟩
      have HHI' : ∀ z, hi ≤ z → y ≤ z → z ∈ L → Hid (z ∈ L ∧ ∀ u ∈ L.take (j + 1), u ≤ z) := fun z h1 h2 h3 => Lib.hid ⟨h3, fun u hu => by
        rw [htk] at hu
        rcases List.mem_append.1 hu with hu | hu
        · exact Int.le_trans (HHI.out.2 u hu) h1
        · simp at hu; rw [hu]; exact h2⟩
      have G1 := Lib.hid HLO'
      have G2 := Lib.hid HHI'
      have g3 := HLO.out.1
      have g4 := HHI.out.1
      have G3 := Lib.hid g3
      have G4 := Lib.hid g4
      have G5 := Lib.hid hyL
      obtain ⟨y1, y2⟩ := hb64
      clear HLO' HHI' htk hy g3 g4 hyL HLO HHI
      by_cases h1 : y < lo
      · by_cases h2 : hi < y
        · go_wp2
          go_roundg g
          case measure => omega
          case rel => exact ⟨j + 1, y, y, by omega, by go_num, by go_num, by go_num, G1.out y (by omega) (by omega) G5.out, G2.out y (by omega) (by omega) G5.out, rfl⟩
        · go_wp2
          go_roundg g
          case measure => omega
          case rel => exact ⟨j + 1, y, hi, by omega, by go_num, by go_num, by go_num, G1.out y (by omega) (by omega) G5.out, G2.out hi (by omega) (by omega) G4.out, rfl⟩
      · by_cases h2 : hi < y
        · go_wp2
          go_roundg g
          case measure => omega
          case rel => exact ⟨j + 1, lo, y, by omega, by go_num, by go_num, by go_num, G1.out lo (by omega) (by omega) G3.out, G2.out y (by omega) (by omega) G5.out, rfl⟩
        · go_wp2
          go_roundg g
          case measure => omega
          case rel => exact ⟨j + 1, lo, hi, by omega, by go_num, by go_num, by go_num, G1.out lo (by omega) (by omega) G3.out, G2.out hi (by omega) (by omega) G4.out, rfl⟩
theorem HistParts_walk (a0 : Int) (h0 : (Lit.int .u8 a0).wf = true) (a1 : Int) (h1 : (Lit.int .i64 a1).wf = true) (p2 : Option Addr) (xs2 : List Int) (cap2 : Nat) (hl2 : xs2.length ≤ cap2) (hm2 : cap2 ≤ maxLen) (a3 : Int) (h3 : (Lit.int .u8 a3).wf = true) (a4 : Int) (h4 : (Lit.int .u8 a4).wf = true) (W : World) (hn2 : Ints p2 xs2 W) (hz2 : p2 = none → cap2 = 0) :
    Calls Try.prog 8 #[.int .u8 a0, .int .i64 a1, .slice p2 xs2.length cap2, .int .u8 a3, .int .u8 a4] W fun e w' => e = .returned (.bool true) ∧ Below W.heap.size W w' := by
  obtain ⟨x, rfl, hx⟩ := wf_u8 h0
  obtain ⟨a, rfl, ha⟩ := wf_u8 h3
  obtain ⟨b, rfl, hb⟩ := wf_u8 h4
  exact HistParts_core x hx a1 (wf_i64 h1) p2 xs2 cap2 hl2 hm2 a b ha hb W hn2 hz2
end Go.Proofs.Ytdcdhbkgeipdjaa
