/- HistCount, walked. -/
import Derived.Test.YtklklpccpbhfgaaHiCnt
namespace Go.Proofs.Ytklklpccpbhfgaa
open Go Go.RowKit

theorem its_cells {base : Nat} {v : Value} {l : List Hit} {w : World} {T : Nat} (h : Its base T v l w) : ∃ p cap, v = .slice p l.length cap ∧ l.length ≤ cap ∧ cap ≤ maxLen ∧ ∀ i, i < l.length → ∃ g, p = some ⟨g, 0, none⟩ ∧ g < w.heap.size ∧ w.cell? ⟨g, i * 2, none⟩ = some (.int .i64 l[i]!.at_) ∧ w.cell? ⟨g, i * 2 + 1, none⟩ = some (.int .u64 l[i]!.many) := by
  rcases h.form with ⟨rfl, rfl⟩ | ⟨g, cap, rfl, _, hg, h1, h2, hc, _⟩
  · exact ⟨none, 0, rfl, Nat.le_refl _, Nat.zero_le _, fun i hi => by simp at hi⟩
  · exact ⟨_, cap, rfl, h1, h2, fun i hi => ⟨g, rfl, hg, (hc i hi).1, (hc i hi).2⟩⟩
set_option maxRecDepth 100000 in
set_option maxHeartbeats 1000000 in
theorem HistCount_core (x : Nat) (hx : x < 256) (p : Option Addr) (xs : List Int) (cap : Nat) (hc : xs.length ≤ cap) (hcap : cap ≤ 9223372036854775807) (n : Int) (hn1 : -128 ≤ n) (hn2 : n ≤ 127)
    (w : World) (hN : Tiny p xs w) :
    Calls Try.prog 9 #[.int .u8 x, .slice p xs.length cap, .int .i8 n] w fun e w' => e = .returned (.bool true) ∧ Below w.heap.size w w' := by
  have HN := Lib.hid hN
  obtain ⟨k, hk⟩ : ∃ k, x % 5 = k := ⟨_, rfl⟩
  have hk4 : k ≤ 4 := by omega
  have hki : (x : Int) % 5 = (k : Int) := by omega
  have HK := Lib.hid hk4
  obtain ⟨L, hL⟩ : ∃ L, xs.take 60 = L := ⟨_, rfl⟩
  have hlL : L.length = min xs.length 60 := by rw [← hL, List.length_take]; omega
  have HL := Lib.hid hL
  obtain ⟨nn, hnn⟩ : ∃ nn, xs.length = nn := ⟨_, rfl⟩
  have HNN := Lib.hid hnn
  rw [hnn] at hlL hc ⊢
  obtain ⟨m, hm⟩ : ∃ m, L.length = m := ⟨_, rfl⟩
  have HM := Lib.hid hm
  rw [hm] at hlL
  have hmn : m ≤ nn := by omega
  have hm60 : m ≤ 60 := by omega
  have HMX : Hid (m < nn → m = 60) := Lib.hid (by omega)
  have hin : In64 n := by unfold In64; omega
  have ho := fun W => of_any k hk4 n hin W
  clear hN hk hL hnn hm hk4 hlL
  go_enter Try.func9, Try.ntmps9
  go_wp2_with fail
  refine (examples_any _).mono ?_
  rintro e W1 ⟨rfl, hB⟩
  go_wp2_with fail
  refine (ho _).mono ?_
  rintro e W2 ⟨rfl, hB2⟩
  have HB := Lib.hid (below_on hB hB2 (Nat.le_refl _))
  clear hB hB2 ho
  have HO := Lib.hid (OwnL.nil w.heap.size W2)
  go_wp2
  go_loopg [9, 10, 13] m (fun g s9 s10 s13 wx => ∃ (i : Nat) (v : Value), i + g = m ∧ s13 = .int .i64 i ∧ s9 = v ∧ s10 = .int .u64 (nearN k (L.take i) n) ∧ Hid (OwnL w.heap.size v (L.take i) wx) ∧ Hid (Below w.heap.size w wx))
  case atStart => exact ⟨0, _, by omega, rfl, rfl, rfl, HO, HB⟩
  case round =>
    clear HO HB
    obtain ⟨i, v, hig, rfl, rfl, rfl, HO, HB⟩ := hrel
    cases gk with
    | zero =>
      obtain rfl : i = m := by omega
      have hE : L.take i = L := List.take_of_length_le (by rw [HM.out]; exact Nat.le_refl _)
      rw [hE] at HO ⊢
      have h64 : ∀ x ∈ L, In64 x := fun y hy => by
        rw [← HL.out] at hy
        have hy2 := List.mem_of_mem_take hy
        obtain ⟨j, hj, rfl⟩ := List.mem_iff_getElem.1 hy2
        obtain ⟨_, _, _, _, _, h5, h6⟩ := HN.out j hj
        exact ⟨by omega, by omega⟩
      obtain ⟨pL, capL, rfl, hcL, hmL, hI⟩ := HO.out.ints h64
      have hof := of_items k HK.out pL L capL (by rw [HM.out]; omega) wr hI
      rw [HM.out] at hof hcL ⊢
      have hnl := nearN_le k L n
      have HNE := Lib.hid (items_near k L n)
      have hct := fun (B : Nat) (v : Value) (W : World) (hW : Hs wr.heap.size 62 B k v (itemsN k L) W) => count_any hW
      rw [itemsN_count, HM.out] at hct
      have HCT := Lib.hid hct
      generalize nearN k L n = q at *
      rw [HM.out] at hnl
      clear hE HO hI h64 hct
      have hmk : (i : Int) ≤ 60 := by omega
      by_cases hl : i < nn
      case' pos =>
        have h60 : ¬ ((i : Int) < 60) := by have := HMX.out hl; omega
        have hlI : (i : Int) < (nn : Int) := by omega
      case' neg =>
        have hlI : ¬ ((i : Int) < (nn : Int)) := by omega
      all_goals
        go_wp2_with fail
        refine hof.mono ?_
        rintro e W3 ⟨B, vh, rfl, hH, hB2⟩
        have HH := Lib.hid hH
        have HB3 := Lib.hid (below_on HB.out hB2 (Nat.le_refl _))
        have hit := items_any hH
        clear hof hH hB2
        go_wp2_with fail
        refine hit.mono ?_
        rintro e W4 ⟨vi, rfl, hIt, hB2⟩
        have HH4 := Lib.hid (HH.out.below hB2)
        have HR := Lib.hid HH.out.inv.ris
        have HB4 := Lib.hid (below_on HB3.out hB2 (Nat.le_refl _))
        have hl2 := HH.out.inv.len
        obtain ⟨pi, capi, rfl, hci, hmi, hcell⟩ := its_cells hIt
        have HC := Lib.hid hcell
        have hct := HCT.out B vh
        have HCT2 := Lib.hid hct
        clear hit hIt hB2 hcell hmi hct
        obtain ⟨l, hle⟩ : ∃ l, itemsN k L = l := ⟨_, rfl⟩
        rw [hle] at HH HH4 HR HC HNE HCT2 hl2 hci ⊢
        obtain ⟨A, hA⟩ : ∃ A, ofI k n = A := ⟨_, rfl⟩
        rw [hA] at HNE ⊢
        clear hle hA
        obtain ⟨ln, hln⟩ : ∃ ln, l.length = ln := ⟨_, rfl⟩
        have HLN := Lib.hid hln
        rw [hln] at hl2 hci ⊢
        clear hln
        go_wp2
        go_loopg [15, 17] ln (fun g s15 s17 wx => ∃ (j : Nat), j + g = ln ∧ s17 = .int .i64 j ∧ s15 = .int .u64 (manyH A (l.take j)) ∧ Hid (Below W4.heap.size W4 wx))
        case atStart => exact ⟨0, by omega, rfl, rfl, Lib.hid (Below.refl _ _)⟩
        case round =>
          obtain ⟨j, hjg, rfl, rfl, HBx⟩ := hrel
          cases gk with
          | zero =>
            obtain rfl : j = ln := by omega
            have hT : manyH A (l.take j) = q := by rw [List.take_of_length_le (by rw [HLN.out]; exact Nat.le_refl _)]; exact HNE.out
            rw [hT]
            have hct := HCT2.out _ (HH4.out.below HBx.out)
            have hB5 := below_on HB4.out HBx.out (Nat.le_refl _)
            have HB5 := Lib.hid hB5
            clear hT hB5
            go_wp2_with fail
            refine hct.mono ?_
            rintro e W6 ⟨rfl, hB6⟩
            have HB6 := Lib.hid (below_on HB5.out hB6 (Nat.le_refl _))
            clear hct hB6
            go_wp2
            go_ret
            exact ⟨rfl, HB6.out⟩
          | succ g =>
            have hj : j < ln := by omega
            have hjl : j < l.length := by rw [HLN.out]; exact hj
            obtain ⟨gg, rfl, hg, c0, c1⟩ := HC.out j hjl
            have d0 := (HBx.out.cell (p := ⟨gg, j * 2, none⟩) hg).trans c0
            have d1 := (HBx.out.cell (p := ⟨gg, j * 2 + 1, none⟩) hg).trans c1
            have hmt := manyH_take (a := A) hjl
            have hmb := fun e => manyH_before (a := A) HR.out hjl e
            obtain ⟨a, ha⟩ : ∃ a, l[j]!.at_ = a := ⟨_, rfl⟩
            obtain ⟨b, hb⟩ : ∃ b, l[j]!.many = b := ⟨_, rfl⟩
            rw [ha] at d0 hmt hmb
            rw [hb] at d1 hmt
            clear c0 c1 ha hb
            by_cases he : a = A
            · have h1 := hmb he
              rw [h1, if_pos he] at hmt
              have HMT := Lib.hid hmt
              clear hmt hmb h1
              go_wp2
              go_roundg g
              case measure => omega
              case rel => exact ⟨j + 1, by omega, by go_num, by rw [HMT.out]; go_num, HBx⟩
            · rw [if_neg he, Nat.add_zero] at hmt
              have HMT := Lib.hid hmt
              clear hmt hmb
              go_wp2
              go_roundg g
              case measure => omega
              case rel => exact ⟨j + 1, by omega, by go_num, by rw [HMT.out, Nat.add_zero], HBx⟩
    | succ g =>
      have hi : i < m := by omega
      have hi2 : i < nn := by omega
      have hi3 : i < 60 := by omega
      have hiL : i < L.length := by rw [HM.out]; exact hi
      have hix : i < xs.length := by rw [HNN.out]; exact hi2
      obtain ⟨C, off, rfl, hC, hcell, hb1, hb2⟩ := HN.out i hix
      have hLi : L[i] = xs[i] := by have := HL.out; subst this; rw [List.getElem_take]
      have e0 := (HB.out.cell (p := ⟨C, off + i, none⟩) hC).trans hcell
      have hle := HB.out.size
      obtain ⟨v', w', hr, hO', hM', hat'⟩ := append_long 32 HO.out L[i] (by rw [List.length_take]; omega) hle
      have hsn : L.take i ++ [L[i]] = L.take (i + 1) := by rw [List.take_add_one, List.getElem?_eq_getElem hiL]; rfl
      rw [hsn] at hO'
      have hB' := below_mov HB.out hM' (fun j hj => (HO.out.lt hj).1) (Nat.le_refl _)
      have e1 := (hB'.cell (p := ⟨C, off + i, none⟩) hC).trans hcell
      have hnt := nearN_take (k := k) (n := n) hiL
      have hnl := nearN_le k (L.take i) n
      rw [List.length_take] at hnl
      rw [hLi] at hr hnt
      have hnear := fun W => near_any k HK.out xs[i] n ⟨by omega, by omega⟩ hin W
      obtain ⟨y, hy⟩ : ∃ y, xs[i] = y := ⟨_, rfl⟩
      rw [hy] at hr hnt hnear e0 e1 hb1 hb2
      have HO' := Lib.hid hO'
      have HB' := Lib.hid hB'
      obtain ⟨q, hq⟩ : ∃ q, nearN k (L.take i) n = q := ⟨_, rfl⟩
      rw [hq] at hnt hnl ⊢
      have hq60 : q ≤ 60 := by omega
      clear hcell hLi hsn hO' hB' hM' hat' hnl hy HO hle hq
      by_cases he : ofI k y = ofI k n
      · rw [if_pos he] at hnt
        rw [decide_eq_true he] at hnear
        have HNT := Lib.hid hnt
        clear hnt he
        go_wp2_with (first | (at_builtin; refine Lib.wpList_append_run _ rfl _ _ _ _ rfl _ _ rfl rfl _ _ hr ?_))
        refine (hnear _).mono ?_
        rintro e W5 ⟨rfl, hB5⟩
        have HO5 := Lib.hid (HO'.out.below hB5)
        have HB5 := Lib.hid (below_on HB'.out hB5 (Nat.le_refl _))
        clear hnear hB5 hr e0 e1
        go_wp2
        go_roundg g
        case measure => omega
        case rel => exact ⟨i + 1, v', by omega, by go_num, rfl, by rw [HNT.out]; go_num, HO5, HB5⟩
      · rw [if_neg he, Nat.add_zero] at hnt
        rw [decide_eq_false he] at hnear
        have HNT := Lib.hid hnt
        clear hnt he
        go_wp2_with (first | (at_builtin; refine Lib.wpList_append_run _ rfl _ _ _ _ rfl _ _ rfl rfl _ _ hr ?_))
        refine (hnear _).mono ?_
        rintro e W5 ⟨rfl, hB5⟩
        have HO5 := Lib.hid (HO'.out.below hB5)
        have HB5 := Lib.hid (below_on HB'.out hB5 (Nat.le_refl _))
        clear hnear hB5 hr e0 e1
        go_wp2
        go_roundg g
        case measure => omega
        case rel => exact ⟨i + 1, v', by omega, by go_num, rfl, by rw [HNT.out, Nat.add_zero], HO5, HB5⟩
theorem wf_i8 {a : Int} (h : (Lit.int .i8 a).wf = true) : -128 ≤ a ∧ a ≤ 127 := by
  simpa [Lit.wf, IntKind.min, IntKind.max, IntKind.signed, IntKind.bits] using h
theorem HistCount_walk (a0 : Int) (h0 : (Lit.int .u8 a0).wf = true) (p1 : Option Addr) (xs1 : List Int) (cap1 : Nat) (hl1 : xs1.length ≤ cap1) (hm1 : cap1 ≤ maxLen) (a2 : Int) (h2 : (Lit.int .i8 a2).wf = true) (W : World) (hn1 : Tiny p1 xs1 W) :
    Calls Try.prog 9 #[.int .u8 a0, .slice p1 xs1.length cap1, .int .i8 a2] W fun e w' => e = .returned (.bool true) ∧ Below W.heap.size W w' := by
  obtain ⟨x, rfl, hx⟩ := wf_u8 h0
  obtain ⟨h3, h4⟩ := wf_i8 h2
  exact HistCount_core x hx p1 xs1 cap1 hl1 hm1 a2 h3 h4 W hn1
end Go.Proofs.Ytklklpccpbhfgaa
