/- TopBack, walked. -/
import Derived.Test.YtnkhieackclniaaTOf
import Derived.Test.YtnkhieackclniaaTLet
import Derived.Deep.RegionWith
import Derived.BigQuiet
namespace Go.Proofs.Ytnkhieackclniaa
open Go Go.RowKit

/-- Two tops that share no block. -/
structure Ap (B : Nat) (v : Value) (C : Nat) (u : Value) : Prop where
  b : B ≠ C
  c : v.ownBlock ≠ some C
  d : u.ownBlock ≠ some B
  e : ∀ g, v.ownBlock = some g → u.ownBlock ≠ some g
theorem Ap.symm {B C : Nat} {v u : Value} (h : Ap B v C u) : Ap C u B v := ⟨h.b.symm, h.d, h.c, fun g h1 h2 => h.e g h2 h1⟩
theorem Ap.not {B C : Nat} {v u : Value} (h : Ap B v C u) : ¬ OwnT B v C ∧ ∀ g, u.ownBlock = some g → ¬ OwnT B v g :=
  ⟨fun e => e.elim (fun e => h.b e.symm) h.c, fun g hg e => e.elim (fun e => h.d (e ▸ hg)) (fun e => h.e g e hg)⟩
theorem Ap.step {base B room C room' : Nat} {v v' u : Value} {m : List Itm} {w : World} (h : Ap B v C u) (hU : Tp base C room' u m w) (hat : ∀ g, v'.ownBlock = some g → v.ownBlock = some g ∨ w.heap.size ≤ g) (hd : room = room) : Ap B v' C u :=
  ⟨h.b, fun e => (hat C e).elim h.c (fun h1 => by have := hU.lt; omega), h.d, fun g e hg => (hat g e).elim (fun h1 => h.e g h1 hg) (fun h1 => by have := (hU.row.lt hg).2; omega)⟩
theorem tp_fit {base B room : Nat} {v : Value} {l s : List Itm} {w : World} (h : Tp base B room v l w) (hp : s.Perm l) : Fit s := fun x hx => by
  have hx' := hp.mem_iff.1 hx
  have h1 := h.inv.names x hx'
  have h2 := many_le_seen hx'
  have h3 := h.inv.sum
  have h4 := h.inv.over x hx'
  exact ⟨by unfold maxLen; omega, by omega, by omega⟩
set_option maxRecDepth 100000 in
set_option maxHeartbeats 32000000 in
theorem back_in (a : Nat) (ha : a < 256) (p : Option Addr) (hs : List Nat) (cap : Nat) (hlen : hs.length ≤ 9223372036854775807) (p2 : Option Addr) (hs2 : List Nat) (cap2 : Nat) (hlen2 : hs2.length ≤ 9223372036854775807) (w : World) (hO : Octs p hs w) (hO2 : Octs p2 hs2 w) :
    Calls Try.prog 8 #[.int .u8 a, .slice p hs.length cap, .slice p2 hs2.length cap2] w fun e w' => e = .returned (.bool true) ∧ Below w.heap.size w w' := by
  obtain ⟨N, hN⟩ : ∃ N, w.heap.size = N := ⟨_, rfl⟩
  have HN := Lib.hid hN
  rw [hN]
  have HO := Lib.hid hO
  have HO2 := Lib.hid hO2
  obtain ⟨k, hk⟩ : ∃ k, 1 + a % 6 = k := ⟨_, rfl⟩
  have hk1 : 1 ≤ k := by omega
  have hk2 : k ≤ 6 := by omega
  have hki : (1 : Int) + (a : Int) % 6 = k := by omega
  obtain ⟨n, hln⟩ : ∃ n, hs.length = n := ⟨_, rfl⟩
  have HLN := Lib.hid hln
  rw [hln] at hlen ⊢
  obtain ⟨n2, hln2⟩ : ∃ n, hs2.length = n := ⟨_, rfl⟩
  have HLN2 := Lib.hid hln2
  rw [hln2] at hlen2 ⊢
  clear hk hN ha hO hO2 hln hln2
  have hnw := new_any k hk1 (by omega)
  go_enter Try.func8, Try.ntmps8
  go_wp2_with fail
  refine (examples_any _).mono ?_
  rintro e W1 ⟨rfl, hB⟩
  rw [HN.out] at hB
  go_wp2_with fail
  refine (hnw _).mono ?_
  rintro e W2 ⟨rfl, hB2, hT⟩
  have hT2 := hT.mono (Nat.le_trans (Nat.le_of_eq HN.out.symm) hB.size)
  replace hB := hB.trans (hB2.mono (Nat.le_trans (Nat.le_of_eq HN.out.symm) hB.size))
  generalize W1.heap.size = B at *
  have HT2 := Lib.hid hT2
  have HB := Lib.hid hB
  clear hB2 hT hnw hT2 hB
  go_wp2_with fail
  go_loopg [11] (min n 40) (fun g i wx => ∃ (k' : Nat) (v : Value) (l : List Itm), k' + g = min n 40 ∧ i = .int .i64 k' ∧ seen l ≤ 2 * k' ∧ Tp N B k v l wx ∧ Below N w wx)
  case atStart => exact ⟨0, _, [], by omega, rfl, Nat.le_refl _, HT2.out, HB.out⟩
  case round =>
    obtain ⟨i, v, l, hig, rfl, hsn, hT, hB⟩ := hrel
    have HT := Lib.hid hT
    have HB := Lib.hid hB
    clear hT hB
    cases gk with
    | zero =>
      have hke : i = min n 40 := by omega
      have hi40 : i ≤ 40 := by omega
      have hend : ¬ (i < n) ∨ (i < n ∧ ¬ (i < 40)) := by omega
      clear hke hig
      rcases hend with hend | ⟨hend1, hend⟩
      all_goals
        have hse := seen_walk HT.out
        obtain ⟨sl, hsl⟩ : ∃ sl, seen l = sl := ⟨_, rfl⟩
        rw [hsl] at hse hsn
        have HSL := Lib.hid hsl
        clear hsl
        go_wp2_with fail
        refine hse.mono ?_
        rintro e W3 ⟨rfl, hB3⟩
        have HT3 := Lib.hid (HT.out.below hB3)
        have HB3 := Lib.hid (below_on HB.out hB3 (Nat.le_of_eq HN.out.symm))
        clear hse hB3 hend
        go_wp2_with fail
        refine (items_any HT3.out).mono ?_
        rintro e W4 ⟨v5, s, rfl, hI, hp, hto, hB4⟩
        have HT4 := Lib.hid (HT3.out.below hB4)
        have HB4 := Lib.hid (below_on HB3.out hB4 (Nat.le_of_eq HN.out.symm))
        obtain ⟨pI, capI, hvI, hcI, hmI⟩ := hI.cap
        subst hvI
        have hlI : s.length ≤ 16 := by rw [hp.length_eq]; exact Nat.le_trans HT.out.inv.len HT.out.inv.hi
        have hof := of_any k hk1 (by omega) sl pI s capI (by omega) (tp_fit HT.out hp) W4 hI.rd
        have hok : OkOf k sl s := by
          have := okOf_told HT.out.inv hp hto
          rw [HSL.out] at this
          exact this
        have HP := Lib.hid hp
        have HOK := Lib.hid hok
        clear hI hp hto hB4 hcI hok
        generalize s.length = z at *
        go_wp2_with fail
        refine hof.mono ?_
        rintro e W5 ⟨hB5, hres⟩
        rcases hres with ⟨hno, _⟩ | ⟨_, C, u, rfl, hU⟩
        · exact absurd HOK.out hno
        have HT5 := Lib.hid (HT4.out.below hB5)
        have HB5 := Lib.hid (below_on HB4.out hB5 (Nat.le_of_eq HN.out.symm))
        have HAP : Hid (Ap B v C u) := Lib.hid ⟨by have := HT4.out.lt; have := hU.lo; omega, fun e => by have := (HT4.out.row.lt e).2; have := hU.lo; omega, fun e => by have := (hU.row.lt e).1; have := HT4.out.lt; omega, fun g h1 h2 => by have := (HT4.out.row.lt h1).2; have := (hU.row.lt h2).1; omega⟩
        have HU5 := Lib.hid (hU.mono (Nat.le_trans (Nat.le_of_eq HN.out.symm) HB4.out.size))
        clear hof hB5 hU
        go_wp2_with fail
        go_loopg [14] (min n2 20) (fun g i wx => ∃ (k' : Nat) (v u : Value) (l m : List Itm), k' + g = min n2 20 ∧ i = .int .i64 k' ∧ seen l ≤ 80 + k' ∧ l.Perm m ∧ Tp N B k v l wx ∧ Tp N C k u m wx ∧ Ap B v C u ∧ Below N w wx)
        case atStart => exact ⟨0, _, _, l, s, by omega, rfl, by rw [HSL.out]; omega, HP.out.symm, HT5.out, HU5.out, HAP.out, HB5.out⟩
        case round =>
          obtain ⟨i3, v3, u3, l3, m3, hig3, rfl, hsn3, hpm, hT3, hU3, hA3, hB3⟩ := hrel
          have HT := Lib.hid hT3
          have HU := Lib.hid hU3
          have HA := Lib.hid hA3
          have HB := Lib.hid hB3
          have HPM := Lib.hid hpm
          clear hT3 hU3 hA3 hB3 hpm
          cases gk with
          | zero =>
            have hend : ¬ (i3 < n2) ∨ (i3 < n2 ∧ ¬ (i3 < 20)) := by omega
            clear hig3
            rcases hend with hend | ⟨hend1, hend⟩
            all_goals
              go_wp2_with fail
              refine (items_any HT.out).mono ?_
              rintro e W6 ⟨v6, s1, rfl, hI1, hp1, hto1, hB6⟩
              have HT6 := Lib.hid (HT.out.below hB6)
              have HU6 := Lib.hid (HU.out.below hB6)
              have HB6 := Lib.hid (below_on HB.out hB6 (Nat.le_of_eq HN.out.symm))
              have HI1 := Lib.hid hI1
              have HP1 := Lib.hid hp1
              have HO1 := Lib.hid hto1
              clear hI1 hp1 hto1 hB6 hend
              go_wp2_with fail
              refine (items_any HU6.out).mono ?_
              rintro e W7 ⟨v7, s2, rfl, hI2, hp2, hto2, hB7⟩
              obtain rfl : s1 = s2 := told_unique HO1.out hto2 (HP1.out.trans (HPM.out.trans hp2.symm)) ((HP1.out.map _).nodup_iff.2 HT.out.inv.nd)
              have HT7 := Lib.hid (HT6.out.below hB7)
              have HU7 := Lib.hid (HU6.out.below hB7)
              have HB7 := Lib.hid (below_on HB6.out hB7 (Nat.le_of_eq HN.out.symm))
              have HI17 := Lib.hid (HI1.out.below hB7)
              have HI2 := Lib.hid hI2
              obtain ⟨q1, cap1, hv1, hc1, hm1⟩ := HI1.out.cap
              obtain ⟨q2, cap2', hv2, hc2, hm2⟩ := HI2.out.cap
              subst hv1 hv2
              have RD1 := Lib.hid HI17.out.rd
              have RD2 := Lib.hid HI2.out.rd
              clear hI2 hp2 hto2 hB7
              unfold maxLen at hm1 hm2
              obtain ⟨z, hz⟩ : ∃ z, s1.length = z := ⟨_, rfl⟩
              have HZ := Lib.hid hz
              rw [hz] at hc1 hc2 ⊢
              clear hz
              go_wp2
              go_loopg [18] z (fun g i wx => ∃ k' : Nat, k' + g = z ∧ i = .int .i64 k' ∧ Below W7.heap.size W7 wx)
              case atStart => exact ⟨0, by omega, rfl, Below.refl _ _⟩
              case round =>
                obtain ⟨i4, hig4, rfl, hB8⟩ := hrel
                cases gk with
                | zero =>
                  obtain rfl : i4 = z := by omega
                  have HT8 := Lib.hid (HT7.out.below hB8)
                  have HU8 := Lib.hid (HU7.out.below hB8)
                  have HB8 := Lib.hid (below_on HB7.out hB8 (Nat.le_of_eq HN.out.symm))
                  have hs1 := seen_walk HT8.out
                  obtain ⟨sl, hsl⟩ : ∃ sl, seen l3 = sl := ⟨_, rfl⟩
                  rw [hsl] at hs1
                  have HSL3 := Lib.hid hsl
                  clear hB8 hsl
                  go_wp2_with fail
                  refine hs1.mono ?_
                  rintro e W9 ⟨rfl, hB9⟩
                  have HU9 := Lib.hid (HU8.out.below hB9)
                  have HB9 := Lib.hid (below_on HB8.out hB9 (Nat.le_of_eq HN.out.symm))
                  clear hs1 hB9
                  have hs2 := seen_walk HU9.out
                  rw [← seen_perm HPM.out, HSL3.out] at hs2
                  go_wp2_with fail
                  refine hs2.mono ?_
                  rintro e W10 ⟨rfl, hB10⟩
                  have hE := below_on HB9.out hB10 (Nat.le_of_eq HN.out.symm)
                  clear hs2 hB10
                  go_wp2
                  go_ret
                  exact ⟨rfl, hE⟩
                | succ g4 =>
                  have hi4 : i4 < z := by omega
                  have hi4i : (i4 : Int) < (z : Int) := by omega
                  obtain ⟨C1, o1, rfl, hC1, x0, x1, x2⟩ := RD1.out i4 (by rw [HZ.out]; exact hi4)
                  obtain ⟨C2, o2, rfl, hC2, y0, y1, y2⟩ := RD2.out i4 (by rw [HZ.out]; exact hi4)
                  replace x0 := (hB8.cell (p := ⟨C1, o1 + i4 * 3, none⟩) hC1).trans x0
                  replace x1 := (hB8.cell (p := ⟨C1, o1 + i4 * 3 + 1, none⟩) hC1).trans x1
                  replace x2 := (hB8.cell (p := ⟨C1, o1 + i4 * 3 + 2, none⟩) hC1).trans x2
                  replace y0 := (hB8.cell (p := ⟨C2, o2 + i4 * 3, none⟩) hC2).trans y0
                  replace y1 := (hB8.cell (p := ⟨C2, o2 + i4 * 3 + 1, none⟩) hC2).trans y1
                  replace y2 := (hB8.cell (p := ⟨C2, o2 + i4 * 3 + 2, none⟩) hC2).trans y2
                  generalize s1[i4]!.name = nm at *
                  generalize s1[i4]!.many = mm at *
                  generalize s1[i4]!.over = oo at *
                  clear hC1 hC2
                  go_wp2
                  go_quiet (fail)
                  go_wp2
                  go_roundg g4
                  case measure => omega
                  case rel => exact ⟨i4 + 1, by omega, by go_num, below_drewN hB8 _⟩
          | succ g =>
            have hi1 : i3 < n2 := by omega
            have hi2 : i3 < 20 := by omega
            have hkh : i3 < hs2.length := by rw [HLN2.out]; exact hi1
            obtain ⟨C2, off, rfl, hC, hcell, hlt⟩ := HO2.out i3 hkh
            have hcx : wr.cell? ⟨C2, off + i3, none⟩ = some (.int .u8 (hs2[i3] : Nat)) := (HB.out.cell (p := ⟨C2, off + i3, none⟩) (by rw [← HN.out]; exact hC)).trans hcell
            generalize hs2[i3] = d at *
            obtain ⟨j, hj⟩ : ∃ j, d % 12 = j := ⟨_, rfl⟩
            have hji : (d : Int) % 12 = (j : Int) := by omega
            obtain ⟨q, hq⟩ : ∃ q, 97 + j = q := ⟨_, rfl⟩
            have hqi : (97 : Int) + (j : Int) = (q : Int) := by omega
            have hq2 : q < 256 := by omega
            have hcv := letter_back q hq2 wr wr.heap.size rfl
            have hok : seen l3 + 1 ≤ 4611686018427387904 := by omega
            have hok2 : seen m3 + 1 ≤ 4611686018427387904 := by rw [← seen_perm HPM.out]; omega
            have hBx := (Below.refl wr.heap.size wr).alloc (Nat.le_refl _) (.cells #[.int .u8 q] 5)
            have HTx := Lib.hid (HT.out.below hBx)
            have HUx := Lib.hid (HU.out.below hBx)
            have HBx := Lib.hid (below_on HB.out hBx (Nat.le_of_eq HN.out.symm))
            clear hcell hC hj hq hBx
            go_wp2_with fail
            refine (add_is HTx.out (nmC q) 1 (by rw [nmC_size]; decide) (by decide) (addS_ok (by rw [nmC_size]; decide) (by decide) hok) (addC_ok (by rw [nmC_size]; decide) (by decide) hok)).mono ?_
            intro e W6 hA
            obtain ⟨rfl, v6, hT6, hM6, hB6, hat6⟩ := hA.below ⟨_, HTx.out⟩
            have HA6 := Lib.hid (HA.out.step (room := k) HUx.out hat6 rfl)
            have HU6 := Lib.hid (HUx.out.mov hM6 HA.out.not.1 HA.out.not.2)
            have HT6 := Lib.hid hT6
            have HB6 := Lib.hid (HBx.out.trans hB6)
            clear hA hT6 hM6 hB6 hat6 hcv hcx
            go_wp2_with fail
            refine (add_is HU6.out (nmC q) 1 (by rw [nmC_size]; decide) (by decide) (addS_ok (by rw [nmC_size]; decide) (by decide) hok2) (addC_ok (by rw [nmC_size]; decide) (by decide) hok2)).mono ?_
            intro e W7 hA
            obtain ⟨rfl, u7, hU7, hM7, hB7, hat7⟩ := hA.below ⟨_, HU6.out⟩
            have HA7 := Lib.hid (HA6.out.symm.step (room := k) HT6.out hat7 rfl).symm
            have HT7 := Lib.hid (HT6.out.mov hM7 HA6.out.symm.not.1 HA6.out.symm.not.2)
            have HU7 := Lib.hid hU7
            have HB7 := Lib.hid (HB6.out.trans hB7)
            have HPM7 := Lib.hid (addL_perm (name := nmC q) (b := 1) hk1 HPM.out HT.out.inv.nd)
            have HSN7 : Hid (seen (addL k (nmC q) 1 l3) ≤ 80 + (i3 + 1)) := Lib.hid (by rw [seen_addL hk1]; omega)
            clear hA hU7 hM7 hB7 hat7
            have hl1 := least_any HT7.out
            have hlp := least_perm hk1 HPM7.out
            obtain ⟨lv, hlv⟩ : ∃ lv, leastL k (addL k (nmC q) 1 l3) = lv := ⟨_, rfl⟩
            rw [hlv] at hl1 hlp
            have HLP := Lib.hid hlp
            clear hlv hlp
            go_wp2_with fail
            refine hl1.mono ?_
            rintro e W8 ⟨rfl, hB8⟩
            have HT8 := Lib.hid (HT7.out.below hB8)
            have HU8 := Lib.hid (HU7.out.below hB8)
            have HB8 := Lib.hid (below_on HB7.out hB8 (Nat.le_of_eq HN.out.symm))
            clear hl1 hB8
            have hl2 := least_any HU8.out
            rw [← HLP.out] at hl2
            go_wp2_with fail
            refine hl2.mono ?_
            rintro e W9 ⟨rfl, hB9⟩
            have HT9 := Lib.hid (HT8.out.below hB9)
            have HU9 := Lib.hid (HU8.out.below hB9)
            have HB9 := Lib.hid (below_on HB8.out hB9 (Nat.le_of_eq HN.out.symm))
            clear hl2 hB9
            go_wp2
            go_roundg g
            case measure => omega
            case rel => exact ⟨i3 + 1, v6, u7, _, _, by omega, by go_num, HSN7.out, HPM7.out, HT9.out, HU9.out, HA7.out, HB9.out⟩
    | succ g =>
      have hi1 : i < n := by omega
      have hi2 : i < 40 := by omega
      have hkh : i < hs.length := by rw [HLN.out]; exact hi1
      obtain ⟨C, off, rfl, hC, hcell, hlt⟩ := HO.out i hkh
      have hcx : wr.cell? ⟨C, off + i, none⟩ = some (.int .u8 (hs[i] : Nat)) := (HB.out.cell (p := ⟨C, off + i, none⟩) (by rw [← HN.out]; exact hC)).trans hcell
      generalize hs[i] = d at *
      obtain ⟨j, hj⟩ : ∃ j, d % 12 = j := ⟨_, rfl⟩
      have hji : (d : Int) % 12 = (j : Int) := by omega
      have hji2 : (d : Int).tmod 12 = (j : Int) := by rw [Int.tmod_eq_emod_of_nonneg (by omega)]; exact hji
      obtain ⟨y, hy⟩ : ∃ y, d / 128 = y := ⟨_, rfl⟩
      have hyi : (d : Int) / 128 = (y : Int) := by omega
      have hyi2 : (d : Int).tdiv 128 = (y : Int) := by rw [Int.tdiv_eq_ediv_of_nonneg (by omega)]; exact hyi
      obtain ⟨b, hb⟩ : ∃ b, 1 + y = b := ⟨_, rfl⟩
      have hbi : (1 : Int) + (y : Int) = (b : Int) := by omega
      have hb1 : 1 ≤ b := by omega
      have hb4 : b ≤ 2 := by omega
      obtain ⟨q, hq⟩ : ∃ q, 97 + j = q := ⟨_, rfl⟩
      have hqi : (97 : Int) + (j : Int) = (q : Int) := by omega
      have hq2 : q < 256 := by omega
      have hCl : C < wr.heap.size := Nat.lt_of_lt_of_le hC HB.out.size
      have hcv : (convert 55 9 (.slice (some ⟨wr.heap.size, 0, none⟩) 1 1)).run Try.prog (wr.alloc (.cells #[.int .u8 q] 5)).drew = .ok (.string (nmC q)) (wr.alloc (.cells #[.int .u8 q] 5)).drew := letter_back q hq2 wr.drew wr.heap.size rfl
      have hok : seen l + b ≤ 4611686018427387904 := by omega
      have hBx := ((Below.refl wr.heap.size wr).alloc (Nat.le_refl _) (.cells #[.int .u8 q] 5)).drew
      have hTx := HT.out.below hBx
      have had := add_is hTx (nmC q) b (by rw [nmC_size]; decide) (by omega) (addS_ok (by rw [nmC_size]; decide) hb1 hok) (addC_ok (by rw [nmC_size]; decide) hb1 hok)
      have HTx := Lib.hid hTx
      have HBx := Lib.hid hBx
      have r1 : IntKind.u8.wrap (q : Int) = (q : Int) := IntWalk.u8_in _ (by omega)
      have r2 : IntKind.u8.wrap (j : Int) = (j : Int) := IntWalk.u8_in _ (by omega)
      have r3 : IntKind.u8.wrap (y : Int) = (y : Int) := IntWalk.u8_in _ (by omega)
      have r4 : IntKind.u64.wrap (b : Int) = (b : Int) := IntWalk.u64_in _ (by omega)
      have r5 : IntKind.u64.wrap (y : Int) = (y : Int) := IntWalk.u64_in _ (by omega)
      clear hcell hC hj hy hb hq hTx hBx
      go_wp2
      go_region_with (refine had.mono ?_; intro e W5 hA; obtain ⟨rfl, v5, hT5, _, hB5, _⟩ := hA.below ⟨_, HTx.out⟩)
      all_goals
        have HB5 := Lib.hid ((below_on HB.out HBx.out (Nat.le_of_eq HN.out.symm)).trans hB5)
        have HT5 := Lib.hid hT5
        have hsn5 : seen (addL k (nmC q) b l) ≤ 2 * (i + 1) := by rw [seen_addL hk1]; omega
        clear hA hT5 hB5 had hcv hcx
        go_wp2
        go_roundg g
        case measure => omega
        case rel => exact ⟨i + 1, v5, _, by omega, by go_num, hsn5, HT5.out, HB5.out⟩
theorem TopBack_walk (a0 : Int) (h0 : (Lit.int .u8 a0).wf = true) (p : Option Addr) (hs : List Nat) (cap : Nat) (hl : hs.length ≤ cap) (hm : cap ≤ maxLen) (p2 : Option Addr) (hs2 : List Nat) (cap2 : Nat) (hl2 : hs2.length ≤ cap2) (hm2 : cap2 ≤ maxLen) (w : World) (hO : Octs p hs w) (hO2 : Octs p2 hs2 w) :
    Calls Try.prog 8 #[.int .u8 a0, .slice p hs.length cap, .slice p2 hs2.length cap2] w fun e w' => e = .returned (.bool true) ∧ Below w.heap.size w w' := by
  obtain ⟨a, rfl, ha⟩ := wf_u8 h0
  unfold maxLen at hm hm2
  exact back_in a ha p hs cap (by omega) p2 hs2 cap2 (by omega) w hO hO2
end Go.Proofs.Ytnkhieackclniaa
