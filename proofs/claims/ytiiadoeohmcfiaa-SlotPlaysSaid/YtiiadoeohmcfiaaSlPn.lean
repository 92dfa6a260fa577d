/- SlotPlays, a room that is made. -/
import Derived.Test.YtiiadoeohmcfiaaSlP
namespace Go.Proofs.Ytiiadoeohmcfiaa
open Go Go.RowKit

set_option maxRecDepth 100000 in
set_option maxHeartbeats 16000000 in
theorem plays_near (a : Int) (_ha0 : -9223372036854775808 ≤ a) (_ha1 : a ≤ 9223372036854775807) (p : Option Addr) (nl cap : Nat) (hl : nl ≤ 9223372036854775807) (many : Nat) (hmany : many < 65536) (w : World) (hD : Deeds p nl w) :
    Calls Try.prog 3 #[.int .i64 a, .bool true, .int .u16 (many : Int), .slice p nl cap] w fun e w' => e = .returned (.bool true) ∧ Below w.heap.size w w' := by
  have hex := fun w => examples_any w
  obtain ⟨z, hz, hz0, hz1⟩ : ∃ z, IntKind.u64.wrap a = z ∧ 0 ≤ z ∧ z < 18446744073709551616 := by
    have h := wrap_within .u64 a
    simp only [IntKind.min, IntKind.max, IntKind.signed, IntKind.bits] at h
    refine ⟨_, rfl, ?_, ?_⟩
    · simpa using h.1
    · have := h.2
      simp at this
      omega
  obtain ⟨m, hm⟩ : ∃ m : Nat, z % 256 = (m : Int) := ⟨(z % 256).toNat, by omega⟩
  have hm2 : m ≤ 255 := by omega
  obtain ⟨n, hn⟩ : ∃ n, 1 + m = n := ⟨_, rfl⟩
  have hni : 1 + (m : Int) = (n : Int) := by omega
  have hn1 : 1 ≤ n := by omega
  have hn2 : n ≤ 256 := by omega
  clear hn
  have hnew := fun w => new_any n hn1 hn2 w
  have hnewr := fun w => newr_any n hn1 hn2 w
  obtain ⟨M, hM, hM1, hM2⟩ : ∃ M, min nl 300 = M ∧ M ≤ nl ∧ M ≤ 300 := ⟨_, rfl, by omega, by omega⟩
  have HD := Lib.hid hD
  clear hD
  go_enter Try.func3, Try.ntmps3
  go_wp2_with fail
  refine (hex _).mono ?_
  rintro e w1 ⟨rfl, hB1⟩
  have HB1 := Lib.hid hB1
  clear hex hB1
  go_wp2_with fail
  refine (hnew _).mono ?_
  rintro e w2 ⟨rfl, hB2, hlt, hT⟩
  have HB2 := Lib.hid (HB1.out.trans (hB2.mono HB1.out.size))
  have hlow : w.heap.size ≤ w1.heap.size := HB1.out.size
  have HT : Hid (TabE w1.heap.size (List.replicate n []) w2) := Lib.hid hT
  have hlt2 : w1.heap.size < w2.heap.size := hlt
  clear hnew hB2 HB1 hT hlt
  generalize w1.heap.size = B at *
  go_wp2_with fail
  refine (hnewr _).mono ?_
  rintro e w3 ⟨X, Y, rfl, hB3, hX, hY, hR⟩
  have HW : Hid (Both w B X Y (List.replicate n []) w3) := Lib.hid ⟨HT.out.below hB3, hR, by omega, by omega, hlow, by have := HB2.out.size; omega, HB2.out.trans (hB3.mono HB2.out.size)⟩
  have hN0 : (List.replicate n ([] : Key)).length = n := List.length_replicate
  have HN0 := Lib.hid hN0
  clear hnewr hB3 hR HT HB2 hN0 hX hY hlt2
  go_wp2
  go_loopg [13, 14, 15, 16, 17, 18, 19, 20, 21, 22] M (fun g s13 s14 s15 s16 s17 s18 s19 s20 s21 s22 wx => ∃ (i : Nat) (L : List Key), s13 = .int .i64 (i : Int) ∧ i + g = M ∧ Hid (L.length = n) ∧ Hid (Both w B X Y L wx))
  case atStart => exact ⟨0, _, rfl, by omega, HN0, HW⟩
  case round =>
    clear HW HN0
    obtain ⟨i, L, rfl, hi, HN, HW⟩ := hrel
    cases gk with
    | succ g =>
      have hiM : i < M := by omega
      have hil : i < nl := by omega
      have hi300 : i < 300 := by omega
      obtain ⟨D, off, d, rfl, hD, c0, c1, c2, c3, hk8, hk16, hsz⟩ := (HD.out.below HW.out.below) i hil
      have hdk := fun W => dkey_any d many hk16 hmany W
      have HFIT := Lib.hid (DeedV.fit hsz many)
      have hdv : DeedV.val d = .agg #[.int .u8 (d.kind : Int), .int .u16 (d.k : Int), .string d.s, .bool d.raw] := rfl
      rw [hdv] at hdk
      obtain ⟨dk, hdk1⟩ : ∃ x, d.kind = x := ⟨_, rfl⟩
      obtain ⟨dn, hdk2⟩ : ∃ x, d.k = x := ⟨_, rfl⟩
      obtain ⟨ds, hdk3⟩ : ∃ x, d.s = x := ⟨_, rfl⟩
      obtain ⟨dr, hdk4⟩ : ∃ x, d.raw = x := ⟨_, rfl⟩
      obtain ⟨k, hdk5⟩ : ∃ x, d.key many = x := ⟨_, rfl⟩
      rw [hdk1] at c0 hk8 hdk
      rw [hdk2] at c1 hk16 hdk
      rw [hdk3] at c2 hsz hdk
      rw [hdk4] at c3 hdk
      rw [hdk5] at hdk HFIT
      have HC0 := Lib.hid (fun W (hB : Below wr.heap.size wr W) => (hB.cell (p := ⟨D, off + i * 4, none⟩) hD).trans c0)
      have HD2 := Lib.hid HD.out
      clear hdk1 hdk2 hdk3 hdk4 hdk5 hdv
      obtain ⟨T, hT⟩ : ∃ T, tx k = T := ⟨_, rfl⟩
      have HTX := Lib.hid hT
      rw [hT] at hdk
      clear hT
      go_wp2_with fail
      refine (hdk _).mono ?_
      rintro e w4 ⟨rfl, hB4⟩
      have e0 := HC0.out w4 hB4
      have HW4 := Lib.hid (HW.out.next hB4)
      clear hdk c0 c1 c2 c3 HC0 HW hB4
      obtain ⟨r, hr, hr7⟩ : ∃ r, dk % 7 = r ∧ r < 7 := ⟨_, rfl, by omega⟩
      have hri : (dk : Int) % 7 = (r : Int) := by omega
      clear hr
      have DROP : Hid (Calls Try.prog 11 #[.pointer (some ⟨B, 0, none⟩), .string T] w4 fun e w' => e = .returned (.bool (findK L k).isSome) ∧ Chg B w4 w' ∧ TabE B (dropK L k) w') := Lib.hid (HTX.out ▸ drop_e k HFIT.out HW4.out.t)
      have DROPR : Hid (∀ W, Chg B w4 W → Calls Try.prog 12 #[.pointer (some ⟨X, 0, none⟩), .string T] W fun e w' => e = .returned (.bool (findK L k).isSome) ∧ Chg Y W w' ∧ RTab X Y (dropK L k) w') := Lib.hid (fun W hC => HTX.out ▸ drop_r k (HW4.out.mid hC))
      have ADD : Hid (Calls Try.prog 15 #[.pointer (some ⟨B, 0, none⟩), .string T] w4 fun e w' => e = .returned (.tuple #[.int .i64 ((addK L k).1 : Int), .int .i64 ((addK L k).2.1 : Int)]) ∧ Chg B w4 w' ∧ TabE B (addK L k).2.2 w') := Lib.hid (HTX.out ▸ add_e k HFIT.out HW4.out.t)
      have ADDR : Hid (∀ W, Chg B w4 W → Calls Try.prog 16 #[.pointer (some ⟨X, 0, none⟩), .string T] W fun e w' => e = .returned (.tuple #[.int .i64 ((addK L k).1 : Int), .int .i64 ((addK L k).2.1 : Int)]) ∧ Chg Y W w' ∧ RTab X Y (addK L k).2.2 w') := Lib.hid (fun W hC => HTX.out ▸ add_r k HFIT.out (HW4.out.mid hC))
      have FIND : Hid (Calls Try.prog 13 #[.pointer (some ⟨B, 0, none⟩), .string T] w4 fun e w' => e = .returned (.tuple #[.int .i64 (((findK L k).getD 0 : Nat) : Int), .bool (findK L k).isSome]) ∧ Below w4.heap.size w4 w') := Lib.hid (HTX.out ▸ find_e k HFIT.out HW4.out.t)
      have FINDR : Hid (∀ W, Chg B w4 W → Calls Try.prog 14 #[.pointer (some ⟨X, 0, none⟩), .string T] W fun e w' => e = .returned (.tuple #[.int .i64 (((findK L k).getD 0 : Nat) : Int), .bool (findK L k).isSome]) ∧ W = w') := Lib.hid (fun W hC => HTX.out ▸ find_r k (HW4.out.mid hC))
      have LD : Hid ((dropK L k).length = n) := Lib.hid (by rw [dropK_len]; exact HN.out)
      have LA : Hid ((addK L k).2.2.length = n) := Lib.hid (by rw [addK_len]; exact HN.out)
      rcases (show r = 4 ∨ r = 5 ∨ r = 6 ∨ r < 4 by omega) with rfl | rfl | rfl | hr4
      · go_wp2_with fail
        refine DROP.out.mono ?_
        rintro e w5 ⟨rfl, hC, hT5⟩
        have HC5 := Lib.hid hC
        have HT5 := Lib.hid hT5
        clear hC hT5 DROP ADD ADDR FIND FINDR
        go_wp2_with fail
        refine (DROPR.out _ HC5.out).mono ?_
        rintro e w6 ⟨rfl, hC, hR⟩
        have HW6 := Lib.hid (HW4.out.step HC5.out HT5.out hC hR)
        clear hC hR HC5 HT5 HW4 DROPR
        generalize (findK L k).isSome = bb at *
        go_wp2
        go_roundg g
        case measure => omega
        case rel => exact ⟨i + 1, _, by go_num, by omega, LD, HW6⟩
      · go_wp2_with fail
        refine DROP.out.mono ?_
        rintro e w5 ⟨rfl, hC, hT5⟩
        have HC5 := Lib.hid hC
        have HT5 := Lib.hid hT5
        clear hC hT5 DROP ADD ADDR FIND FINDR
        go_wp2_with fail
        refine (DROPR.out _ HC5.out).mono ?_
        rintro e w6 ⟨rfl, hC, hR⟩
        have HW6 := Lib.hid (HW4.out.step HC5.out HT5.out hC hR)
        clear hC hR HC5 HT5 HW4 DROPR
        generalize (findK L k).isSome = bb at *
        go_wp2
        go_roundg g
        case measure => omega
        case rel => exact ⟨i + 1, _, by go_num, by omega, LD, HW6⟩
      · go_wp2_with fail
        refine FIND.out.mono ?_
        rintro e w5 ⟨rfl, hB⟩
        have HC5 := Lib.hid (Chg.of (B := B) hB)
        have HW5 := Lib.hid (HW4.out.next hB)
        clear hB FIND ADD ADDR DROP DROPR
        go_wp2_with fail
        refine (FINDR.out _ HC5.out).mono ?_
        rintro e w6 ⟨rfl, rfl⟩
        clear HC5 HW4 FINDR
        generalize (findK L k).isSome = bb at *
        generalize (findK L k).getD 0 = cc at *
        go_wp2
        go_roundg g
        case measure => omega
        case rel => exact ⟨i + 1, _, by go_num, by omega, HN, HW5⟩
      · have t4 : ((r : Int) == 4) = false := by rw [beq_eq_false_iff_ne]; omega
        have t5 : ((r : Int) == 5) = false := by rw [beq_eq_false_iff_ne]; omega
        have t6 : ((r : Int) == 6) = false := by rw [beq_eq_false_iff_ne]; omega
        go_wp2_with fail
        refine ADD.out.mono ?_
        rintro e w5 ⟨rfl, hC, hT5⟩
        have HC5 := Lib.hid hC
        have HT5 := Lib.hid hT5
        clear hC hT5 DROP DROPR ADD FIND FINDR
        go_wp2_with fail
        refine (ADDR.out _ HC5.out).mono ?_
        rintro e w6 ⟨rfl, hC, hR⟩
        have HW6 := Lib.hid (HW4.out.step HC5.out HT5.out hC hR)
        clear hC hR HC5 HT5 HW4 ADDR
        generalize (addK L k).2.2 = L2 at *
        generalize (addK L k).2.1 = bb at *
        generalize (addK L k).1 = cc at *
        go_wp2
        go_roundg g
        case measure => omega
        case rel => exact ⟨i + 1, _, by go_num, by omega, LA, HW6⟩
    | zero =>
      obtain rfl : i = M := by omega
      have HS : Hid (∀ W, Both w B X Y L W → Calls Try.prog 17 #[.pointer (some ⟨B, 0, none⟩)] W fun e w' => ∃ v, e = .returned v ∧ OwnI W.heap.size v (slotsK L) w' ∧ Below W.heap.size W w') := Lib.hid (fun W hW => slots_e hW.t)
      have HSR : Hid (∀ W, Both w B X Y L W → Calls Try.prog 18 #[.pointer (some ⟨X, 0, none⟩)] W fun e w' => ∃ v, e = .returned v ∧ OwnI W.heap.size v (slotsK L) w' ∧ Below W.heap.size W w') := Lib.hid (fun W hW => slots_r hW.x)
      have HL : Hid (∀ W, Both w B X Y L W → Calls Try.prog 19 #[.pointer (some ⟨B, 0, none⟩)] W fun e w' => e = .returned (.int .i64 ((slotsK L).length : Int)) ∧ Below W.heap.size W w') := Lib.hid (fun W hW => len_e hW.t)
      have HR : Hid (∀ W, Both w B X Y L W → Calls Try.prog 20 #[.pointer (some ⟨B, 0, none⟩)] W fun e w' => e = .returned (.int .i64 (n : Int)) ∧ W = w') := Lib.hid (fun W hW => by
        have := room_e hW.t
        rw [HN.out] at this
        exact this)
      have HK : Hid (∀ W s, s ∈ slotsK L → Both w B X Y L W → Calls Try.prog 21 #[.pointer (some ⟨B, 0, none⟩), .int .i64 (s : Int)] W fun e w' => e = .returned (.tuple #[.string (tx (keyOf L s)), .bool true]) ∧ W = w') := Lib.hid (fun W s hs hW => by
        obtain ⟨h1, h2⟩ := slotsTo_lt hs
        have := key_e s h1 hW.t
        rw [decide_eq_false h2] at this
        exact this)
      have HKR : Hid (∀ W s, s ∈ slotsK L → Both w B X Y L W → Calls Try.prog 22 #[.pointer (some ⟨X, 0, none⟩), .int .i64 (s : Int)] W fun e w' => e = .returned (.tuple #[.string (tx (keyOf L s)), .bool true]) ∧ W = w') := Lib.hid (fun W s hs hW => by
        obtain ⟨h1, h2⟩ := slotsTo_lt hs
        have := key_r s h1 hW.x
        rw [decide_eq_false h2] at this
        exact this)
      have HO : Hid (∀ W (s : Int), (s < 0 ∨ (n : Int) ≤ s) → Both w B X Y L W → Calls Try.prog 21 #[.pointer (some ⟨B, 0, none⟩), .int .i64 s] W fun e w' => e = .returned (.tuple #[.string ⟨#[]⟩, .bool false]) ∧ W = w') := Lib.hid (fun W s hs hW => key_no s (by rw [HN.out]; exact hs) hW.t)
      have hls : (slotsK L).length ≤ 256 := Nat.le_trans (slotsTo_len _ _) (by rw [HN.out]; exact hn2)
      obtain ⟨Q, hQ⟩ : ∃ Q, slotsK L = Q := ⟨_, rfl⟩
      rw [hQ] at HS HSR HL HK HKR hls
      clear hQ
      obtain ⟨q, hq⟩ : ∃ q, Q.length = q := ⟨_, rfl⟩
      have HQ := Lib.hid hq
      rw [hq] at HL hls
      clear hq
      by_cases hlast : nl ≤ 300
      all_goals
        have hdone : (nl ≤ i ∨ 300 ≤ i) := by omega
        rcases (show (nl = i) ∨ (i = 300 ∧ i < nl) by omega) with hz | ⟨hz, hz2⟩
        all_goals
          try (exfalso; omega)
        all_goals
          first | subst hz | skip
          go_wp2_with fail
          refine (HS.out _ HW.out).mono ?_
          rintro e w4 ⟨v, rfl, hO, hB⟩
          obtain ⟨p1, cap1, rfl⟩ := hO.len
          rw [HQ.out]
          have HO1 := Lib.hid hO
          have HW4 := Lib.hid (HW.out.next hB)
          clear hO hB HS HW
          go_wp2_with fail
          refine (HSR.out _ HW4.out).mono ?_
          rintro e w5 ⟨v, rfl, hO, hB⟩
          obtain ⟨p2, cap2, rfl⟩ := hO.len
          rw [HQ.out]
          have HO2 := Lib.hid hO
          have HO1' := Lib.hid (HO1.out.below hB)
          have HW5 := Lib.hid (HW4.out.next hB)
          clear hO hB HSR HW4 HO1
          go_wp2_with fail
          refine (HL.out _ HW5.out).mono ?_
          rintro e w6 ⟨rfl, hB⟩
          have HO3 := Lib.hid (HO2.out.below hB)
          have HO4 := Lib.hid (HO1'.out.below hB)
          have HW6 := Lib.hid (HW5.out.next hB)
          clear hB HL HW5 HO2 HO1'
          go_wp2_with fail
          refine (HR.out _ HW6.out).mono ?_
          rintro e w7 ⟨rfl, rfl⟩
          clear HR
          go_wp2
          go_loopg [25, 26, 27, 28, 29] q (fun g s25 s26 s27 s28 s29 wx => ∃ j : Nat, s25 = .int .i64 (j : Int) ∧ j + g = q ∧ Hid (Both w B X Y L wx) ∧ Hid (Below w6.heap.size w6 wx))
          case atStart => exact ⟨0, rfl, by omega, HW6, Lib.hid (Below.refl _ _)⟩
          case round =>
            clear HW6
            obtain ⟨j, rfl, hj, HW7, HB7⟩ := hrel
            cases gk with
            | succ g =>
              have hjq : j < q := by omega
              have hjQ : j < Q.length := by rw [HQ.out]; exact hjq
              have hA := HO4.out.below HB7.out
              have hA' := HO3.out.below HB7.out
              rcases hA.form with ⟨_, h0⟩ | ⟨b1, cp1, hb1, _, hb1l, hc1⟩
              · rw [h0] at hjQ; exact absurd hjQ (Nat.not_lt_zero _)
              rcases hA'.form with ⟨_, h0⟩ | ⟨b2, cp2, hb2, _, hb2l, hc2⟩
              · rw [h0] at hjQ; exact absurd hjQ (Nat.not_lt_zero _)
              have d1 := hc1 j hjQ
              have d2 := hc2 j hjQ
              obtain ⟨rfl, _, _⟩ : p1 = some ⟨b1, 0, none⟩ ∧ True ∧ True := ⟨(by injection hb1), trivial, trivial⟩
              obtain ⟨rfl, _, _⟩ : p2 = some ⟨b2, 0, none⟩ ∧ True ∧ True := ⟨(by injection hb2), trivial, trivial⟩
              have hmem : Q[j] ∈ Q := List.getElem_mem hjQ
              have hk1 := fun W h => HK.out W Q[j] hmem h
              have hk2 := fun W h => HKR.out W Q[j] hmem h
              obtain ⟨s, hs⟩ : ∃ s, Q[j] = s := ⟨_, rfl⟩
              rw [hs] at d1 d2 hk1 hk2
              have HK1 := Lib.hid hk1
              have HK2 := Lib.hid hk2
              obtain ⟨T, hT⟩ : ∃ T, tx (keyOf L s) = T := ⟨_, rfl⟩
              rw [hT] at HK1 HK2
              clear hA hA' hb1 hb2 hc1 hc2 hs hk1 hk2 hmem hT hjQ
              go_wp2_with fail
              refine (HK1.out _ HW7.out).mono ?_
              rintro e w8 ⟨rfl, rfl⟩
              go_wp2_with fail
              refine (HK2.out _ HW7.out).mono ?_
              rintro e w8 ⟨rfl, rfl⟩
              clear HK1 HK2
              go_wp2
              go_quiet (fail)
              go_wp2
              go_roundg g
              case measure => omega
              case rel => exact ⟨j + 1, by go_num, by omega, Lib.hid (HW7.out.next (below_drewN (Below.refl _ _) _)), Lib.hid (below_drewN HB7.out _)⟩
            | zero =>
              obtain rfl : j = q := by omega
              have hm1 := fun W h => HO.out W (-1) (.inl (by omega)) h
              have hm2 := fun W h => HO.out W n (.inr (Int.le_refl _)) h
              have HM1 := Lib.hid hm1
              have HM2 := Lib.hid hm2
              clear hm1 hm2
              go_wp2_with fail
              refine (HM1.out _ HW7.out).mono ?_
              rintro e w8 ⟨rfl, rfl⟩
              go_wp2_with fail
              refine (HM2.out _ HW7.out).mono ?_
              rintro e w8 ⟨rfl, rfl⟩
              go_wp2
              go_ret
              exact ⟨rfl, HW7.out.below⟩
set_option maxRecDepth 100000 in
set_option maxHeartbeats 4000000 in
theorem plays_out (a : Int) (ha : a < 1 ∨ 256 < a) (p : Option Addr) (nl cap : Nat) (many : Nat) (w : World) :
    Calls Try.prog 3 #[.int .i64 a, .bool false, .int .u16 (many : Int), .slice p nl cap] w fun e w' => e = .returned (.bool true) ∧ Below w.heap.size w w' := by
  have hex := fun w => examples_any w
  have h1 := fun w => new_out a ha w
  have h2 := fun w => newr_out a ha w
  clear ha
  go_enter Try.func3, Try.ntmps3
  go_wp2_with fail
  refine (hex _).mono ?_
  rintro e w1 ⟨rfl, hB1⟩
  have HB1 := Lib.hid hB1
  clear hex hB1
  go_wp2_with fail
  refine (h1 _).mono ?_
  rintro e w2 ⟨rfl, rfl⟩
  go_wp2_with fail
  refine (h2 _).mono ?_
  rintro e w2 ⟨rfl, rfl⟩
  go_wp2
  go_ret
  exact ⟨rfl, HB1.out⟩
theorem SlotPlays_walk (a : Int) (ha : (Lit.int .i64 a).wf = true) (near : Bool) (b : Int) (hb : (Lit.int .u16 b).wf = true) (p : Option Addr) (nl cap : Nat) (hl : nl ≤ 9223372036854775807) (w : World) (hD : Deeds p nl w) :
    Calls Try.prog 3 #[.int .i64 a, .bool near, .int .u16 b, .slice p nl cap] w fun e w' => e = .returned (.bool true) ∧ Below w.heap.size w w' := by
  have ga : -9223372036854775808 ≤ a ∧ a ≤ 9223372036854775807 := by simpa [Lit.wf, IntKind.min, IntKind.max, IntKind.signed, IntKind.bits] using ha
  have gb : 0 ≤ b ∧ b ≤ 65535 := by simpa [Lit.wf, IntKind.min, IntKind.max, IntKind.signed, IntKind.bits] using hb
  obtain ⟨y, rfl⟩ : ∃ y : Nat, b = y := ⟨b.toNat, by omega⟩
  cases near with
  | true => exact plays_near a ga.1 ga.2 p nl cap hl y (by omega) w hD
  | false =>
    by_cases h : a < 1 ∨ 256 < a
    · exact plays_out a h p nl cap y w
    · obtain ⟨n, rfl⟩ : ∃ n : Nat, a = n := ⟨a.toNat, by omega⟩
      exact plays_in n (by omega) (by omega) p nl cap hl y (by omega) w hD
end Go.Proofs.Ytiiadoeohmcfiaa
