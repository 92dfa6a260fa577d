/- SlotOnes, walked. -/
import Derived.Test.YtiiadoeohmcfiaaSlS
import Derived.Maps.RangeWalk
namespace Go.Proofs.Ytiiadoeohmcfiaa
open Go Go.RowKit Go.Maps

theorem wrap8_nat (n : Nat) : IntKind.u8.wrap (n : Int) = ((UInt8.ofNat n).toNat : Int) := by
  rw [UInt8.toNat_ofNat']
  simp [IntKind.wrap, IntKind.signed, IntKind.bits]
theorem bytes3_at (a b c : UInt8) (W : World) (g : Nat) (h0 : W.cell? ⟨g, 0, none⟩ = some (.int .u8 (a.toNat : Int))) (h1 : W.cell? ⟨g, 1, none⟩ = some (.int .u8 (b.toNat : Int))) (h2 : W.cell? ⟨g, 2, none⟩ = some (.int .u8 (c.toNat : Int))) :
    (convert 50 9 (.slice (some ⟨g, 0, none⟩) 3 3)).run Try.prog W = .ok (.string (tx [a, b, c])) W :=
  run_convert_bytes_back (P := Try.prog) W 50 9 5 ⟨g, 0, none⟩ 3 [a, b, c] Try.underlying50 Try.underlying5 Try.underlying9 (fun j hj => by
    rw [Addr.add_lit, Nat.zero_add]
    match j, hj with
    | 0, _ => exact h0
    | 1, _ => exact h1
    | 2, _ => exact h2)
set_option maxRecDepth 100000 in
set_option maxHeartbeats 16000000 in
theorem SlotOnes_walk (a : Int) (ha : (Lit.int .u8 a).wf = true) (p : Option Addr) (hs : List Nat) (cap : Nat) (hl : hs.length ≤ 9223372036854775807) (w : World) (hS : Shorts p hs w) :
    Calls Try.prog 4 #[.int .u8 a, .slice p hs.length cap] w fun e w' => e = .returned (.bool true) ∧ Below w.heap.size w w' := by
  have ga : 0 ≤ a ∧ a ≤ 255 := by simpa [Lit.wf, IntKind.min, IntKind.max, IntKind.signed, IntKind.bits] using ha
  obtain ⟨x, rfl⟩ : ∃ x : Nat, a = x := ⟨a.toNat, by omega⟩
  obtain ⟨n, hn⟩ : ∃ n, 1 + x = n := ⟨_, rfl⟩
  have hni : 1 + (x : Int) = (n : Int) := by omega
  have hn1 : 1 ≤ n := by omega
  have hn2 : n ≤ 256 := by omega
  have hex := fun w => examples_any w
  have hnew := fun w => new_any n hn1 hn2 w
  obtain ⟨nl, hnl⟩ : ∃ nl, hs.length = nl := ⟨_, rfl⟩
  have HNL := Lib.hid hnl
  rw [hnl] at hl ⊢
  obtain ⟨M, hM, hM1, hM2⟩ : ∃ M, min nl 300 = M ∧ M ≤ nl ∧ M ≤ 300 := ⟨_, rfl, by omega, by omega⟩
  have HS := Lib.hid hS
  have hmm := @run_makeMap Try.prog
  clear ha ga hn hS hnl
  go_enter Try.func4, Try.ntmps4
  go_wp2_with fail
  refine (hex _).mono ?_
  rintro e w1 ⟨rfl, hB1⟩
  have HB1 := Lib.hid hB1
  clear hex hB1
  go_wp2_with fail
  refine (hnew _).mono ?_
  rintro e w2 ⟨rfl, hB2, hlt, hT⟩
  have HW : Hid (OW w w1.heap.size w2.heap.size 0 (tabF n fun _ => []) (.map []) (w2.alloc (.map #[] 0))) := Lib.hid (by
    rw [tabF_rep] at hT
    have hT' : TabE w1.heap.size (tabF n fun _ => []) w2 := hT
    have h0 : Below w2.heap.size w2 (w2.alloc (.map #[] 0)) := (Below.refl _ _).alloc (Nat.le_refl _) _
    exact ⟨hT'.below h0, World.ownsMap_made _ _ _ _, Ones.start n, by omega, HB1.out.size, Nat.le_trans HB1.out.size hB2.size, (HB1.out.trans (hB2.mono HB1.out.size)).trans (h0.mono (Nat.le_trans HB1.out.size hB2.size))⟩)
  have HLN : Hid ((tabF n fun _ => ([] : Key)).length = n) := Lib.hid (tabF_len _ _)
  clear hnew hB2 HB1 hT
  have HHLT := Lib.hid hlt
  clear hlt
  generalize w1.heap.size = B at *
  go_wp2
  clear hmm
  generalize w2.alloc (.map #[] 0) = W2 at *
  generalize w2.heap.size = Mb at *
  go_loopg [10, 11, 12, 13, 14, 15, 16, 17, 18, 19, 20] M (fun g s10 s11 s12 s13 s14 s15 s16 s17 s18 s19 s20 wx => ∃ (i : Nat) (L : List Key) (D : DataW Unit), s10 = .int .i64 (i : Int) ∧ i + g = M ∧ Hid (L.length = n) ∧ Hid (OW w B Mb i L D wx))
  case atStart => exact ⟨0, _, _, rfl, by omega, HLN, HW⟩
  case round =>
    clear HW HLN HHLT
    obtain ⟨i, L, D, rfl, hi, HLN, HW⟩ := hrel
    cases gk with
    | succ g =>
      have hiM : i < M := by omega
      have hil : i < nl := by omega
      have hi300 : i < 300 := by omega
      obtain ⟨C, off, rfl, hC, hc0, hv16⟩ := HS.out i (by rw [HNL.out]; exact hil)
      have c0 := (HW.out.below.cell (p := ⟨C, off + i, none⟩) hC).trans hc0
      obtain ⟨v, hv⟩ : ∃ v, hs[i]'(by rw [HNL.out]; exact hil) = v := ⟨_, rfl⟩
      rw [hv] at c0 hv16
      obtain ⟨k, hk, hk4⟩ : ∃ k, v % 400 = k ∧ k < 400 := ⟨_, rfl, by omega⟩
      have hki : (v : Int) % 400 = (k : Int) := by omega
      have q1 : (k : Int) / 256 = ((k / 256 : Nat) : Int) := by omega
      have w1' := wrap8_nat (k / 256)
      have w0' := wrap8_nat k
      have one := bytes3_at 120 (UInt8.ofNat (k / 256)) (UInt8.ofNat k)
      have e7 : ((120 : UInt8).toNat : Int) = 120 := rfl
      rw [e7] at one
      obtain ⟨x1, hx1⟩ : ∃ x, (UInt8.ofNat (k / 256)).toNat = x := ⟨_, rfl⟩
      obtain ⟨x0, hx0⟩ : ∃ x, (UInt8.ofNat k).toNat = x := ⟨_, rfl⟩
      rw [hx1] at one w1'
      rw [hx0] at one w0'
      have HTX : Hid (tx [120, UInt8.ofNat (k / 256), UInt8.ofNat k] = tx (okK k)) := Lib.hid rfl
      rw [HTX.out] at one
      have hfit : (okK k).length ≤ maxLen := one_fit (by simp [okK])
      have HFIT := Lib.hid hfit
      obtain ⟨T, hT⟩ : ∃ T, tx (okK k) = T := ⟨_, rfl⟩
      have HT := Lib.hid hT
      rw [hT] at one
      obtain ⟨y1, hy1⟩ : ∃ y, k / 256 = y := ⟨_, rfl⟩
      rw [hy1] at q1 w1'
      have HLk : L.length ≤ 256 := by rw [HLN.out]; exact hn2
      have HLEN := Lib.hid HLk
      have hk16 : k < 65536 := by omega
      have hkI : (k : Int) < 400 := by omega
      clear e7 hx1 hx0 HTX hfit hT hy1 hv hk HLk hc0 hC
      cases hf : findK L (okK k) with
      | some s =>
        obtain ⟨_, hsL, _⟩ := findK_some hf
        have hsn : s < n := by rw [← HLN.out]; exact hsL
        have hhas : Maps.has D (lk k) = true := by rw [HW.out.o.has k hk4, hf]; rfl
        have hat := HW.out.o.at_ k s hk4 hf
        have HHAS := Lib.hid hhas
        have HAT := Lib.hid hat
        have FIND : Hid (∀ W, Below wr.heap.size wr W → Calls Try.prog 13 #[.pointer (some ⟨B, 0, none⟩), .string T] W fun e w' => e = .returned (.tuple #[.int .i64 (s : Int), .bool true]) ∧ Below W.heap.size W w') := Lib.hid (fun W hB => by
          have := find_e (okK k) HFIT.out (HW.out.next hB).t
          rw [hf, HT.out] at this
          exact this)
        have DROP : Hid (∀ W, OW w B Mb i L D W → Calls Try.prog 11 #[.pointer (some ⟨B, 0, none⟩), .string T] W fun e w' => e = .returned (.bool true) ∧ Chg B W w' ∧ TabE B (L.set s []) w') := Lib.hid (fun W hW => by
          have := drop_e (okK k) HFIT.out hW.t
          unfold dropK at this
          rw [hf, HT.out] at this
          exact this)
        have HON : Hid (∀ W, OW w B Mb i L D W → Ones (L.set s []) (D.del (lk k))) := Lib.hid (fun W hW => hW.o.drop HLEN.out hW.t.uniq hk4 hf)
        have HL2 : Hid ((L.set s []).length = n) := Lib.hid (by rw [List.length_set]; exact HLN.out)
        clear hf hsL hhas hat
        go_wp2_with (first | (at_lookup; refine look_there rfl _ _ rfl rfl (HW.out.next (by first | exact Below.refl _ _ | exact (Below.refl _ _).alloc (Nat.le_refl _) _)).m hk16 (congrArg (Value.int .u16) hki) HHAS.out HAT.out ?_))
        refine (FIND.out _ ((Below.refl _ _).alloc (Nat.le_refl _) _)).mono ?_
        rintro e w3 ⟨rfl, hB3⟩
        have HW3 := Lib.hid ((HW.out.next ((Below.refl _ _).alloc (Nat.le_refl _) _)).next hB3)
        clear hB3 FIND HW c0 one
        go_wp2_with fail
        refine (DROP.out _ HW3.out).mono ?_
        rintro e w4 ⟨rfl, hC4, hT4⟩
        have HC4 := Lib.hid hC4
        have HT4 := Lib.hid hT4
        have hown := HW3.out.mid hC4
        have HOWN := Lib.hid hown
        clear hC4 hT4 DROP hown
        go_wp2_with (first | (at_delete; refine wpList_delete_own _ rfl _ _ 49 22 rfl 3 lawK Try.underlying49 _ Mb i D rfl HOWN.out _ _ (by first | rfl | exact congrArg (Value.int .u16) hki) (key16 hk16) ?_; intro w5 hown5 hturn5))
        have HW5 := Lib.hid ((HW3.out.both HC4.out HT4.out hown5 hturn5.grown (HON.out _ HW3.out)).more (Nat.le_succ i))
        clear hown5 hturn5 HC4 HT4 HW3 HOWN HON
        go_roundg g
        case measure => omega
        case rel => exact ⟨i + 1, _, _, by go_num, by omega, HL2, HW5⟩
      | none =>
        have hhas : Maps.has D (lk k) = false := by rw [HW.out.o.has k hk4, hf]; rfl
        have HHAS := Lib.hid hhas
        have FIND : Hid (∀ W, Below wr.heap.size wr W → Calls Try.prog 13 #[.pointer (some ⟨B, 0, none⟩), .string T] W fun e w' => e = .returned (.tuple #[.int .i64 0, .bool false]) ∧ Below W.heap.size W w') := Lib.hid (fun W hB => by
          have := find_e (okK k) HFIT.out (HW.out.next hB).t
          rw [hf, HT.out] at this
          exact this)
        have hsz := HW.out.o.size
        rcases ones_add hf with ⟨hA, hc⟩ | ⟨s, hA, hsL, h0, hc⟩
        · have ADD : Hid (∀ W, OW w B Mb i L D W → Calls Try.prog 15 #[.pointer (some ⟨B, 0, none⟩), .string T] W fun e w' => e = .returned (.tuple #[.int .i64 0, .int .i64 4]) ∧ Chg B W w' ∧ TabE B L w') := Lib.hid (fun W hW => by
            have := add_e (okK k) HFIT.out hW.t
            rw [hA, HT.out] at this
            exact this)
          have HSZ : Hid ((Maps.size D : Int) = (n : Int)) := Lib.hid (by rw [hsz, hc, HLN.out])
          clear hf hhas hsz hA hc
          go_wp2_with (first | (at_lookup; refine look_no rfl _ _ rfl rfl (HW.out.next (by first | exact Below.refl _ _ | exact (Below.refl _ _).alloc (Nat.le_refl _) _)).m hk16 (congrArg (Value.int .u16) hki) HHAS.out ?_))
          refine (FIND.out _ ((Below.refl _ _).alloc (Nat.le_refl _) _)).mono ?_
          rintro e w3 ⟨rfl, hB3⟩
          have HW3 := Lib.hid ((HW.out.next ((Below.refl _ _).alloc (Nat.le_refl _) _)).next hB3)
          clear hB3 FIND HW c0 one
          go_wp2_with fail
          refine (ADD.out _ HW3.out).mono ?_
          rintro e w4 ⟨rfl, hC4, hT4⟩
          have HW4 := Lib.hid (HW3.out.only hC4 hT4)
          clear hC4 hT4 ADD HW3
          go_wp2_with (first | (at_len; refine wpList_len_own _ rfl _ 49 rfl 22 3 Try.underlying49 _ Mb i D rfl HW4.out.m ?_; rw [HSZ.out]))
          have HW5 := Lib.hid (HW4.out.more (Nat.le_succ i))
          clear HW4
          go_roundg g
          case measure => omega
          case rel => exact ⟨i + 1, _, _, by go_num, by omega, HLN, HW5⟩
        · have hsn : s < n := by rw [← HLN.out]; exact hsL
          obtain ⟨m, hm⟩ : ∃ m, Maps.size D = m := ⟨_, rfl⟩
          have hmn : m < n := by rw [← hm, hsz, ← HLN.out]; exact hc
          have ADD : Hid (∀ W, OW w B Mb i L D W → Calls Try.prog 15 #[.pointer (some ⟨B, 0, none⟩), .string T] W fun e w' => e = .returned (.tuple #[.int .i64 (s : Int), .int .i64 0]) ∧ Chg B W w' ∧ TabE B (L.set s (okK k)) w') := Lib.hid (fun W hW => by
            have := add_e (okK k) HFIT.out hW.t
            rw [hA, HT.out] at this
            exact this)
          have KEY : Hid (∀ W, TabE B (L.set s (okK k)) W → Calls Try.prog 21 #[.pointer (some ⟨B, 0, none⟩), .int .i64 (s : Int)] W fun e w' => e = .returned (.tuple #[.string T, .bool true]) ∧ W = w') := Lib.hid (fun W hW => by
            have := key_e s (by rw [List.length_set]; exact hsL) hW
            rw [keyOf_set _ hsL, Sl.putK_same, HT.out, decide_eq_false (okK_ne k)] at this
            exact this)
          have HSZ : Hid ((Maps.size D : Int) = (m : Int)) := Lib.hid (by rw [hm])
          have HON : Hid (Ones (L.set s (okK k)) (D.put (lk k) (.lit (.int .i64 (s : Int))))) := Lib.hid (HW.out.o.add hk4 hf hsL h0)
          have HL2 : Hid ((L.set s (okK k)).length = n) := Lib.hid (by rw [List.length_set]; exact HLN.out)
          have HWF : Hid ((Lit.int .i64 (s : Int)).wf = true) := Lib.hid (by
            simp [Lit.wf, IntKind.min, IntKind.max, IntKind.signed, IntKind.bits]
            omega)
          clear hf hhas hsz hA hc hm hsL h0
          go_wp2_with (first | (at_lookup; refine look_no rfl _ _ rfl rfl (HW.out.next (by first | exact Below.refl _ _ | exact (Below.refl _ _).alloc (Nat.le_refl _) _)).m hk16 (congrArg (Value.int .u16) hki) HHAS.out ?_))
          refine (FIND.out _ ((Below.refl _ _).alloc (Nat.le_refl _) _)).mono ?_
          rintro e w3 ⟨rfl, hB3⟩
          have HW3 := Lib.hid ((HW.out.next ((Below.refl _ _).alloc (Nat.le_refl _) _)).next hB3)
          clear hB3 FIND HW c0 one
          go_wp2_with fail
          refine (ADD.out _ HW3.out).mono ?_
          rintro e w4 ⟨rfl, hC4, hT4⟩
          have HC4 := Lib.hid hC4
          have HT4 := Lib.hid hT4
          have HOWN := Lib.hid (HW3.out.mid hC4)
          clear hC4 hT4 ADD
          go_wp2_with (first | (at_len; refine wpList_len_own _ rfl _ 49 rfl 22 3 Try.underlying49 _ Mb i D rfl HOWN.out ?_; rw [HSZ.out]))
          refine (KEY.out _ HT4.out).mono ?_
          rintro e w5 ⟨rfl, rfl⟩
          clear KEY
          go_wp2_with (first | (at_mapUpdate; refine wpList_mapUpdate_own _ rfl _ _ _ 49 rfl 22 3 lawK Try.underlying49 _ Mb i D rfl HOWN.out (by unfold maxLen; omega) _ _ _ (by first | rfl | exact congrArg (Value.int .u16) hki) rfl (key16 hk16) _ [] (plainElem_int Try.underlying3 HWF.out) ?_; intro w5 hown5 hgrow5))
          have HW5 := Lib.hid (HW3.out.both HC4.out HT4.out hown5 hgrow5 HON.out)
          clear hown5 hgrow5 HC4 HT4 HW3 HOWN HON
          go_roundg g
          case measure => omega
          case rel => exact ⟨i + 1, _, _, by go_num, by omega, HL2, HW5⟩
    | zero =>
      obtain rfl : i = M := by omega
      have HSL : Hid (∀ W, OW w B Mb i L D W → Calls Try.prog 17 #[.pointer (some ⟨B, 0, none⟩)] W fun e w' => ∃ v, e = .returned v ∧ OwnI W.heap.size v (slotsK L) w' ∧ Below W.heap.size W w') := Lib.hid (fun W hW => slots_e hW.t)
      have HL : Hid (∀ W, OW w B Mb i L D W → Calls Try.prog 19 #[.pointer (some ⟨B, 0, none⟩)] W fun e w' => e = .returned (.int .i64 ((slotsK L).length : Int)) ∧ Below W.heap.size W w') := Lib.hid (fun W hW => len_e hW.t)
      have HK : Hid (∀ W s, s ∈ slotsK L → OW w B Mb i L D W → Calls Try.prog 21 #[.pointer (some ⟨B, 0, none⟩), .int .i64 (s : Int)] W fun e w' => e = .returned (.tuple #[.string (tx (keyOf L s)), .bool true]) ∧ W = w') := Lib.hid (fun W s hs hW => by
        obtain ⟨h1, h2⟩ := slotsTo_lt hs
        have := key_e s h1 hW.t
        rw [decide_eq_false h2] at this
        exact this)
      have HF : Hid (∀ W s, s ∈ slotsK L → OW w B Mb i L D W → Calls Try.prog 13 #[.pointer (some ⟨B, 0, none⟩), .string (tx (keyOf L s))] W fun e w' => e = .returned (.tuple #[.int .i64 (s : Int), .bool true]) ∧ Below W.heap.size W w') := Lib.hid (fun W s hs hW => by
        obtain ⟨h1, h2⟩ := slotsTo_lt hs
        have := find_e (keyOf L s) (hW.t.short s) hW.t
        rw [find_own (by rw [HLN.out]; exact hn2) hW.t.uniq h1 h2] at this
        exact this)
      have HSZ : Hid (Maps.size D = (slotsK L).length) := Lib.hid HW.out.o.size
      have HRISE := Lib.hid (slots_rise L)
      have hls : (slotsK L).length ≤ 256 := Nat.le_trans (slotsTo_len _ _) (by rw [HLN.out]; exact hn2)
      obtain ⟨Q, hQ⟩ : ∃ Q, slotsK L = Q := ⟨_, rfl⟩
      rw [hQ] at HSL HL HK HF HSZ HRISE hls
      clear hQ
      obtain ⟨q, hq⟩ : ∃ q, Q.length = q := ⟨_, rfl⟩
      have HQ := Lib.hid hq
      rw [hq] at HL HSZ hls
      clear hq
      by_cases hlast : nl ≤ 300
      all_goals
        rcases (show (nl = i) ∨ (i = 300 ∧ i < nl) by omega) with hz | ⟨hz, hz2⟩
        all_goals
          try (exfalso; omega)
        all_goals
          first | subst hz | skip
          go_wp2_with fail
          refine (HSL.out _ HW.out).mono ?_
          rintro e w4 ⟨v, rfl, hO, hB⟩
          obtain ⟨p1, cap1, rfl⟩ := hO.len
          rw [HQ.out]
          have HO1 := Lib.hid hO
          have HW4 := Lib.hid (HW.out.next hB)
          clear hO hB HSL HW
          go_wp2
          go_loopg [22, 23, 24, 25, 26] q (fun g s22 s23 s24 s25 s26 wx => ∃ j : Nat, s22 = .int .i64 (j : Int) ∧ j + g = q ∧ Hid (OW w B Mb _ L D wx) ∧ Hid (Below w4.heap.size w4 wx))
          case atStart => exact ⟨0, rfl, by omega, HW4, Lib.hid (Below.refl _ _)⟩
          case round =>
            clear HW4
            obtain ⟨j, rfl, hj, HW7, HB7⟩ := hrel
            cases gk with
            | succ g =>
              have hjq : j < q := by omega
              have hjQ : j < Q.length := by rw [HQ.out]; exact hjq
              have hA := HO1.out.below HB7.out
              rcases hA.form with ⟨_, h0⟩ | ⟨b1, cp1, hb1, _, hb1l, hc1⟩
              · rw [h0] at hjQ; exact absurd hjQ (Nat.not_lt_zero _)
              have d1 := hc1 j hjQ
              obtain ⟨rfl, _, _⟩ : p1 = some ⟨b1, 0, none⟩ ∧ True ∧ True := ⟨(by injection hb1), trivial, trivial⟩
              have hmem : Q[j] ∈ Q := List.getElem_mem hjQ
              have hk1 := fun W h => HK.out W Q[j] hmem h
              have hk2 := fun W h => HF.out W Q[j] hmem h
              have hprev : ∀ j1, j1 + 1 = j → ∃ s1 : Nat, wr.cell? ⟨b1, j1, none⟩ = some (.int .i64 (s1 : Int)) ∧ s1 < Q[j] := fun j1 h1 =>
                ⟨Q[j1]'(by omega), hc1 j1 (by omega), List.pairwise_iff_getElem.1 HRISE.out j1 j (by omega) hjQ (by omega)⟩
              obtain ⟨s, hs⟩ : ∃ s, Q[j] = s := ⟨_, rfl⟩
              rw [hs] at d1 hk1 hk2 hprev
              have HK1 := Lib.hid hk1
              have HK2 := Lib.hid hk2
              have HPREV := Lib.hid hprev
              obtain ⟨T, hT⟩ : ∃ T, tx (keyOf L s) = T := ⟨_, rfl⟩
              rw [hT] at HK1 HK2
              have D1 := Lib.hid d1
              clear hA hb1 hc1 hs hk1 hk2 hmem hT hjQ hprev
              go_wp2_with fail
              refine (HK1.out _ HW7.out).mono ?_
              rintro e w8 ⟨rfl, rfl⟩
              go_wp2_with fail
              refine (HK2.out _ HW7.out).mono ?_
              rintro e w8 ⟨rfl, hB8⟩
              have HW8 := Lib.hid (HW7.out.next hB8)
              have HB8 := Lib.hid (HB7.out.trans (hB8.mono HB7.out.size))
              have d2 := (hB8.cell (p := ⟨b1, j, none⟩) hb1l).trans D1.out
              have hB8c : ∀ i v, wr.cell? ⟨b1, i, none⟩ = some v → w8.cell? ⟨b1, i, none⟩ = some v := fun i v h => (hB8.cell (p := ⟨b1, i, none⟩) hb1l).trans h
              have HB8C := Lib.hid hB8c
              clear HK1 HK2 hB8 hB8c d1 D1
              by_cases hj0 : j = 0
              · subst hj0
                go_wp2
                go_quiet (fail)
                go_wp2
                go_roundg g
                case measure => omega
                case rel => exact ⟨0 + 1, by go_num, by omega, Lib.hid (HW8.out.next (below_drewN (Below.refl _ _) _)), Lib.hid (below_drewN HB8.out _)⟩
              · obtain ⟨j1, hj1⟩ : ∃ j1, j1 + 1 = j := ⟨j - 1, by omega⟩
                obtain ⟨s1, hc, hlt⟩ := HPREV.out j1 hj1
                have d3 := HB8C.out _ _ hc
                have hj1i : (j : Int) - 1 = (j1 : Int) := by omega
                have hjpos : 0 < (j : Int) := by omega
                have hjn0 : 0 < j := by omega
                have hgt : decide (0 < j) = true := decide_eq_true hjn0
                have hge2 : decide (s ≤ s1) = false := by rw [decide_eq_false_iff_not]; omega
                have hge : decide ((s : Int) ≤ (s1 : Int)) = false := by rw [decide_eq_false_iff_not]; omega
                have hj1q : (j1 : Int) < (q : Int) := by omega
                clear hj1 hc hj0
                go_wp2
                go_quiet (fail)
                go_wp2
                go_roundg g
                case measure => omega
                case rel => exact ⟨j + 1, by go_num, by omega, Lib.hid (HW8.out.next (below_drewN (Below.refl _ _) _)), Lib.hid (below_drewN HB8.out _)⟩
            | zero =>
              obtain rfl : j = q := by omega
              go_wp2_with fail
              refine (HL.out _ HW7.out).mono ?_
              rintro e w8 ⟨rfl, hB8⟩
              have HW8 := Lib.hid (HW7.out.next hB8)
              have hln : ∀ ty, (Builtin.len_ #[49] ty #[.map (some Mb)]).run Try.prog w8 = .ok (.int .i64 (j : Int)) w8 := fun ty => by
                have := HW8.out.m.len Try.underlying49 ty
                rw [HSZ.out] at this
                exact this
              clear hB8 HW7
              go_wp2
              go_ret
              exact ⟨rfl, HW8.out.below⟩
end Go.Proofs.Ytiiadoeohmcfiaa
