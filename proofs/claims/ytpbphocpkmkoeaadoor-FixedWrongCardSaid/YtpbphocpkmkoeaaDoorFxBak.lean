/- FixedBack, walked. -/
import Derived.Test.YtpbphocpkmkoeaaDoorFxOrd
namespace Go.Proofs.YtpbphocpkmkoeaaDoor
open Go Go.RowKit

theorem u8_in {n : Int} (h : (Lit.int .u8 n).wf = true) : 0 ≤ n ∧ n ≤ 255 := by
  simpa [Lit.wf, IntKind.min, IntKind.max, IntKind.signed, IntKind.bits] using h
theorem body_first (n : Int) : ∃ c t, bodyF n = c :: t ∧ c ≠ 45 ∧ c ≠ 43 := by
  have h := dec_len (farF n / 1000000)
  unfold bodyF
  cases hd : Lib.decDigits (farF n / 1000000) with
  | nil => rw [hd] at h; simp at h
  | cons c t =>
    have h1 := dec_all (farF n / 1000000) c (by rw [hd]; simp)
    refine ⟨c, t ++ tailF (farF n % 1000000), rfl, ?_, ?_⟩ <;> intro h2 <;> subst h2 <;> exact absurd h1 (by decide)
theorem tdiv_cast (m : Nat) : (m : Int).tdiv 1000000 = ((m / 1000000 : Nat) : Int) := rfl
theorem tmod_cast (m : Nat) : (m : Int).tmod 1000000 = ((m % 1000000 : Nat) : Int) := rfl
theorem mod_far (n : Int) : (n.tmod 1000000 = 0 ↔ farF n % 1000000 = 0) ∧ sgn (negB n) (farF n / 1000000) = n.tdiv 1000000 := by
  unfold farF sgn negB
  by_cases hn : n < 0
  · obtain ⟨m, rfl⟩ : ∃ m : Nat, n = -(m : Int) := ⟨n.natAbs, by omega⟩
    rw [Int.natAbs_neg, Int.natAbs_natCast, Int.neg_tmod, Int.neg_tdiv, tmod_cast, tdiv_cast, decide_eq_true hn, if_pos rfl]
    exact ⟨by omega, rfl⟩
  · obtain ⟨m, rfl⟩ : ∃ m : Nat, n = (m : Int) := ⟨n.toNat, by omega⟩
    rw [Int.natAbs_natCast, tmod_cast, tdiv_cast, decide_eq_false hn, if_neg (by decide)]
    exact ⟨by omega, rfl⟩
theorem quo_in {n : Int} (h : In64 n) : -9223372036855 ≤ n.tdiv 1000000 ∧ n.tdiv 1000000 ≤ 9223372036855 := by
  obtain ⟨h1, h2⟩ := h
  by_cases hn : n < 0
  · obtain ⟨m, rfl⟩ : ∃ m : Nat, n = -(m : Int) := ⟨n.natAbs, by omega⟩
    rw [Int.neg_tdiv, tdiv_cast]; omega
  · obtain ⟨m, rfl⟩ : ∃ m : Nat, n = (m : Int) := ⟨n.toNat, by omega⟩
    rw [tdiv_cast]; omega

set_option maxHeartbeats 8000000 in
set_option maxRecDepth 100000 in
theorem FixedBack_walk (n : Int) (hn : (Lit.int .i64 n).wf = true) (y : Int) (hy : (Lit.int .u8 y).wf = true) (w : World) (hT : Tens w) :
    Calls Tryd.prog 5 #[.int .i64 n, .int .u8 y] w fun e w' => e = .returned (.bool true) ∧ Below w.heap.size w w' := by
  have HT := Lib.hid hT
  have hi := in_64 hn
  obtain ⟨y0, y1⟩ := u8_in hy
  have tn := fun w h => text_any n hi w h
  have ra := fun w => readL_any (textF n) (by unfold maxLen; have := (text_len hi).1; omega) w
  rw [read_text hi] at ra
  obtain ⟨c, t, hct, hc1, hc2⟩ := body_first n
  obtain ⟨z, hz⟩ : ∃ z : Nat, y % 20 = (z : Int) := ⟨(y % 20).toNat, by omega⟩
  have hz20 : z < 20 := by omega
  have hbl := body_len hi
  have hrl : ∀ k : Nat, (List.replicate k 48 ++ bodyF n).length = k + (bodyF n).length := fun k => by simp
  have hwh := fun {s b} hs => whole_body (n := n) (s := s) (b := b) hs z
  have hmf := mod_far n
  have hqi := quo_in hi
  have hft := far_fit hi
  have hfl := far_le hi
  by_cases hneg : n < 0
  · have hsg : sgL n = [45] := if_pos hneg
    have hnb : negB n = true := decide_eq_true hneg
    have htx : textF n = [45] ++ bodyF n := by rw [text_body, hsg]
    rw [htx] at tn ra
    rw [hnb] at hmf hft
    have hR2 := fun w => readL_any ([45] ++ (List.replicate z 48 ++ bodyF n)) (by unfold maxLen; have := hrl z; simp at this ⊢; omega) w
    have hR3 := fun w => readL_any (([45] ++ (List.replicate z 48 ++ bodyF n)) ++ [101, 48]) (by unfold maxLen; have := hrl z; simp at this ⊢; omega) w
    have hR4 := fun w => wholeL_any ([45] ++ (List.replicate z 48 ++ bodyF n)) (by unfold maxLen; have := hrl z; simp at this ⊢; omega) w
    have q2 : readF ([45] ++ (List.replicate z 48 ++ bodyF n)) = (n, 0) := by
      have := read_body hi (s := [45]) (b := true) (x := []) (SgT.minus) ExT.none z (by have := hrl z; simp at this ⊢; omega)
      simp only [List.append_nil] at this
      rw [this, fit_of hft, ← hnb, sgn_far]
    have q3 : readF (([45] ++ (List.replicate z 48 ++ bodyF n)) ++ [101, 48]) = (n, 0) := by
      have hE : ExT [101, 48] 0 := ExT.some (c := 101) (s := []) (b := false) (d := [48]) (.inl rfl) SgT.none (by intro c hc; rw [List.mem_singleton.1 hc]; decide) (by decide) (by decide)
      have := read_body hi (s := [45]) (b := true) (x := [101, 48]) (SgT.minus) hE z (by have := hrl z; simp at this ⊢; omega)
      rw [show ([45] ++ (List.replicate z 48 ++ bodyF n)) ++ [101, 48] = [45] ++ ((List.replicate z 48 ++ bodyF n) ++ [101, 48]) by simp, this, fit_of hft, ← hnb, sgn_far]
    have q4 := hwh (s := [45]) (b := true) (.inr ⟨rfl, rfl⟩)
    rw [q2] at hR2
    rw [q3] at hR3
    rw [q4] at hR4
    clear q2 q3 q4 hwh
    rw [← tx_app] at hR2
    rw [← tx_app] at hR3
    rw [← tx_app] at hR3 hR4
    obtain ⟨hz0, hx0, hex⟩ := first_of (s := tx ([45] ++ bodyF n)) (c := 45) (t := bodyF n) rfl
    have hemp := tx_ne2 (l := [45] ++ bodyF n) (by rw [hct]; simp)
    have hRs : (tx (List.replicate z 48 ++ bodyF n)).size ≤ 40 := by rw [tx_len, hrl]; omega
    obtain ⟨R, hR⟩ : ∃ R, tx (List.replicate z 48 ++ bodyF n) = R := ⟨_, rfl⟩
    rw [hR] at hR2 hR3 hR4 hRs
    have s1 : (⟨#[45]⟩ : ByteArray).size + R.size ≤ 9223372036854775807 := by show 1 + R.size ≤ _; omega
    have s2 : ((⟨#[45]⟩ : ByteArray) ++ R).size + (⟨#[101, 48]⟩ : ByteArray).size ≤ 9223372036854775807 := by rw [ByteArray.size_append]; show 1 + R.size + 2 ≤ _; omega
    have hrl2 : ∀ k : Nat, k < z → (List.replicate k 48 ++ bodyF n).length ≤ 40 := fun k hk => by rw [hrl]; omega
    have HRL := Lib.hid hrl2
    clear hrl2
    have HEX := Lib.hid hex
    clear hex hT hn hy hsg htx hct hnb
    generalize tx ([45] ++ bodyF n) = T at *
    by_cases hm : farF n % 1000000 = 0
    · by_cases hs19 : R.size ≤ 19
      · have hm1 : n.tmod 1000000 = 0 := hmf.1.2 hm
        have hq : sgn true (farF n / 1000000) = n.tdiv 1000000 := hmf.2
        rw [if_pos ⟨hm, by rw [← tx_len, hR]; exact hs19⟩, fit_of (Nat.le_trans (Nat.div_le_self _ _) hft)] at hR4
        dsimp only at hR4
        rw [hq] at hR4
        obtain ⟨q, hqe⟩ : ∃ q, n.tdiv 1000000 = q := ⟨_, rfl⟩
        rw [hqe] at hR4 hqi
        obtain ⟨q1, q2⟩ := hqi
        have hs19' : (R.size : Int) ≤ 19 := by omega
        clear hq hm hs19
        clear hmf hft hfl hrl hbl 
        have HR := Lib.hid hR
        clear hR
        go_enter Tryd.func5, Tryd.ntmps5
        go_wp2_with fail
        refine (examples_any _ HT.out).mono ?_
        rintro e w1 ⟨rfl, hB1⟩
        have hE1 := hB1
        clear hB1
        go_wp2_with fail
        refine (tn _ (HT.out.below hE1)).mono ?_
        rintro e w2 ⟨rfl, hB2⟩
        have hE2 := hE1.trans (hB2.mono hE1.size)
        clear hB2 hE1
        clear tn
        go_wp2
        go_loop [8, 10] (fun s8 i => ∃ k : Nat, k ≤ z ∧ i = .int .i64 k ∧ s8 = .string (tx (List.replicate k 48 ++ bodyF n))) (fun _ i => z - (intOf i).toNat)
        case atStart => exact ⟨0, Nat.zero_le _, rfl, by rw [List.replicate_zero, List.nil_append]; exact congrArg Value.string HEX.out⟩
        case round =>
          obtain ⟨k, hk, rfl, rfl⟩ := hrel
          by_cases hlt : k < z
          · have hsz : (⟨#[48]⟩ : ByteArray).size + (tx (List.replicate k 48 ++ bodyF n)).size ≤ 9223372036854775807 := by have h1 := tx_len (List.replicate k 48 ++ bodyF n); have h2 := HRL.out k hlt; show 1 + (tx (List.replicate k 48 ++ bodyF n)).size ≤ _; omega
            go_wp2
            go_round
            case rel => exact ⟨k + 1, by omega, by go_num, by rw [List.replicate_succ]; exact congrArg Value.string (tx_app [48] _)⟩
            case measure => simp [intOf]; omega
          · obtain rfl : k = z := by omega
            rw [HR.out]
            clear hlt hk
            go_wp2_with fail
            refine (ra _).mono ?_
            rintro e w3 ⟨rfl, hB3⟩
            have hE3 := hE2.trans (hB3.mono hE2.size)
            clear hB3 hE2
            go_wp2_with fail
            refine (hR2 _).mono ?_
            rintro e w4 ⟨rfl, hB4⟩
            have hE4 := hE3.trans (hB4.mono hE3.size)
            clear hB4 hE3
            go_wp2_with fail
            refine (hR3 _).mono ?_
            rintro e w5 ⟨rfl, hB5⟩
            have hE5 := hE4.trans (hB5.mono hE4.size)
            clear hB5 hE4
            go_wp2_with fail
            refine (hR4 _).mono ?_
            rintro e w6 ⟨rfl, hB6⟩
            have hE6 := hE5.trans (hB6.mono hE5.size)
            clear hB6 hE5
            clear ra hR2 hR3 hR4
            go_wp2
            try go_ret
            exact ⟨rfl, hE6⟩
      · have hm1 : n.tmod 1000000 = 0 := hmf.1.2 hm
        rw [if_neg (fun h => hs19 (by rw [← hR, tx_len]; exact h.2))] at hR4
        have hs19' : ¬ ((R.size : Int) ≤ 19) := by omega
        clear hm hs19
        clear hmf hft hfl hrl hbl hqi
        have HR := Lib.hid hR
        clear hR
        go_enter Tryd.func5, Tryd.ntmps5
        go_wp2_with fail
        refine (examples_any _ HT.out).mono ?_
        rintro e w1 ⟨rfl, hB1⟩
        have hE1 := hB1
        clear hB1
        go_wp2_with fail
        refine (tn _ (HT.out.below hE1)).mono ?_
        rintro e w2 ⟨rfl, hB2⟩
        have hE2 := hE1.trans (hB2.mono hE1.size)
        clear hB2 hE1
        clear tn
        go_wp2
        go_loop [8, 10] (fun s8 i => ∃ k : Nat, k ≤ z ∧ i = .int .i64 k ∧ s8 = .string (tx (List.replicate k 48 ++ bodyF n))) (fun _ i => z - (intOf i).toNat)
        case atStart => exact ⟨0, Nat.zero_le _, rfl, by rw [List.replicate_zero, List.nil_append]; exact congrArg Value.string HEX.out⟩
        case round =>
          obtain ⟨k, hk, rfl, rfl⟩ := hrel
          by_cases hlt : k < z
          · have hsz : (⟨#[48]⟩ : ByteArray).size + (tx (List.replicate k 48 ++ bodyF n)).size ≤ 9223372036854775807 := by have h1 := tx_len (List.replicate k 48 ++ bodyF n); have h2 := HRL.out k hlt; show 1 + (tx (List.replicate k 48 ++ bodyF n)).size ≤ _; omega
            go_wp2
            go_round
            case rel => exact ⟨k + 1, by omega, by go_num, by rw [List.replicate_succ]; exact congrArg Value.string (tx_app [48] _)⟩
            case measure => simp [intOf]; omega
          · obtain rfl : k = z := by omega
            rw [HR.out]
            clear hlt hk
            go_wp2_with fail
            refine (ra _).mono ?_
            rintro e w3 ⟨rfl, hB3⟩
            have hE3 := hE2.trans (hB3.mono hE2.size)
            clear hB3 hE2
            go_wp2_with fail
            refine (hR2 _).mono ?_
            rintro e w4 ⟨rfl, hB4⟩
            have hE4 := hE3.trans (hB4.mono hE3.size)
            clear hB4 hE3
            go_wp2_with fail
            refine (hR3 _).mono ?_
            rintro e w5 ⟨rfl, hB5⟩
            have hE5 := hE4.trans (hB5.mono hE4.size)
            clear hB5 hE4
            go_wp2_with fail
            refine (hR4 _).mono ?_
            rintro e w6 ⟨rfl, hB6⟩
            have hE6 := hE5.trans (hB6.mono hE5.size)
            clear hB6 hE5
            clear ra hR2 hR3 hR4
            go_wp2
            try go_ret
            exact ⟨rfl, hE6⟩
    · have hm1 : (n.tmod 1000000 == 0) = false := by rw [beq_eq_false_iff_ne]; exact fun h => hm (hmf.1.1 h)
      rw [if_neg (fun h => hm h.1)] at hR4
      clear hm
      clear hmf hft hfl hrl hbl hqi
      have HR := Lib.hid hR
      clear hR
      go_enter Tryd.func5, Tryd.ntmps5
      go_wp2_with fail
      refine (examples_any _ HT.out).mono ?_
      rintro e w1 ⟨rfl, hB1⟩
      have hE1 := hB1
      clear hB1
      go_wp2_with fail
      refine (tn _ (HT.out.below hE1)).mono ?_
      rintro e w2 ⟨rfl, hB2⟩
      have hE2 := hE1.trans (hB2.mono hE1.size)
      clear hB2 hE1
      clear tn
      go_wp2
      go_loop [8, 10] (fun s8 i => ∃ k : Nat, k ≤ z ∧ i = .int .i64 k ∧ s8 = .string (tx (List.replicate k 48 ++ bodyF n))) (fun _ i => z - (intOf i).toNat)
      case atStart => exact ⟨0, Nat.zero_le _, rfl, by rw [List.replicate_zero, List.nil_append]; exact congrArg Value.string HEX.out⟩
      case round =>
        obtain ⟨k, hk, rfl, rfl⟩ := hrel
        by_cases hlt : k < z
        · have hsz : (⟨#[48]⟩ : ByteArray).size + (tx (List.replicate k 48 ++ bodyF n)).size ≤ 9223372036854775807 := by have h1 := tx_len (List.replicate k 48 ++ bodyF n); have h2 := HRL.out k hlt; show 1 + (tx (List.replicate k 48 ++ bodyF n)).size ≤ _; omega
          go_wp2
          go_round
          case rel => exact ⟨k + 1, by omega, by go_num, by rw [List.replicate_succ]; exact congrArg Value.string (tx_app [48] _)⟩
          case measure => simp [intOf]; omega
        · obtain rfl : k = z := by omega
          rw [HR.out]
          clear hlt hk
          go_wp2_with fail
          refine (ra _).mono ?_
          rintro e w3 ⟨rfl, hB3⟩
          have hE3 := hE2.trans (hB3.mono hE2.size)
          clear hB3 hE2
          go_wp2_with fail
          refine (hR2 _).mono ?_
          rintro e w4 ⟨rfl, hB4⟩
          have hE4 := hE3.trans (hB4.mono hE3.size)
          clear hB4 hE3
          go_wp2_with fail
          refine (hR3 _).mono ?_
          rintro e w5 ⟨rfl, hB5⟩
          have hE5 := hE4.trans (hB5.mono hE4.size)
          clear hB5 hE4
          go_wp2_with fail
          refine (hR4 _).mono ?_
          rintro e w6 ⟨rfl, hB6⟩
          have hE6 := hE5.trans (hB6.mono hE5.size)
          clear hB6 hE5
          clear ra hR2 hR3 hR4
          go_wp2
          try go_ret
          exact ⟨rfl, hE6⟩
  · have hsg : sgL n = [] := if_neg hneg
    have hnb : negB n = false := decide_eq_false hneg
    have htx : textF n = [] ++ bodyF n := by rw [text_body, hsg]
    rw [htx] at tn ra
    rw [hnb] at hmf hft
    have hR2 := fun w => readL_any ([43] ++ (List.replicate z 48 ++ bodyF n)) (by unfold maxLen; have := hrl z; simp at this ⊢; omega) w
    have hR3 := fun w => readL_any (([] ++ (List.replicate z 48 ++ bodyF n)) ++ [101, 48]) (by unfold maxLen; have := hrl z; simp at this ⊢; omega) w
    have hR4 := fun w => wholeL_any ([] ++ (List.replicate z 48 ++ bodyF n)) (by unfold maxLen; have := hrl z; simp at this ⊢; omega) w
    have q2 : readF ([43] ++ (List.replicate z 48 ++ bodyF n)) = (n, 0) := by
      have := read_body hi (s := [43]) (b := false) (x := []) (SgT.plus) ExT.none z (by have := hrl z; simp at this ⊢; omega)
      simp only [List.append_nil] at this
      rw [this, fit_of hft, ← hnb, sgn_far]
    have q3 : readF (([] ++ (List.replicate z 48 ++ bodyF n)) ++ [101, 48]) = (n, 0) := by
      have hE : ExT [101, 48] 0 := ExT.some (c := 101) (s := []) (b := false) (d := [48]) (.inl rfl) SgT.none (by intro c hc; rw [List.mem_singleton.1 hc]; decide) (by decide) (by decide)
      have := read_body hi (s := []) (b := false) (x := [101, 48]) (SgT.none) hE z (by have := hrl z; simp at this ⊢; omega)
      rw [show ([] ++ (List.replicate z 48 ++ bodyF n)) ++ [101, 48] = [] ++ ((List.replicate z 48 ++ bodyF n) ++ [101, 48]) by simp, this, fit_of hft, ← hnb, sgn_far]
    have q4 := hwh (s := []) (b := false) (.inl ⟨rfl, rfl⟩)
    rw [q2] at hR2
    rw [q3] at hR3
    rw [q4] at hR4
    clear q2 q3 q4 hwh
    rw [← tx_app] at hR2
    rw [← tx_app] at hR3
    rw [List.nil_append] at hR3 hR4
    obtain ⟨hz0, hx0, hex⟩ := first_of (s := tx ([] ++ bodyF n)) (c := c) (t := t) hct
    have hc45 : ((c.toNat : Int) == 45) = false := by
      rw [beq_eq_false_iff_ne]
      intro h
      exact hc1 (UInt8.toNat_inj.1 (by have : c.toNat = 45 := by omega
                                       rw [this]; rfl))
    have hex : tx ([] ++ bodyF n) = tx (bodyF n) := by rw [List.nil_append]
    have hemp := tx_ne2 (l := [] ++ bodyF n) (by rw [hct]; simp)
    have hRs : (tx (List.replicate z 48 ++ bodyF n)).size ≤ 40 := by rw [tx_len, hrl]; omega
    obtain ⟨R, hR⟩ : ∃ R, tx (List.replicate z 48 ++ bodyF n) = R := ⟨_, rfl⟩
    rw [hR] at hR2 hR3 hR4 hRs
    have s1 : (⟨#[43]⟩ : ByteArray).size + R.size ≤ 9223372036854775807 := by show 1 + R.size ≤ _; omega
    have s2 : R.size + (⟨#[101, 48]⟩ : ByteArray).size ≤ 9223372036854775807 := by show R.size + 2 ≤ _; omega
    have hrl2 : ∀ k : Nat, k < z → (List.replicate k 48 ++ bodyF n).length ≤ 40 := fun k hk => by rw [hrl]; omega
    have HRL := Lib.hid hrl2
    clear hrl2
    have HEX := Lib.hid hex
    clear hex hT hn hy hsg htx hct hnb
    generalize tx ([] ++ bodyF n) = T at *
    by_cases hm : farF n % 1000000 = 0
    · by_cases hs19 : R.size ≤ 19
      · have hm1 : n % 1000000 = 0 := by have := hmf.1.2 hm; rwa [Int.tmod_eq_emod_of_nonneg (by omega)] at this
        have hq : sgn false (farF n / 1000000) = n.tdiv 1000000 := hmf.2
        rw [if_pos ⟨hm, by rw [← tx_len, hR]; exact hs19⟩, fit_of (Nat.le_trans (Nat.div_le_self _ _) hft)] at hR4
        dsimp only at hR4
        rw [hq] at hR4
        obtain ⟨q, hqe⟩ : ∃ q, n.tdiv 1000000 = q := ⟨_, rfl⟩
        rw [hqe] at hR4 hqi
        obtain ⟨q1, q2⟩ := hqi
        have hs19' : (R.size : Int) ≤ 19 := by omega
        clear hq hm hs19
        clear hmf hft hfl hrl hbl 
        have HR := Lib.hid hR
        clear hR
        go_enter Tryd.func5, Tryd.ntmps5
        go_wp2_with fail
        refine (examples_any _ HT.out).mono ?_
        rintro e w1 ⟨rfl, hB1⟩
        have hE1 := hB1
        clear hB1
        go_wp2_with fail
        refine (tn _ (HT.out.below hE1)).mono ?_
        rintro e w2 ⟨rfl, hB2⟩
        have hE2 := hE1.trans (hB2.mono hE1.size)
        clear hB2 hE1
        clear tn
        go_wp2
        go_loop [8, 10] (fun s8 i => ∃ k : Nat, k ≤ z ∧ i = .int .i64 k ∧ s8 = .string (tx (List.replicate k 48 ++ bodyF n))) (fun _ i => z - (intOf i).toNat)
        case atStart => exact ⟨0, Nat.zero_le _, rfl, by rw [List.replicate_zero, List.nil_append, HEX.out]⟩
        case round =>
          obtain ⟨k, hk, rfl, rfl⟩ := hrel
          by_cases hlt : k < z
          · have hsz : (⟨#[48]⟩ : ByteArray).size + (tx (List.replicate k 48 ++ bodyF n)).size ≤ 9223372036854775807 := by have h1 := tx_len (List.replicate k 48 ++ bodyF n); have h2 := HRL.out k hlt; show 1 + (tx (List.replicate k 48 ++ bodyF n)).size ≤ _; omega
            go_wp2
            go_round
            case rel => exact ⟨k + 1, by omega, by go_num, by rw [List.replicate_succ]; exact congrArg Value.string (tx_app [48] _)⟩
            case measure => simp [intOf]; omega
          · obtain rfl : k = z := by omega
            rw [HR.out]
            clear hlt hk
            go_wp2_with fail
            refine (ra _).mono ?_
            rintro e w3 ⟨rfl, hB3⟩
            have hE3 := hE2.trans (hB3.mono hE2.size)
            clear hB3 hE2
            go_wp2_with fail
            refine (hR2 _).mono ?_
            rintro e w4 ⟨rfl, hB4⟩
            have hE4 := hE3.trans (hB4.mono hE3.size)
            clear hB4 hE3
            go_wp2_with fail
            refine (hR3 _).mono ?_
            rintro e w5 ⟨rfl, hB5⟩
            have hE5 := hE4.trans (hB5.mono hE4.size)
            clear hB5 hE4
            go_wp2_with fail
            refine (hR4 _).mono ?_
            rintro e w6 ⟨rfl, hB6⟩
            have hE6 := hE5.trans (hB6.mono hE5.size)
            clear hB6 hE5
            clear ra hR2 hR3 hR4
            go_wp2
            try go_ret
            exact ⟨rfl, hE6⟩
      · have hm1 : n % 1000000 = 0 := by have := hmf.1.2 hm; rwa [Int.tmod_eq_emod_of_nonneg (by omega)] at this
        rw [if_neg (fun h => hs19 (by rw [← hR, tx_len]; exact h.2))] at hR4
        have hs19' : ¬ ((R.size : Int) ≤ 19) := by omega
        clear hm hs19
        clear hmf hft hfl hrl hbl hqi
        have HR := Lib.hid hR
        clear hR
        go_enter Tryd.func5, Tryd.ntmps5
        go_wp2_with fail
        refine (examples_any _ HT.out).mono ?_
        rintro e w1 ⟨rfl, hB1⟩
        have hE1 := hB1
        clear hB1
        go_wp2_with fail
        refine (tn _ (HT.out.below hE1)).mono ?_
        rintro e w2 ⟨rfl, hB2⟩
        have hE2 := hE1.trans (hB2.mono hE1.size)
        clear hB2 hE1
        clear tn
        go_wp2
        go_loop [8, 10] (fun s8 i => ∃ k : Nat, k ≤ z ∧ i = .int .i64 k ∧ s8 = .string (tx (List.replicate k 48 ++ bodyF n))) (fun _ i => z - (intOf i).toNat)
        case atStart => exact ⟨0, Nat.zero_le _, rfl, by rw [List.replicate_zero, List.nil_append, HEX.out]⟩
        case round =>
          obtain ⟨k, hk, rfl, rfl⟩ := hrel
          by_cases hlt : k < z
          · have hsz : (⟨#[48]⟩ : ByteArray).size + (tx (List.replicate k 48 ++ bodyF n)).size ≤ 9223372036854775807 := by have h1 := tx_len (List.replicate k 48 ++ bodyF n); have h2 := HRL.out k hlt; show 1 + (tx (List.replicate k 48 ++ bodyF n)).size ≤ _; omega
            go_wp2
            go_round
            case rel => exact ⟨k + 1, by omega, by go_num, by rw [List.replicate_succ]; exact congrArg Value.string (tx_app [48] _)⟩
            case measure => simp [intOf]; omega
          · obtain rfl : k = z := by omega
            rw [HR.out]
            clear hlt hk
            go_wp2_with fail
            refine (ra _).mono ?_
            rintro e w3 ⟨rfl, hB3⟩
            have hE3 := hE2.trans (hB3.mono hE2.size)
            clear hB3 hE2
            go_wp2_with fail
            refine (hR2 _).mono ?_
            rintro e w4 ⟨rfl, hB4⟩
            have hE4 := hE3.trans (hB4.mono hE3.size)
            clear hB4 hE3
            go_wp2_with fail
            refine (hR3 _).mono ?_
            rintro e w5 ⟨rfl, hB5⟩
            have hE5 := hE4.trans (hB5.mono hE4.size)
            clear hB5 hE4
            go_wp2_with fail
            refine (hR4 _).mono ?_
            rintro e w6 ⟨rfl, hB6⟩
            have hE6 := hE5.trans (hB6.mono hE5.size)
            clear hB6 hE5
            clear ra hR2 hR3 hR4
            go_wp2
            try go_ret
            exact ⟨rfl, hE6⟩
    · have hm1 : (n % 1000000 == 0) = false := by rw [beq_eq_false_iff_ne]; exact fun h => hm (hmf.1.1 (by rw [Int.tmod_eq_emod_of_nonneg (by omega)]; exact h))
      rw [if_neg (fun h => hm h.1)] at hR4
      clear hm
      clear hmf hft hfl hrl hbl hqi
      have HR := Lib.hid hR
      clear hR
      go_enter Tryd.func5, Tryd.ntmps5
      go_wp2_with fail
      refine (examples_any _ HT.out).mono ?_
      rintro e w1 ⟨rfl, hB1⟩
      have hE1 := hB1
      clear hB1
      go_wp2_with fail
      refine (tn _ (HT.out.below hE1)).mono ?_
      rintro e w2 ⟨rfl, hB2⟩
      have hE2 := hE1.trans (hB2.mono hE1.size)
      clear hB2 hE1
      clear tn
      go_wp2
      go_loop [8, 10] (fun s8 i => ∃ k : Nat, k ≤ z ∧ i = .int .i64 k ∧ s8 = .string (tx (List.replicate k 48 ++ bodyF n))) (fun _ i => z - (intOf i).toNat)
      case atStart => exact ⟨0, Nat.zero_le _, rfl, by rw [List.replicate_zero, List.nil_append, HEX.out]⟩
      case round =>
        obtain ⟨k, hk, rfl, rfl⟩ := hrel
        by_cases hlt : k < z
        · have hsz : (⟨#[48]⟩ : ByteArray).size + (tx (List.replicate k 48 ++ bodyF n)).size ≤ 9223372036854775807 := by have h1 := tx_len (List.replicate k 48 ++ bodyF n); have h2 := HRL.out k hlt; show 1 + (tx (List.replicate k 48 ++ bodyF n)).size ≤ _; omega
          go_wp2
          go_round
          case rel => exact ⟨k + 1, by omega, by go_num, by rw [List.replicate_succ]; exact congrArg Value.string (tx_app [48] _)⟩
          case measure => simp [intOf]; omega
        · obtain rfl : k = z := by omega
          rw [HR.out]
          clear hlt hk
          go_wp2_with fail
          refine (ra _).mono ?_
          rintro e w3 ⟨rfl, hB3⟩
          have hE3 := hE2.trans (hB3.mono hE2.size)
          clear hB3 hE2
          go_wp2_with fail
          refine (hR2 _).mono ?_
          rintro e w4 ⟨rfl, hB4⟩
          have hE4 := hE3.trans (hB4.mono hE3.size)
          clear hB4 hE3
          go_wp2_with fail
          refine (hR3 _).mono ?_
          rintro e w5 ⟨rfl, hB5⟩
          have hE5 := hE4.trans (hB5.mono hE4.size)
          clear hB5 hE4
          go_wp2_with fail
          refine (hR4 _).mono ?_
          rintro e w6 ⟨rfl, hB6⟩
          have hE6 := hE5.trans (hB6.mono hE5.size)
          clear hB6 hE5
          clear ra hR2 hR3 hR4
          go_wp2
          try go_ret
          exact ⟨rfl, hE6⟩
end Go.Proofs.YtpbphocpkmkoeaaDoor
