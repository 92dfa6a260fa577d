/- SlotChurn. -/
import Derived.Test.YtiiadoeohmcfiaaSlJ
import Derived.Test.YtiiadoeohmcfiaaLaw
namespace Go.Proofs.Ytiiadoeohmcfiaa
open Go Go.RowKit

theorem wrap_ofNat (n : Nat) : IntKind.u8.wrap (n : Int) = ((UInt8.ofNat n).toNat : Int) := by
  rw [UInt8.toNat_ofNat']
  simp [IntKind.wrap, IntKind.signed, IntKind.bits]
/-- The key of a number. -/
def chK (i : Nat) : Key := [UInt8.ofNat (i / 65536), UInt8.ofNat (i / 256), UInt8.ofNat i, 107]
theorem chK_ne (i : Nat) : chK i ≠ [] := by simp [chK]
theorem chK_inj {i j : Nat} (hi : i < 65536) (hj : j < 65536) (h : chK i = chK j) : i = j := by
  unfold chK at h
  simp only [List.cons.injEq, and_true] at h
  have h1 := congrArg UInt8.toNat h.2.1
  have h2 := congrArg UInt8.toNat h.2.2
  rw [UInt8.toNat_ofNat', UInt8.toNat_ofNat'] at h1 h2
  omega
theorem bytes4_in (a b c d : UInt8) (W : World) (g : Nat) (h0 : W.cell? ⟨g, 0, none⟩ = some (.int .u8 (a.toNat : Int))) (h1 : W.cell? ⟨g, 1, none⟩ = some (.int .u8 (b.toNat : Int))) (h2 : W.cell? ⟨g, 2, none⟩ = some (.int .u8 (c.toNat : Int))) (h3 : W.cell? ⟨g, 3, none⟩ = some (.int .u8 (d.toNat : Int))) :
    (convert 50 9 (.slice (some ⟨g, 0, none⟩) 4 4)).run Try.prog W = .ok (.string (tx [a, b, c, d])) W :=
  run_convert_bytes_back (P := Try.prog) W 50 9 5 ⟨g, 0, none⟩ 4 [a, b, c, d] Try.underlying50 Try.underlying5 Try.underlying9 (fun j hj => by
    rw [Addr.add_lit, Nat.zero_add]
    match j, hj with
    | 0, _ => exact h0
    | 1, _ => exact h1
    | 2, _ => exact h2
    | 3, _ => exact h3)
set_option maxRecDepth 100000 in
set_option maxHeartbeats 4000000 in
theorem chkey_any (i : Nat) (hi : i < 65536) (w : World) :
    Calls Try.prog 23 #[.int .i64 (i : Int)] w fun e w' => e = .returned (.string (tx (chK i))) ∧ Below w.heap.size w w' := by
  have q2 : (i : Int) / 65536 = ((i / 65536 : Nat) : Int) := by omega
  have q1 : (i : Int) / 256 = ((i / 256 : Nat) : Int) := by omega
  have w2 := wrap_ofNat (i / 65536)
  have w1 := wrap_ofNat (i / 256)
  have w0 := wrap_ofNat i
  have one := bytes4_in (UInt8.ofNat (i / 65536)) (UInt8.ofNat (i / 256)) (UInt8.ofNat i) 107
  have e7 : ((107 : UInt8).toNat : Int) = 107 := rfl
  rw [e7] at one
  have hi2 : (i : Int) < 65536 := by omega
  obtain ⟨x2, hx2⟩ : ∃ x, (UInt8.ofNat (i / 65536)).toNat = x := ⟨_, rfl⟩
  obtain ⟨x1, hx1⟩ : ∃ x, (UInt8.ofNat (i / 256)).toNat = x := ⟨_, rfl⟩
  obtain ⟨x0, hx0⟩ : ∃ x, (UInt8.ofNat i).toNat = x := ⟨_, rfl⟩
  rw [hx2] at one w2
  rw [hx1] at one w1
  rw [hx0] at one w0
  have HL : Hid (tx [UInt8.ofNat (i / 65536), UInt8.ofNat (i / 256), UInt8.ofNat i, 107] = tx (chK i)) := Lib.hid rfl
  rw [HL.out] at one
  obtain ⟨T, hT⟩ : ∃ T, tx (chK i) = T := ⟨_, rfl⟩
  rw [hT] at one ⊢
  clear HL hT e7 hx0 hx1 hx2
  generalize i / 65536 = y2 at *
  generalize i / 256 = y1 at *
  go_enter Try.func23, Try.ntmps23
  go_wp2
  go_ret
  exact ⟨rfl, (Below.refl _ _).alloc (Nat.le_refl _) _⟩
/-- What stands in slot j when i keys have come. -/
def churn (n : Nat) : Nat → Nat → Key
  | 0 => fun _ => []
  | i + 1 => Sl.putK (churn n i) (i % n) (chK i)
theorem churn_succ (n i j : Nat) : churn n (i + 1) j = if j = i % n then chK i else churn n i j := rfl
theorem churn_nil (n : Nat) : ∀ i j, i ≤ j → churn n i j = []
  | 0, _, _ => rfl
  | i + 1, j, h => by
    rw [churn_succ, if_neg (by have := Nat.mod_le i n; omega)]
    exact churn_nil n i j (by omega)
theorem churn_ne {n : Nat} : ∀ i j, j < n → j < i → churn n i j ≠ []
  | 0, _, _, h => absurd h (Nat.not_lt_zero _)
  | i + 1, j, hj, h => by
    rw [churn_succ]
    split
    · exact chK_ne i
    · rename_i hne
      have hji : j ≠ i := fun e => hne (by rw [e, Nat.mod_eq_of_lt (e ▸ hj)])
      exact churn_ne i j hj (by omega)
theorem churn_of (n : Nat) : ∀ i j, churn n i j = [] ∨ ∃ q, q < i ∧ q % n = j ∧ churn n i j = chK q
  | 0, _ => .inl rfl
  | i + 1, j => by
    rw [churn_succ]
    split
    · rename_i h
      exact .inr ⟨i, by omega, h.symm, rfl⟩
    · rcases churn_of n i j with h | ⟨q, h1, h2, h3⟩
      · exact .inl h
      · exact .inr ⟨q, by omega, h2, h3⟩
theorem churn_last {n q : Nat} : ∀ i, q < i → i ≤ q + n → churn n i (q % n) = chK q
  | 0, h, _ => absurd h (Nat.not_lt_zero _)
  | i + 1, h, h2 => by
    rw [churn_succ]
    rcases Nat.lt_succ_iff_lt_or_eq.1 h with h3 | rfl
    · rw [if_neg (fun e => ?_)]
      · exact churn_last i h3 (by omega)
      · have h4 := Nat.sub_mod_eq_zero_of_mod_eq e.symm
        rw [Nat.mod_eq_of_lt (by omega)] at h4
        omega
    · rw [if_pos rfl]
theorem churn_new {n i j : Nat} (hi : i < 65536) : churn n i j ≠ chK i := fun e => by
  rcases churn_of n i j with h | ⟨q, h1, _, h3⟩
  · exact chK_ne i (e.symm.trans h)
  · have := chK_inj (by omega) hi (h3.symm.trans e)
    omega
theorem churn_add {n i : Nat} (hi : i < 65536) (hin : i < n) : addK (tabF n (churn n i)) (chK i) = (i, 0, tabF n (churn n (i + 1))) := by
  rw [addF (f := churn n i) (chK_ne i) (by simp [chK]) (fun j _ => churn_new hi) hin (churn_nil n i i (Nat.le_refl _)) (fun j hj => churn_ne i j (by omega) hj)]
  have : Sl.putK (churn n i) i (chK i) = churn n (i + 1) := by
    funext j
    rw [churn_succ, Nat.mod_eq_of_lt hin]
    rfl
  rw [this]
theorem churn_drop {n i : Nat} (hn : 0 < n) (hi : i < 65536) (hin : n ≤ i) :
    findK (tabF n (churn n i)) (chK (i - n)) = some (i % n) ∧ dropK (tabF n (churn n i)) (chK (i - n)) = tabF n (Sl.putK (churn n i) (i % n) []) := by
  have hs : i % n < n := Nat.mod_lt _ hn
  have hm : (i - n) % n = i % n := (Nat.mod_eq_sub_mod hin).symm
  have hl := churn_last (n := n) (q := i - n) i (by omega) (by omega)
  rw [hm] at hl
  have hu : ∀ j, j < i % n → churn n i j ≠ chK (i - n) := fun j hj e => by
    rcases churn_of n i j with h | ⟨q, h1, h2, h3⟩
    · exact chK_ne _ (e.symm.trans h)
    · have := chK_inj (by omega) (by omega) (h3.symm.trans e)
      rw [this, hm] at h2
      omega
  exact ⟨findF (chK_ne _) hs hl hu, dropF (chK_ne _) hs hl hu⟩
theorem churn_again {n i : Nat} (hn : 0 < n) (hi : i < 65536) (hin : n ≤ i) : addK (tabF n (Sl.putK (churn n i) (i % n) [])) (chK i) = (i % n, 0, tabF n (churn n (i + 1))) := by
  have hs : i % n < n := Nat.mod_lt _ hn
  rw [addF (chK_ne i) (by simp [chK]) (fun j _ e => ?_) hs (Sl.putK_same _ _ _) (fun j hj => ?_)]
  · have : Sl.putK (Sl.putK (churn n i) (i % n) []) (i % n) (chK i) = churn n (i + 1) := by
      funext j
      rw [churn_succ]
      unfold Sl.putK
      split <;> rfl
    rw [this]
  · unfold Sl.putK at e
    split at e
    · exact chK_ne i e.symm
    · exact churn_new hi e
  · rw [Sl.putK_other _ _ (by omega)]
    exact churn_ne i j (by omega) (by omega)
theorem churn_len (n N : Nat) : (slotsK (tabF n (churn n N))).length = min n N := by
  rcases Nat.le_total n N with h | h
  · rw [slots_all (fun j hj => churn_ne N j hj (by omega)), Nat.min_eq_left h]
  · rw [slots_below h (fun j hj => churn_ne N j (by omega) hj) (fun j hj => churn_nil n N j hj), Nat.min_eq_right h]

set_option maxRecDepth 100000 in
set_option maxHeartbeats 8000000 in
theorem SlotChurn_walk (a : Int) (ha : (Lit.int .u8 a).wf = true) (b : Int) (hb : (Lit.int .u16 b).wf = true) (w : World) :
    Calls Try.prog 5 #[.int .u8 a, .int .u16 b] w fun e w' => e = .returned (.bool true) ∧ Below w.heap.size w w' := by
  have ga : 0 ≤ a ∧ a ≤ 255 := by simpa [Lit.wf, IntKind.min, IntKind.max, IntKind.signed, IntKind.bits] using ha
  have gb : 0 ≤ b ∧ b ≤ 65535 := by simpa [Lit.wf, IntKind.min, IntKind.max, IntKind.signed, IntKind.bits] using hb
  obtain ⟨x, rfl⟩ : ∃ x : Nat, a = x := ⟨a.toNat, by omega⟩
  obtain ⟨y, rfl⟩ : ∃ y : Nat, b = y := ⟨b.toNat, by omega⟩
  obtain ⟨m, hm, hm7⟩ : ∃ m, x % 8 = m ∧ m ≤ 7 := ⟨_, rfl, by omega⟩
  have hmi : (x : Int) % 8 = (m : Int) := by omega
  obtain ⟨n, hn⟩ : ∃ n, 1 + m = n := ⟨_, rfl⟩
  have hni : 1 + (m : Int) = (n : Int) := by omega
  have hn8 : n ≤ 8 := by omega
  have hn1 : 1 ≤ n := by omega
  obtain ⟨N, hN, hN2⟩ : ∃ N, y % 2001 = N ∧ N ≤ 2000 := ⟨_, rfl, by omega⟩
  have hNi : (y : Int) % 2001 = (N : Int) := by omega
  have hex := fun w => examples_any w
  have hnew := fun w => new_any n hn1 (by omega) w
  have hy : (y : Int) < 65536 := by omega
  clear ha hb ga gb hm hn hN
  go_enter Try.func5, Try.ntmps5
  go_wp2_with fail
  refine (hex _).mono ?_
  rintro e w1 ⟨rfl, hB1⟩
  have HB1 := Lib.hid hB1
  clear hex hB1
  go_wp2_with fail
  refine (hnew _).mono ?_
  rintro e w2 ⟨rfl, hB2, hlt, hT⟩
  have HB2 := Lib.hid (HB1.out.trans (hB2.mono HB1.out.size))
  have hlow : w.heap.size ≤ w1.heap.size := HB1.out.size
  have HT : Hid (TabE w1.heap.size (tabF n (churn n 0)) w2) := Lib.hid (by
    rw [tabF_rep] at hT
    exact hT)
  clear hnew hB2 HB1 hT hlt
  generalize w1.heap.size = B at *
  go_wp2
  go_loopg [10, 11, 12] N (fun g s10 s11 s12 wx => ∃ i : Nat, s10 = .int .i64 (i : Int) ∧ i + g = N ∧ Hid (TabE B (tabF n (churn n i)) wx) ∧ Hid (Below w.heap.size w wx))
  case atStart => exact ⟨0, rfl, by omega, HT, HB2⟩
  case round =>
    clear HT HB2
    obtain ⟨i, rfl, hi, HT, HB⟩ := hrel
    cases gk with
    | succ g =>
      have hiN : i < N := by omega
      have hk := fun w => chkey_any i (by omega) w
      by_cases hin : i < n
      · have hmod : (i : Int).tmod (n : Int) = (i : Int) := by rw [Int.tmod_eq_emod_of_nonneg (by omega), Int.emod_eq_of_lt (by omega) (by omega)]
        have hmod2 : (i : Int) % (n : Int) = (i : Int) := Int.emod_eq_of_lt (by omega) (by omega)
        have HA : Hid (∀ W, TabE B (tabF n (churn n i)) W → Calls Try.prog 15 #[.pointer (some ⟨B, 0, none⟩), .string (tx (chK i))] W fun e w' => e = .returned (.tuple #[.int .i64 (i : Int), .int .i64 0]) ∧ Chg B W w' ∧ TabE B (tabF n (churn n (i + 1))) w') := Lib.hid (fun W hW => by
          have := add_e (chK i) (one_fit (by simp [chK])) hW
          rw [churn_add (by omega) hin] at this
          exact this)
        have HMD := Lib.hid hmod
        have HMD2 := Lib.hid hmod2
        clear hmod hmod2
        have hge : decide ((n : Int) ≤ (i : Int)) = false := by rw [decide_eq_false_iff_not]; omega
        have hi0 : (0 : Int) ≤ (i : Int) := by omega
        have hi1 : (i : Int) ≤ 2000 := by omega
        clear hmi hni hy
        go_wp2_with fail
        refine (hk _).mono ?_
        rintro e w3 ⟨rfl, hB3⟩
        have HT3 := Lib.hid (HT.out.below hB3)
        have HB3 := Lib.hid (HB.out.trans (hB3.mono HB.out.size))
        clear hk hB3 HT HB
        go_wp2_with fail
        refine (HA.out _ HT3.out).mono ?_
        rintro e w4 ⟨rfl, hC, hT4⟩
        have HT4 := Lib.hid hT4
        have HB4 := Lib.hid (HB3.out.trans (hC.below hlow HB3.out.size))
        have hmod := HMD.out
        have hmod2 := HMD2.out
        clear HT3 HB3 hC hT4 HA
        go_wp2
        go_roundg g
        case measure => omega
        case rel => exact ⟨i + 1, by go_num, by omega, HT4, HB4⟩
      · have hni2 : n ≤ i := by omega
        obtain ⟨s, hs⟩ : ∃ s, i % n = s := ⟨_, rfl⟩
        have hsn : s < n := by rw [← hs]; exact Nat.mod_lt _ hn1
        have hmod2 : (i : Int) % (n : Int) = (s : Int) := by rw [← hs]; rfl
        have hmod : (i : Int).tmod (n : Int) = (s : Int) := by rw [Int.tmod_eq_emod_of_nonneg (by omega), hmod2]
        obtain ⟨d, hd⟩ : ∃ d, i - n = d := ⟨_, rfl⟩
        have hdi : (i : Int) - (n : Int) = (d : Int) := by omega
        have hkd := fun w => chkey_any d (by omega) w
        have HD : Hid (∀ W, TabE B (tabF n (churn n i)) W → Calls Try.prog 11 #[.pointer (some ⟨B, 0, none⟩), .string (tx (chK d))] W fun e w' => e = .returned (.bool true) ∧ Chg B W w' ∧ TabE B (tabF n (Sl.putK (churn n i) (i % n) [])) w') := Lib.hid (fun W hW => by
          have := drop_e (chK d) (one_fit (by simp [chK])) hW
          rw [← hd, (churn_drop (by omega) (by omega) hni2).1, (churn_drop (by omega) (by omega) hni2).2] at this
          rw [← hd]
          exact this)
        have HA : Hid (∀ W, TabE B (tabF n (Sl.putK (churn n i) (i % n) [])) W → Calls Try.prog 15 #[.pointer (some ⟨B, 0, none⟩), .string (tx (chK i))] W fun e w' => e = .returned (.tuple #[.int .i64 (s : Int), .int .i64 0]) ∧ Chg B W w' ∧ TabE B (tabF n (churn n (i + 1))) w') := Lib.hid (fun W hW => by
          have := add_e (chK i) (one_fit (by simp [chK])) hW
          rw [churn_again (by omega) (by omega) hni2, hs] at this
          exact this)
        have HMD := Lib.hid hmod
        have HMD2 := Lib.hid hmod2
        clear hmod hmod2 hs hd
        go_wp2_with fail
        refine (hkd _).mono ?_
        rintro e w3 ⟨rfl, hB3⟩
        have HT3 := Lib.hid (HT.out.below hB3)
        have HB3 := Lib.hid (HB.out.trans (hB3.mono HB.out.size))
        clear hkd hB3 HT HB
        go_wp2_with fail
        refine (HD.out _ HT3.out).mono ?_
        rintro e w4 ⟨rfl, hC, hT4⟩
        have HT4 := Lib.hid hT4
        have HB4 := Lib.hid (HB3.out.trans (hC.below hlow HB3.out.size))
        clear HT3 HB3 hC hT4 HD
        go_wp2_with fail
        refine (hk _).mono ?_
        rintro e w5 ⟨rfl, hB5⟩
        have HT5 := Lib.hid (HT4.out.below hB5)
        have HB5 := Lib.hid (HB4.out.trans (hB5.mono HB4.out.size))
        clear hk hB5 HT4 HB4
        go_wp2_with fail
        refine (HA.out _ HT5.out).mono ?_
        rintro e w6 ⟨rfl, hC, hT6⟩
        have HT6 := Lib.hid hT6
        have HB6 := Lib.hid (HB5.out.trans (hC.below hlow HB5.out.size))
        have hmod := HMD.out
        have hmod2 := HMD2.out
        clear HT5 HB5 hC hT6 HA
        go_wp2
        go_roundg g
        case measure => omega
        case rel => exact ⟨i + 1, by go_num, by omega, HT6, HB6⟩
    | zero =>
      obtain rfl : i = N := by omega
      obtain ⟨mn, hmn⟩ : ∃ mn, min n i = mn := ⟨_, rfl⟩
      have hmin : min (n : Int) (i : Int) = (mn : Int) := by omega
      have HL : Hid (∀ W, TabE B (tabF n (churn n i)) W → Calls Try.prog 19 #[.pointer (some ⟨B, 0, none⟩)] W fun e w' => e = .returned (.int .i64 (mn : Int)) ∧ Below W.heap.size W w') := Lib.hid (fun W hW => by
        have := len_e hW
        rw [churn_len, hmn] at this
        exact this)
      clear hmn
      go_wp2_with fail
      refine (HL.out _ HT.out).mono ?_
      rintro e w3 ⟨rfl, hB⟩
      have HB3 := Lib.hid (HB.out.trans (hB.mono HB.out.size))
      clear HT HB hB HL
      go_wp2
      go_ret
      exact ⟨rfl, HB3.out⟩
end Go.Proofs.Ytiiadoeohmcfiaa
