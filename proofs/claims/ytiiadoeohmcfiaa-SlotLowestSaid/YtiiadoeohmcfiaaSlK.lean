/- SlotLowest. -/
import Derived.Test.YtiiadoeohmcfiaaSlJ
import Derived.Test.YtiiadoeohmcfiaaLaw
namespace Go.Proofs.Ytiiadoeohmcfiaa
open Go Go.RowKit

def ltK (j : Nat) : Key := [UInt8.ofNat (97 + j)]
def nwK (j : Nat) : Key := [110, 101, 119, UInt8.ofNat j]
def f1K (i j : Nat) : Key := if j < i then ltK j else []
def bitK (b j : Nat) : Prop := b / 2 ^ j % 2 = 1
instance (b j : Nat) : Decidable (bitK b j) := by unfold bitK; infer_instance
def f2K (b i j : Nat) : Key := if j < i ∧ bitK b j then [] else ltK j
def f3K (b i j : Nat) : Key := if bitK b j then (if j < i then nwK j else []) else ltK j
theorem ltK_ne (j : Nat) : ltK j ≠ [] := by simp [ltK]
theorem nwK_ne (j : Nat) : nwK j ≠ [] := by simp [nwK]
theorem ltK_inj {i j : Nat} (hi : i < 16) (hj : j < 16) (h : ltK i = ltK j) : i = j := by
  unfold ltK at h
  have := byte_inj (by omega) (by omega) (List.cons.inj h).1
  omega
theorem nwK_inj {i j : Nat} (hi : i < 16) (hj : j < 16) (h : nwK i = nwK j) : i = j := by
  unfold nwK at h
  simp only [List.cons.injEq, and_true, true_and] at h
  exact byte_inj (by omega) (by omega) h
theorem nwK_lt (i j : Nat) : ltK i ≠ nwK j := by simp [ltK, nwK]
theorem low1 {n i : Nat} (hn : n ≤ 16) (hi : i < n) : addK (tabF n (f1K i)) (ltK i) = (i, 0, tabF n (f1K (i + 1))) := by
  rw [addF (ltK_ne i) (by simp [ltK]) (fun j hj h => ?_) hi (by unfold f1K; rw [if_neg (by omega)]) (fun j hj => by unfold f1K; rw [if_pos hj]; exact ltK_ne j)]
  · refine congrArg (fun x => (i, 0, x)) (tabF_congr fun j hj => ?_)
    unfold Sl.putK f1K
    by_cases hji : j = i
    · rw [if_pos hji, if_pos (by omega), hji]
    · rw [if_neg hji]
      by_cases hlt : j < i
      · rw [if_pos hlt, if_pos (by omega)]
      · rw [if_neg hlt, if_neg (by omega)]
  · unfold f1K at h
    split at h
    · have := ltK_inj (by omega) (by omega) h; omega
    · exact ltK_ne i h.symm
theorem low2 {b n i : Nat} (hn : n ≤ 16) (hi : i < n) (hb : bitK b i) : findK (tabF n (f2K b i)) (ltK i) = some i ∧ dropK (tabF n (f2K b i)) (ltK i) = tabF n (f2K b (i + 1)) := by
  have h1 : f2K b i i = ltK i := by unfold f2K; rw [if_neg (by omega)]
  have h2 : ∀ j, j < i → f2K b i j ≠ ltK i := fun j hj h => by
    unfold f2K at h
    split at h
    · exact ltK_ne i h.symm
    · have := ltK_inj (by omega) (by omega) h; omega
  refine ⟨findF (ltK_ne i) hi h1 h2, ?_⟩
  rw [dropF (ltK_ne i) hi h1 h2]
  refine tabF_congr fun j hj => ?_
  unfold Sl.putK f2K
  by_cases hji : j = i
  · rw [if_pos hji, if_pos ⟨by omega, hji ▸ hb⟩]
  · rw [if_neg hji]
    by_cases hc : j < i ∧ bitK b j
    · rw [if_pos hc, if_pos ⟨by omega, hc.2⟩]
    · rw [if_neg hc, if_neg (fun h => hc ⟨by omega, h.2⟩)]
theorem low2_no {b n i : Nat} (hb : ¬ bitK b i) : tabF n (f2K b i) = tabF n (f2K b (i + 1)) := by
  refine tabF_congr fun j hj => ?_
  unfold f2K
  by_cases hc : j < i ∧ bitK b j
  · rw [if_pos hc, if_pos ⟨by omega, hc.2⟩]
  · rw [if_neg hc, if_neg (fun h => hc ⟨by
      rcases Nat.lt_succ_iff_lt_or_eq.1 h.1 with h1 | h1
      · exact h1
      · exact absurd (h1 ▸ h.2) hb, h.2⟩)]
theorem low3 {b n i : Nat} (hn : n ≤ 16) (hi : i < n) (hb : bitK b i) : addK (tabF n (f3K b i)) (nwK i) = (i, 0, tabF n (f3K b (i + 1))) := by
  rw [addF (nwK_ne i) (by simp [nwK]) (fun j hj h => ?_) hi (by unfold f3K; rw [if_pos hb, if_neg (by omega)]) (fun j hj => ?_)]
  · refine congrArg (fun x => (i, 0, x)) (tabF_congr fun j hj => ?_)
    unfold Sl.putK f3K
    by_cases hji : j = i
    · rw [if_pos hji, hji, if_pos hb, if_pos (by omega)]
    · rw [if_neg hji]
      by_cases hc : bitK b j
      · rw [if_pos hc, if_pos hc]
        by_cases hlt : j < i
        · rw [if_pos hlt, if_pos (by omega)]
        · rw [if_neg hlt, if_neg (by omega)]
      · rw [if_neg hc, if_neg hc]
  · unfold f3K at h
    split at h
    · split at h
      · have := nwK_inj (by omega) (by omega) h; omega
      · exact nwK_ne i h.symm
    · exact nwK_lt _ _ h
  · unfold f3K
    split
    · first | exact nwK_ne j | (rw [if_pos hj]; exact nwK_ne j)
    · exact ltK_ne j
theorem low3_no {b n i : Nat} (hb : ¬ bitK b i) : tabF n (f3K b i) = tabF n (f3K b (i + 1)) := by
  refine tabF_congr fun j hj => ?_
  unfold f3K
  by_cases hc : bitK b j
  · rw [if_pos hc, if_pos hc]
    by_cases hlt : j < i
    · rw [if_pos hlt, if_pos (by omega)]
    · rw [if_neg hlt, if_neg (fun h => hlt (by
        rcases Nat.lt_succ_iff_lt_or_eq.1 h with h1 | h1
        · exact h1
        · exact absurd (h1 ▸ hc) hb))]
  · rw [if_neg hc, if_neg hc]
theorem bit_is {b j : Nat} : (((b : Int) / 2 ^ j).tmod 2 = 1 ↔ bitK b j) ∧ (((b : Int) / 2 ^ j).tmod 2 = 0 ↔ ¬ bitK b j) := by
  have h : ((b : Int) / 2 ^ j).tmod 2 = ((b / 2 ^ j % 2 : Nat) : Int) := by
    rw [Int.tmod_eq_emod_of_nonneg (Int.ediv_nonneg (by omega) (Int.le_of_lt (Int.pow_pos (by decide))))]
    push_cast
    rfl
  unfold bitK
  rw [h]
  omega
theorem low12 (b n : Nat) : tabF n (f1K n) = tabF n (f2K b 0) := tabF_congr fun j hj => by
  unfold f1K f2K
  rw [if_pos hj, if_neg (by omega)]
theorem low23 (b n : Nat) : tabF n (f2K b n) = tabF n (f3K b 0) := tabF_congr fun j hj => by
  unfold f2K f3K
  by_cases hc : bitK b j
  · rw [if_pos ⟨hj, hc⟩, if_pos hc, if_neg (by omega)]
  · rw [if_neg (fun h => hc h.2), if_neg hc]
theorem f3K_full {b n j : Nat} (hj : j < n) : f3K b n j ≠ [] := by
  unfold f3K
  split
  · first | exact nwK_ne j | (rw [if_pos hj]; exact nwK_ne j)
  · exact ltK_ne j
theorem low_full (b n : Nat) : addK (tabF n (f3K b n)) [109, 111, 114, 101] = (0, 4, tabF n (f3K b n)) := by
  refine addF_full (by simp) (by simp) (fun j hj h => ?_) (fun j hj => f3K_full hj)
  unfold f3K at h
  split at h
  · first | (simp [nwK] at h; done) | (rw [if_pos hj] at h; simp [nwK] at h)
  · simp [ltK] at h

set_option maxRecDepth 100000 in
set_option maxHeartbeats 8000000 in
theorem SlotLowest_walk (a : Int) (ha : (Lit.int .u8 a).wf = true) (b : Int) (hb : (Lit.int .u16 b).wf = true) (w : World) :
    Calls Try.prog 6 #[.int .u8 a, .int .u16 b] w fun e w' => e = .returned (.bool true) ∧ Below w.heap.size w w' := by
  have ga : 0 ≤ a ∧ a ≤ 255 := by simpa [Lit.wf, IntKind.min, IntKind.max, IntKind.signed, IntKind.bits] using ha
  have gb : 0 ≤ b ∧ b ≤ 65535 := by simpa [Lit.wf, IntKind.min, IntKind.max, IntKind.signed, IntKind.bits] using hb
  obtain ⟨x, rfl⟩ : ∃ x : Nat, a = x := ⟨a.toNat, by omega⟩
  obtain ⟨y, rfl⟩ : ∃ y : Nat, b = y := ⟨b.toNat, by omega⟩
  have hy : (y : Int) < 65536 := by omega
  obtain ⟨m, hm, hm15⟩ : ∃ m, x % 16 = m ∧ m ≤ 15 := ⟨_, rfl, by omega⟩
  have hmi : (x : Int) % 16 = (m : Int) := by omega
  obtain ⟨n, hn⟩ : ∃ n, 1 + m = n := ⟨_, rfl⟩
  have hni : 1 + (m : Int) = (n : Int) := by omega
  have hn16 : n ≤ 16 := by omega
  have hn1 : 1 ≤ n := by omega
  have hex := fun w => examples_any w
  have hnew := fun w => new_any n hn1 (by omega) w
  clear ha hb ga gb hm hn
  go_enter Try.func6, Try.ntmps6
  go_wp2_with fail
  refine (hex _).mono ?_
  rintro e w1 ⟨rfl, hB1⟩
  have HB1 := Lib.hid hB1
  clear hex hB1
  go_wp2_with fail
  refine (hnew _).mono ?_
  rintro e w2 ⟨rfl, hB2, hlt, hT⟩
  have HB2 := Lib.hid (HB1.out.trans (hB2.mono HB1.out.size))
  have hlow : w.heap.size ≤ w1.heap.size := HB1.out.size
  have HT : Hid (TabE w1.heap.size (tabF n (f1K 0)) w2) := Lib.hid (by
    rw [tabF_rep] at hT
    rw [tabF_congr (f := f1K 0) (g := fun _ => []) (fun j _ => by unfold f1K; rw [if_neg (by omega)])]
    exact hT)
  clear hnew hB2 HB1 hT hlt
  generalize w1.heap.size = B at *
  go_wp2
  go_loopg [9, 10, 11] n (fun g s9 s10 s11 wx => ∃ i : Nat, s9 = .int .i64 (i : Int) ∧ i + g = n ∧ Hid (TabE B (tabF n (f1K i)) wx) ∧ Hid (Below w.heap.size w wx))
  case atStart => exact ⟨0, rfl, by omega, HT, HB2⟩
  case round =>
    clear HT HB2
    obtain ⟨i, rfl, hi, HT, HB⟩ := hrel
    cases gk with
    | succ g =>
      have hin : i < n := by omega
      have one := fun W g => byte_in (UInt8.ofNat (97 + i)) W g
      have e1 : ((UInt8.ofNat (97 + i)).toNat : Int) = 97 + (i : Int) := by rw [ofNat_small (by omega)]; omega
      rw [e1] at one
      have HA : Hid (∀ W, TabE B (tabF n (f1K i)) W → Calls Try.prog 15 #[.pointer (some ⟨B, 0, none⟩), .string (tx (ltK i))] W fun e w' => e = .returned (.tuple #[.int .i64 (i : Int), .int .i64 0]) ∧ Chg B W w' ∧ TabE B (tabF n (f1K (i + 1))) w') := Lib.hid (fun W hW => by
        have := add_e (ltK i) (one_fit (by simp [ltK])) hW
        rw [low1 hn16 hin] at this
        exact this)
      have HL : Hid (tx [UInt8.ofNat (97 + i)] = tx (ltK i)) := Lib.hid rfl
      obtain ⟨T, hT⟩ : ∃ T, tx (ltK i) = T := ⟨_, rfl⟩
      rw [HL.out, hT] at one
      rw [hT] at HA
      clear HL hT e1
      go_wp2_with fail
      refine (HA.out _ (HT.out.below ((Below.refl _ _).alloc (Nat.le_refl _) _))).mono ?_
      rintro e w3 ⟨rfl, hC, hT3⟩
      have HT3 := Lib.hid hT3
      have HB3 := Lib.hid ((HB.out.alloc HB.out.size (.cells #[.int .u8 (97 + (i : Int))] 5)).trans (hC.below hlow (by have := HB.out.size; simp; omega)))
      clear HT HB hC hT3 HA one
      go_wp2
      go_roundg g
      case measure => omega
      case rel => exact ⟨i + 1, by go_num, by omega, HT3, HB3⟩
    | zero =>
      obtain rfl : i = n := by omega
      rw [low12 y] at HT
      go_wp2
      go_loopg [12] i (fun g s12 wx => ∃ j : Nat, s12 = .int .i64 (j : Int) ∧ j + g = i ∧ Hid (TabE B (tabF i (f2K y j)) wx) ∧ Hid (Below w.heap.size w wx))
      case atStart => exact ⟨0, rfl, by omega, HT, HB⟩
      case round =>
        clear HT HB
        obtain ⟨j, rfl, hj, HT, HB⟩ := hrel
        cases gk with
        | succ g =>
          have hji : j < i := by omega
          by_cases hbit : bitK y j
          · have b1 := bit_is.1.2 hbit
            have one := fun W g => byte_in (UInt8.ofNat (97 + j)) W g
            have e1 : ((UInt8.ofNat (97 + j)).toNat : Int) = 97 + (j : Int) := by rw [ofNat_small (by omega)]; omega
            rw [e1] at one
            have HA : Hid (∀ W, TabE B (tabF i (f2K y j)) W → Calls Try.prog 11 #[.pointer (some ⟨B, 0, none⟩), .string (tx (ltK j))] W fun e w' => e = .returned (.bool true) ∧ Chg B W w' ∧ TabE B (tabF i (f2K y (j + 1))) w') := Lib.hid (fun W hW => by
              have := drop_e (ltK j) (one_fit (by simp [ltK])) hW
              rw [(low2 hn16 hji hbit).1, (low2 hn16 hji hbit).2] at this
              exact this)
            have HL : Hid (tx [UInt8.ofNat (97 + j)] = tx (ltK j)) := Lib.hid rfl
            obtain ⟨T, hT⟩ : ∃ T, tx (ltK j) = T := ⟨_, rfl⟩
            rw [HL.out, hT] at one
            rw [hT] at HA
            clear HL hT e1 hbit
            go_wp2_with fail
            refine (HA.out _ (HT.out.below ((Below.refl _ _).alloc (Nat.le_refl _) _))).mono ?_
            rintro e w3 ⟨rfl, hC, hT3⟩
            have HT3 := Lib.hid hT3
            have HB3 := Lib.hid ((HB.out.alloc HB.out.size (.cells #[.int .u8 (97 + (j : Int))] 5)).trans (hC.below hlow (by have := HB.out.size; simp; omega)))
            clear HT HB hC hT3 HA one b1
            go_wp2
            go_roundg g
            case measure => omega
            case rel => exact ⟨j + 1, by go_num, by omega, HT3, HB3⟩
          · have b1 := bit_is.2.2 hbit
            rw [low2_no hbit] at HT
            clear hbit
            go_wp2
            go_roundg g
            case measure => omega
            case rel => exact ⟨j + 1, by go_num, by omega, HT, HB⟩
        | zero =>
          obtain rfl : j = i := by omega
          rw [low23 y] at HT
          go_wp2
          go_loopg [13, 14, 15, 16] j (fun g s13 s14 s15 s16 wx => ∃ (k m : Nat), s14 = .int .i64 (k : Int) ∧ s13 = .int .i64 (m : Int) ∧ m ≤ k ∧ k + g = j ∧ Hid (TabE B (tabF j (f3K y k)) wx) ∧ Hid (Below w.heap.size w wx))
          case atStart => exact ⟨0, 0, rfl, rfl, Nat.le_refl _, by omega, HT, HB⟩
          case round =>
            clear HT HB
            obtain ⟨k, m, rfl, rfl, hmk, hk, HT, HB⟩ := hrel
            cases gk with
            | succ g =>
              have hkj : k < j := by omega
              by_cases hbit : bitK y k
              · have b1 := bit_is.1.2 hbit
                have one := fun W g => byte_in (UInt8.ofNat k) W g
                have e1 : ((UInt8.ofNat k).toNat : Int) = (k : Int) := by rw [ofNat_small (by omega)]
                rw [e1] at one
                have HA : Hid (∀ W, TabE B (tabF j (f3K y k)) W → Calls Try.prog 15 #[.pointer (some ⟨B, 0, none⟩), .string (tx (nwK k))] W fun e w' => e = .returned (.tuple #[.int .i64 (k : Int), .int .i64 0]) ∧ Chg B W w' ∧ TabE B (tabF j (f3K y (k + 1))) w') := Lib.hid (fun W hW => by
                  have := add_e (nwK k) (one_fit (by simp [nwK])) hW
                  rw [low3 hn16 hkj hbit] at this
                  exact this)
                have hap : ByteArray.append ⟨#[110, 101, 119]⟩ (tx [UInt8.ofNat k]) = tx (nwK k) := by
                  show (⟨#[110, 101, 119]⟩ : ByteArray) ++ tx [UInt8.ofNat k] = tx (nwK k)
                  apply ByteArray.ext
                  rw [ByteArray.data_append]
                  rfl
                have hap2 : (⟨#[110, 101, 119]⟩ : ByteArray) ++ (tx [UInt8.ofNat k]) = tx (nwK k) := hap
                have hz1 : (tx [UInt8.ofNat k]).size = 1 := tx_len _
                obtain ⟨T, hT⟩ : ∃ T, tx (nwK k) = T := ⟨_, rfl⟩
                obtain ⟨T1, hT1⟩ : ∃ T, tx [UInt8.ofNat k] = T := ⟨_, rfl⟩
                rw [hT1] at one hap2 hz1
                rw [hT] at HA hap2
                clear hap hT hT1 e1 hbit
                go_wp2_with fail
                refine (HA.out _ (HT.out.below ((Below.refl _ _).alloc (Nat.le_refl _) _))).mono ?_
                rintro e w3 ⟨rfl, hC, hT3⟩
                have HT3 := Lib.hid hT3
                have HB3 := Lib.hid ((HB.out.alloc HB.out.size (.cells #[.int .u8 (k : Int)] 5)).trans (hC.below hlow (by have := HB.out.size; simp; omega)))
                clear HT HB hC hT3 HA one b1 hap2 hz1
                go_wp2
                go_roundg g
                case measure => omega
                case rel => exact ⟨k + 1, m + 1, by go_num, by go_num, by omega, by omega, HT3, HB3⟩
              · have b1 := bit_is.2.2 hbit
                rw [low3_no hbit] at HT
                clear hbit
                go_wp2
                go_roundg g
                case measure => omega
                case rel => exact ⟨k + 1, m, by go_num, rfl, by omega, by omega, HT, HB⟩
            | zero =>
              obtain rfl : k = j := by omega
              have HM : Hid (∀ W, TabE B (tabF k (f3K y k)) W → Calls Try.prog 15 #[.pointer (some ⟨B, 0, none⟩), .string ⟨#[109, 111, 114, 101]⟩] W fun e w' => e = .returned (.tuple #[.int .i64 0, .int .i64 4]) ∧ Chg B W w' ∧ TabE B (tabF k (f3K y k)) w') := Lib.hid (fun W hW => by
                have := add_e [109, 111, 114, 101] (one_fit (by simp)) hW
                rw [low_full] at this
                exact this)
              have HN : Hid (∀ W, TabE B (tabF k (f3K y k)) W → Calls Try.prog 15 #[.pointer (some ⟨B, 0, none⟩), .string ⟨#[]⟩] W fun e w' => e = .returned (.tuple #[.int .i64 0, .int .i64 1]) ∧ Chg B W w' ∧ TabE B (tabF k (f3K y k)) w') := Lib.hid (fun W hW => by
                have := add_e [] (one_fit (by simp)) hW
                rw [addK_nil] at this
                exact this)
              have HL : Hid (∀ W, TabE B (tabF k (f3K y k)) W → Calls Try.prog 19 #[.pointer (some ⟨B, 0, none⟩)] W fun e w' => e = .returned (.int .i64 (k : Int)) ∧ Below W.heap.size W w') := Lib.hid (fun W hW => by
                have := len_e hW
                rw [slots_all (fun j hj => f3K_full hj)] at this
                exact this)
              go_wp2_with fail
              refine (HM.out _ HT.out).mono ?_
              rintro e w3 ⟨rfl, hC, hT3⟩
              have HT3 := Lib.hid hT3
              have HB3 := Lib.hid (HB.out.trans (hC.below hlow HB.out.size))
              clear HT HB hC hT3 HM
              go_wp2_with fail
              refine (HN.out _ HT3.out).mono ?_
              rintro e w4 ⟨rfl, hC, hT4⟩
              have HT4 := Lib.hid hT4
              have HB4 := Lib.hid (HB3.out.trans (hC.below hlow HB3.out.size))
              clear HT3 HB3 hC hT4 HN
              go_wp2_with fail
              refine (HL.out _ HT4.out).mono ?_
              rintro e w5 ⟨rfl, hB⟩
              have HB5 := Lib.hid (HB4.out.trans (hB.mono HB4.out.size))
              clear HT4 HB4 hB HL
              go_wp2
              go_ret
              exact ⟨rfl, HB5.out⟩
end Go.Proofs.Ytiiadoeohmcfiaa
