/- The chapter's own answer: what a number is told as. -/
import Derived.Test.YtdmkiiggpelmaaaGreatDoorLnDg
import Derived.Deep.QuietTactic
import Derived.BigQuiet
namespace Go.Proofs.YtdmkiiggpelmaaaGreatDoor
open Go Go.RowKit

theorem decDigits_big {m : Nat} (h : ¬ m < 10) : Lib.decDigits m = Lib.decDigits (m / 10) ++ [UInt8.ofNat (48 + m % 10)] := by rw [Lib.decDigits, dif_neg h]
theorem nil_app (D : ByteArray) : (⟨#[]⟩ : ByteArray) ++ D = D := by
  have := tx_app [] D.data.toList
  rwa [tx_list, List.nil_append, tx_list] at this
def Told (M m : Nat) (s : List UInt8) : Prop := (s = [] ∧ m = M) ∨ (s ≠ [] ∧ Lib.decDigits M = if m = 0 then s else Lib.decDigits m ++ s)
theorem told_next {M m : Nat} {s : List UInt8} (h : Told M m s) (hc : s = [] ∨ 0 < m) : Told M (m / 10) (UInt8.ofNat (48 + m % 10) :: s) := by
  refine Or.inr ⟨by simp, ?_⟩
  have hd : Lib.decDigits M = Lib.decDigits m ++ s := by
    rcases h with ⟨rfl, rfl⟩ | ⟨hs, h⟩
    · simp
    · rcases hc with hc | hc
      · exact absurd hc hs
      · rw [h, if_neg (by omega)]
  rw [hd]
  by_cases h10 : m < 10
  · rw [if_pos (by omega), Lib.decDigits_one h10, show m % 10 = m by omega]; rfl
  · rw [if_neg (by omega), decDigits_big h10, List.append_assoc]; rfl
theorem told_end {M m : Nat} {s : List UInt8} (h : Told M m s) (hs : s ≠ []) (hm : m = 0) : s = Lib.decDigits M := by
  rcases h with ⟨h1, _⟩ | ⟨_, h⟩
  · exact absurd h1 hs
  · rw [h, if_pos hm]
theorem told_len {M m : Nat} {s : List UInt8} (h : Told M m s) : s.length ≤ Lib.nDigits M := by
  rw [← Lib.decDigits_length]
  rcases h with ⟨h1, _⟩ | ⟨_, h⟩
  · rw [h1]; simp
  · rw [h]; split <;> simp

theorem pad_front : ∀ k r, pad (k + 1) r = UInt8.ofNat (48 + r / 10 ^ k % 10) :: pad k r
  | 0, r => by simp [pad]
  | k + 1, r => by
    rw [pad, pad_front k (r / 10), pad, List.cons_append, Nat.div_div_eq_div_mul, Nat.pow_succ, Nat.mul_comm 10]
theorem trimR_step (t : List UInt8) : Lib.trimRightB (t ++ [48]) 48 = Lib.trimRightB t 48 := by
  unfold Lib.trimRightB; simp
theorem trimR_stop (t : List UInt8) {c : UInt8} (h : c ≠ 48) : Lib.trimRightB (t ++ [c]) 48 = t ++ [c] := by
  unfold Lib.trimRightB
  rw [List.reverse_append, List.reverse_singleton, List.singleton_append, List.dropWhile_cons, if_neg (by simpa using h)]
  simp
theorem last_of (t : List UInt8) (c : UInt8) : ∃ h : t.length < (tx (t ++ [c])).size, (tx (t ++ [c]))[t.length] = c ∧ (tx (t ++ [c])).extract 0 t.length = tx t := by
  have hz : (tx (t ++ [c])).size = t.length + 1 := by rw [tx_len]; simp
  refine ⟨by omega, ?_, ?_⟩
  · have h1 := drop_at (s := tx (t ++ [c])) (k := t.length) (by omega)
    rw [list_tx, List.drop_append_of_le_length (Nat.le_refl _), List.drop_length, List.nil_append] at h1
    exact (List.cons.inj h1).1.symm
  · rw [ext_take, list_tx, List.take_append_of_le_length (Nat.le_refl _), List.take_length]

set_option maxRecDepth 100000 in
set_option maxHeartbeats 8000000 in
theorem ref_text (n : Int) (hn : In64 n) (w : World) :
    Calls Tryz.prog 16 #[.int .i64 n] w fun e w' => e = .returned (.string (tx (textF n))) ∧ Below w.heap.size w w' := by
  obtain ⟨n1, n2⟩ := hn
  have hf := far_le (n := n) ⟨n1, n2⟩
  obtain ⟨f, hfe⟩ : ∃ f, farF n = f := ⟨_, rfl⟩
  rw [text_body]
  unfold bodyF
  rw [hfe] at hf ⊢
  have hfi : (f : Int) = if n < 0 then -n else n := by
    rw [← hfe]; unfold farF
    split <;> omega
  obtain ⟨q, hq⟩ : ∃ q : Nat, f / 1000000 = q := ⟨_, rfl⟩
  obtain ⟨r, hr⟩ : ∃ r : Nat, f % 1000000 = r := ⟨_, rfl⟩
  rw [hq, hr]
  have hq1 : (f : Int) / 1000000 = (q : Int) := by omega
  have hr1 : (f : Int) % 1000000 = (r : Int) := by omega
  have hrl : r < 1000000 := by omega
  have hql : q ≤ 9223372036855 := by omega
  have H20 := Lib.hid (show Lib.nDigits q ≤ 20 by rw [← Lib.decDigits_length]; exact dec_20 (by omega))
  have hw : n < 0 → IntKind.u64.wrap (-(IntKind.u64.wrap n)) = (f : Int) := fun h => by rw [u64_of_neg n n1 h, hfi, if_pos h]
  clear hq hr hfe
  by_cases hneg : n < 0
  · by_cases h0 : r = 0
    · have hsg : sgL n = [45] := if_pos hneg
      rw [hsg]
      have hw1 := hw hneg
      clear hw hfi hsg
      have ht : tailF r = [] := by rw [h0]; exact tail_zero
      have hr0 : (r : Int) = 0 := by omega
      rw [ht]
      clear ht h0 hrl
      generalize hRV : tx ([45] ++ (Lib.decDigits q ++ [])) = RV
      have HRV := Lib.hid hRV
      clear hRV
      go_enter Tryz.func16, Tryz.ntmps16
      go_wp2
      go_loopg [5, 7] (q + 1) (fun g s5 s7 wx => ∃ (m : Nat) (s : List UInt8), m + (if s = [] then 1 else 0) ≤ g ∧ m ≤ q ∧ s5 = .int .u64 m ∧ s7 = .string (tx s) ∧ Hid (Told q m s) ∧ Below w.heap.size w wx)
      case atStart => exact ⟨q, [], by simp, Nat.le_refl _, rfl, rfl, Lib.hid (.inl ⟨rfl, rfl⟩), Below.refl _ _⟩
      case round =>
        obtain ⟨m, s, hmg, hmq, rfl, rfl, HT, hB⟩ := hrel
        by_cases hc : s = [] ∨ 0 < m
        · have hd1 : (48 : Int) + (m : Int) % 10 = ((UInt8.ofNat (48 + m % 10)).toNat : Int) := by rw [dig48 _ (by omega)]; omega
          have HN := Lib.hid (told_next HT.out hc)
          obtain ⟨m10, hm10⟩ : ∃ k : Nat, m / 10 = k := ⟨_, rfl⟩
          rw [hm10] at HN
          have hq10 : (m : Int) / 10 = (m10 : Int) := by omega
          generalize UInt8.ofNat (48 + m % 10) = c at hd1 HN
          have hcv := one_byte c
          have hcb : (c.toNat : Int) ≤ 255 := by have := c.toNat_lt; omega
          have hsz : (tx s).size ≤ 20 := by rw [tx_len]; exact Nat.le_trans (told_len HT.out) H20.out
          have hs1 : (tx [c]).size + (tx s).size ≤ 9223372036854775807 := by rw [tx_len]; simp; omega
          have HAP := Lib.hid (tx_app [c] s)
          cases gk with
          | zero =>
            exfalso
            rcases hc with hc | hc
            · rw [if_pos hc] at hmg; omega
            · omega
          | succ g =>
            have hmg2 : m10 + (if (c :: s) = [] then 1 else 0) ≤ g := by
              rw [if_neg (by simp)]
              rcases hc with hc | hc
              · rw [if_pos hc] at hmg; omega
              · omega
            have hmq2 : m10 ≤ q := by omega
            by_cases hs0 : s = []
            · have hem := empty_eq hs0
              clear hm10 hc hs0 hmg
              generalize tx s = M at *
              go_wp2
              go_roundg g
              case measure => omega
              case rel => exact ⟨m10, c :: s, hmg2, hmq2, rfl, by rw [HAP.out]; rfl, HN, hB.alloc hB.size _⟩
            · have hem := tx_ne2 hs0
              have hm1 : (0 : Int) < (m : Int) := by
                rcases hc with hc | hc
                · exact absurd hc hs0
                · omega
              clear hm10 hc hs0 hmg
              generalize tx s = M at *
              go_wp2
              go_roundg g
              case measure => omega
              case rel => exact ⟨m10, c :: s, hmg2, hmq2, rfl, by rw [HAP.out]; rfl, HN, hB.alloc hB.size _⟩
        · have hs0 : s ≠ [] := fun h => hc (.inl h)
          have hm0 : m = 0 := by omega
          have HD := Lib.hid (told_end HT.out hs0 hm0)
          have hem := tx_ne2 hs0
          subst hm0
          rw [HD.out] at hem ⊢
          have hDs : (tx (Lib.decDigits q)).size ≤ 20 := by rw [tx_len, Lib.decDigits_length]; exact H20.out
          clear hc HT hs0 hmg hmq
          have HR := Lib.hid (show tx ([45] ++ (Lib.decDigits q ++ [])) = ⟨#[45]⟩ ++ tx (Lib.decDigits q) by rw [List.append_nil]; exact (tx_app [45] _).symm)
          generalize tx (Lib.decDigits q) = D at *
          have s1 : (⟨#[45]⟩ : ByteArray).size + D.size ≤ 9223372036854775807 := by show 1 + D.size ≤ _; omega
          go_wp2
          try go_ret
          exact ⟨by rw [← HRV.out, HR.out]; first | rfl | exact congrArg (fun x => Ending.returned (Value.string x)) (nil_app D), hB⟩
    · have hsg : sgL n = [45] := if_pos hneg
      rw [hsg]
      have hw1 := hw hneg
      clear hw hfi hsg
      have ht : tailF r = 46 :: Lib.trimRightB (pad 6 r) 48 := by unfold tailF; rw [if_neg (tail_ne h0 hrl)]
      have HNE := Lib.hid (tail_ne h0 hrl)
      have hr0 : ((r : Int) == 0) = false := by rw [beq_eq_false_iff_ne]; omega
      rw [ht]
      clear ht
      generalize hRV : tx ([45] ++ (Lib.decDigits q ++ 46 :: Lib.trimRightB (pad 6 r) 48)) = RV
      have HRV := Lib.hid hRV
      clear hRV
      go_enter Tryz.func16, Tryz.ntmps16
      go_wp2
      go_loopg [5, 7] (q + 1) (fun g s5 s7 wx => ∃ (m : Nat) (s : List UInt8), m + (if s = [] then 1 else 0) ≤ g ∧ m ≤ q ∧ s5 = .int .u64 m ∧ s7 = .string (tx s) ∧ Hid (Told q m s) ∧ Below w.heap.size w wx)
      case atStart => exact ⟨q, [], by simp, Nat.le_refl _, rfl, rfl, Lib.hid (.inl ⟨rfl, rfl⟩), Below.refl _ _⟩
      case round =>
        obtain ⟨m, s, hmg, hmq, rfl, rfl, HT, hB⟩ := hrel
        by_cases hc : s = [] ∨ 0 < m
        · have hd1 : (48 : Int) + (m : Int) % 10 = ((UInt8.ofNat (48 + m % 10)).toNat : Int) := by rw [dig48 _ (by omega)]; omega
          have HN := Lib.hid (told_next HT.out hc)
          obtain ⟨m10, hm10⟩ : ∃ k : Nat, m / 10 = k := ⟨_, rfl⟩
          rw [hm10] at HN
          have hq10 : (m : Int) / 10 = (m10 : Int) := by omega
          generalize UInt8.ofNat (48 + m % 10) = c at hd1 HN
          have hcv := one_byte c
          have hcb : (c.toNat : Int) ≤ 255 := by have := c.toNat_lt; omega
          have hsz : (tx s).size ≤ 20 := by rw [tx_len]; exact Nat.le_trans (told_len HT.out) H20.out
          have hs1 : (tx [c]).size + (tx s).size ≤ 9223372036854775807 := by rw [tx_len]; simp; omega
          have HAP := Lib.hid (tx_app [c] s)
          cases gk with
          | zero =>
            exfalso
            rcases hc with hc | hc
            · rw [if_pos hc] at hmg; omega
            · omega
          | succ g =>
            have hmg2 : m10 + (if (c :: s) = [] then 1 else 0) ≤ g := by
              rw [if_neg (by simp)]
              rcases hc with hc | hc
              · rw [if_pos hc] at hmg; omega
              · omega
            have hmq2 : m10 ≤ q := by omega
            by_cases hs0 : s = []
            · have hem := empty_eq hs0
              clear hm10 hc hs0 hmg
              generalize tx s = M at *
              go_wp2
              go_roundg g
              case measure => omega
              case rel => exact ⟨m10, c :: s, hmg2, hmq2, rfl, by rw [HAP.out]; rfl, HN, hB.alloc hB.size _⟩
            · have hem := tx_ne2 hs0
              have hm1 : (0 : Int) < (m : Int) := by
                rcases hc with hc | hc
                · exact absurd hc hs0
                · omega
              clear hm10 hc hs0 hmg
              generalize tx s = M at *
              go_wp2
              go_roundg g
              case measure => omega
              case rel => exact ⟨m10, c :: s, hmg2, hmq2, rfl, by rw [HAP.out]; rfl, HN, hB.alloc hB.size _⟩
        · have hs0 : s ≠ [] := fun h => hc (.inl h)
          have hm0 : m = 0 := by omega
          have HD := Lib.hid (told_end HT.out hs0 hm0)
          have hem := tx_ne2 hs0
          subst hm0
          rw [HD.out] at hem ⊢
          have hDs : (tx (Lib.decDigits q)).size ≤ 20 := by rw [tx_len, Lib.decDigits_length]; exact H20.out
          clear hc HT hs0 hmg hmq
          have HRR := Lib.hid (fun x => (by rw [show (⟨#[46]⟩ : ByteArray) = tx [46] from rfl, show (⟨#[45]⟩ : ByteArray) = tx [45] from rfl]; simp only [tx_app]; simp : tx ([45] ++ (Lib.decDigits q ++ 46 :: x)) = ((⟨#[45]⟩ ++ tx (Lib.decDigits q)) ++ ⟨#[46]⟩) ++ tx x))
          generalize tx (Lib.decDigits q) = D at *
          go_wp2
          go_loopw [6, 8, 9] (fun s6 s8 s9 wx => ∃ k : Nat, k ≤ 6 ∧ s9 = .int .i64 k ∧ s6 = .int .u64 (r / 10 ^ k : Nat) ∧ s8 = .string (tx (pad k r)) ∧ Below w.heap.size w wx) (fun _ _ s9 _ => 6 - (intOf s9).toNat)
          case atStart => exact ⟨0, by omega, rfl, by simp [hr1], rfl, hB⟩
          case round =>
            obtain ⟨k, hk, rfl, rfl, rfl, hB⟩ := hrel
            by_cases hlt : k < 6
            · have hlt' : (k : Int) < 6 := by omega
              have hd1 : (48 : Int) + ((r / 10 ^ k : Nat) : Int) % 10 = ((UInt8.ofNat (48 + r / 10 ^ k % 10)).toNat : Int) := by rw [dig48 _ (by omega)]; omega
              have HP := Lib.hid (pad_front k r)
              have hpl : (tx (pad k r)).size ≤ 6 := by rw [tx_len, pad_len]; omega
              have hrk : r / 10 ^ k ≤ 1000000 := Nat.le_trans (Nat.div_le_self _ _) (by omega)
              have HNX := Lib.hid (show r / 10 ^ k / 10 = r / 10 ^ (k + 1) by rw [Nat.div_div_eq_div_mul, Nat.pow_succ])
              generalize UInt8.ofNat (48 + r / 10 ^ k % 10) = c at hd1 HP
              generalize r / 10 ^ k = u at hd1 hrk HNX ⊢
              have hcv := one_byte c
              have hcb : (c.toNat : Int) ≤ 255 := by have := c.toNat_lt; omega
              have hs1 : (tx [c]).size + (tx (pad k r)).size ≤ 9223372036854775807 := by rw [tx_len]; simp; omega
              have HAP := Lib.hid (tx_app [c] (pad k r))
              have hu0 : (u : Int) ≤ 1000000 := by omega
              obtain ⟨u10, hu10⟩ : ∃ k : Nat, u / 10 = k := ⟨_, rfl⟩
              rw [hu10] at HNX
              have hu1 : (u : Int) / 10 = (u10 : Int) := by omega
              clear hu10
              generalize tx (pad k r) = M at *
              go_wp2
              go_roundw
              case rel => exact ⟨k + 1, by omega, by go_num, by rw [← HNX.out], by rw [HAP.out, HP.out]; rfl, hB.alloc hB.size _⟩
              case measure => simp [intOf]; omega
            · obtain rfl : k = 6 := by omega
              obtain ⟨L, hL⟩ : ∃ L, Lib.trimRightB (pad 6 r) 48 = L := ⟨_, rfl⟩
              rw [hL] at HNE HRV
              clear hlt hk
              go_wp2
              go_loopg [8] 6 (fun g s8 wx => ∃ t : List UInt8, t.length ≤ g ∧ t.length ≤ 6 ∧ s8 = .string (tx t) ∧ Hid (Lib.trimRightB t 48 = L) ∧ Below w.heap.size w wx)
              case atStart => exact ⟨pad 6 r, by rw [pad_len]; exact Nat.le_refl _, by rw [pad_len]; exact Nat.le_refl _, rfl, Lib.hid hL, hB⟩
              case round =>
                obtain ⟨t, htg, htl, rfl, HTR, hB⟩ := hrel
                have hne : t ≠ [] := by
                  intro h
                  rw [h] at HTR
                  exact HNE.out HTR.out.symm
                obtain ⟨t', c, rfl⟩ : ∃ t' c, t = t' ++ [c] := ⟨t.dropLast, t.getLast hne, (List.dropLast_concat_getLast hne).symm⟩
                obtain ⟨hz, hx, hex⟩ := last_of t' c
                have hsz : ((tx (t' ++ [c])).size : Int) - 1 = (t'.length : Int) := by rw [tx_len]; simp
                have hszb : (tx (t' ++ [c])).size ≤ 7 := by rw [tx_len]; omega
                have hjb : t'.length ≤ 6 := by simp at htl; omega
                by_cases hc : c = 48
                · have e4 : (c.toNat : Int) = 48 := by rw [hc]; rfl
                  have HTN : Hid (Lib.trimRightB t' 48 = L) := Lib.hid (by rw [← HTR.out, hc, trimR_step])
                  have htg2 : t'.length + 1 ≤ gk := by simpa using htg
                  cases gk with
                  | zero => omega
                  | succ g =>
                    clear hne hc HTR htg htl hL
                    generalize hJ : t'.length = j at *
                    have HJ := Lib.hid hJ
                    clear hJ
                    generalize tx (t' ++ [c]) = M at *
                    go_wp2
                    go_roundg g
                    case measure => omega
                    case rel => exact ⟨t', by rw [HJ.out]; omega, by rw [HJ.out]; omega, by first | rfl | rw [hex], HTN, hB⟩
                · have e4 : ((c.toNat : Int) == 48) = false := by
                    rw [beq_eq_false_iff_ne]
                    intro h
                    exact hc (UInt8.toNat_inj.1 (by have : c.toNat = 48 := by omega
                                                    rw [this]; rfl))
                  have HTL : Hid (t' ++ [c] = L) := Lib.hid (by rw [← HTR.out, trimR_stop t' hc])
                  have HRX := Lib.hid (HRR.out (t' ++ [c]))
                  have s1 : (⟨#[45]⟩ : ByteArray).size + D.size ≤ 9223372036854775807 := by show 1 + D.size ≤ _; omega
                  have s4 : ((⟨#[45]⟩ : ByteArray) ++ D).size ≤ 21 := by rw [ByteArray.size_append]; show 1 + D.size ≤ _; omega
                  have s5 : ((⟨#[45]⟩ : ByteArray) ++ D ++ ⟨#[46]⟩).size ≤ 22 := by rw [ByteArray.size_append]; show ((⟨#[45]⟩ : ByteArray) ++ D).size + 1 ≤ _; omega
                  clear hne hc HTR htg htl hL
                  generalize t'.length = j at *
                  generalize tx (t' ++ [c]) = M at *
                  go_wp2
                  try go_ret
                  exact ⟨by rw [← HRV.out, ← HTL.out, HRX.out]; first | rfl | (rw [nil_app]; rfl) | exact congrArg (fun x => Ending.returned (Value.string (x ++ _ ++ _))) (nil_app D), hB⟩
  · by_cases h0 : r = 0
    · have hsg : sgL n = [] := if_neg hneg
      rw [hsg]
      rw [if_neg hneg] at hfi
      subst hfi
      clear hw hsg
      have ht : tailF r = [] := by rw [h0]; exact tail_zero
      have hr0 : (r : Int) = 0 := by omega
      rw [ht]
      clear ht h0 hrl
      generalize hRV : tx ([] ++ (Lib.decDigits q ++ [])) = RV
      have HRV := Lib.hid hRV
      clear hRV
      go_enter Tryz.func16, Tryz.ntmps16
      go_wp2
      go_loopg [5, 7] (q + 1) (fun g s5 s7 wx => ∃ (m : Nat) (s : List UInt8), m + (if s = [] then 1 else 0) ≤ g ∧ m ≤ q ∧ s5 = .int .u64 m ∧ s7 = .string (tx s) ∧ Hid (Told q m s) ∧ Below w.heap.size w wx)
      case atStart => exact ⟨q, [], by simp, Nat.le_refl _, rfl, rfl, Lib.hid (.inl ⟨rfl, rfl⟩), Below.refl _ _⟩
      case round =>
        obtain ⟨m, s, hmg, hmq, rfl, rfl, HT, hB⟩ := hrel
        by_cases hc : s = [] ∨ 0 < m
        · have hd1 : (48 : Int) + (m : Int) % 10 = ((UInt8.ofNat (48 + m % 10)).toNat : Int) := by rw [dig48 _ (by omega)]; omega
          have HN := Lib.hid (told_next HT.out hc)
          obtain ⟨m10, hm10⟩ : ∃ k : Nat, m / 10 = k := ⟨_, rfl⟩
          rw [hm10] at HN
          have hq10 : (m : Int) / 10 = (m10 : Int) := by omega
          generalize UInt8.ofNat (48 + m % 10) = c at hd1 HN
          have hcv := one_byte c
          have hcb : (c.toNat : Int) ≤ 255 := by have := c.toNat_lt; omega
          have hsz : (tx s).size ≤ 20 := by rw [tx_len]; exact Nat.le_trans (told_len HT.out) H20.out
          have hs1 : (tx [c]).size + (tx s).size ≤ 9223372036854775807 := by rw [tx_len]; simp; omega
          have HAP := Lib.hid (tx_app [c] s)
          cases gk with
          | zero =>
            exfalso
            rcases hc with hc | hc
            · rw [if_pos hc] at hmg; omega
            · omega
          | succ g =>
            have hmg2 : m10 + (if (c :: s) = [] then 1 else 0) ≤ g := by
              rw [if_neg (by simp)]
              rcases hc with hc | hc
              · rw [if_pos hc] at hmg; omega
              · omega
            have hmq2 : m10 ≤ q := by omega
            by_cases hs0 : s = []
            · have hem := empty_eq hs0
              clear hm10 hc hs0 hmg
              generalize tx s = M at *
              go_wp2
              go_roundg g
              case measure => omega
              case rel => exact ⟨m10, c :: s, hmg2, hmq2, rfl, by rw [HAP.out]; rfl, HN, hB.alloc hB.size _⟩
            · have hem := tx_ne2 hs0
              have hm1 : (0 : Int) < (m : Int) := by
                rcases hc with hc | hc
                · exact absurd hc hs0
                · omega
              clear hm10 hc hs0 hmg
              generalize tx s = M at *
              go_wp2
              go_roundg g
              case measure => omega
              case rel => exact ⟨m10, c :: s, hmg2, hmq2, rfl, by rw [HAP.out]; rfl, HN, hB.alloc hB.size _⟩
        · have hs0 : s ≠ [] := fun h => hc (.inl h)
          have hm0 : m = 0 := by omega
          have HD := Lib.hid (told_end HT.out hs0 hm0)
          have hem := tx_ne2 hs0
          subst hm0
          rw [HD.out] at hem ⊢
          have hDs : (tx (Lib.decDigits q)).size ≤ 20 := by rw [tx_len, Lib.decDigits_length]; exact H20.out
          clear hc HT hs0 hmg hmq
          have HR := Lib.hid (show tx ([] ++ (Lib.decDigits q ++ [])) = tx (Lib.decDigits q) by rw [List.append_nil]; rfl)
          generalize tx (Lib.decDigits q) = D at *
          go_wp2
          try go_ret
          exact ⟨by rw [← HRV.out, HR.out]; first | rfl | exact congrArg (fun x => Ending.returned (Value.string x)) (nil_app D), hB⟩
    · have hsg : sgL n = [] := if_neg hneg
      rw [hsg]
      rw [if_neg hneg] at hfi
      subst hfi
      clear hw hsg
      have ht : tailF r = 46 :: Lib.trimRightB (pad 6 r) 48 := by unfold tailF; rw [if_neg (tail_ne h0 hrl)]
      have HNE := Lib.hid (tail_ne h0 hrl)
      have hr0 : ((r : Int) == 0) = false := by rw [beq_eq_false_iff_ne]; omega
      rw [ht]
      clear ht
      generalize hRV : tx ([] ++ (Lib.decDigits q ++ 46 :: Lib.trimRightB (pad 6 r) 48)) = RV
      have HRV := Lib.hid hRV
      clear hRV
      go_enter Tryz.func16, Tryz.ntmps16
      go_wp2
      go_loopg [5, 7] (q + 1) (fun g s5 s7 wx => ∃ (m : Nat) (s : List UInt8), m + (if s = [] then 1 else 0) ≤ g ∧ m ≤ q ∧ s5 = .int .u64 m ∧ s7 = .string (tx s) ∧ Hid (Told q m s) ∧ Below w.heap.size w wx)
      case atStart => exact ⟨q, [], by simp, Nat.le_refl _, rfl, rfl, Lib.hid (.inl ⟨rfl, rfl⟩), Below.refl _ _⟩
      case round =>
        obtain ⟨m, s, hmg, hmq, rfl, rfl, HT, hB⟩ := hrel
        by_cases hc : s = [] ∨ 0 < m
        · have hd1 : (48 : Int) + (m : Int) % 10 = ((UInt8.ofNat (48 + m % 10)).toNat : Int) := by rw [dig48 _ (by omega)]; omega
          have HN := Lib.hid (told_next HT.out hc)
          obtain ⟨m10, hm10⟩ : ∃ k : Nat, m / 10 = k := ⟨_, rfl⟩
          rw [hm10] at HN
          have hq10 : (m : Int) / 10 = (m10 : Int) := by omega
          generalize UInt8.ofNat (48 + m % 10) = c at hd1 HN
          have hcv := one_byte c
          have hcb : (c.toNat : Int) ≤ 255 := by have := c.toNat_lt; omega
          have hsz : (tx s).size ≤ 20 := by rw [tx_len]; exact Nat.le_trans (told_len HT.out) H20.out
          have hs1 : (tx [c]).size + (tx s).size ≤ 9223372036854775807 := by rw [tx_len]; simp; omega
          have HAP := Lib.hid (tx_app [c] s)
          cases gk with
          | zero =>
            exfalso
            rcases hc with hc | hc
            · rw [if_pos hc] at hmg; omega
            · omega
          | succ g =>
            have hmg2 : m10 + (if (c :: s) = [] then 1 else 0) ≤ g := by
              rw [if_neg (by simp)]
              rcases hc with hc | hc
              · rw [if_pos hc] at hmg; omega
              · omega
            have hmq2 : m10 ≤ q := by omega
            by_cases hs0 : s = []
            · have hem := empty_eq hs0
              clear hm10 hc hs0 hmg
              generalize tx s = M at *
              go_wp2
              go_roundg g
              case measure => omega
              case rel => exact ⟨m10, c :: s, hmg2, hmq2, rfl, by rw [HAP.out]; rfl, HN, hB.alloc hB.size _⟩
            · have hem := tx_ne2 hs0
              have hm1 : (0 : Int) < (m : Int) := by
                rcases hc with hc | hc
                · exact absurd hc hs0
                · omega
              clear hm10 hc hs0 hmg
              generalize tx s = M at *
              go_wp2
              go_roundg g
              case measure => omega
              case rel => exact ⟨m10, c :: s, hmg2, hmq2, rfl, by rw [HAP.out]; rfl, HN, hB.alloc hB.size _⟩
        · have hs0 : s ≠ [] := fun h => hc (.inl h)
          have hm0 : m = 0 := by omega
          have HD := Lib.hid (told_end HT.out hs0 hm0)
          have hem := tx_ne2 hs0
          subst hm0
          rw [HD.out] at hem ⊢
          have hDs : (tx (Lib.decDigits q)).size ≤ 20 := by rw [tx_len, Lib.decDigits_length]; exact H20.out
          clear hc HT hs0 hmg hmq
          have HRR := Lib.hid (fun x => (by rw [show (⟨#[46]⟩ : ByteArray) = tx [46] from rfl]; simp only [tx_app]; simp : tx ([] ++ (Lib.decDigits q ++ 46 :: x)) = (tx (Lib.decDigits q) ++ ⟨#[46]⟩) ++ tx x))
          generalize tx (Lib.decDigits q) = D at *
          go_wp2
          go_loopw [6, 8, 9] (fun s6 s8 s9 wx => ∃ k : Nat, k ≤ 6 ∧ s9 = .int .i64 k ∧ s6 = .int .u64 (r / 10 ^ k : Nat) ∧ s8 = .string (tx (pad k r)) ∧ Below w.heap.size w wx) (fun _ _ s9 _ => 6 - (intOf s9).toNat)
          case atStart => exact ⟨0, by omega, rfl, by simp , rfl, hB⟩
          case round =>
            obtain ⟨k, hk, rfl, rfl, rfl, hB⟩ := hrel
            by_cases hlt : k < 6
            · have hlt' : (k : Int) < 6 := by omega
              have hd1 : (48 : Int) + ((r / 10 ^ k : Nat) : Int) % 10 = ((UInt8.ofNat (48 + r / 10 ^ k % 10)).toNat : Int) := by rw [dig48 _ (by omega)]; omega
              have HP := Lib.hid (pad_front k r)
              have hpl : (tx (pad k r)).size ≤ 6 := by rw [tx_len, pad_len]; omega
              have hrk : r / 10 ^ k ≤ 1000000 := Nat.le_trans (Nat.div_le_self _ _) (by omega)
              have HNX := Lib.hid (show r / 10 ^ k / 10 = r / 10 ^ (k + 1) by rw [Nat.div_div_eq_div_mul, Nat.pow_succ])
              generalize UInt8.ofNat (48 + r / 10 ^ k % 10) = c at hd1 HP
              generalize r / 10 ^ k = u at hd1 hrk HNX ⊢
              have hcv := one_byte c
              have hcb : (c.toNat : Int) ≤ 255 := by have := c.toNat_lt; omega
              have hs1 : (tx [c]).size + (tx (pad k r)).size ≤ 9223372036854775807 := by rw [tx_len]; simp; omega
              have HAP := Lib.hid (tx_app [c] (pad k r))
              have hu0 : (u : Int) ≤ 1000000 := by omega
              obtain ⟨u10, hu10⟩ : ∃ k : Nat, u / 10 = k := ⟨_, rfl⟩
              rw [hu10] at HNX
              have hu1 : (u : Int) / 10 = (u10 : Int) := by omega
              clear hu10
              generalize tx (pad k r) = M at *
              go_wp2
              go_roundw
              case rel => exact ⟨k + 1, by omega, by go_num, by rw [← HNX.out], by rw [HAP.out, HP.out]; rfl, hB.alloc hB.size _⟩
              case measure => simp [intOf]; omega
            · obtain rfl : k = 6 := by omega
              obtain ⟨L, hL⟩ : ∃ L, Lib.trimRightB (pad 6 r) 48 = L := ⟨_, rfl⟩
              rw [hL] at HNE HRV
              clear hlt hk
              go_wp2
              go_loopg [8] 6 (fun g s8 wx => ∃ t : List UInt8, t.length ≤ g ∧ t.length ≤ 6 ∧ s8 = .string (tx t) ∧ Hid (Lib.trimRightB t 48 = L) ∧ Below w.heap.size w wx)
              case atStart => exact ⟨pad 6 r, by rw [pad_len]; exact Nat.le_refl _, by rw [pad_len]; exact Nat.le_refl _, rfl, Lib.hid hL, hB⟩
              case round =>
                obtain ⟨t, htg, htl, rfl, HTR, hB⟩ := hrel
                have hne : t ≠ [] := by
                  intro h
                  rw [h] at HTR
                  exact HNE.out HTR.out.symm
                obtain ⟨t', c, rfl⟩ : ∃ t' c, t = t' ++ [c] := ⟨t.dropLast, t.getLast hne, (List.dropLast_concat_getLast hne).symm⟩
                obtain ⟨hz, hx, hex⟩ := last_of t' c
                have hsz : ((tx (t' ++ [c])).size : Int) - 1 = (t'.length : Int) := by rw [tx_len]; simp
                have hszb : (tx (t' ++ [c])).size ≤ 7 := by rw [tx_len]; omega
                have hjb : t'.length ≤ 6 := by simp at htl; omega
                by_cases hc : c = 48
                · have e4 : (c.toNat : Int) = 48 := by rw [hc]; rfl
                  have HTN : Hid (Lib.trimRightB t' 48 = L) := Lib.hid (by rw [← HTR.out, hc, trimR_step])
                  have htg2 : t'.length + 1 ≤ gk := by simpa using htg
                  cases gk with
                  | zero => omega
                  | succ g =>
                    clear hne hc HTR htg htl hL
                    generalize hJ : t'.length = j at *
                    have HJ := Lib.hid hJ
                    clear hJ
                    generalize tx (t' ++ [c]) = M at *
                    go_wp2
                    go_roundg g
                    case measure => omega
                    case rel => exact ⟨t', by rw [HJ.out]; omega, by rw [HJ.out]; omega, by first | rfl | rw [hex], HTN, hB⟩
                · have e4 : ((c.toNat : Int) == 48) = false := by
                    rw [beq_eq_false_iff_ne]
                    intro h
                    exact hc (UInt8.toNat_inj.1 (by have : c.toNat = 48 := by omega
                                                    rw [this]; rfl))
                  have HTL : Hid (t' ++ [c] = L) := Lib.hid (by rw [← HTR.out, trimR_stop t' hc])
                  have HRX := Lib.hid (HRR.out (t' ++ [c]))
                  have s5 : (D ++ ⟨#[46]⟩).size ≤ 22 := by rw [ByteArray.size_append]; show D.size + 1 ≤ _; omega
                  have s6 : ((⟨#[]⟩ : ByteArray) ++ D).size ≤ 22 := by rw [nil_app]; omega
                  have s7 : ((⟨#[]⟩ : ByteArray) ++ D ++ ⟨#[46]⟩).size ≤ 22 := by rw [nil_app]; exact s5
                  clear hne hc HTR htg htl hL
                  generalize t'.length = j at *
                  generalize tx (t' ++ [c]) = M at *
                  go_wp2
                  try go_ret
                  exact ⟨by rw [← HRV.out, ← HTL.out, HRX.out]; first | rfl | (rw [nil_app]; rfl) | exact congrArg (fun x => Ending.returned (Value.string (x ++ _ ++ _))) (nil_app D), hB⟩
end Go.Proofs.YtdmkiiggpelmaaaGreatDoor
