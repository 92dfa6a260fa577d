/- LexLines: lines put together with newlines are told, each once, but those that are empty, or begin with a hash. -/
import Derived.Test.YtekpjcdnmidgiaaDoorLxOpen
import Derived.Test.YtekpjcdnmidgiaaDoorLxBak
namespace Go.Proofs.YtekpjcdnmidgiaaDoor
open Go Go.RowKit

theorem lines_more {A : ByteArray} {W : List UInt8} {out : List (List UInt8)} (hW : plainL W = true) (H : ∀ t, linesL (A.data.toList ++ t) = out ++ linesL t) (B : ByteArray) (ret : Bool)
    (hB : B = if ret then A ++ tx W ++ ⟨#[13]⟩ ++ ⟨#[10]⟩ else A ++ tx W ++ ⟨#[10]⟩) : ∀ t, linesL (B.data.toList ++ t) = (out ++ if keptL W then [W] else []) ++ linesL t := by
  intro t
  have e : B.data.toList ++ t = A.data.toList ++ (W ++ ((if ret then [13] else []) ++ 10 :: t)) := by
    subst hB
    cases ret
    · simp only [Bool.false_eq_true, if_false]
      rw [cat_list, cat_list, list_tx]
      simp
    · simp only [if_true]
      rw [cat_list, cat_list, cat_list, list_tx]
      simp
  rw [e, H, lines_line W t hW ret, List.append_assoc]
theorem kept_cases (W : List UInt8) : (W = [] ∧ keptL W = false) ∨ (∃ t, W = 35 :: t ∧ keptL W = false) ∨ (∃ c t, W = c :: t ∧ c ≠ 35 ∧ keptL W = true) := by
  unfold keptL
  rcases W with _ | ⟨c, t⟩
  · exact .inl ⟨rfl, rfl⟩
  · by_cases h : c = 35
    · subst h; exact .inr (.inl ⟨t, rfl, by simp⟩)
    · exact .inr (.inr ⟨c, t, rfl, h, by simp [h]⟩)

set_option maxRecDepth 100000 in
set_option maxHeartbeats 8000000 in
theorem LexLines_walk (p : Option Addr) (l : List ByteArray) (cap : Nat) (hl : l.length ≤ cap) (hm : cap ≤ maxLen) (ret : Bool) (w : World) (hT : Tx p l w) :
    Calls Tryd.prog 5 #[.slice p l.length cap, .bool ret] w fun e w' => e = .returned (.bool true) ∧ Below w.heap.size w w' := by
  unfold maxLen at hm
  have hex := fun w => ex_ok w
  have HT := Lib.hid hT
  obtain ⟨n, hn⟩ : ∃ n, l.length = n := ⟨_, rfl⟩
  rw [hn] at hl ⊢
  have HN := Lib.hid hn
  clear hT hn
  go_enter Tryd.func5, Tryd.ntmps5
  go_wp2_with fail
  refine (hex _).mono ?_
  rintro e w1 ⟨rfl, hB1⟩
  clear hex
  have HB1 := Lib.hid hB1
  clear hB1
  go_wp2
  go_loopg [6, 7, 8] 12 (fun g s6 s7 s8 wx => ∃ (k : Nat) (A : ByteArray) (out : List (List UInt8)), s8 = .int .i64 (k : Int) ∧ s6 = .string A ∧ g + k = 12 ∧ k ≤ n ∧ A.size ≤ 62 * k ∧ out.length ≤ k ∧ Hid (∀ t, linesL (A.data.toList ++ t) = out ++ linesL t) ∧ Hid (GrewS w1.heap.size (.slice none 0 0) out w1 s7 wx))
  case atStart => exact ⟨0, ⟨#[]⟩, [], rfl, rfl, rfl, Nat.zero_le _, Nat.zero_le _, Nat.zero_le _, Lib.hid (fun _ => rfl), Lib.hid (GrewS.refl (OwnS.nil _ _))⟩
  case round =>
    obtain ⟨k, A, out, rfl, rfl, hgk, hkn, hAs, hol, HL, HG⟩ := hrel
    have hsz := HG.out.2.1.size
    have hlow := HG.out.low (N := w1.heap.size) (by intro g hg; cases hg) (Nat.le_refl _)
    have hB := HB1.out.trans (hlow.mono HB1.out.size)
    by_cases hgo : k < n ∧ k < 12
    · obtain ⟨hk1, hk2⟩ := hgo
      have hkl : k < l.length := by rw [HN.out]; exact hk1
      obtain ⟨C, off, rfl, hcell, hls⟩ := HT.out.at_ hB hkl
      have hw := fun w => word_ok l[k] hls w
      have hWp := wordL_plain l[k].data.toList
      have hWl := wordL_len l[k].data.toList
      generalize wordL l[k].data.toList = W at hw hWp hWl
      generalize l[k] = X at hcell hw
      have HM := Lib.hid (lines_more hWp HL.out)
      have hWs : (tx W).size ≤ 60 := by rw [tx_len]; exact hWl
      have z1 : (9223372036854775807 < A.size + (tx W).size) = False := eq_false (by omega)
      have y1 : (⟨#[13]⟩ : ByteArray).size = 1 := rfl
      have y2 : (⟨#[10]⟩ : ByteArray).size = 1 := rfl
      have z2 : (9223372036854775807 < A.size + (tx W).size + (⟨#[13]⟩ : ByteArray).size) = False := eq_false (by omega)
      have z3 : (9223372036854775807 < A.size + (tx W).size + (⟨#[13]⟩ : ByteArray).size + (⟨#[10]⟩ : ByteArray).size) = False := eq_false (by omega)
      have z4 : (9223372036854775807 < A.size + (tx W).size + (⟨#[10]⟩ : ByteArray).size) = False := eq_false (by omega)
      clear HL hls hlow hB hkl hWp
      rcases kept_cases W with ⟨hT0, hk0⟩ | ⟨t, hT0, hk0⟩ | ⟨c, t, hT0, hc, hk0⟩
      · cases ret
        · skip
          subst hT0
          have hM : tx ([] : List UInt8) = ⟨#[]⟩ := rfl
          rw [hM] at hw hWs z1 z2 z3 z4
          have HM2 := Lib.hid (HM.out _ false rfl)
          rw [hM] at HM2
          clear HM
          have hsz2 : (A ++ ⟨#[]⟩ ++ ⟨#[10]⟩ : ByteArray).size ≤ 62 * (k + 1) := by simp only [ByteArray.size_append]; omega
          go_wp2_with fail
          refine (hw _).mono ?_
          rintro e w2 ⟨rfl, hB2⟩
          have HG2 := HG.out.past hB2
          have hs2 := HG2.2.1.size
          have HG3 := Lib.hid HG2
          clear HG HG2 hB2 hw
          go_wp2
          go_roundg (12 - (k + 1))
          case measure => omega
          case rel => exact ⟨k + 1, _, out, by go_num, rfl, by omega, by omega, hsz2, by omega, Lib.hid (by intro t2; have := HM2.out t2; rw [hk0] at this; simp only [Bool.false_eq_true, if_false, List.append_nil] at this; exact this), HG3⟩
        · skip
          subst hT0
          have hM : tx ([] : List UInt8) = ⟨#[]⟩ := rfl
          rw [hM] at hw hWs z1 z2 z3 z4
          have HM2 := Lib.hid (HM.out _ true rfl)
          rw [hM] at HM2
          clear HM
          have hsz2 : (A ++ ⟨#[]⟩ ++ ⟨#[13]⟩ ++ ⟨#[10]⟩ : ByteArray).size ≤ 62 * (k + 1) := by simp only [ByteArray.size_append]; omega
          go_wp2_with fail
          refine (hw _).mono ?_
          rintro e w2 ⟨rfl, hB2⟩
          have HG2 := HG.out.past hB2
          have hs2 := HG2.2.1.size
          have HG3 := Lib.hid HG2
          clear HG HG2 hB2 hw
          go_wp2
          go_roundg (12 - (k + 1))
          case measure => omega
          case rel => exact ⟨k + 1, _, out, by go_num, rfl, by omega, by omega, hsz2, by omega, Lib.hid (by intro t2; have := HM2.out t2; rw [hk0] at this; simp only [Bool.false_eq_true, if_false, List.append_nil] at this; exact this), HG3⟩
      · cases ret
        · skip
          obtain ⟨hz, hx0, hne, hnn⟩ := first_of (M := tx W) (c := 35) (t := t) (by rw [hT0])
          have he := hx0 hz
          have hv35 : (((tx W)[0].toNat : Int) != 35) = false := by rw [he]; rfl
          clear he hx0 hT0
          have HM2 := Lib.hid (HM.out _ false rfl)
          clear HM
          have hsz2 : (A ++ tx W ++ ⟨#[10]⟩).size ≤ 62 * (k + 1) := by simp only [ByteArray.size_append]; omega
          generalize hMx : tx W = M at *
          go_wp2_with fail
          refine (hw _).mono ?_
          rintro e w2 ⟨rfl, hB2⟩
          have HG2 := HG.out.past hB2
          have hs2 := HG2.2.1.size
          have HG3 := Lib.hid HG2
          clear HG HG2 hB2 hw
          go_wp2
          go_roundg (12 - (k + 1))
          case measure => omega
          case rel => exact ⟨k + 1, _, out, by go_num, rfl, by omega, by omega, hsz2, by omega, Lib.hid (by intro t2; have := HM2.out t2; rw [hk0] at this; simp only [Bool.false_eq_true, if_false, List.append_nil] at this; exact this), HG3⟩
        · skip
          obtain ⟨hz, hx0, hne, hnn⟩ := first_of (M := tx W) (c := 35) (t := t) (by rw [hT0])
          have he := hx0 hz
          have hv35 : (((tx W)[0].toNat : Int) != 35) = false := by rw [he]; rfl
          clear he hx0 hT0
          have HM2 := Lib.hid (HM.out _ true rfl)
          clear HM
          have hsz2 : (A ++ tx W ++ ⟨#[13]⟩ ++ ⟨#[10]⟩).size ≤ 62 * (k + 1) := by simp only [ByteArray.size_append]; omega
          generalize hMx : tx W = M at *
          go_wp2_with fail
          refine (hw _).mono ?_
          rintro e w2 ⟨rfl, hB2⟩
          have HG2 := HG.out.past hB2
          have hs2 := HG2.2.1.size
          have HG3 := Lib.hid HG2
          clear HG HG2 hB2 hw
          go_wp2
          go_roundg (12 - (k + 1))
          case measure => omega
          case rel => exact ⟨k + 1, _, out, by go_num, rfl, by omega, by omega, hsz2, by omega, Lib.hid (by intro t2; have := HM2.out t2; rw [hk0] at this; simp only [Bool.false_eq_true, if_false, List.append_nil] at this; exact this), HG3⟩
      · cases ret
        · skip
          obtain ⟨hz, hx0, hne, hnn⟩ := first_of (M := tx W) (c := c) (t := t) (by rw [hT0])
          have he := hx0 hz
          have hv35 : (((tx W)[0].toNat : Int) != 35) = true := by
            rw [he, bne_iff_ne]
            intro e
            exact hc (UInt8.toNat_inj.1 (by have : (35 : UInt8).toNat = 35 := rfl; omega))
          clear he hx0 hT0
          have HM2 := Lib.hid (HM.out _ false rfl)
          clear HM
          have hsz2 : (A ++ tx W ++ ⟨#[10]⟩).size ≤ 62 * (k + 1) := by simp only [ByteArray.size_append]; omega
          generalize hMx : tx W = M at *
          go_wp2_with fail
          refine (hw _).mono ?_
          rintro e w2 ⟨rfl, hB2⟩
          have HG2 := HG.out.past hB2
          have hs2 := HG2.2.1.size
          obtain ⟨v3, w3, hr3, hG3⟩ := append_text 31 HG2.1 W (by omega) hs2
          rw [hMx] at hr3
          have HG3 := Lib.hid (HG2.trans hG3)
          clear HG HG2 hG3 hB2 hw
          go_wp2_with (at_builtin; refine Lib.wpList_append_run _ rfl _ _ _ _ rfl _ _ rfl rfl _ _ hr3 ?_)
          go_roundg (12 - (k + 1))
          case measure => omega
          case rel => exact ⟨k + 1, _, out ++ [W], by go_num, rfl, by omega, by omega, hsz2, by rw [List.length_append, List.length_singleton]; omega, Lib.hid (by intro t2; have := HM2.out t2; rw [hk0, if_pos rfl] at this; exact this), HG3⟩
        · skip
          obtain ⟨hz, hx0, hne, hnn⟩ := first_of (M := tx W) (c := c) (t := t) (by rw [hT0])
          have he := hx0 hz
          have hv35 : (((tx W)[0].toNat : Int) != 35) = true := by
            rw [he, bne_iff_ne]
            intro e
            exact hc (UInt8.toNat_inj.1 (by have : (35 : UInt8).toNat = 35 := rfl; omega))
          clear he hx0 hT0
          have HM2 := Lib.hid (HM.out _ true rfl)
          clear HM
          have hsz2 : (A ++ tx W ++ ⟨#[13]⟩ ++ ⟨#[10]⟩).size ≤ 62 * (k + 1) := by simp only [ByteArray.size_append]; omega
          generalize hMx : tx W = M at *
          go_wp2_with fail
          refine (hw _).mono ?_
          rintro e w2 ⟨rfl, hB2⟩
          have HG2 := HG.out.past hB2
          have hs2 := HG2.2.1.size
          obtain ⟨v3, w3, hr3, hG3⟩ := append_text 31 HG2.1 W (by omega) hs2
          rw [hMx] at hr3
          have HG3 := Lib.hid (HG2.trans hG3)
          clear HG HG2 hG3 hB2 hw
          go_wp2_with (at_builtin; refine Lib.wpList_append_run _ rfl _ _ _ _ rfl _ _ rfl rfl _ _ hr3 ?_)
          go_roundg (12 - (k + 1))
          case measure => omega
          case rel => exact ⟨k + 1, _, out ++ [W], by go_num, rfl, by omega, by omega, hsz2, by rw [List.length_append, List.length_singleton]; omega, Lib.hid (by intro t2; have := HM2.out t2; rw [hk0, if_pos rfl] at this; exact this), HG3⟩
    · have hend : (((k : Int) < (n : Int)) = False) ∨ ((k : Int) < (n : Int) ∧ ((k : Int) < 12) = False) := by
        by_cases h1 : k < n
        · exact .inr ⟨by omega, eq_false (by omega)⟩
        · exact .inl (eq_false (by omega))
      have hA := HL.out []
      rw [List.append_nil, lines_nil, List.append_nil] at hA
      have hln := fun w => lines_ok A (by omega) w
      rw [hA] at hln
      clear HL hgo hA
      rcases hend with h1 | ⟨h1, h2⟩
      · skip
        go_wp2_with fail
        refine (hln _).mono ?_
        rintro e w4 ⟨v4, rfl, hO4, hB4⟩
        have hW4 := HG.out.1.below hB4
        have hsm := same_ok (by omega) hO4 hW4
        have hB5 := hB.trans (hB4.mono hB.size)
        clear hlow hB hB4 hO4 hW4 hln HG
        go_wp2_with fail
        refine hsm.mono ?_
        rintro e w5 ⟨rfl, hB6⟩
        have hB7 := hB5.trans (hB6.mono hB5.size)
        clear hsm hB5 hB6
        go_wp2
        go_ret
        exact ⟨rfl, hB7⟩
      · skip
        go_wp2_with fail
        refine (hln _).mono ?_
        rintro e w4 ⟨v4, rfl, hO4, hB4⟩
        have hW4 := HG.out.1.below hB4
        have hsm := same_ok (by omega) hO4 hW4
        have hB5 := hB.trans (hB4.mono hB.size)
        clear hlow hB hB4 hO4 hW4 hln HG
        go_wp2_with fail
        refine hsm.mono ?_
        rintro e w5 ⟨rfl, hB6⟩
        have hB7 := hB5.trans (hB6.mono hB5.size)
        clear hsm hB5 hB6
        go_wp2
        go_ret
        exact ⟨rfl, hB7⟩
end Go.Proofs.YtekpjcdnmidgiaaDoor
