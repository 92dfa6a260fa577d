/- FixedWhole, walked. -/
import Derived.Test.YtpbphocpkmkoeaaDoorFxEnd
namespace Go.Proofs.YtpbphocpkmkoeaaDoor
open Go Go.RowKit

theorem whole_bad {s W t : List UInt8} {b : Bool} {c : UInt8} (hs : s = [] ∧ b = false ∨ s = [45] ∧ b = true) (hW : AllDig W) (hn : W ≠ []) (hc : isDig c = false) : wholeF (s ++ (W ++ c :: t)) = (0, 2) := by
  obtain ⟨h3, h4⟩ := sg1_app hs (NoSg.dig (m := c :: t) hW hn)
  obtain ⟨h6, h7⟩ := dig_app (b := c :: t) hW (NoDig.cons hc)
  unfold wholeF
  rw [h4, h6, h7]
  simp
theorem whole_long {s W : List UInt8} {b : Bool} (hs : s = [] ∧ b = false ∨ s = [45] ∧ b = true) (hW : AllDig W) (hn : W ≠ []) (hl : 19 < W.length) : wholeF (s ++ W) = (0, 2) := by
  obtain ⟨h3, h4⟩ := sg1_app hs (l := W) (by have := NoSg.dig (m := []) hW hn; simpa using this)
  obtain ⟨h6, h7⟩ := dig_full hW
  unfold wholeF
  rw [h4, h6, if_pos (by omega)]
theorem max_neg (n : Int) (h1 : -9223372036854775808 ≤ n) (h2 : n < 0) : IntKind.u64.wrap (max n (wrap64 (-n))) = (farF n : Int) := by
  unfold farF wrap64
  simp only [IntKind.wrap, IntKind.bits, IntKind.signed]
  simp
  omega

set_option maxHeartbeats 8000000 in
set_option maxRecDepth 100000 in
theorem FixedWhole_walk (n : Int) (hn : (Lit.int .i64 n).wf = true) (y : Int) (hy : (Lit.int .u8 y).wf = true) (w : World) (hT : Tens w) :
    Calls Tryd.prog 10 #[.int .i64 n, .int .u8 y] w fun e w' => e = .returned (.bool true) ∧ Below w.heap.size w w' := by
  have HT := Lib.hid hT
  have hi := in_64 hn
  have hft := far_fit hi
  have hfl := far_le hi
  have hsf := sgn_far n
  obtain ⟨y0, y1⟩ := u8_in hy
  obtain ⟨n0, n1⟩ := in_64 hn
  obtain ⟨z, hz⟩ : ∃ z : Nat, y % 20 = (z : Int) := ⟨(y % 20).toNat, by omega⟩
  have hz20 : z < 20 := by omega
  have hmn := fun h => max_neg n n0 h
  have hun := fun h => u64_of_neg n n0 h
  have hfe : (farF n : Int) = if n < 0 then -n else n := by
    unfold farF
    split <;> omega
  generalize farF n = f at *
  have hD := fun w => digits19 f (by omega) w
  have hdl := dec_19 hfl
  have hda := dec_all f
  have hdn := dec_ne f
  have hd1 := dec_len f
  have hdv := dec_val f
  generalize Lib.decDigits f = d at *
  have hWa : AllDig (List.replicate z 48 ++ d) := (AllDig.zeros z).app hda
  have hWn : List.replicate z 48 ++ d ≠ [] := by simp [hdn]
  have hWl : (List.replicate z 48 ++ d).length = z + d.length := by simp
  have hWv : val (List.replicate z 48 ++ d) = f := by rw [val_app, val_zeros, hdv]; simp
  by_cases hneg : n < 0
  · have hnb : negB n = true := decide_eq_true hneg
    rw [hnb] at hft hsf
    have hm1 := hmn hneg
    have hu1 : IntKind.u64.wrap (-(IntKind.u64.wrap n)) = (f : Int) := by rw [hun hneg, hfe, if_pos hneg]
    clear hmn hun hfe
    have hSZ : ∀ k : Nat, k < z → (tx (List.replicate k 48 ++ d)).size ≤ 40 := fun k hk => by rw [tx_len]; simp; omega
    have HSZ := Lib.hid hSZ
    clear hSZ
    have h1 := fun w => wholeL_any ([45] ++ d) (by unfold maxLen; simp; omega) w
    have h2 := fun w => wholeL_any ([45] ++ (List.replicate z 48 ++ d)) (by unfold maxLen; simp; omega) w
    have h3 := fun w => wholeL_any ([45] ++ ((List.replicate z 48 ++ d) ++ [46, 48])) (by unfold maxLen; simp; omega) w
    have h4 := fun w => wholeL_any ([45] ++ ((List.replicate z 48 ++ d) ++ [101, 48])) (by unfold maxLen; simp; omega) w
    rw [whole_of (b := true) (.inr ⟨rfl, rfl⟩) hda hd1 hdl, hdv, fit_of hft] at h1
    rw [whole_bad (b := true) (.inr ⟨rfl, rfl⟩) hWa hWn (by decide)] at h3 h4
    dsimp only at h1
    rw [hsf] at h1
    rw [← List.append_assoc] at h3 h4
    rw [← tx_app] at h3 h4
    rw [← tx_app] at h1 h2
    have hx3 : tx ([45] ++ (List.replicate z 48 ++ d)) = tx [45] ++ tx (List.replicate z 48 ++ d) := (tx_app _ _).symm
    rw [hx3] at h3 h4
    have hDs : (⟨#[45]⟩ : ByteArray).size + (tx d).size ≤ 9223372036854775807 := by rw [tx_len]; show 1 + d.length ≤ _; omega
    obtain ⟨D, hDe⟩ : ∃ D, tx d = D := ⟨_, rfl⟩
    rw [hDe] at hD h1 hDs
    have HDE := Lib.hid hDe
    clear hDe
    have hRl : (tx (List.replicate z 48 ++ d)).size = z + d.length := by rw [tx_len]; exact hWl
    obtain ⟨R, hR⟩ : ∃ R, tx (List.replicate z 48 ++ d) = R := ⟨_, rfl⟩
    rw [hR] at h2 h3 h4 hRl
    have hRb : R.size ≤ 40 := by omega
    have t1 : (⟨#[45]⟩ : ByteArray).size + R.size ≤ 9223372036854775807 := by show 1 + R.size ≤ _; omega
    have t2 : ((⟨#[45]⟩ : ByteArray) ++ R).size + (⟨#[46, 48]⟩ : ByteArray).size ≤ 9223372036854775807 := by rw [ByteArray.size_append]; show 1 + R.size + 2 ≤ _; omega
    have t3 : ((⟨#[45]⟩ : ByteArray) ++ R).size + (⟨#[101, 48]⟩ : ByteArray).size ≤ 9223372036854775807 := by rw [ByteArray.size_append]; show 1 + R.size + 2 ≤ _; omega
    by_cases hs19 : R.size ≤ 19
    · rw [whole_of (b := true) (.inr ⟨rfl, rfl⟩) hWa (by omega) (by omega), hWv, fit_of hft] at h2
      dsimp only at h2
      rw [hsf] at h2
      have hs19' : ¬ ((19 : Int) < (R.size : Int)) := by omega
      clear hs19 hRl
      clear hft hfl hi hdl hda hdn hd1 hdv hWa hWn hWl hWv hT hn hy
      have HR := Lib.hid hR
      clear hR hsf
      go_enter Tryd.func10, Tryd.ntmps10
      go_wp2_with fail
      refine (examples_any _ HT.out).mono ?_
      rintro e w1 ⟨rfl, hB1⟩
      have hE1 := hB1
      clear hB1
      go_wp2_with fail
      refine (hD _).mono ?_
      rintro e w2 ⟨rfl, hB2⟩
      have hE2 := hE1.trans (hB2.mono hE1.size)
      clear hB2 hE1
      go_wp2_with fail
      refine (hD _).mono ?_
      rintro e w3 ⟨rfl, hB3⟩
      have hE3 := hE2.trans (hB3.mono hE2.size)
      clear hB3 hE2
      go_wp2_with fail
      refine (h1 _).mono ?_
      rintro e w4 ⟨rfl, hB4⟩
      have hE4 := hE3.trans (hB4.mono hE3.size)
      clear hB4 hE3
      clear hD h1
      go_wp2
      go_loop [6, 10] (fun s8 i => ∃ k : Nat, k ≤ z ∧ i = .int .i64 k ∧ s8 = .string (tx (List.replicate k 48 ++ d))) (fun _ i => z - (intOf i).toNat)
      case atStart => exact ⟨0, Nat.zero_le _, rfl, by rw [List.replicate_zero, List.nil_append, HDE.out]⟩
      case round =>
        obtain ⟨k, hk, rfl, rfl⟩ := hrel
        by_cases hlt : k < z
        · have hsz : (⟨#[48]⟩ : ByteArray).size + (tx (List.replicate k 48 ++ d)).size ≤ 9223372036854775807 := by have h1 := HSZ.out k hlt; show 1 + (tx (List.replicate k 48 ++ d)).size ≤ _; omega
          go_wp2
          go_round
          case rel => exact ⟨k + 1, by omega, by go_num, by rw [List.replicate_succ]; exact congrArg Value.string (tx_app [48] _)⟩
          case measure => simp [intOf]; omega
        · obtain rfl : k = z := by omega
          rw [HR.out]
          clear hlt hk
          go_wp2_with fail
          refine (h2 _).mono ?_
          rintro e w5 ⟨rfl, hB5⟩
          have hE5 := hE4.trans (hB5.mono hE4.size)
          clear hB5 hE4
          go_wp2_with fail
          refine (h3 _).mono ?_
          rintro e w6 ⟨rfl, hB6⟩
          have hE6 := hE5.trans (hB6.mono hE5.size)
          clear hB6 hE5
          go_wp2_with fail
          refine (h4 _).mono ?_
          rintro e w7 ⟨rfl, hB7⟩
          have hE7 := hE6.trans (hB7.mono hE6.size)
          clear hB7 hE6
          clear h2 h3 h4
          go_wp2
          try go_ret
          exact ⟨rfl, hE7⟩
    · rw [whole_long (b := true) (.inr ⟨rfl, rfl⟩) hWa hWn (by omega)] at h2
      dsimp only at h2
      have hs19' : (19 : Int) < (R.size : Int) := by omega
      clear hs19 hRl
      clear hft hfl hi hdl hda hdn hd1 hdv hWa hWn hWl hWv hT hn hy
      have HR := Lib.hid hR
      clear hR hsf
      go_enter Tryd.func10, Tryd.ntmps10
      go_wp2_with fail
      refine (examples_any _ HT.out).mono ?_
      rintro e w1 ⟨rfl, hB1⟩
      have hE1 := hB1
      clear hB1
      go_wp2_with fail
      refine (hD _).mono ?_
      rintro e w2 ⟨rfl, hB2⟩
      have hE2 := hE1.trans (hB2.mono hE1.size)
      clear hB2 hE1
      go_wp2_with fail
      refine (hD _).mono ?_
      rintro e w3 ⟨rfl, hB3⟩
      have hE3 := hE2.trans (hB3.mono hE2.size)
      clear hB3 hE2
      go_wp2_with fail
      refine (h1 _).mono ?_
      rintro e w4 ⟨rfl, hB4⟩
      have hE4 := hE3.trans (hB4.mono hE3.size)
      clear hB4 hE3
      clear hD h1
      go_wp2
      go_loop [6, 10] (fun s8 i => ∃ k : Nat, k ≤ z ∧ i = .int .i64 k ∧ s8 = .string (tx (List.replicate k 48 ++ d))) (fun _ i => z - (intOf i).toNat)
      case atStart => exact ⟨0, Nat.zero_le _, rfl, by rw [List.replicate_zero, List.nil_append, HDE.out]⟩
      case round =>
        obtain ⟨k, hk, rfl, rfl⟩ := hrel
        by_cases hlt : k < z
        · have hsz : (⟨#[48]⟩ : ByteArray).size + (tx (List.replicate k 48 ++ d)).size ≤ 9223372036854775807 := by have h1 := HSZ.out k hlt; show 1 + (tx (List.replicate k 48 ++ d)).size ≤ _; omega
          go_wp2
          go_round
          case rel => exact ⟨k + 1, by omega, by go_num, by rw [List.replicate_succ]; exact congrArg Value.string (tx_app [48] _)⟩
          case measure => simp [intOf]; omega
        · obtain rfl : k = z := by omega
          rw [HR.out]
          clear hlt hk
          go_wp2_with fail
          refine (h2 _).mono ?_
          rintro e w5 ⟨rfl, hB5⟩
          have hE5 := hE4.trans (hB5.mono hE4.size)
          clear hB5 hE4
          go_wp2_with fail
          refine (h3 _).mono ?_
          rintro e w6 ⟨rfl, hB6⟩
          have hE6 := hE5.trans (hB6.mono hE5.size)
          clear hB6 hE5
          go_wp2_with fail
          refine (h4 _).mono ?_
          rintro e w7 ⟨rfl, hB7⟩
          have hE7 := hE6.trans (hB7.mono hE6.size)
          clear hB7 hE6
          clear h2 h3 h4
          go_wp2
          try go_ret
          exact ⟨rfl, hE7⟩
  · have hnb : negB n = false := decide_eq_false hneg
    rw [hnb] at hft hsf
    rw [if_neg hneg] at hfe
    subst hfe
    have hm1 : max (f : Int) (-f) = (f : Int) := by omega
    clear hmn hun
    have hSZ : ∀ k : Nat, k < z → (tx (List.replicate k 48 ++ d)).size ≤ 40 := fun k hk => by rw [tx_len]; simp; omega
    have HSZ := Lib.hid hSZ
    clear hSZ
    have h1 := fun w => wholeL_any ([] ++ d) (by unfold maxLen; simp; omega) w
    have h2 := fun w => wholeL_any ([] ++ (List.replicate z 48 ++ d)) (by unfold maxLen; simp; omega) w
    have h3 := fun w => wholeL_any ([] ++ ((List.replicate z 48 ++ d) ++ [46, 48])) (by unfold maxLen; simp; omega) w
    have h4 := fun w => wholeL_any ([] ++ ((List.replicate z 48 ++ d) ++ [101, 48])) (by unfold maxLen; simp; omega) w
    rw [whole_of (b := false) (.inl ⟨rfl, rfl⟩) hda hd1 hdl, hdv, fit_of hft] at h1
    rw [whole_bad (b := false) (.inl ⟨rfl, rfl⟩) hWa hWn (by decide)] at h3 h4
    dsimp only at h1
    rw [hsf] at h1
    rw [← List.append_assoc] at h3 h4
    rw [← tx_app] at h3 h4
    rw [List.nil_append] at h1 h2 h3 h4
    have hDs : (tx d).size ≤ 19 := by rw [tx_len]; exact hdl
    obtain ⟨D, hDe⟩ : ∃ D, tx d = D := ⟨_, rfl⟩
    rw [hDe] at hD h1 hDs
    have HDE := Lib.hid hDe
    clear hDe
    have hRl : (tx (List.replicate z 48 ++ d)).size = z + d.length := by rw [tx_len]; exact hWl
    obtain ⟨R, hR⟩ : ∃ R, tx (List.replicate z 48 ++ d) = R := ⟨_, rfl⟩
    rw [hR] at h2 h3 h4 hRl
    have hRb : R.size ≤ 40 := by omega
    have t2 : R.size + (⟨#[46, 48]⟩ : ByteArray).size ≤ 9223372036854775807 := by show R.size + 2 ≤ _; omega
    have t3 : R.size + (⟨#[101, 48]⟩ : ByteArray).size ≤ 9223372036854775807 := by show R.size + 2 ≤ _; omega
    by_cases hs19 : R.size ≤ 19
    · rw [show wholeF (List.replicate z 48 ++ d) = wholeF ([] ++ (List.replicate z 48 ++ d)) from rfl, whole_of (b := false) (.inl ⟨rfl, rfl⟩) hWa (by omega) (by omega), hWv, fit_of hft] at h2
      dsimp only at h2
      rw [hsf] at h2
      have hs19' : ¬ ((19 : Int) < (R.size : Int)) := by omega
      clear hs19 hRl
      clear hft hfl hi hdl hda hdn hd1 hdv hWa hWn hWl hWv hT hn hy
      have HR := Lib.hid hR
      clear hR hsf
      go_enter Tryd.func10, Tryd.ntmps10
      go_wp2_with fail
      refine (examples_any _ HT.out).mono ?_
      rintro e w1 ⟨rfl, hB1⟩
      have hE1 := hB1
      clear hB1
      go_wp2_with fail
      refine (hD _).mono ?_
      rintro e w2 ⟨rfl, hB2⟩
      have hE2 := hE1.trans (hB2.mono hE1.size)
      clear hB2 hE1
      go_wp2_with fail
      refine (h1 _).mono ?_
      rintro e w3 ⟨rfl, hB3⟩
      have hE3 := hE2.trans (hB3.mono hE2.size)
      clear hB3 hE2
      clear hD h1
      go_wp2
      go_loop [6, 10] (fun s8 i => ∃ k : Nat, k ≤ z ∧ i = .int .i64 k ∧ s8 = .string (tx (List.replicate k 48 ++ d))) (fun _ i => z - (intOf i).toNat)
      case atStart => exact ⟨0, Nat.zero_le _, rfl, by rw [List.replicate_zero, List.nil_append, HDE.out]⟩
      case round =>
        obtain ⟨k, hk, rfl, rfl⟩ := hrel
        by_cases hlt : k < z
        · have hsz : (⟨#[48]⟩ : ByteArray).size + (tx (List.replicate k 48 ++ d)).size ≤ 9223372036854775807 := by have h1 := HSZ.out k hlt; show 1 + (tx (List.replicate k 48 ++ d)).size ≤ _; omega
          go_wp2
          go_round
          case rel => exact ⟨k + 1, by omega, by go_num, by rw [List.replicate_succ]; exact congrArg Value.string (tx_app [48] _)⟩
          case measure => simp [intOf]; omega
        · obtain rfl : k = z := by omega
          rw [HR.out]
          clear hlt hk
          go_wp2_with fail
          refine (h2 _).mono ?_
          rintro e w4 ⟨rfl, hB4⟩
          have hE4 := hE3.trans (hB4.mono hE3.size)
          clear hB4 hE3
          go_wp2_with fail
          refine (h3 _).mono ?_
          rintro e w5 ⟨rfl, hB5⟩
          have hE5 := hE4.trans (hB5.mono hE4.size)
          clear hB5 hE4
          go_wp2_with fail
          refine (h4 _).mono ?_
          rintro e w6 ⟨rfl, hB6⟩
          have hE6 := hE5.trans (hB6.mono hE5.size)
          clear hB6 hE5
          clear h2 h3 h4
          go_wp2
          try go_ret
          exact ⟨rfl, hE6⟩
    · rw [show wholeF (List.replicate z 48 ++ d) = wholeF ([] ++ (List.replicate z 48 ++ d)) from rfl, whole_long (b := false) (.inl ⟨rfl, rfl⟩) hWa hWn (by omega)] at h2
      dsimp only at h2
      have hs19' : (19 : Int) < (R.size : Int) := by omega
      clear hs19 hRl
      clear hft hfl hi hdl hda hdn hd1 hdv hWa hWn hWl hWv hT hn hy
      have HR := Lib.hid hR
      clear hR hsf
      go_enter Tryd.func10, Tryd.ntmps10
      go_wp2_with fail
      refine (examples_any _ HT.out).mono ?_
      rintro e w1 ⟨rfl, hB1⟩
      have hE1 := hB1
      clear hB1
      go_wp2_with fail
      refine (hD _).mono ?_
      rintro e w2 ⟨rfl, hB2⟩
      have hE2 := hE1.trans (hB2.mono hE1.size)
      clear hB2 hE1
      go_wp2_with fail
      refine (h1 _).mono ?_
      rintro e w3 ⟨rfl, hB3⟩
      have hE3 := hE2.trans (hB3.mono hE2.size)
      clear hB3 hE2
      clear hD h1
      go_wp2
      go_loop [6, 10] (fun s8 i => ∃ k : Nat, k ≤ z ∧ i = .int .i64 k ∧ s8 = .string (tx (List.replicate k 48 ++ d))) (fun _ i => z - (intOf i).toNat)
      case atStart => exact ⟨0, Nat.zero_le _, rfl, by rw [List.replicate_zero, List.nil_append, HDE.out]⟩
      case round =>
        obtain ⟨k, hk, rfl, rfl⟩ := hrel
        by_cases hlt : k < z
        · have hsz : (⟨#[48]⟩ : ByteArray).size + (tx (List.replicate k 48 ++ d)).size ≤ 9223372036854775807 := by have h1 := HSZ.out k hlt; show 1 + (tx (List.replicate k 48 ++ d)).size ≤ _; omega
          go_wp2
          go_round
          case rel => exact ⟨k + 1, by omega, by go_num, by rw [List.replicate_succ]; exact congrArg Value.string (tx_app [48] _)⟩
          case measure => simp [intOf]; omega
        · obtain rfl : k = z := by omega
          rw [HR.out]
          clear hlt hk
          go_wp2_with fail
          refine (h2 _).mono ?_
          rintro e w4 ⟨rfl, hB4⟩
          have hE4 := hE3.trans (hB4.mono hE3.size)
          clear hB4 hE3
          go_wp2_with fail
          refine (h3 _).mono ?_
          rintro e w5 ⟨rfl, hB5⟩
          have hE5 := hE4.trans (hB5.mono hE4.size)
          clear hB5 hE4
          go_wp2_with fail
          refine (h4 _).mono ?_
          rintro e w6 ⟨rfl, hB6⟩
          have hE6 := hE5.trans (hB6.mono hE5.size)
          clear hB6 hE5
          clear h2 h3 h4
          go_wp2
          try go_ret
          exact ⟨rfl, hE6⟩
end Go.Proofs.YtpbphocpkmkoeaaDoor
