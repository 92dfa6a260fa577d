/- An exponent; digits with their point moved. -/
import Derived.Test.YtdmkiiggpelmaaaGreatDoorFxE
namespace Go.Proofs.YtdmkiiggpelmaaaGreatDoor
open Go Go.RowKit

theorem fit_small {b : Bool} {d : List UInt8} (hd : AllDig d) (h : d.length ≤ 4) : fitF b (val d) = (sgn b (val d), 0) := by
  refine fit_of ?_
  have h1 := val_lt hd
  have h2 : 10 ^ d.length ≤ 10 ^ 4 := Nat.pow_le_pow_right (by decide) h
  have h3 : (10 : Nat) ^ 4 = 10000 := by decide
  have h4 : 10000 ≤ most b := by cases b <;> decide
  omega

set_option maxHeartbeats 4000000 in
theorem exponent_any (B : Nat) (l : List UInt8) (hl : l.length ≤ 64) (w : World) (hR : RdAt B (tx l) w) :
    Calls Tryz.prog 51 #[.pointer (some ⟨B, 0, none⟩)] w fun e w' =>
      match expF l with
      | some (x, m) => e = .returned (.int .i64 x) ∧ RdAt B (tx m) w' ∧ Below B w w'
      | none => e = PE 2 ∧ Below B w w' := by
  have h1 := takes_any B (tx l) (tx [101, 69]) (tx_max hl (by decide)) w hR
  simp only at h1
  have hk1 : (tkR [101, 69] l).length ≤ 64 := Nat.le_trans (tkR_len _ _) hl
  have h2 := fun w h => sign_any B (tx (tkR [101, 69] l)) (tx [43, 45]) (tx_max hk1 (by decide)) w h
  simp only at h2
  have hk2 : (tkR [43, 45] (tkR [101, 69] l)).length ≤ 64 := Nat.le_trans (tkR_len _ _) hk1
  unfold expF
  by_cases hp : tkB [101, 69] l = true
  · rw [if_pos hp]
    rw [hp] at h1
    simp only
    generalize sgB [43, 45] (tkR [101, 69] l) = b at h2 ⊢
    generalize tkR [43, 45] (tkR [101, 69] l) = m at h2 hk2 ⊢
    by_cases hd : (dig m).length < 1 ∨ 4 < (dig m).length
    · rw [if_pos hd]
      have h3 := fun w h => digits_bad B (tx m) (tx_max hk2 (by decide)) 1 4 (by decide) (by decide) (by rw [list_tx]; omega) w h
      dsimp only
      clear hd hp hk1 hk2 hl
      go_enter Tryz.func51, Tryz.ntmps51
      go_wp2_with fail
      refine h1.mono ?_
      rintro e w1 ⟨rfl, hR1, hB1⟩
      go_wp2_with fail
      refine (h2 _ hR1).mono ?_
      rintro e w2 ⟨rfl, hR2, hB2⟩
      go_wp2_with fail
      refine (h3 _ hR2).mono ?_
      rintro e w3 ⟨rfl, rfl⟩
      go_wp2
      exact ⟨rfl, rfl, hB1.trans hB2⟩
    · rw [if_neg hd]
      have h3 := fun w h => digits_ok B (tx m) (tx_max hk2 (by decide)) 1 4 (by decide) (by decide) (by rw [list_tx]; omega) (by rw [list_tx]; omega) w h
      simp only at h3
      have hz : (tx (dig m)).size ≤ 19 := by rw [tx_len]; omega
      have h4 := fun w => number_any b (tx (dig m)) (by rw [list_tx]; exact dig_all m) hz w
      simp only at h4
      rw [fit_small (dig_all m) (by omega)] at h4
      have he : EndOf (sgn b (val (dig m)), 0) = .returned (.int .i64 (sgn b (val (dig m)))) := rfl
      rw [he] at h4
      generalize tx (dig m) = M at h3 h4
      generalize sgn b (val (dig m)) = n at h4 ⊢
      dsimp only
      clear hd hp hk1 hk2 hl hz he
      go_enter Tryz.func51, Tryz.ntmps51
      go_wp2_with fail
      refine h1.mono ?_
      rintro e w1 ⟨rfl, hR1, hB1⟩
      go_wp2_with fail
      refine (h2 _ hR1).mono ?_
      rintro e w2 ⟨rfl, hR2, hB2⟩
      go_wp2_with fail
      refine (h3 _ hR2).mono ?_
      rintro e w3 ⟨rfl, hR3, hB3⟩
      go_wp2_with fail
      refine (h4 _).mono ?_
      rintro e w4 ⟨rfl, rfl⟩
      go_wp2
      try go_ret
      exact ⟨rfl, hR3, (hB1.trans hB2).trans hB3⟩
  · rw [if_neg hp]
    have hp' : tkB [101, 69] l = false := by simpa using hp
    rw [hp'] at h1
    have htk : tkR [101, 69] l = l := by
      cases l with
      | nil => rfl
      | cons c t => rw [tkR_cons, if_neg (by rw [show ([101, 69] : List UInt8).contains c = false from hp']; decide)]
    rw [htk] at h1
    dsimp only
    clear h2 hk1 hk2 hp hp' htk
    go_enter Tryz.func51, Tryz.ntmps51
    go_wp2_with fail
    refine h1.mono ?_
    rintro e w1 ⟨rfl, hR1, hB1⟩
    go_wp2
    try go_ret
    exact ⟨rfl, hR1, hB1⟩

theorem end_cases (r : Int × Int) : EndOf r = .returned (.int .i64 r.1) ∨ EndOf r = PE r.2 := by
  unfold EndOf
  by_cases h : r.2 = 0
  · rw [if_pos h]; exact .inl rfl
  · rw [if_neg h]; exact .inr rfl
theorem repeat_zero (n : Nat) : Lib.repeatL [48] n = List.replicate n (48 : UInt8) := by
  induction n with
  | zero => rfl
  | succ n ih => rw [List.replicate_succ, ← ih]; simp [Lib.repeatL]

set_option maxHeartbeats 4000000 in
theorem shifted_any (b : Bool) (D : List UInt8) (k : Int) (hD : AllDig D) (hl : D.length ≤ 128) (hk1 : -20000 ≤ k) (hk2 : k ≤ 20000) (w : World) :
    Calls Tryz.prog 53 #[.bool b, .string (tx D), .int .i64 k] w fun e w' => e = EndOf (shV b (val D) k) ∧ Below w.heap.size w w' := by
  rw [← shP_eq hD]
  have h1 := Tryz.strings_TrimLeft_one (tx D) 48 (by decide) w
  simp only at h1
  have hL := trimL_all hD
  have hLl := trimL_len D
  unfold shP
  simp only
  generalize Lib.trimLeftB D 48 = L at h1 hL hLl ⊢
  by_cases h0 : L = []
  · rw [if_pos h0]
    have hem := empty_eq h0
    have hE : EndOf (0, 0) = .returned (.int .i64 0) := rfl
    rw [hE]
    clear hL hLl h0 hE
    change Calls _ _ _ _ fun e w' => e = .returned (.string (tx L)) ∧ w' = w at h1
    generalize tx L = M at h1 hem
    go_enter Tryz.func53, Tryz.ntmps53
    go_wp2_with fail
    refine h1.mono ?_
    rintro e w1 ⟨rfl, rfl⟩
    go_wp2
    try go_ret
    exact ⟨rfl, Below.refl _ _⟩
  · rw [if_neg h0]
    have hne := tx_ne2 h0
    have hsz : (tx L).size = L.length := tx_len L
    have h2 := fun w => Tryz.strings_TrimRight_one (tx L) 48 (by decide) w (by rw [hsz]; omega)
    simp only at h2
    have hK := trimR_all hL
    have hKl := trimR_len L
    generalize Lib.trimRightB L 48 = K at h2 hK hKl ⊢
    have hszK : (tx K).size = K.length := tx_len K
    obtain ⟨s, hs⟩ : ∃ s : Int, k + ((L.length : Int) - K.length) = s := ⟨_, rfl⟩
    rw [hs]
    have hs1 : -20000 ≤ s := by omega
    have hs2 : s ≤ 20200 := by omega
    change Calls _ _ _ _ fun e w' => e = .returned (.string (tx L)) ∧ w' = w at h1
    change ∀ w, Calls _ _ _ w fun e w' => e = .returned (.string (tx K)) ∧ w' = w at h2
    by_cases hn : s < 0
    · rw [if_pos (Or.inl hn)]
      have hsum : k + (((tx L).size : Int) - ((tx K).size : Int)) = s := by rw [hsz, hszK]; exact hs
      have hb1 : (tx L).size ≤ 128 := by omega
      have hb2 : (tx K).size ≤ (tx L).size := by omega
      clear hs hsz hszK hK hKl hL hLl h0 hs2
      generalize tx L = M at h1 h2 hne hsum hb1 hb2
      generalize tx K = Q at h2 hsum hb2
      go_enter Tryz.func53, Tryz.ntmps53
      go_wp2_with fail
      refine h1.mono ?_
      rintro e w1 ⟨rfl, rfl⟩
      go_wp2_with fail
      refine (h2 _).mono ?_
      rintro e w2 ⟨rfl, rfl⟩
      go_wp2
      exact ⟨rfl, rfl, Below.refl _ _⟩
    · by_cases hf : 19 < (K.length : Int) + s
      · rw [if_pos (Or.inr hf)]
        have hsum : k + (((tx L).size : Int) - ((tx K).size : Int)) = s := by rw [hsz, hszK]; exact hs
        have hb1 : (tx L).size ≤ 128 := by omega
        have hb2 : (tx K).size ≤ (tx L).size := by omega
        rw [← hszK] at hf
        clear hs hsz hszK hK hKl hL hLl h0
        generalize tx L = M at h1 h2 hne hsum hb1 hb2
        generalize tx K = Q at h2 hsum hb2 hf
        go_enter Tryz.func53, Tryz.ntmps53
        go_wp2_with fail
        refine h1.mono ?_
        rintro e w1 ⟨rfl, rfl⟩
        go_wp2_with fail
        refine (h2 _).mono ?_
        rintro e w2 ⟨rfl, rfl⟩
        go_wp2
        exact ⟨rfl, rfl, Below.refl _ _⟩
      · rw [if_neg (by omega)]
        obtain ⟨n, rfl⟩ : ∃ n : Nat, s = n := ⟨s.toNat, by omega⟩
        have h3 := fun w => Tryz.strings_Repeat (tx [48]) n w (by omega) (by rw [tx_len]; simp; omega)
        simp only [repeat_zero] at h3
        change ∀ w, Calls _ _ _ w fun e w' => e = .returned (.string (tx (List.replicate n 48))) ∧ Below w.heap.size w w' at h3
        have hz : (tx (K ++ List.replicate n 48)).size ≤ 19 := by rw [tx_len]; simp; omega
        have h4 := fun w => number_any b (tx (K ++ List.replicate n 48)) (by rw [list_tx]; exact hK.app (AllDig.zeros n)) hz w
        simp only at h4
        rw [Int.toNat_natCast]
        rw [← tx_app] at h4
        have hsum : k + (((tx L).size : Int) - ((tx K).size : Int)) = (n : Int) := by rw [hsz, hszK]; exact hs
        have hb1 : (tx L).size ≤ 128 := by omega
        have hb2 : (tx K).size ≤ (tx L).size := by omega
        rw [← hszK] at hf
        have hb3 : (tx K).size + (tx (List.replicate n 48)).size ≤ 9223372036854775807 := by rw [tx_len (List.replicate n 48)]; simp; omega
        clear hs hsz hszK hK hKl hLl h0 hz
        generalize tx L = M at h1 h2 hne hsum hb1 hb2
        generalize tx K = Q at h2 h4 hsum hb2 hb3 hf
        generalize tx (List.replicate n 48) = Z at h3 h4 hb3
        rcases end_cases (fitF b (val (K ++ List.replicate n 48))) with hE | hE
        all_goals
          rw [hE] at h4 ⊢
          generalize (fitF b (val (K ++ List.replicate n 48))).1 = v at h4 ⊢
          generalize (fitF b (val (K ++ List.replicate n 48))).2 = u at h4 ⊢
          clear hE
          go_enter Tryz.func53, Tryz.ntmps53
          go_wp2_with fail
          refine h1.mono ?_
          rintro e w1 ⟨rfl, rfl⟩
          go_wp2_with fail
          refine (h2 _).mono ?_
          rintro e w2 ⟨rfl, rfl⟩
          go_wp2_with fail
          refine (h3 _).mono ?_
          rintro e w3 ⟨rfl, hB⟩
          go_wp2_with fail
          refine (h4 _).mono ?_
          rintro e w4 ⟨rfl, rfl⟩
          go_wp2
          try go_ret
          first | exact ⟨rfl, hB⟩ | exact ⟨rfl, rfl, hB⟩
end Go.Proofs.YtdmkiiggpelmaaaGreatDoor
