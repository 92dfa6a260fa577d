/- The digits around a point; an exponent; digits with their point moved. -/
import Derived.Test.YtdmkiiggpelmaaaGreatDoorFxD
namespace Go.Proofs.YtdmkiiggpelmaaaGreatDoor
open Go Go.RowKit

theorem empty_eq {l : List UInt8} (h : l = []) : (tx l).toList = [] := is_empty (s := tx l) h
theorem tx_ne {l : List UInt8} (h : l ≠ []) : (!(tx l).toList.isEmpty) = true := ne_empty (s := tx l) h
theorem tx_ne2 {l : List UInt8} (h : l ≠ []) : (tx l).toList.isEmpty = false := by simpa using tx_ne h
theorem tx_app (a b : List UInt8) : tx a ++ tx b = tx (a ++ b) := by
  have h : (tx a ++ tx b).data.toList = (tx (a ++ b)).data.toList := by simp [tx]
  rw [← tx_list (tx a ++ tx b), ← tx_list (tx (a ++ b)), h]
theorem dig_le (l : List UInt8) : (dig l).length ≤ l.length := by have := dig_len l; omega
theorem tx_max {l : List UInt8} {n : Nat} (h : l.length ≤ n) (hn : n ≤ 9223372036854775807) : (tx l).size ≤ maxLen := by
  unfold maxLen
  rw [← size_list, list_tx]
  omega
theorem tx_len (l : List UInt8) : (tx l).size = l.length := by rw [← size_list, list_tx]

set_option maxHeartbeats 4000000 in
theorem decimal_any (B : Nat) (l : List UInt8) (hl : l.length ≤ 64) (w : World) (hR : RdAt B (tx l) w) :
    Calls Tryz.prog 50 #[.pointer (some ⟨B, 0, none⟩)] w fun e w' =>
      match decF l with
      | some (wh, p, m) => e = .returned (.tuple #[.string (tx wh), .string (tx p)]) ∧ RdAt B (tx m) w' ∧ Below B w w'
      | none => e = PE 2 ∧ Below B w w' := by
  have h1 := digits_ok B (tx l) (tx_max hl (by decide)) 0 64 (by decide) (by decide) (Nat.zero_le _) (by have := dig_le l; rw [list_tx]; omega) w hR
  rw [list_tx] at h1
  have hr : (rst l).length ≤ 64 := Nat.le_trans (rst_len l) hl
  have hk : (tkR [46] (rst l)).length ≤ 64 := Nat.le_trans (tkR_len _ _) hr
  have h2 := fun w h => takes_any B (tx (rst l)) (tx [46]) (tx_max hr (by decide)) w h
  simp only at h2
  have hdl := dig_le (tkR [46] (rst l))
  have hdl0 := dig_le l
  have h3 := fun w h a => digits_ok B (tx (tkR [46] (rst l))) (tx_max hk (by decide)) 1 64 (by decide) (by decide) a (by rw [list_tx]; omega) w h
  have h4 := fun w h a => digits_bad B (tx (tkR [46] (rst l))) (tx_max hk (by decide)) 1 64 (by decide) (by decide) a w h
  simp only at h3 h4
  unfold decF
  by_cases hp : tkB [46] (rst l) = true
  · rw [if_pos hp]
    rw [hp] at h2
    by_cases hd : dig (tkR [46] (rst l)) = []
    · rw [if_pos hd]
      have h5 := fun w h => h4 w h (by rw [hd]; simp)
      dsimp only
      clear h3 h4 hd hp hdl hdl0 hr hk hl
      go_enter Tryz.func50, Tryz.ntmps50
      go_wp2_with fail
      refine h1.mono ?_
      rintro e w1 ⟨rfl, hR1, hB1⟩
      go_wp2_with fail
      refine (h2 _ hR1).mono ?_
      rintro e w2 ⟨rfl, hR2, hB2⟩
      go_wp2_with fail
      refine (h5 _ hR2).mono ?_
      rintro e w3 ⟨rfl, rfl⟩
      go_wp2
      exact ⟨rfl, rfl, hB1.trans hB2⟩
    · rw [if_neg hd]
      have hd1 : 1 ≤ (dig (tkR [46] (rst l))).length := List.length_pos_iff.2 hd
      have h5 := fun w h => h3 w h hd1
      obtain ⟨m, hm⟩ : ∃ m, dig l = m := ⟨_, rfl⟩
      obtain ⟨p, hpe⟩ : ∃ p, dig (tkR [46] (rst l)) = p := ⟨_, rfl⟩
      rw [hpe] at h5 hd hd1 hdl ⊢
      rw [hm] at h1 hdl0 ⊢
      have hne := tx_ne2 (l := m ++ p) (by simp [hd])
      rw [← tx_app] at hne
      have hsum : (tx m).size + (tx p).size ≤ 9223372036854775807 := by rw [tx_len, tx_len]; omega
      dsimp only
      clear h3 h4 hd hp hdl hdl0 hr hk hl hm hpe hd1
      generalize tx m = M at h1 hne hsum ⊢
      generalize tx p = Q at h5 hne hsum ⊢
      go_enter Tryz.func50, Tryz.ntmps50
      go_wp2_with fail
      refine h1.mono ?_
      rintro e w1 ⟨rfl, hR1, hB1⟩
      go_wp2_with fail
      refine (h2 _ hR1).mono ?_
      rintro e w2 ⟨rfl, hR2, hB2⟩
      go_wp2_with fail
      refine (h5 _ hR2).mono ?_
      rintro e w3 ⟨rfl, hR3, hB3⟩
      go_wp2
      try go_ret2
      exact ⟨rfl, hR3, (hB1.trans hB2).trans hB3⟩
  · have hp' : tkB [46] (rst l) = false := by simpa using hp
    rw [if_neg hp]
    rw [hp'] at h2
    have htk : tkR [46] (rst l) = rst l := by
      cases hl : rst l with
      | nil => rfl
      | cons c t => rw [hl] at hp'; rw [tkR_cons, if_neg (by rw [show ([46] : List UInt8).contains c = false from hp']; decide)]
    rw [htk] at h2
    obtain ⟨m, hm⟩ : ∃ m, dig l = m := ⟨_, rfl⟩
    rw [hm] at h1 hdl0 ⊢
    by_cases hd : m = []
    · rw [if_pos hd]
      have hem := empty_eq hd
      have hem2 : (tx m).size = 0 := by rw [tx_len, hd]; rfl
      have hap : tx m ++ ⟨#[]⟩ = tx m := by have := tx_app m []; rw [List.append_nil] at this; exact this
      dsimp only
      clear h3 h4 hp hp' hdl hdl0 hr hk hl hm hd
      generalize tx m = M at h1 hem hem2 hap ⊢
      go_enter Tryz.func50, Tryz.ntmps50
      go_wp2_with fail
      refine h1.mono ?_
      rintro e w1 ⟨rfl, hR1, hB1⟩
      go_wp2_with fail
      refine (h2 _ hR1).mono ?_
      rintro e w2 ⟨rfl, hR2, hB2⟩
      go_wp2
      exact ⟨rfl, rfl, hB1.trans hB2⟩
    · rw [if_neg hd]
      have hem := tx_ne2 hd
      have hsz : (tx m).size ≤ 9223372036854775807 := by rw [tx_len]; omega
      have hap : tx m ++ ⟨#[]⟩ = tx m := by have := tx_app m []; rw [List.append_nil] at this; exact this
      dsimp only
      clear h3 h4 hp hp' hdl hdl0 hr hk hl hm hd
      generalize tx m = M at h1 hem hsz hap ⊢
      go_enter Tryz.func50, Tryz.ntmps50
      go_wp2_with fail
      refine h1.mono ?_
      rintro e w1 ⟨rfl, hR1, hB1⟩
      go_wp2_with fail
      refine (h2 _ hR1).mono ?_
      rintro e w2 ⟨rfl, hR2, hB2⟩
      go_wp2
      try go_ret2
      exact ⟨rfl, hR2, hB1.trans hB2⟩
end Go.Proofs.YtdmkiiggpelmaaaGreatDoor
