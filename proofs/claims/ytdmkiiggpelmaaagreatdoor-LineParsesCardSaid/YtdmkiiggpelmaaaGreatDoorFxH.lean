/- The two functions that read, as they throw. -/
import Derived.Test.YtdmkiiggpelmaaaGreatDoorFxG
namespace Go.Proofs.YtdmkiiggpelmaaaGreatDoor
open Go Go.RowKit

theorem read_long {l : List UInt8} (h : 64 < l.length) : EndOf (readF l) = PE 2 := by unfold readF; rw [if_pos h]; rfl
theorem read_dec {l : List UInt8} (h : ¬ 64 < l.length) (hd : decF (tkR [43, 45] l) = none) : EndOf (readF l) = PE 2 := by unfold readF; rw [if_neg h, hd]; rfl
theorem read_exp {l w p m : List UInt8} (h : ¬ 64 < l.length) (hd : decF (tkR [43, 45] l) = some (w, p, m)) (he : expF m = none) : EndOf (readF l) = PE 2 := by
  unfold readF; rw [if_neg h, hd]; simp only [he]; rfl
theorem read_more {l w p m m' : List UInt8} {x : Int} (h : ¬ 64 < l.length) (hd : decF (tkR [43, 45] l) = some (w, p, m)) (he : expF m = some (x, m')) (hm : m' ≠ []) : EndOf (readF l) = PE 2 := by
  unfold readF; rw [if_neg h, hd]; simp only [he]; rw [if_neg hm]; rfl
theorem read_yes {l w p m : List UInt8} {x : Int} (h : ¬ 64 < l.length) (hd : decF (tkR [43, 45] l) = some (w, p, m)) (he : expF m = some (x, [])) : readF l = shV (sgB [43, 45] l) (val (w ++ p)) (x + 6 - p.length) := by
  unfold readF; rw [if_neg h, hd]; simp only [he]; simp
theorem dec_spec {l w p m : List UInt8} (h : decF l = some (w, p, m)) : AllDig w ∧ AllDig p ∧ w.length + p.length ≤ l.length ∧ m.length ≤ l.length := by
  have h0 := dig_len l
  have h1 := tkR_len [46] (rst l)
  have h2 := dig_len (tkR [46] (rst l))
  unfold decF at h
  by_cases hp : tkB [46] (rst l) = true
  · rw [if_pos hp] at h
    by_cases hd : dig (tkR [46] (rst l)) = []
    · rw [if_pos hd] at h; cases h
    · rw [if_neg hd] at h
      cases h
      exact ⟨dig_all _, dig_all _, by omega, by omega⟩
  · rw [if_neg hp] at h
    by_cases hd : dig l = []
    · rw [if_pos hd] at h; cases h
    · rw [if_neg hd] at h
      cases h
      exact ⟨dig_all _, fun c hc => (by cases hc), by simp; omega, by omega⟩
theorem exp_spec {l m : List UInt8} {x : Int} (h : expF l = some (x, m)) : -9999 ≤ x ∧ x ≤ 9999 ∧ m.length ≤ l.length := by
  have h1 := tkR_len [101, 69] l
  have h2 := tkR_len [43, 45] (tkR [101, 69] l)
  unfold expF at h
  by_cases hp : tkB [101, 69] l = true
  · rw [if_pos hp] at h
    simp only at h
    by_cases hd : (dig (tkR [43, 45] (tkR [101, 69] l))).length < 1 ∨ 4 < (dig (tkR [43, 45] (tkR [101, 69] l))).length
    · rw [if_pos hd] at h; cases h
    · rw [if_neg hd] at h
      have h3 := val_lt (dig_all (tkR [43, 45] (tkR [101, 69] l)))
      have h4 : 10 ^ (dig (tkR [43, 45] (tkR [101, 69] l))).length ≤ 10 ^ 4 := Nat.pow_le_pow_right (by decide) (by omega)
      have h5 : (10 : Nat) ^ 4 = 10000 := by decide
      have h6 := rst_len (tkR [43, 45] (tkR [101, 69] l))
      cases h
      unfold sgn
      refine ⟨?_, ?_, by omega⟩ <;> split <;> omega
  · rw [if_neg hp] at h
    cases h
    exact ⟨by decide, by decide, Nat.le_refl _⟩

set_option maxHeartbeats 8000000 in
theorem readIn_any (A : Nat) (l : List UInt8) (hl : l.length ≤ maxLen) (w : World) (hA : RdAt A (tx l) w) :
    Calls Tryz.prog 48 #[.pointer (some ⟨A, 0, none⟩)] w fun e w' => e = EndOf (readF l) ∧ Below w.heap.size w w' := by
  have a0 := hA.cell 0 _ rfl
  have hsz : (tx l).size = l.length := tx_len l
  unfold maxLen at hl
  by_cases h64 : 64 < l.length
  · rw [read_long h64]
    rw [← hsz] at h64 hl
    clear hsz
    change w.cell? ⟨A, 0, none⟩ = some (.string (tx l)) at a0
    generalize tx l = s at a0 hl h64
    clear hA
    go_enter Tryz.func48, Tryz.ntmps48
    go_wp2
    exact ⟨rfl, rfl, Below.refl _ _⟩
  · have hl' : l.length ≤ 64 := by omega
    have hbox : RdAt w.heap.size (tx l) (w.alloc (.cells #[.string (tx l)] 79)) := CellsAt.new _ _ _
    have hbel : Below w.heap.size w (w.alloc (.cells #[.string (tx l)] 79)) := (Below.refl _ _).alloc (Nat.le_refl _) _
    have h1 := sign_any w.heap.size (tx l) (tx [43, 45]) (tx_max hl' (by decide)) _ hbox
    simp only at h1
    have hk : (tkR [43, 45] l).length ≤ 64 := Nat.le_trans (tkR_len _ _) hl'
    obtain ⟨b, hb⟩ : ∃ b, sgB [43, 45] l = b := ⟨_, rfl⟩
    rw [hb] at h1
    have h2 := fun w' h => decimal_any w.heap.size (tkR [43, 45] l) hk w' h
    have hs64 : (tx l).size ≤ 64 := by omega
    change w.cell? ⟨A, 0, none⟩ = some (.string (tx l)) at a0
    have hA' := hA.lt
    clear hA hsz hbox
    cases hd : decF (tkR [43, 45] l) with
    | none =>
      rw [read_dec h64 hd]
      simp only [hd] at h2
      clear hk hb hd h64 hl hl'
      generalize hs : tx l = s at a0 h1 hs64 hbel
      clear hs
      go_enter Tryz.func48, Tryz.ntmps48
      go_wp2_with fail
      refine h1.mono ?_
      rintro e w1 ⟨rfl, hR1, hB1⟩
      go_wp2_with fail
      refine (h2 _ hR1).mono ?_
      rintro e w2 ⟨rfl, hB2⟩
      go_wp2
      exact ⟨rfl, rfl, hbel.trans (hB1.trans hB2)⟩
    | some r =>
      obtain ⟨wh, p, m⟩ := r
      simp only [hd] at h2
      obtain ⟨hw1, hp1, hlen, hml⟩ := dec_spec hd
      have hm64 : m.length ≤ 64 := by omega
      have h3 := fun w' h => exponent_any w.heap.size m hm64 w' h
      cases he : expF m with
      | none =>
        rw [read_exp h64 hd he]
        simp only [he] at h3
        clear hk hb hd h64 hl hl' he hw1 hp1 hlen hml hm64
        generalize hs : tx l = s at a0 h1 hs64 hbel
        clear hs
        go_enter Tryz.func48, Tryz.ntmps48
        go_wp2_with fail
        refine h1.mono ?_
        rintro e w1 ⟨rfl, hR1, hB1⟩
        go_wp2_with fail
        refine (h2 _ hR1).mono ?_
        rintro e w2 ⟨rfl, hR2, hB2⟩
        go_wp2_with fail
        refine (h3 _ hR2).mono ?_
        rintro e w3 ⟨rfl, hB3⟩
        go_wp2
        exact ⟨rfl, rfl, hbel.trans ((hB1.trans hB2).trans hB3)⟩
      | some r =>
        obtain ⟨x, m'⟩ := r
        simp only [he] at h3
        obtain ⟨hx1, hx2, hml2⟩ := exp_spec he
        have hps : (tx p).size = p.length := tx_len p
        have hps64 : (tx p).size ≤ 64 := by omega
        by_cases hm : m' = []
        · rw [hm] at he h3
          rw [read_yes h64 hd he, hb, ← hps]
          have h4 := fun w' h => end_ok w.heap.size w' h
          have hsum : (tx wh).size + (tx p).size ≤ 9223372036854775807 := by rw [tx_len wh]; omega
          have h5 := fun w' => shifted_any b (wh ++ p) (x + 6 - (tx p).size) (hw1.app hp1) (by rw [List.length_append]; omega) (by omega) (by omega) w'
          rw [← tx_app] at h5
          clear hk hb hd h64 hl hl' he hw1 hp1 hlen hml hm64 hps hm hml2
          generalize hs : tx l = s at a0 h1 hs64 hbel
          clear hs
          generalize tx wh = M at h2 h5 hsum
          rcases end_cases (shV b (val (wh ++ p)) (x + 6 - (tx p).size)) with hE | hE
          all_goals
            rw [hE] at h5 ⊢
            generalize (shV b (val (wh ++ p)) (x + 6 - (tx p).size)).1 = v at h5 ⊢
            generalize (shV b (val (wh ++ p)) (x + 6 - (tx p).size)).2 = u at h5 ⊢
            clear hE
            generalize tx p = Q at h2 h5 hsum hps64
            go_enter Tryz.func48, Tryz.ntmps48
            go_wp2_with fail
            refine h1.mono ?_
            rintro e w1 ⟨rfl, hR1, hB1⟩
            go_wp2_with fail
            refine (h2 _ hR1).mono ?_
            rintro e w2 ⟨rfl, hR2, hB2⟩
            go_wp2_with fail
            refine (h3 _ hR2).mono ?_
            rintro e w3 ⟨rfl, hR3, hB3⟩
            go_wp2_with fail
            refine (h4 _ hR3).mono ?_
            rintro e w4 ⟨rfl, rfl⟩
            go_wp2_with fail
            refine (h5 _).mono ?_
            rintro e w5 ⟨rfl, hB5⟩
            have hE := hbel.trans ((hB1.trans hB2).trans hB3)
            go_wp2
            try go_ret
            first | exact ⟨rfl, hE.trans (hB5.mono hE.size)⟩ | exact ⟨rfl, rfl, hE.trans (hB5.mono hE.size)⟩
        · rw [read_more h64 hd he hm]
          have h4 := fun w' h => end_bad w.heap.size (tx m') (by rw [list_tx]; exact hm) w' h
          clear hk hb hd h64 hl hl' he hw1 hp1 hlen hml hm64 hps hm hml2
          generalize hs : tx l = s at a0 h1 hs64 hbel
          clear hs
          generalize tx wh = M at h2
          generalize tx p = Q at h2 hps64
          go_enter Tryz.func48, Tryz.ntmps48
          go_wp2_with fail
          refine h1.mono ?_
          rintro e w1 ⟨rfl, hR1, hB1⟩
          go_wp2_with fail
          refine (h2 _ hR1).mono ?_
          rintro e w2 ⟨rfl, hR2, hB2⟩
          go_wp2_with fail
          refine (h3 _ hR2).mono ?_
          rintro e w3 ⟨rfl, hR3, hB3⟩
          go_wp2_with fail
          refine (h4 _ hR3).mono ?_
          rintro e w4 ⟨rfl, rfl⟩
          go_wp2
          exact ⟨rfl, rfl, hbel.trans ((hB1.trans hB2).trans hB3)⟩

theorem whole_dig {l : List UInt8} (h : (dig (tkR [45] l)).length < 1 ∨ 19 < (dig (tkR [45] l)).length) : EndOf (wholeF l) = PE 2 := by unfold wholeF; rw [if_pos h]; rfl
theorem whole_more {l : List UInt8} (h : ¬ ((dig (tkR [45] l)).length < 1 ∨ 19 < (dig (tkR [45] l)).length)) (hr : rst (tkR [45] l) ≠ []) : EndOf (wholeF l) = PE 2 := by unfold wholeF; rw [if_neg h, if_neg hr]; rfl
theorem whole_yes {l : List UInt8} (h : ¬ ((dig (tkR [45] l)).length < 1 ∨ 19 < (dig (tkR [45] l)).length)) (hr : rst (tkR [45] l) = []) : wholeF l = fitF (sgB [45] l) (val (dig (tkR [45] l))) := by unfold wholeF; rw [if_neg h, if_pos hr]

set_option maxHeartbeats 8000000 in
theorem wholeIn_any (A : Nat) (l : List UInt8) (hl : l.length ≤ maxLen) (w : World) (hA : RdAt A (tx l) w) :
    Calls Tryz.prog 54 #[.pointer (some ⟨A, 0, none⟩)] w fun e w' => e = EndOf (wholeF l) ∧ Below w.heap.size w w' := by
  have a0 := hA.cell 0 _ rfl
  have hsz : (tx l).size = l.length := tx_len l
  have hmx : (tx l).size ≤ maxLen := by rw [hsz]; exact hl
  have hbox : RdAt w.heap.size (tx l) (w.alloc (.cells #[.string (tx l)] 79)) := CellsAt.new _ _ _
  have hbel : Below w.heap.size w (w.alloc (.cells #[.string (tx l)] 79)) := (Below.refl _ _).alloc (Nat.le_refl _) _
  have h1 := sign_any w.heap.size (tx l) (tx [45]) hmx _ hbox
  simp only at h1
  have hk := tkR_len [45] l
  have hmk : (tx (tkR [45] l)).size ≤ maxLen := by rw [tx_len]; omega
  obtain ⟨b, hb⟩ : ∃ b, sgB [45] l = b := ⟨_, rfl⟩
  rw [hb] at h1
  unfold maxLen at hl
  change w.cell? ⟨A, 0, none⟩ = some (.string (tx l)) at a0
  have hA' := hA.lt
  clear hA hsz hbox
  by_cases hd : (dig (tkR [45] l)).length < 1 ∨ 19 < (dig (tkR [45] l)).length
  · rw [whole_dig hd]
    have h2 := fun w' h => digits_bad w.heap.size (tx (tkR [45] l)) hmk 1 19 (by decide) (by decide) (by rw [list_tx]; omega) w' h
    clear hk hb hd hmk hmx
    generalize hs : tx l = s at a0 h1 hbel
    clear hs
    go_enter Tryz.func54, Tryz.ntmps54
    go_wp2_with fail
    refine h1.mono ?_
    rintro e w1 ⟨rfl, hR1, hB1⟩
    go_wp2_with fail
    refine (h2 _ hR1).mono ?_
    rintro e w2 ⟨rfl, rfl⟩
    go_wp2
    exact ⟨rfl, rfl, hbel.trans hB1⟩
  · have h2 := fun w' h => digits_ok w.heap.size (tx (tkR [45] l)) hmk 1 19 (by decide) (by decide) (by rw [list_tx]; omega) (by rw [list_tx]; omega) w' h
    simp only at h2
    by_cases hr : rst (tkR [45] l) = []
    · rw [whole_yes hd hr, hb]
      rw [hr] at h2
      have h3 := fun w' h => end_ok w.heap.size w' h
      have h4 := fun w' => number_any b (tx (dig (tkR [45] l))) (by rw [list_tx]; exact dig_all _) (by rw [tx_len]; omega) w'
      simp only at h4
      clear hk hb hd hmk hmx hr
      generalize tx (dig (tkR [45] l)) = M at h2 h4
      generalize hs : tx l = s at a0 h1 hbel
      clear hs
      rcases end_cases (fitF b (val (dig (tkR [45] l)))) with hE | hE
      all_goals
        rw [hE] at h4 ⊢
        generalize (fitF b (val (dig (tkR [45] l)))).1 = v at h4 ⊢
        generalize (fitF b (val (dig (tkR [45] l)))).2 = u at h4 ⊢
        clear hE
        go_enter Tryz.func54, Tryz.ntmps54
        go_wp2_with fail
        refine h1.mono ?_
        rintro e w1 ⟨rfl, hR1, hB1⟩
        go_wp2_with fail
        refine (h2 _ hR1).mono ?_
        rintro e w2 ⟨rfl, hR2, hB2⟩
        go_wp2_with fail
        refine (h3 _ hR2).mono ?_
        rintro e w3 ⟨rfl, rfl⟩
        go_wp2_with fail
        refine (h4 _).mono ?_
        rintro e w5 ⟨rfl, rfl⟩
        go_wp2
        try go_ret
        first | exact ⟨rfl, hbel.trans (hB1.trans hB2)⟩ | exact ⟨rfl, rfl, hbel.trans (hB1.trans hB2)⟩
    · rw [whole_more hd hr]
      have h3 := fun w' h => end_bad w.heap.size (tx (rst (tkR [45] l))) (by rw [list_tx]; exact hr) w' h
      clear hk hb hd hmk hmx hr
      generalize tx (dig (tkR [45] l)) = M at h2
      generalize hs : tx l = s at a0 h1 hbel
      clear hs
      go_enter Tryz.func54, Tryz.ntmps54
      go_wp2_with fail
      refine h1.mono ?_
      rintro e w1 ⟨rfl, hR1, hB1⟩
      go_wp2_with fail
      refine (h2 _ hR1).mono ?_
      rintro e w2 ⟨rfl, hR2, hB2⟩
      go_wp2_with fail
      refine (h3 _ hR2).mono ?_
      rintro e w3 ⟨rfl, rfl⟩
      go_wp2
      exact ⟨rfl, rfl, hbel.trans (hB1.trans hB2)⟩
end Go.Proofs.YtdmkiiggpelmaaaGreatDoor
