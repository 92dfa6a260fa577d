/- The chapter's own answer: whole numbers. -/
import Derived.Test.YtpbphocpkmkoeaaDoorFxRb
import Derived.Test.YtpbphocpkmkoeaaDoorFxRu
namespace Go.Proofs.YtpbphocpkmkoeaaDoor
open Go Go.RowKit

set_option maxRecDepth 100000 in
set_option maxHeartbeats 8000000 in
theorem ref_whole (l : List UInt8) (hl : l.length ≤ maxLen) (w : World) :
    Calls Tryd.prog 16 #[.string (tx l)] w fun e w' => e = .returned (.tuple #[.int .i64 (wholeF l).1, .int .i64 (wholeF l).2]) ∧ w = w' := by
  rw [whole_alt]
  unfold maxLen at hl
  cases l with
  | nil =>
    rw [if_pos (Or.inl (by decide))]
    have hem := empty_eq (l := []) rfl
    have hsz : (tx ([] : List UInt8)).size = 0 := rfl
    generalize tx ([] : List UInt8) = S at *
    go_enter Tryd.func16, Tryd.ntmps16
    go_wp2
    go_ret2
    exact ⟨rfl, rfl⟩
  | cons c t =>
    obtain ⟨hz, hx, hex⟩ := first_of (s := tx (c :: t)) (c := c) (t := t) rfl
    have hn := tx_ne (l := c :: t) (by simp)
    have hn2 := tx_ne2 (l := c :: t) (by simp)
    have hSs : (tx (c :: t)).size = t.length + 1 := by rw [tx_len]; rfl
    simp only [List.length_cons] at hl
    by_cases hc : c = 45
    · have e45 : (c.toNat : Int) = 45 := by rw [hc]; rfl
      have e1 : tkR [45] (c :: t) = t := by rw [hc]; rfl
      have e2 : sgB [45] (c :: t) = true := by rw [hc]; rfl
      rw [e1, e2]
      have hSb : (tx (c :: t)).size ≤ 9223372036854775807 := by omega
      clear hSs e1 e2 hc
      have hts : ((tx t).size : Int) = (t.length : Int) := by rw [tx_len]
      have hd := fun w => ref_digits (tx t) (by rw [tx_len]; unfold maxLen; omega) w
      simp only [list_tx] at hd
      generalize tx (c :: t) = S at *
      by_cases hbad : t.length < 1 ∨ 19 < t.length ∨ (dig t).length ≠ t.length
      · rw [if_pos hbad]
        by_cases h1 : t.length < 1
        · have hz1 : (tx t).size < 1 := by rw [tx_len]; exact h1
          clear hbad h1 hts hd
          generalize tx t = T at *
          go_enter Tryd.func16, Tryd.ntmps16
          go_wp2
          go_ret2
          exact ⟨rfl, rfl⟩
        · by_cases h19 : 19 < t.length
          · have hz1 : 19 < (tx t).size := by rw [tx_len]; exact h19
            clear hbad h1 h19 hts hd
            generalize tx t = T at *
            go_enter Tryd.func16, Tryd.ntmps16
            go_wp2
            go_ret2
            exact ⟨rfl, rfl⟩
          · have hz1 : 1 ≤ (tx t).size := by rw [tx_len]; omega
            have hz2 : (tx t).size ≤ 19 := by rw [tx_len]; omega
            have hne : (((dig t).length : Int) != ((tx t).size : Int)) = true := by rw [bne_iff_ne, tx_len]; omega
            clear hbad h1 h19 hts
            generalize (dig t).length = k at *
            generalize tx t = T at *
            go_enter Tryd.func16, Tryd.ntmps16
            go_wp2_with fail
            refine (hd _).mono ?_
            rintro e w1 ⟨rfl, rfl⟩
            go_wp2
            go_ret2
            exact ⟨rfl, rfl⟩
      · rw [if_neg hbad]
        have hz1 : 1 ≤ (tx t).size := by rw [tx_len]; omega
        have hz2 : (tx t).size ≤ 19 := by rw [tx_len]; omega
        have hdw : (dig t).length = t.length := by omega
        have hdl : dig t = t := by have h5 := dig_rst t; rwa [dig_whole.1 hdw, List.append_nil] at h5
        have hq := fun w => ref_number true t (by rw [← hdl]; exact dig_all _) (by omega) w
        have hne : (((dig t).length : Int) != ((tx t).size : Int)) = false := by rw [bne_eq_false_iff_eq, tx_len, hdw]
        clear hbad hts hdw hdl
        generalize fitF true (val t) = r at hq ⊢
        obtain ⟨r1, r2⟩ := r
        generalize (dig t).length = k at *
        generalize tx t = T at *
        go_enter Tryd.func16, Tryd.ntmps16
        go_wp2_with fail
        refine (hd _).mono ?_
        rintro e w1 ⟨rfl, rfl⟩
        go_wp2_with fail
        refine (hq _).mono ?_
        rintro e w2 ⟨rfl, rfl⟩
        go_wp2
        go_ret2
        exact ⟨rfl, rfl⟩
    · have e45 := byte_ne (c := c) (d := 45) (i := 45) rfl hc
      have e1 : tkR [45] (c :: t) = c :: t := by rw [tkR_cons, if_neg (by simp [hc])]
      have e2 : sgB [45] (c :: t) = false := by rw [sgB_cons]; simp [hc]
      rw [e1, e2]
      have hd := fun w => ref_digits (tx (c :: t)) (by rw [tx_len]; unfold maxLen; simp; try omega) w
      simp only [list_tx] at hd
      have hlu : (c :: t).length = t.length + 1 := rfl
      have hts : ((tx (c :: t)).size : Int) = ((c :: t).length : Int) := by rw [tx_len]
      clear hSs e1 e2 hc hex
      by_cases hbad : (c :: t).length < 1 ∨ 19 < (c :: t).length ∨ (dig (c :: t)).length ≠ (c :: t).length
      · rw [if_pos hbad]
        by_cases h1 : (c :: t).length < 1
        · simp at h1
        · by_cases h19 : 19 < (c :: t).length
          · have hz1 : 19 < (tx (c :: t)).size := by rw [tx_len]; exact h19
            clear hbad h1 h19 hts hd
            generalize tx (c :: t) = T at *
            go_enter Tryd.func16, Tryd.ntmps16
            go_wp2
            go_ret2
            exact ⟨rfl, rfl⟩
          · have hz1 : 1 ≤ (tx (c :: t)).size := by rw [tx_len]; omega
            have hz2 : (tx (c :: t)).size ≤ 19 := by rw [tx_len]; omega
            have hne : (((dig (c :: t)).length : Int) != ((tx (c :: t)).size : Int)) = true := by rw [bne_iff_ne, tx_len]; omega
            clear hbad h1 h19 hts
            generalize (dig (c :: t)).length = k at *
            generalize tx (c :: t) = T at *
            go_enter Tryd.func16, Tryd.ntmps16
            go_wp2_with fail
            refine (hd _).mono ?_
            rintro e w1 ⟨rfl, rfl⟩
            go_wp2
            go_ret2
            exact ⟨rfl, rfl⟩
      · rw [if_neg hbad]
        have hz1 : 1 ≤ (tx (c :: t)).size := by rw [tx_len]; omega
        have hz2 : (tx (c :: t)).size ≤ 19 := by rw [tx_len]; omega
        have hdw : (dig (c :: t)).length = (c :: t).length := by omega
        have hdl : dig (c :: t) = (c :: t) := by have h5 := dig_rst (c :: t); rwa [dig_whole.1 hdw, List.append_nil] at h5
        have hq := fun w => ref_number false (c :: t) (by rw [← hdl]; exact dig_all _) (by omega) w
        have hne : (((dig (c :: t)).length : Int) != ((tx (c :: t)).size : Int)) = false := by rw [bne_eq_false_iff_eq, tx_len, hdw]
        clear hbad hts hdw hdl
        generalize fitF false (val (c :: t)) = r at hq ⊢
        obtain ⟨r1, r2⟩ := r
        generalize (dig (c :: t)).length = k at *
        generalize tx (c :: t) = T at *
        go_enter Tryd.func16, Tryd.ntmps16
        go_wp2_with fail
        refine (hd _).mono ?_
        rintro e w1 ⟨rfl, rfl⟩
        go_wp2_with fail
        refine (hq _).mono ?_
        rintro e w2 ⟨rfl, rfl⟩
        go_wp2
        go_ret2
        exact ⟨rfl, rfl⟩
end Go.Proofs.YtpbphocpkmkoeaaDoor
