/- FixedOrder, walked. -/
import Derived.Test.YtpbphocpkmkoeaaDoorFxM
namespace Go.Proofs.YtpbphocpkmkoeaaDoor
open Go Go.RowKit

theorem in_64 {n : Int} (h : (Lit.int .i64 n).wf = true) : In64 n := by
  simpa [Lit.wf, IntKind.min, IntKind.max, IntKind.signed, IntKind.bits, In64] using h
theorem tx_max21 {n : Int} (h : In64 n) : (tx (textF n)).size ≤ 21 := by rw [tx_len]; exact (text_len h).1
theorem minus_text {a : Int} (h : In64 a) (h0 : 0 < a) : readF ([45] ++ textF a) = (-a, 0) := by
  have h1 := text_len h
  have h2 : sgL a = [] := if_neg (by omega)
  have h3 : textF a = bodyF a := by rw [text_body, h2]; rfl
  have := read_body h SgT.minus ExT.none 0 (by rw [h3] at h1; simp; omega)
  simp only [List.replicate_zero, List.nil_append, List.append_nil] at this
  obtain ⟨a1, a2⟩ := h
  rw [h3, this, fit_of (by unfold farF most; simp; omega)]
  unfold sgn farF
  simp
  omega

set_option maxHeartbeats 8000000 in
theorem FixedOrder_walk (a : Int) (ha : (Lit.int .i64 a).wf = true) (b : Int) (hb : (Lit.int .i64 b).wf = true) (w : World) (hT : Tens w) :
    Calls Tryd.prog 9 #[.int .i64 a, .int .i64 b] w fun e w' => e = .returned (.bool true) ∧ Below w.heap.size w w' := by
  have HT := Lib.hid hT
  have hia := in_64 ha
  have hib := in_64 hb
  have ta := fun w h => text_any a hia w h
  have tb := fun w h => text_any b hib w h
  have ra := fun w => readL_any (textF a) (by unfold maxLen; have := (text_len hia).1; omega) w
  have rb := fun w => readL_any (textF b) (by unfold maxLen; have := (text_len hib).1; omega) w
  rw [read_text hia] at ra
  rw [read_text hib] at rb
  have sa := tx_max21 hia
  by_cases h0 : 0 < a
  · have rm := fun w => readL_any ([45] ++ textF a) (by unfold maxLen; have := (text_len hia).1; simp; omega) w
    rw [minus_text hia h0, ← tx_app] at rm
    obtain ⟨a1, a2⟩ := hia
    obtain ⟨b1, b2⟩ := hib
    have s1 : (⟨#[45]⟩ : ByteArray).size + (tx (textF a)).size ≤ 9223372036854775807 := by show 1 + (tx (textF a)).size ≤ _; omega
    clear hT ha hb
    generalize tx (textF a) = A at ta ra sa s1 rm
    generalize tx (textF b) = B at tb rb
    by_cases hab : a < b
    all_goals
      go_enter Tryd.func9, Tryd.ntmps9
      go_wp2_with fail
      refine (examples_any _ HT.out).mono ?_
      rintro e w1 ⟨rfl, hB1⟩
      go_wp2_with fail
      refine (ta _ (HT.out.below hB1)).mono ?_
      rintro e w2 ⟨rfl, hB2⟩
      have hE2 := hB1.trans (hB2.mono hB1.size)
      go_wp2_with fail
      refine (ra _).mono ?_
      rintro e w3 ⟨rfl, hB3⟩
      have hE3 := hE2.trans (hB3.mono hE2.size)
      clear hB1 hB2 hB3 hE2
      go_wp2_with fail
      refine (tb _ (HT.out.below hE3)).mono ?_
      rintro e w4 ⟨rfl, hB4⟩
      have hE4 := hE3.trans (hB4.mono hE3.size)
      go_wp2_with fail
      refine (rb _).mono ?_
      rintro e w5 ⟨rfl, hB5⟩
      have hE5 := hE4.trans (hB5.mono hE4.size)
      clear hB4 hB5 hE3 hE4
      go_wp2_with fail
      refine (ta _ (HT.out.below hE5)).mono ?_
      rintro e w6 ⟨rfl, hB6⟩
      have hE6 := hE5.trans (hB6.mono hE5.size)
      go_wp2_with fail
      refine (rm _).mono ?_
      rintro e w7 ⟨rfl, hB7⟩
      have hE7 := hE6.trans (hB7.mono hE6.size)
      clear hE6 hE5 hB6 hB7 ta tb ra rb rm
      go_wp2
      try go_ret
      exact ⟨rfl, hE7⟩
  · obtain ⟨a1, a2⟩ := hia
    obtain ⟨b1, b2⟩ := hib
    clear hT ha hb sa
    by_cases hab : a = b
    · subst hab
      have hq : ∀ A : ByteArray, (A.toList == A.toList) = true := fun A => by simp
      generalize tx (textF a) = A at ta ra tb rb
      go_enter Tryd.func9, Tryd.ntmps9
      go_wp2_with fail
      refine (examples_any _ HT.out).mono ?_
      rintro e w1 ⟨rfl, hB1⟩
      have hE1 := hB1
      clear hB1
      go_wp2_with fail
      refine (ta _ (HT.out.below hE1)).mono ?_
      rintro e w2 ⟨rfl, hB2⟩
      have hE2 := hE1.trans (hB2.mono hE1.size)
      clear hB2 hE1
      go_wp2_with fail
      refine (ra _).mono ?_
      rintro e w3 ⟨rfl, hB3⟩
      have hE3 := hE2.trans (hB3.mono hE2.size)
      clear hB3 hE2
      go_wp2_with fail
      refine (tb _ (HT.out.below hE3)).mono ?_
      rintro e w4 ⟨rfl, hB4⟩
      have hE4 := hE3.trans (hB4.mono hE3.size)
      clear hB4 hE3
      go_wp2_with fail
      refine (rb _).mono ?_
      rintro e w5 ⟨rfl, hB5⟩
      have hE5 := hE4.trans (hB5.mono hE4.size)
      clear hB5 hE4
      go_wp2_with fail
      refine (ta _ (HT.out.below hE5)).mono ?_
      rintro e w6 ⟨rfl, hB6⟩
      have hE6 := hE5.trans (hB6.mono hE5.size)
      clear hB6 hE5
      go_wp2_with fail
      refine (tb _ (HT.out.below hE6)).mono ?_
      rintro e w7 ⟨rfl, hB7⟩
      have hE7 := hE6.trans (hB7.mono hE6.size)
      clear hB7 hE6
      clear ta tb ra rb
      go_wp2
      try go_ret
      exact ⟨rfl, hE7⟩
    · have hne : ((tx (textF a)).toList == (tx (textF b)).toList) = false := by
        rw [beq_eq_false_iff_ne, Lib.toList_data, Lib.toList_data]
        intro h
        exact hab (text_inj ⟨a1, a2⟩ ⟨b1, b2⟩ h)
      generalize tx (textF a) = A at ta ra hne
      generalize tx (textF b) = B at tb rb hne
      have hab2 : (a == b) = false := by simpa using hab
      by_cases hlt : a < b
      · go_enter Tryd.func9, Tryd.ntmps9
        go_wp2_with fail
        refine (examples_any _ HT.out).mono ?_
        rintro e w1 ⟨rfl, hB1⟩
        have hE1 := hB1
        clear hB1
        go_wp2_with fail
        refine (ta _ (HT.out.below hE1)).mono ?_
        rintro e w2 ⟨rfl, hB2⟩
        have hE2 := hE1.trans (hB2.mono hE1.size)
        clear hB2 hE1
        go_wp2_with fail
        refine (ra _).mono ?_
        rintro e w3 ⟨rfl, hB3⟩
        have hE3 := hE2.trans (hB3.mono hE2.size)
        clear hB3 hE2
        go_wp2_with fail
        refine (tb _ (HT.out.below hE3)).mono ?_
        rintro e w4 ⟨rfl, hB4⟩
        have hE4 := hE3.trans (hB4.mono hE3.size)
        clear hB4 hE3
        go_wp2_with fail
        refine (rb _).mono ?_
        rintro e w5 ⟨rfl, hB5⟩
        have hE5 := hE4.trans (hB5.mono hE4.size)
        clear hB5 hE4
        go_wp2_with fail
        refine (ta _ (HT.out.below hE5)).mono ?_
        rintro e w6 ⟨rfl, hB6⟩
        have hE6 := hE5.trans (hB6.mono hE5.size)
        clear hB6 hE5
        go_wp2_with fail
        refine (tb _ (HT.out.below hE6)).mono ?_
        rintro e w7 ⟨rfl, hB7⟩
        have hE7 := hE6.trans (hB7.mono hE6.size)
        clear hB7 hE6
        clear ta tb ra rb
        go_wp2
        try go_ret
        exact ⟨rfl, hE7⟩
      · go_enter Tryd.func9, Tryd.ntmps9
        go_wp2_with fail
        refine (examples_any _ HT.out).mono ?_
        rintro e w1 ⟨rfl, hB1⟩
        have hE1 := hB1
        clear hB1
        go_wp2_with fail
        refine (ta _ (HT.out.below hE1)).mono ?_
        rintro e w2 ⟨rfl, hB2⟩
        have hE2 := hE1.trans (hB2.mono hE1.size)
        clear hB2 hE1
        go_wp2_with fail
        refine (ra _).mono ?_
        rintro e w3 ⟨rfl, hB3⟩
        have hE3 := hE2.trans (hB3.mono hE2.size)
        clear hB3 hE2
        go_wp2_with fail
        refine (tb _ (HT.out.below hE3)).mono ?_
        rintro e w4 ⟨rfl, hB4⟩
        have hE4 := hE3.trans (hB4.mono hE3.size)
        clear hB4 hE3
        go_wp2_with fail
        refine (rb _).mono ?_
        rintro e w5 ⟨rfl, hB5⟩
        have hE5 := hE4.trans (hB5.mono hE4.size)
        clear hB5 hE4
        go_wp2_with fail
        refine (ta _ (HT.out.below hE5)).mono ?_
        rintro e w6 ⟨rfl, hB6⟩
        have hE6 := hE5.trans (hB6.mono hE5.size)
        clear hB6 hE5
        go_wp2_with fail
        refine (tb _ (HT.out.below hE6)).mono ?_
        rintro e w7 ⟨rfl, hB7⟩
        have hE7 := hE6.trans (hB7.mono hE6.size)
        clear hB7 hE6
        clear ta tb ra rb
        go_wp2
        try go_ret
        exact ⟨rfl, hE7⟩
end Go.Proofs.YtpbphocpkmkoeaaDoor
