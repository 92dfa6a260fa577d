/- What a number is told as. -/
import Derived.Test.YtdmkiiggpelmaaaGreatDoorFxJ
namespace Go.Proofs.YtdmkiiggpelmaaaGreatDoor
open Go Go.RowKit

theorem u64_of_neg (n : Int) (h1 : -9223372036854775808 ≤ n) (h2 : n < 0) : IntKind.u64.wrap (-(IntKind.u64.wrap n)) = -n := by
  simp only [IntKind.wrap, IntKind.bits, IntKind.signed]
  simp
  omega
theorem Tens.below {w w' : World} (h : Tens w) (hB : Below w.heap.size w w') : Tens w' := by
  unfold Tens Lib.TabIs World.var? at *
  cases hg : Tryz.prog.globalNamed "internal/strconv.uint64pow10" with
  | none => simp [hg] at h
  | some g =>
    simp only [hg, Option.bind_some] at h ⊢
    have hlt : g < w.heap.size := by
      rcases Nat.lt_or_ge g w.heap.size with h' | h'
      · exact h'
      · rw [Array.getElem?_eq_none h'] at h; simp at h
    rw [hB.block g hlt]
    exact h

set_option maxHeartbeats 8000000 in
theorem text_any (n : Int) (hn : In64 n) (w : World) (hT : Tens w) :
    Calls Tryz.prog 25 #[.int .i64 n] w fun e w' => e = .returned (.string (tx (textF n))) ∧ Below w.heap.size w w' := by
  have HT := Lib.hid hT
  obtain ⟨n1, n2⟩ := hn
  have hf := far_le (n := n) ⟨n1, n2⟩
  obtain ⟨f, hfe⟩ : ∃ f, farF n = f := ⟨_, rfl⟩
  rw [text_body]
  unfold bodyF tailF
  rw [hfe] at hf ⊢
  have hfi : (f : Int) = if n < 0 then -n else n := by
    rw [← hfe]; unfold farF
    split <;> omega
  obtain ⟨q, hq⟩ : ∃ q : Nat, f / 1000000 = q := ⟨_, rfl⟩
  obtain ⟨r, hr⟩ : ∃ r : Nat, f % 1000000 = r := ⟨_, rfl⟩
  rw [hq, hr]
  have hq1 : (f : Int) / 1000000 = (q : Int) := by omega
  have hr1 : (f : Int) % 1000000 = (r : Int) := by omega
  have hrl : r < 1000000 := by omega
  have hql : q ≤ 9223372036855 := by omega
  obtain ⟨m, hm⟩ : ∃ m : Nat, 1000000 + r = m := ⟨_, rfl⟩
  have hm1 : (1000000 : Int) + (r : Int) = (m : Int) := by omega
  have hfq := fun w h => formatUint_any q (by omega) w h
  have hfm := fun w h => formatUint_any m (by omega) w h
  have hmd : Lib.decDigits m = 49 :: pad 6 r := by rw [← hm]; exact dec_pad 6 r hrl
  rw [hmd] at hfm
  have hx : (tx (49 :: pad 6 r)).extract 1 (tx (49 :: pad 6 r)).size = tx (pad 6 r) := (first_of (s := tx (49 :: pad 6 r)) rfl).2.2
  have hxs : 1 ≤ (tx (49 :: pad 6 r)).size := by rw [tx_len]; simp
  have hxs2 : (tx (49 :: pad 6 r)).size ≤ 100 := by rw [tx_len]; simp [pad_len]
  have htr := fun w => Tryz.strings_TrimRight_one (tx (pad 6 r)) 48 (by decide) w (by rw [tx_len, pad_len]; decide)
  simp only at htr
  change ∀ w, Calls _ _ _ w fun e w' => e = .returned (.string (tx (Lib.trimRightB (pad 6 r) 48))) ∧ w' = w at htr
  have hpl : (Lib.trimRightB (pad 6 r) 48).length ≤ 6 := by have := trimR_len (pad 6 r); rw [pad_len] at this; exact this
  change ∀ w h, Calls _ _ _ w fun e w' => e = .returned (.string (tx (Lib.decDigits q))) ∧ Below w.heap.size w w' at hfq
  change ∀ w h, Calls _ _ _ w fun e w' => e = .returned (.string (tx (49 :: pad 6 r))) ∧ Below w.heap.size w w' at hfm
  have hdl := dec_20 (m := q) (by omega)
  have hds : (tx (Lib.decDigits q)).size ≤ 20 := by rw [tx_len]; exact hdl
  generalize hD : Lib.decDigits q = D at hfq hds ⊢
  generalize hL : Lib.trimRightB (pad 6 r) 48 = L at htr hpl ⊢
  have hLs : (tx L).size ≤ 6 := by rw [tx_len]; exact hpl
  have hw : n < 0 → IntKind.u64.wrap (-(IntKind.u64.wrap n)) = (f : Int) := fun h => by rw [u64_of_neg n n1 h, hfi, if_pos h]
  have HX := Lib.hid hx
  clear hx hmd hm hq hr hfe hD hL hT hpl hdl
  generalize tx (49 :: pad 6 r) = X at hfm hxs hxs2 HX
  have hx := HX.out
  clear HX
  generalize tx (pad 6 r) = P at htr hx
  have a1 : ∀ k : Nat, 1 + (tx D).size ≤ 9223372036854775807 := fun _ => by omega
  by_cases hneg : n < 0
  · have hsg : sgL n = [45] := if_pos hneg
    have hw1 := hw hneg
    rw [hsg]
    clear hw hfi hsg
    by_cases hl : L = []
    · rw [if_pos hl]
      have hem := empty_eq hl
      have hres : tx ([45] ++ (D ++ [])) = (⟨#[45]⟩ ++ tx D) := by rw [List.append_nil]; exact (tx_app [45] D).symm
      rw [hres]
      clear hres hl
      have s1 : (⟨#[45]⟩ : ByteArray).size + (tx D).size ≤ 9223372036854775807 := by show 1 + (tx D).size ≤ _; omega
      generalize tx L = T at htr hem hLs
      generalize tx D = E at hfq hds s1 ⊢
      go_enter Tryz.func25, Tryz.ntmps25
      go_wp2_with fail
      refine (hfq _ HT.out).mono ?_
      rintro e w1 ⟨rfl, hB1⟩
      go_wp2_with fail
      refine (hfm _ (HT.out.below hB1)).mono ?_
      rintro e w2 ⟨rfl, hB2⟩
      go_wp2_with fail
      refine (htr _).mono ?_
      rintro e w3 ⟨rfl, rfl⟩
      have hE := hB1.trans (hB2.mono hB1.size)
      go_wp2
      try go_ret
      exact ⟨rfl, hE⟩
    · rw [if_neg hl]
      have hem := tx_ne2 hl
      have hres : tx ([45] ++ (D ++ 46 :: L)) = ((⟨#[45]⟩ ++ tx D) ++ ⟨#[46]⟩) ++ tx L := by
        rw [show (⟨#[46]⟩ : ByteArray) = tx [46] from rfl, show (⟨#[45]⟩ : ByteArray) = tx [45] from rfl, tx_app, tx_app, tx_app]
        simp
      rw [hres]
      clear hres hl
      have s1 : (⟨#[45]⟩ : ByteArray).size + (tx D).size ≤ 9223372036854775807 := by show 1 + (tx D).size ≤ _; omega
      have s4 : ((⟨#[45]⟩ : ByteArray) ++ tx D).size = 1 + (tx D).size := ByteArray.size_append
      have s2 : ((⟨#[45]⟩ : ByteArray) ++ tx D).size + (⟨#[46]⟩ : ByteArray).size ≤ 9223372036854775807 := by rw [s4]; show 1 + (tx D).size + 1 ≤ _; omega
      have s5 : ((⟨#[45]⟩ : ByteArray) ++ tx D ++ ⟨#[46]⟩).size = 1 + (tx D).size + 1 := by rw [ByteArray.size_append, s4]; rfl
      have s3 : ((⟨#[45]⟩ : ByteArray) ++ tx D ++ ⟨#[46]⟩).size + (tx L).size ≤ 9223372036854775807 := by rw [s5]; omega
      clear s4 s5
      generalize tx L = T at htr hem hLs s3 ⊢
      generalize tx D = E at hfq hds s1 s2 s3 ⊢
      go_enter Tryz.func25, Tryz.ntmps25
      go_wp2_with fail
      refine (hfq _ HT.out).mono ?_
      rintro e w1 ⟨rfl, hB1⟩
      go_wp2_with fail
      refine (hfm _ (HT.out.below hB1)).mono ?_
      rintro e w2 ⟨rfl, hB2⟩
      go_wp2_with fail
      refine (htr _).mono ?_
      rintro e w3 ⟨rfl, rfl⟩
      have hE := hB1.trans (hB2.mono hB1.size)
      go_wp2
      try go_ret
      exact ⟨rfl, hE⟩
  · have hsg : sgL n = [] := if_neg hneg
    rw [if_neg hneg] at hfi
    rw [hsg]
    subst hfi
    clear hw hsg
    by_cases hl : L = []
    · rw [if_pos hl]
      have hem := empty_eq hl
      have hres : tx ([] ++ (D ++ [])) = tx D := by rw [List.append_nil]; exact rfl
      rw [hres]
      clear hres hl
      generalize tx L = T at htr hem hLs
      generalize tx D = E at hfq hds  ⊢
      go_enter Tryz.func25, Tryz.ntmps25
      go_wp2_with fail
      refine (hfq _ HT.out).mono ?_
      rintro e w1 ⟨rfl, hB1⟩
      go_wp2_with fail
      refine (hfm _ (HT.out.below hB1)).mono ?_
      rintro e w2 ⟨rfl, hB2⟩
      go_wp2_with fail
      refine (htr _).mono ?_
      rintro e w3 ⟨rfl, rfl⟩
      have hE := hB1.trans (hB2.mono hB1.size)
      go_wp2
      try go_ret
      exact ⟨rfl, hE⟩
    · rw [if_neg hl]
      have hem := tx_ne2 hl
      have hres : tx ([] ++ (D ++ 46 :: L)) = (tx D ++ ⟨#[46]⟩) ++ tx L := by
        rw [show (⟨#[46]⟩ : ByteArray) = tx [46] from rfl, tx_app, tx_app]
        simp
      rw [hres]
      clear hres hl
      have s2 : (tx D).size + (⟨#[46]⟩ : ByteArray).size ≤ 9223372036854775807 := by show (tx D).size + 1 ≤ _; omega
      have s5 : (tx D ++ (⟨#[46]⟩ : ByteArray)).size = (tx D).size + 1 := by rw [ByteArray.size_append]; rfl
      have s3 : (tx D ++ (⟨#[46]⟩ : ByteArray)).size + (tx L).size ≤ 9223372036854775807 := by rw [s5]; omega
      clear s5
      generalize tx L = T at htr hem hLs s3 ⊢
      generalize tx D = E at hfq hds s2 s3 ⊢
      go_enter Tryz.func25, Tryz.ntmps25
      go_wp2_with fail
      refine (hfq _ HT.out).mono ?_
      rintro e w1 ⟨rfl, hB1⟩
      go_wp2_with fail
      refine (hfm _ (HT.out.below hB1)).mono ?_
      rintro e w2 ⟨rfl, hB2⟩
      go_wp2_with fail
      refine (htr _).mono ?_
      rintro e w3 ⟨rfl, rfl⟩
      have hE := hB1.trans (hB2.mono hB1.size)
      go_wp2
      try go_ret
      exact ⟨rfl, hE⟩
end Go.Proofs.YtdmkiiggpelmaaaGreatDoor
