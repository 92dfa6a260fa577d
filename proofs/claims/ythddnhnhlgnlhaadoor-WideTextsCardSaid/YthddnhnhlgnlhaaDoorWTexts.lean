/- WideTexts, walked. -/
import Derived.Test.YthddnhnhlgnlhaaDoorWBack
namespace Go.Proofs.YthddnhnhlgnlhaaDoor
open Go Go.RowKit


theorem tx_of (l : List UInt8) (t : ByteArray) (h : tx l = t) : t.data.toList = l := by rw [← h]
theorem app_data (a b : ByteArray) : (a ++ b).data.toList = a.data.toList ++ b.data.toList := by simp
/-- A text with a byte that no number's text has. -/
theorem bad_char {s : ByteArray} (c : UInt8) (hc : c ∈ s.data.toList) (h1 : c ≠ 45) (h2 : ¬ (48 ≤ c.toNat ∧ c.toNat ≤ 57)) : ∀ b, InS b → Lib.itoa b ≠ s.data.toList := by
  intro b _ h
  rw [← h] at hc
  rcases itoa_chars b c hc with h3 | h3
  · exact h1 h3
  · exact h2 h3
theorem bad_texts {z : Int} (t : ByteArray) (ht : tx (Lib.itoa z) = t) : ∀ s ∈ [(⟨#[]⟩ : ByteArray), (⟨#[45]⟩ : ByteArray), (⟨#[43]⟩ ++ t : ByteArray), (⟨#[48]⟩ ++ t : ByteArray), (t ++ ⟨#[120]⟩ : ByteArray), (⟨#[32]⟩ ++ t : ByteArray), (t ++ ⟨#[32]⟩ : ByteArray), (⟨#[45, 48]⟩ : ByteArray), (t ++ ⟨#[46, 48]⟩ : ByteArray), (⟨#[45, 45, 49]⟩ : ByteArray)], ∀ b, InS b → Lib.itoa b ≠ s.data.toList := by
  have hd := tx_of _ _ ht
  intro s hs
  simp only [List.mem_cons, List.not_mem_nil, or_false] at hs
  rcases hs with rfl | rfl | rfl | rfl | rfl | rfl | rfl | rfl | rfl | rfl
  · intro b _ h
    exact itoa_ne b h
  · intro b _ h
    obtain ⟨c, cs, h1, _⟩ := itoa_minus (l := []) h
    cases h1
  · exact bad_char 43 (by rw [app_data]; simp) (by decide) (by decide)
  · intro b _ h
    rw [app_data] at h
    have := itoa_zero (l := t.data.toList) h
    rw [hd] at this
    exact itoa_ne z this
  · exact bad_char 120 (by rw [app_data]; simp) (by decide) (by decide)
  · exact bad_char 32 (by rw [app_data]; simp) (by decide) (by decide)
  · exact bad_char 32 (by rw [app_data]; simp) (by decide) (by decide)
  · intro b _ h
    obtain ⟨c, cs, h1, h2, _⟩ := itoa_minus (l := [48]) h
    obtain ⟨rfl, _⟩ := List.cons.inj h1
    exact absurd h2 (by decide)
  · exact bad_char 46 (by rw [app_data]; simp) (by decide) (by decide)
  · intro b _ h
    obtain ⟨c, cs, h1, h2, _⟩ := itoa_minus (l := [45, 49]) h
    obtain ⟨rfl, _⟩ := List.cons.inj h1
    exact absurd h2 (by decide)

set_option maxRecDepth 100000 in
set_option maxHeartbeats 8000000 in
theorem WideTexts_walk (y : Int) (hy : (Lit.int .u8 y).wf = true) (n : Int) (hn : (Lit.int .i64 n).wf = true) (w : World) (hT : Tens w) :
    Calls Tryd.prog 10 #[.int .u8 y, .int .i64 n] w fun e w' => e = .returned (.bool true) ∧ Below w.heap.size w w' := by
  have hyb : 0 ≤ y ∧ y ≤ 255 := by simpa [Lit.wf, IntKind.min, IntKind.max, IntKind.signed, IntKind.bits] using hy
  have hnb : -9223372036854775808 ≤ n ∧ n ≤ 9223372036854775807 := by simpa [Lit.wf, IntKind.min, IntKind.max, IntKind.signed, IntKind.bits] using hn
  obtain ⟨y0, y1⟩ := hyb
  have HT := Lib.hid hT
  have hin := InS.small hnb.1 hnb.2
  have hl := itoa_len hin
  obtain ⟨t, ht⟩ : ∃ t, tx (Lib.itoa n) = t := ⟨_, rfl⟩
  have htext : ∀ w, Tens w → Calls Tryd.prog 21 #[sv n] w fun e w' => e = .returned (.string t) ∧ Below w.heap.size w w' := fun w h => by rw [← ht]; exact text_any n hin w h
  have hof := fun w => of_any n hnb.1 hnb.2 w
  have hbad := bad_texts t ht
  have hts : t.size ≤ 40 := by rw [← ht, tx_size]; exact hl
  have hread : ∀ s ∈ [(⟨#[]⟩ : ByteArray), (⟨#[45]⟩ : ByteArray), (⟨#[43]⟩ ++ t : ByteArray), (⟨#[48]⟩ ++ t : ByteArray), (t ++ ⟨#[120]⟩ : ByteArray), (⟨#[32]⟩ ++ t : ByteArray), (t ++ ⟨#[32]⟩ : ByteArray), (⟨#[45, 48]⟩ : ByteArray), (t ++ ⟨#[46, 48]⟩ : ByteArray), (⟨#[45, 45, 49]⟩ : ByteArray)], s.size ≤ 60 → ∀ w, Tens w → Calls Tryd.prog 28 #[.string s] w fun e w' => e = .returned (.tuple #[.agg #[.int .i64 0, .int .u64 0], .bool false]) ∧ Below w.heap.size w w' := fun s hs hsz w h => by
    rw [← sv_0]
    exact read_no s (Nat.le_trans hsz (by unfold maxLen; omega)) (hbad s hs) w h
  have z1 : ∀ l : List UInt8, l.length ≤ 2 → (tx l ++ t).size ≤ 60 := fun l h => by have h1 := tx_size l; have h2 : (tx l ++ t).size = (tx l).size + t.size := ByteArray.size_append; omega
  have z2 : ∀ l : List UInt8, l.length ≤ 2 → (t ++ tx l).size ≤ 60 := fun l h => by have h1 := tx_size l; have h2 : (t ++ tx l).size = t.size + (tx l).size := ByteArray.size_append; omega
  have r0 := hread (⟨#[]⟩) (.head _) (by decide)
  have r1 := hread (⟨#[45]⟩) (.tail _ (.head _)) (by decide)
  have r2 := hread (⟨#[43]⟩ ++ t) (.tail _ (.tail _ (.head _))) (z1 [43] (by decide))
  have r3 := hread (⟨#[48]⟩ ++ t) (.tail _ (.tail _ (.tail _ (.head _)))) (z1 [48] (by decide))
  have r4 := hread (t ++ ⟨#[120]⟩) (.tail _ (.tail _ (.tail _ (.tail _ (.head _))))) (z2 [120] (by decide))
  have r5 := hread (⟨#[32]⟩ ++ t) (.tail _ (.tail _ (.tail _ (.tail _ (.tail _ (.head _)))))) (z1 [32] (by decide))
  have r6 := hread (t ++ ⟨#[32]⟩) (.tail _ (.tail _ (.tail _ (.tail _ (.tail _ (.tail _ (.head _))))))) (z2 [32] (by decide))
  have r7 := hread (⟨#[45, 48]⟩) (.tail _ (.tail _ (.tail _ (.tail _ (.tail _ (.tail _ (.tail _ (.head _)))))))) (by decide)
  have r8 := hread (t ++ ⟨#[46, 48]⟩) (.tail _ (.tail _ (.tail _ (.tail _ (.tail _ (.tail _ (.tail _ (.tail _ (.head _))))))))) (z2 [46, 48] (by decide))
  have r9 := hread (⟨#[45, 45, 49]⟩) (.tail _ (.tail _ (.tail _ (.tail _ (.tail _ (.tail _ (.tail _ (.tail _ (.tail _ (.head _)))))))))) (by decide)
  have s1 : 1 + t.size ≤ 9223372036854775807 := by omega
  have s2 : t.size + 1 ≤ 9223372036854775807 := by omega
  have s3 : t.size + 2 ≤ 9223372036854775807 := by omega
  have q1 : ∀ c : UInt8, (⟨#[c]⟩ : ByteArray).size + t.size ≤ 9223372036854775807 := fun c => by show 1 + t.size ≤ _; omega
  have q2 : ∀ c : UInt8, t.size + (⟨#[c]⟩ : ByteArray).size ≤ 9223372036854775807 := fun c => by show t.size + 1 ≤ _; omega
  have q3 : t.size + (⟨#[46, 48]⟩ : ByteArray).size ≤ 9223372036854775807 := by show t.size + 2 ≤ _; omega
  have hm : y % 10 = 0 ∨ y % 10 = 1 ∨ y % 10 = 2 ∨ y % 10 = 3 ∨ y % 10 = 4 ∨ y % 10 = 5 ∨ y % 10 = 6 ∨ y % 10 = 7 ∨ y % 10 = 8 ∨ y % 10 = 9 := by omega
  clear hT hl ht hin hbad hread z1 z2 hy hn hnb hts
  rcases hm with hm | hm | hm | hm | hm | hm | hm | hm | hm | hm
  · go_enter Tryd.func10, Tryd.ntmps10
    go_wp2_with fail
    refine (examples_any _ HT.out).mono ?_
    rintro e W ⟨rfl, hE⟩
    go_wp2_with fail
    refine (hof _).mono ?_
    rintro e w1 ⟨rfl, hB1⟩
    have hE1 := hE.trans (hB1.mono hE.size)
    go_wp2_with fail
    refine (htext _ (HT.out.below hE1)).mono ?_
    rintro e w2 ⟨rfl, hB2⟩
    have hE2 := hE1.trans (hB2.mono hE1.size)
    clear hB1 hB2 hE1 hof htext hE
    go_wp2_with fail
    refine (r0 _ (HT.out.below (hE2.alloc hE2.size _))).mono ?_
    rintro e w3 ⟨rfl, hB3⟩
    have hE3 := (hE2.alloc hE2.size _).trans (hB3.mono (hE2.alloc hE2.size _).size)
    clear r0 r1 r2 r3 r4 r5 r6 r7 r8 r9 hB3 hE2
    go_wp2
    go_ret
    exact ⟨rfl, (hE3.alloc hE3.size _).alloc (Nat.le_trans hE3.size (by simp)) _⟩
  · go_enter Tryd.func10, Tryd.ntmps10
    go_wp2_with fail
    refine (examples_any _ HT.out).mono ?_
    rintro e W ⟨rfl, hE⟩
    go_wp2_with fail
    refine (hof _).mono ?_
    rintro e w1 ⟨rfl, hB1⟩
    have hE1 := hE.trans (hB1.mono hE.size)
    go_wp2_with fail
    refine (htext _ (HT.out.below hE1)).mono ?_
    rintro e w2 ⟨rfl, hB2⟩
    have hE2 := hE1.trans (hB2.mono hE1.size)
    clear hB1 hB2 hE1 hof htext hE
    go_wp2_with fail
    refine (r1 _ (HT.out.below (hE2.alloc hE2.size _))).mono ?_
    rintro e w3 ⟨rfl, hB3⟩
    have hE3 := (hE2.alloc hE2.size _).trans (hB3.mono (hE2.alloc hE2.size _).size)
    clear r0 r1 r2 r3 r4 r5 r6 r7 r8 r9 hB3 hE2
    go_wp2
    go_ret
    exact ⟨rfl, (hE3.alloc hE3.size _).alloc (Nat.le_trans hE3.size (by simp)) _⟩
  · go_enter Tryd.func10, Tryd.ntmps10
    go_wp2_with fail
    refine (examples_any _ HT.out).mono ?_
    rintro e W ⟨rfl, hE⟩
    go_wp2_with fail
    refine (hof _).mono ?_
    rintro e w1 ⟨rfl, hB1⟩
    have hE1 := hE.trans (hB1.mono hE.size)
    go_wp2_with fail
    refine (htext _ (HT.out.below hE1)).mono ?_
    rintro e w2 ⟨rfl, hB2⟩
    have hE2 := hE1.trans (hB2.mono hE1.size)
    clear hB1 hB2 hE1 hof htext hE
    go_wp2_with fail
    refine (r2 _ (HT.out.below (hE2.alloc hE2.size _))).mono ?_
    rintro e w3 ⟨rfl, hB3⟩
    have hE3 := (hE2.alloc hE2.size _).trans (hB3.mono (hE2.alloc hE2.size _).size)
    clear r0 r1 r2 r3 r4 r5 r6 r7 r8 r9 hB3 hE2
    go_wp2
    go_ret
    exact ⟨rfl, (hE3.alloc hE3.size _).alloc (Nat.le_trans hE3.size (by simp)) _⟩
  · go_enter Tryd.func10, Tryd.ntmps10
    go_wp2_with fail
    refine (examples_any _ HT.out).mono ?_
    rintro e W ⟨rfl, hE⟩
    go_wp2_with fail
    refine (hof _).mono ?_
    rintro e w1 ⟨rfl, hB1⟩
    have hE1 := hE.trans (hB1.mono hE.size)
    go_wp2_with fail
    refine (htext _ (HT.out.below hE1)).mono ?_
    rintro e w2 ⟨rfl, hB2⟩
    have hE2 := hE1.trans (hB2.mono hE1.size)
    clear hB1 hB2 hE1 hof htext hE
    go_wp2_with fail
    refine (r3 _ (HT.out.below (hE2.alloc hE2.size _))).mono ?_
    rintro e w3 ⟨rfl, hB3⟩
    have hE3 := (hE2.alloc hE2.size _).trans (hB3.mono (hE2.alloc hE2.size _).size)
    clear r0 r1 r2 r3 r4 r5 r6 r7 r8 r9 hB3 hE2
    go_wp2
    go_ret
    exact ⟨rfl, (hE3.alloc hE3.size _).alloc (Nat.le_trans hE3.size (by simp)) _⟩
  · go_enter Tryd.func10, Tryd.ntmps10
    go_wp2_with fail
    refine (examples_any _ HT.out).mono ?_
    rintro e W ⟨rfl, hE⟩
    go_wp2_with fail
    refine (hof _).mono ?_
    rintro e w1 ⟨rfl, hB1⟩
    have hE1 := hE.trans (hB1.mono hE.size)
    go_wp2_with fail
    refine (htext _ (HT.out.below hE1)).mono ?_
    rintro e w2 ⟨rfl, hB2⟩
    have hE2 := hE1.trans (hB2.mono hE1.size)
    clear hB1 hB2 hE1 hof htext hE
    go_wp2_with fail
    refine (r4 _ (HT.out.below (hE2.alloc hE2.size _))).mono ?_
    rintro e w3 ⟨rfl, hB3⟩
    have hE3 := (hE2.alloc hE2.size _).trans (hB3.mono (hE2.alloc hE2.size _).size)
    clear r0 r1 r2 r3 r4 r5 r6 r7 r8 r9 hB3 hE2
    go_wp2
    go_ret
    exact ⟨rfl, (hE3.alloc hE3.size _).alloc (Nat.le_trans hE3.size (by simp)) _⟩
  · go_enter Tryd.func10, Tryd.ntmps10
    go_wp2_with fail
    refine (examples_any _ HT.out).mono ?_
    rintro e W ⟨rfl, hE⟩
    go_wp2_with fail
    refine (hof _).mono ?_
    rintro e w1 ⟨rfl, hB1⟩
    have hE1 := hE.trans (hB1.mono hE.size)
    go_wp2_with fail
    refine (htext _ (HT.out.below hE1)).mono ?_
    rintro e w2 ⟨rfl, hB2⟩
    have hE2 := hE1.trans (hB2.mono hE1.size)
    clear hB1 hB2 hE1 hof htext hE
    go_wp2_with fail
    refine (r5 _ (HT.out.below (hE2.alloc hE2.size _))).mono ?_
    rintro e w3 ⟨rfl, hB3⟩
    have hE3 := (hE2.alloc hE2.size _).trans (hB3.mono (hE2.alloc hE2.size _).size)
    clear r0 r1 r2 r3 r4 r5 r6 r7 r8 r9 hB3 hE2
    go_wp2
    go_ret
    exact ⟨rfl, (hE3.alloc hE3.size _).alloc (Nat.le_trans hE3.size (by simp)) _⟩
  · go_enter Tryd.func10, Tryd.ntmps10
    go_wp2_with fail
    refine (examples_any _ HT.out).mono ?_
    rintro e W ⟨rfl, hE⟩
    go_wp2_with fail
    refine (hof _).mono ?_
    rintro e w1 ⟨rfl, hB1⟩
    have hE1 := hE.trans (hB1.mono hE.size)
    go_wp2_with fail
    refine (htext _ (HT.out.below hE1)).mono ?_
    rintro e w2 ⟨rfl, hB2⟩
    have hE2 := hE1.trans (hB2.mono hE1.size)
    clear hB1 hB2 hE1 hof htext hE
    go_wp2_with fail
    refine (r6 _ (HT.out.below (hE2.alloc hE2.size _))).mono ?_
    rintro e w3 ⟨rfl, hB3⟩
    have hE3 := (hE2.alloc hE2.size _).trans (hB3.mono (hE2.alloc hE2.size _).size)
    clear r0 r1 r2 r3 r4 r5 r6 r7 r8 r9 hB3 hE2
    go_wp2
    go_ret
    exact ⟨rfl, (hE3.alloc hE3.size _).alloc (Nat.le_trans hE3.size (by simp)) _⟩
  · go_enter Tryd.func10, Tryd.ntmps10
    go_wp2_with fail
    refine (examples_any _ HT.out).mono ?_
    rintro e W ⟨rfl, hE⟩
    go_wp2_with fail
    refine (hof _).mono ?_
    rintro e w1 ⟨rfl, hB1⟩
    have hE1 := hE.trans (hB1.mono hE.size)
    go_wp2_with fail
    refine (htext _ (HT.out.below hE1)).mono ?_
    rintro e w2 ⟨rfl, hB2⟩
    have hE2 := hE1.trans (hB2.mono hE1.size)
    clear hB1 hB2 hE1 hof htext hE
    go_wp2_with fail
    refine (r7 _ (HT.out.below (hE2.alloc hE2.size _))).mono ?_
    rintro e w3 ⟨rfl, hB3⟩
    have hE3 := (hE2.alloc hE2.size _).trans (hB3.mono (hE2.alloc hE2.size _).size)
    clear r0 r1 r2 r3 r4 r5 r6 r7 r8 r9 hB3 hE2
    go_wp2
    go_ret
    exact ⟨rfl, (hE3.alloc hE3.size _).alloc (Nat.le_trans hE3.size (by simp)) _⟩
  · go_enter Tryd.func10, Tryd.ntmps10
    go_wp2_with fail
    refine (examples_any _ HT.out).mono ?_
    rintro e W ⟨rfl, hE⟩
    go_wp2_with fail
    refine (hof _).mono ?_
    rintro e w1 ⟨rfl, hB1⟩
    have hE1 := hE.trans (hB1.mono hE.size)
    go_wp2_with fail
    refine (htext _ (HT.out.below hE1)).mono ?_
    rintro e w2 ⟨rfl, hB2⟩
    have hE2 := hE1.trans (hB2.mono hE1.size)
    clear hB1 hB2 hE1 hof htext hE
    go_wp2_with fail
    refine (r8 _ (HT.out.below (hE2.alloc hE2.size _))).mono ?_
    rintro e w3 ⟨rfl, hB3⟩
    have hE3 := (hE2.alloc hE2.size _).trans (hB3.mono (hE2.alloc hE2.size _).size)
    clear r0 r1 r2 r3 r4 r5 r6 r7 r8 r9 hB3 hE2
    go_wp2
    go_ret
    exact ⟨rfl, (hE3.alloc hE3.size _).alloc (Nat.le_trans hE3.size (by simp)) _⟩
  · go_enter Tryd.func10, Tryd.ntmps10
    go_wp2_with fail
    refine (examples_any _ HT.out).mono ?_
    rintro e W ⟨rfl, hE⟩
    go_wp2_with fail
    refine (hof _).mono ?_
    rintro e w1 ⟨rfl, hB1⟩
    have hE1 := hE.trans (hB1.mono hE.size)
    go_wp2_with fail
    refine (htext _ (HT.out.below hE1)).mono ?_
    rintro e w2 ⟨rfl, hB2⟩
    have hE2 := hE1.trans (hB2.mono hE1.size)
    clear hB1 hB2 hE1 hof htext hE
    go_wp2_with fail
    refine (r9 _ (HT.out.below (hE2.alloc hE2.size _))).mono ?_
    rintro e w3 ⟨rfl, hB3⟩
    have hE3 := (hE2.alloc hE2.size _).trans (hB3.mono (hE2.alloc hE2.size _).size)
    clear r0 r1 r2 r3 r4 r5 r6 r7 r8 r9 hB3 hE2
    go_wp2
    go_ret
    exact ⟨rfl, (hE3.alloc hE3.size _).alloc (Nat.le_trans hE3.size (by simp)) _⟩
end Go.Proofs.YthddnhnhlgnlhaaDoor
