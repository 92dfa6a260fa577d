/- WideBack, walked; what is no sum's text. -/
import Derived.Test.YthddnhnhlgnlhaaDoorWideE
namespace Go.Proofs.YthddnhnhlgnlhaaDoor
open Go Go.RowKit

theorem dec_head (m : Nat) : 1 ≤ m → ∃ c cs, Lib.decDigits m = c :: cs ∧ 49 ≤ c.toNat ∧ c.toNat ≤ 57 := by
  induction m using Nat.strongRecOn with
  | _ m ih =>
    intro h1
    by_cases h : m < 10
    · exact ⟨_, _, Lib.decDigits_one h, by rw [dig_byte _ h]; omega, by rw [dig_byte _ h]; omega⟩
    · obtain ⟨c, cs, hd, hc1, hc2⟩ := ih (m / 10) (by omega) (by omega)
      rw [decDigits_big h, hd]
      exact ⟨c, _, rfl, hc1, hc2⟩
theorem itoa_chars (b : Int) : ∀ c ∈ Lib.itoa b, c = 45 ∨ (48 ≤ c.toNat ∧ c.toNat ≤ 57) := by
  intro c hc
  by_cases hn : b < 0
  · rw [itoa_neg' hn, List.mem_cons] at hc
    rcases hc with rfl | hc
    · exact Or.inl rfl
    · exact Or.inr (decDigits_all _ c hc)
  · rw [itoa_pos' hn] at hc
    exact Or.inr (decDigits_all _ c hc)
theorem itoa_ne (b : Int) : Lib.itoa b ≠ [] := by
  by_cases hn : b < 0
  · rw [itoa_neg' hn]; simp
  · rw [itoa_pos' hn]
    obtain ⟨c, cs, h, _⟩ := decDigits_ne b.toNat
    rw [h]; simp
theorem itoa_zero {b : Int} {l : List UInt8} (h : Lib.itoa b = 48 :: l) : l = [] := by
  by_cases hn : b < 0
  · rw [itoa_neg' hn] at h
    exact absurd (List.cons.inj h).1 (by decide)
  · rw [itoa_pos' hn] at h
    by_cases h1 : 1 ≤ b.toNat
    · obtain ⟨c, cs, hd, hc, _⟩ := dec_head _ h1
      rw [hd] at h
      obtain ⟨rfl, _⟩ := List.cons.inj h
      exact absurd hc (by decide)
    · rw [show b.toNat = 0 by omega, Lib.decDigits_one (by decide)] at h
      exact (List.cons.inj h).2.symm
theorem itoa_minus {b : Int} {l : List UInt8} (h : Lib.itoa b = 45 :: l) : ∃ c cs, l = c :: cs ∧ 49 ≤ c.toNat ∧ c.toNat ≤ 57 := by
  by_cases hn : b < 0
  · rw [itoa_neg' hn] at h
    obtain ⟨_, rfl⟩ := List.cons.inj h
    exact dec_head _ (by omega)
  · rw [itoa_pos' hn] at h
    obtain ⟨c, cs, hd, hc⟩ := decDigits_ne b.toNat
    rw [hd] at h
    obtain ⟨rfl, _⟩ := List.cons.inj h
    exact absurd hc.1 (by decide)
theorem itoa_len {a : Int} (ha : InS a) : (Lib.itoa a).length ≤ 40 := by
  unfold InS at ha
  by_cases hn : a < 0
  · rw [itoa_neg' hn, List.length_cons, Lib.decDigits_length]
    have := nDigits_le 39 (-a).toNat (by decide) (by simp; omega)
    omega
  · rw [itoa_pos' hn, Lib.decDigits_length]
    have := nDigits_le 39 a.toNat (by decide) (by simp; omega)
    omega
theorem read_0 {a : Int} (ha : InS a) (t : ByteArray) (ht : tx (Lib.itoa a) = t) (w : World) (hT : Tens w) :
    Calls Tryd.prog 28 #[.string ((⟨#[48]⟩ : ByteArray) ++ t)] w fun e w' => e = .returned (.tuple #[.agg #[.int .i64 0, .int .u64 0], .bool false]) ∧ Below w.heap.size w w' := by
  have e : (⟨#[48]⟩ : ByteArray) ++ t = tx (48 :: Lib.itoa a) := by rw [← ht, show (⟨#[48]⟩ : ByteArray) = tx [48] from rfl, tx_append]; rfl
  have hl := itoa_len ha
  rw [e, ← sv_0]
  refine read_no _ (by rw [tx_size, List.length_cons]; unfold maxLen; omega) (fun b _ h => ?_) w hT
  exact itoa_ne a (itoa_zero h)

set_option maxRecDepth 100000 in
set_option maxHeartbeats 4000000 in
theorem WideBack_walk (a : Int) (ha : InS a) (w : World) (hT : Tens w) :
    Calls Tryd.prog 6 #[sv a] w fun e w' => e = .returned (.bool true) ∧ Below w.heap.size w w' := by
  have HT := Lib.hid hT
  have hl := itoa_len ha
  obtain ⟨t, ht⟩ : ∃ t, tx (Lib.itoa a) = t := ⟨_, rfl⟩
  obtain ⟨p, hp⟩ : ∃ p, tx (sput a) = p := ⟨_, rfl⟩
  have htext : ∀ w, Tens w → Calls Tryd.prog 21 #[sv a] w fun e w' => e = .returned (.string t) ∧ Below w.heap.size w w' := fun w h => by rw [← ht]; exact text_any a ha w h
  have hread : ∀ w, Tens w → Calls Tryd.prog 28 #[.string t] w fun e w' => e = .returned (.tuple #[sv a, .bool true]) ∧ Below w.heap.size w w' := fun w h => by rw [← ht]; exact read_yes a ha w h
  have hread0 := read_0 ha t ht
  have hput : ∀ w, Calls Tryd.prog 23 #[sv a] w fun e w' => e = .returned (.string p) ∧ Below w.heap.size w w' := fun w => by rw [← hp]; exact put_any a ha w
  have hps : p.size = 16 := by rw [← hp, tx_size, sput_length]
  have hget : ∀ w, Calls Tryd.prog 30 #[.string p] w fun e w' => e = .returned (.tuple #[sv a, .bool true]) ∧ Below w.heap.size w w' := fun w => by
    have h := get_full p hps w
    rwa [show getS p.data.toList = a by rw [← hp]; exact getS_put ha] at h
  have hcut : ∀ w, (Instr.slice 9 (.string p) (some (.int .i64 1)) none none).run Tryd.prog w = .ok (.string (p.extract 1 16)) w := fun w => by
    rw [run_slice_string_l w 9 p Tryd.underlying9 .i64 1 (by decide) (by omega), hps]; rfl
  have hshort : ∀ w, Calls Tryd.prog 30 #[.string (p.extract 1 16)] w fun e w' => e = .returned (.tuple #[.agg #[.int .i64 0, .int .u64 0], .bool false]) ∧ Below w.heap.size w w' := fun w => by
    rw [← sv_0]
    exact get_short _ (by rw [ByteArray.size_extract, hps]; decide) w
  generalize p.extract 1 16 = q at *
  have hts : t.size ≤ 40 := by rw [← ht, tx_size]; exact hl
  have hs1 : (⟨#[48]⟩ : ByteArray).size + t.size ≤ 9223372036854775807 := by show 1 + t.size ≤ _; omega
  have hs2 : 1 + t.size ≤ 9223372036854775807 := by omega
  clear hT hl ht hp hps ha
  rw [show sv a = .agg #[.int .i64 (shi a), .int .u64 (slo a)] from rfl]
  go_enter Tryd.func6, Tryd.ntmps6
  go_wp2_with fail
  have hE0 : ∀ o1, Below w.heap.size w (w.alloc o1) := fun o1 => (Below.refl _ _).alloc (Nat.le_refl _) _
  refine (examples_any _ (HT.out.below (hE0 _))).mono ?_
  rintro e W ⟨rfl, hBx⟩
  have hA : CellsAt w.heap.size #[.int .i64 (shi a), .int .u64 (slo a)] W := (CellsAt.new _ _ _).below hBx
  have hE := (hE0 _).trans (hBx.mono (hE0 _).size)
  clear hE0 hBx
  have c0 := hA.cell 0 (.int .i64 (shi a)) rfl
  have c1 := hA.cell 1 (.int .u64 (slo a)) rfl
  go_wp2_with fail
  refine (htext _ (HT.out.below hE)).mono ?_
  rintro e w1 ⟨rfl, hB1⟩
  have hA1 := hA.below hB1
  have hE1 := hE.trans (hB1.mono hE.size)
  clear c0 c1 hB1
  go_wp2_with fail
  refine (hread _ (HT.out.below hE1)).mono ?_
  rintro e w2 ⟨rfl, hB2⟩
  have hA2 := hA1.below hB2
  have hE2 := hE1.trans (hB2.mono hE1.size)
  have hX : CellsAt w2.heap.size #[.int .i64 (shi a), .int .u64 (slo a)] (w2.alloc (.cells #[.int .i64 (shi a), .int .u64 (slo a)] 24)) := CellsAt.new _ _ _
  have hA3 := hA2.past (.cells #[.int .i64 (shi a), .int .u64 (slo a)] 24)
  have hE3 := hE2.alloc hE2.size (.cells #[.int .i64 (shi a), .int .u64 (slo a)] 24)
  have hlt := hA2.lt
  clear hread hB2
  have c0 := hA2.cell 0 (.int .i64 (shi a)) rfl
  have c1 := hA2.cell 1 (.int .u64 (slo a)) rfl
  go_wp2_with fail
  refine (hput _).mono ?_
  rintro e w3 ⟨rfl, hB3⟩
  have hA4 := hA3.below hB3
  have hX4 := hX.below hB3
  have hE4 := hE3.trans (hB3.mono hE3.size)
  clear c0 c1 hB3 hA3 hX hE3 hA2 hE2 hlt
  go_wp2_with fail
  refine (hget _).mono ?_
  rintro e w4 ⟨rfl, hB4⟩
  have hA5 := hA4.below hB4
  have hX5 := hX4.below hB4
  have hE5 := hE4.trans (hB4.mono hE4.size)
  have hY : CellsAt w4.heap.size #[.int .i64 (shi a), .int .u64 (slo a)] (w4.alloc (.cells #[.int .i64 (shi a), .int .u64 (slo a)] 24)) := CellsAt.new _ _ _
  have hA6 := hA5.past (.cells #[.int .i64 (shi a), .int .u64 (slo a)] 24)
  have hX6 := hX5.past (.cells #[.int .i64 (shi a), .int .u64 (slo a)] 24)
  have hE6 := hE5.alloc hE5.size (.cells #[.int .i64 (shi a), .int .u64 (slo a)] 24)
  have hlt := hA5.lt
  clear hget hB4 hA4 hX4 hE4 hX5
  have c0 := hA5.cell 0 (.int .i64 (shi a)) rfl
  have c1 := hA5.cell 1 (.int .u64 (slo a)) rfl
  go_wp2_with fail
  refine (hput _).mono ?_
  rintro e w5 ⟨rfl, hB5⟩
  have hA7 := hA6.below hB5
  have hX7 := hX6.below hB5
  have hY7 := hY.below hB5
  have hE7 := hE6.trans (hB5.mono hE6.size)
  clear c0 c1 hput hB5 hA6 hX6 hY hE6 hA5 hE5 hlt
  go_wp2_with fail
  refine (hshort _).mono ?_
  rintro e w6 ⟨rfl, hB6⟩
  have hA8 := hA7.below hB6
  have hX8 := hX7.below hB6
  have hY8 := hY7.below hB6
  have hE8 := hE7.trans (hB6.mono hE7.size)
  have hA9 := hA8.past (.cells #[.int .i64 0, .int .u64 0] 24)
  have hX9 := hX8.past (.cells #[.int .i64 0, .int .u64 0] 24)
  have hY9 := hY8.past (.cells #[.int .i64 0, .int .u64 0] 24)
  have hE9 := hE8.alloc hE8.size (.cells #[.int .i64 0, .int .u64 0] 24)
  have hlt := hA8.lt
  clear hshort hB6 hA7 hX7 hY7 hE7
  have c0 := hA8.cell 0 (.int .i64 (shi a)) rfl
  have c1 := hA8.cell 1 (.int .u64 (slo a)) rfl
  go_wp2_with fail
  refine (htext _ (HT.out.below hE9)).mono ?_
  rintro e w7 ⟨rfl, hB7⟩
  have hA10 := hA9.below hB7
  have hX10 := hX9.below hB7
  have hY10 := hY9.below hB7
  have hE10 := hE9.trans (hB7.mono hE9.size)
  clear c0 c1 htext hB7 hA9 hX9 hY9 hE9 hA8 hX8 hY8 hE8 hlt
  go_wp2_with fail
  refine (hread0 _ (HT.out.below hE10)).mono ?_
  rintro e w8 ⟨rfl, hB8⟩
  have hA11 := hA10.below hB8
  have hX11 := hX10.below hB8
  have hY11 := hY10.below hB8
  have hE11 := hE10.trans (hB8.mono hE10.size)
  clear hread0 hB8 hA10 hX10 hY10 hE10
  have a0 := hA11.cell 0 (.int .i64 (shi a)) rfl
  have a1 := hA11.cell 1 (.int .u64 (slo a)) rfl
  have x0 := hX11.cell 0 (.int .i64 (shi a)) rfl
  have x1 := hX11.cell 1 (.int .u64 (slo a)) rfl
  have y0 := hY11.cell 0 (.int .i64 (shi a)) rfl
  have y1 := hY11.cell 1 (.int .u64 (slo a)) rfl
  have l1 := hA11.lt
  have l2 := hX11.lt
  have l3 := hY11.lt
  go_wp2
  go_ret
  exact ⟨rfl, hE11.alloc hE11.size _⟩
end Go.Proofs.YthddnhnhlgnlhaaDoor
