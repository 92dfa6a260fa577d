/- FixedReads, walked. -/
import Derived.Test.YtpbphocpkmkoeaaDoorFxNu
import Derived.Test.YtpbphocpkmkoeaaDoorFxRw
import Derived.Test.YtpbphocpkmkoeaaDoorFxRx
namespace Go.Proofs.YtpbphocpkmkoeaaDoor
open Go Go.RowKit

theorem numT_max {v : NumV} (h : v.fits) : (numT v).size ≤ maxLen := by
  unfold numT
  by_cases ho : v.own = true
  · rw [if_pos ho]
    exact tx_max (nt_len h).2.2.2.2.2 (by decide)
  · rw [if_neg ho]
    exact h.hs
theorem ref_read_any (s : ByteArray) (hs : s.size ≤ maxLen) (w : World) :
    Calls Tryd.prog 14 #[.string s] w fun e w' => e = .returned (.tuple #[.int .i64 (readF s.data.toList).1, .int .i64 (readF s.data.toList).2]) ∧ Below w.heap.size w w' := by
  have h := ref_read s.data.toList (by rw [size_list]; exact hs) w
  rw [tx_list] at h
  exact h.mono fun e w' ⟨h1, n, h2⟩ => ⟨h1, by rw [h2]; exact ⟨rfl, rfl, rfl, Nat.le_refl _, fun _ _ => rfl⟩⟩
theorem ref_whole_any (s : ByteArray) (hs : s.size ≤ maxLen) (w : World) :
    Calls Tryd.prog 16 #[.string s] w fun e w' => e = .returned (.tuple #[.int .i64 (wholeF s.data.toList).1, .int .i64 (wholeF s.data.toList).2]) ∧ w = w' := by
  have h := ref_whole s.data.toList (by rw [size_list]; exact hs) w
  rwa [tx_list] at h

set_option maxRecDepth 100000 in
set_option maxHeartbeats 16000000 in
theorem FixedReads_walk (v : NumV) (hv : v.fits) (s : ByteArray) (hs : s.size ≤ maxLen) (w : World) (hT : Tens w) :
    Calls Tryd.prog 3 #[.agg v.vals, .string s] w fun e w' => e = .returned (.bool true) ∧ Below w.heap.size w w' := by
  have HT := Lib.hid hT
  have hE0 : Below w.heap.size w (w.alloc (.cells v.vals 26)) := (Below.refl _ _).alloc (Nat.le_refl _) _
  have hN0 := CellsAt.new v.vals 26 w
  have ht := fun w => num_text v hv w
  have hm := numT_max hv
  have h1 := fun w => read_any (numT v) hm w
  have h2 := fun w => ref_read_any (numT v) hm w
  have h3 := fun w => whole_any (numT v) hm w
  have h4 := fun w => ref_whole_any (numT v) hm w
  have h5 := fun w => read_any s hs w
  have h6 := fun w => ref_read_any s hs w
  generalize readF (numT v).data.toList = r at *
  generalize wholeF (numT v).data.toList = u at *
  generalize readF s.data.toList = q at *
  obtain ⟨r1, r2⟩ := r
  obtain ⟨u1, u2⟩ := u
  obtain ⟨q1, q2⟩ := q
  generalize numT v = T at *
  have hfe : ∀ (W : World), CellsAt w.heap.size v.vals W → (W.cell? ⟨w.heap.size, 0, none⟩ = some (.string v.s) ∧ W.cell? ⟨w.heap.size, 1, none⟩ = some (.bool v.own) ∧ W.cell? ⟨w.heap.size, 2, none⟩ = some (.int .u8 v.sign) ∧ W.cell? ⟨w.heap.size, 3, none⟩ = some (.int .u64 v.whole) ∧ W.cell? ⟨w.heap.size, 4, none⟩ = some (.int .u8 v.zeros) ∧ W.cell? ⟨w.heap.size, 5, none⟩ = some (.int .u32 v.part) ∧ W.cell? ⟨w.heap.size, 6, none⟩ = some (.int .u8 v.ahead) ∧ W.cell? ⟨w.heap.size, 7, none⟩ = some (.int .i16 v.power) ∧ W.cell? ⟨w.heap.size, 8, none⟩ = some (.int .u8 v.points)) := fun W h => ⟨h.cell 0 _ rfl, h.cell 1 _ rfl, h.cell 2 _ rfl, h.cell 3 _ rfl, h.cell 4 _ rfl, h.cell 5 _ rfl, h.cell 6 _ rfl, h.cell 7 _ rfl, h.cell 8 _ rfl⟩
  have HFE := Lib.hid hfe
  clear hfe hm hT hv hs
  obtain ⟨s0, own, sign, whole, zeros, part, ahead, power, points⟩ := v
  simp only [NumV.vals] at hE0 hN0 ht HFE ⊢
  have HN0 := Lib.hid hN0
  clear hN0
  go_enter Tryd.func3, Tryd.ntmps3
  go_wp2_with fail
  refine (examples_any _ (HT.out.below hE0)).mono ?_
  rintro e w1 ⟨rfl, hB1⟩
  have hC1 := HN0.out.below hB1
  have hE1 := hE0.trans (hB1.mono hE0.size)
  clear hB1 hE0
  obtain ⟨c0, c1, c2, c3, c4, c5, c6, c7, c8⟩ := HFE.out _ hC1
  go_wp2_with fail
  refine (ht _).mono ?_
  rintro e w2 ⟨rfl, hB2⟩
  have hC2 := hC1.below hB2
  have hE2 := hE1.trans (hB2.mono hE1.size)
  clear hB2 hE1 hC1 c0 c1 c2 c3 c4 c5 c6 c7 c8
  go_wp2_with fail
  refine (h1 _).mono ?_
  rintro e w3 ⟨rfl, hB3⟩
  have hC3 := hC2.below hB3
  have hE3 := hE2.trans (hB3.mono hE2.size)
  clear hB3 hE2 hC2 h1
  obtain ⟨c0, c1, c2, c3, c4, c5, c6, c7, c8⟩ := HFE.out _ hC3
  go_wp2_with fail
  refine (ht _).mono ?_
  rintro e w4 ⟨rfl, hB4⟩
  have hC4 := hC3.below hB4
  have hE4 := hE3.trans (hB4.mono hE3.size)
  clear hB4 hE3 hC3 c0 c1 c2 c3 c4 c5 c6 c7 c8
  go_wp2_with fail
  refine (h2 _).mono ?_
  rintro e w5 ⟨rfl, hB5⟩
  have hC5 := hC4.below hB5
  have hE5 := hE4.trans (hB5.mono hE4.size)
  clear hB5 hE4 hC4 h2
  obtain ⟨c0, c1, c2, c3, c4, c5, c6, c7, c8⟩ := HFE.out _ hC5
  go_wp2_with fail
  refine (ht _).mono ?_
  rintro e w6 ⟨rfl, hB6⟩
  have hC6 := hC5.below hB6
  have hE6 := hE5.trans (hB6.mono hE5.size)
  clear hB6 hE5 hC5 c0 c1 c2 c3 c4 c5 c6 c7 c8
  go_wp2_with fail
  refine (h3 _).mono ?_
  rintro e w7 ⟨rfl, hB7⟩
  have hC7 := hC6.below hB7
  have hE7 := hE6.trans (hB7.mono hE6.size)
  clear hB7 hE6 hC6 h3
  obtain ⟨c0, c1, c2, c3, c4, c5, c6, c7, c8⟩ := HFE.out _ hC7
  go_wp2_with fail
  refine (ht _).mono ?_
  rintro e w8 ⟨rfl, hB8⟩
  have hC8 := hC7.below hB8
  have hE8 := hE7.trans (hB8.mono hE7.size)
  clear hB8 hE7 hC7 c0 c1 c2 c3 c4 c5 c6 c7 c8
  go_wp2_with fail
  refine (h4 _).mono ?_
  rintro e w9 ⟨rfl, rfl⟩
  clear h4
  go_wp2_with fail
  refine (h5 _).mono ?_
  rintro e w20 ⟨rfl, hB20⟩
  have hE20 := hE8.trans (hB20.mono hE8.size)
  go_wp2_with fail
  refine (h6 _).mono ?_
  rintro e w21 ⟨rfl, hB21⟩
  have hE21 := hE20.trans (hB21.mono hE20.size)
  clear h5 h6 ht hE20 hE8 hB20 hB21
  go_wp2
  try go_ret
  exact ⟨rfl, hE21⟩
end Go.Proofs.YtpbphocpkmkoeaaDoor
