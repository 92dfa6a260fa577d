/- Cells: made, copied, moved, told. -/
import Derived.Test.YtmjipafhahggpaaDoorMCeAt
import Derived.Test.YtmjipafhahggpaaDoorMHiMrg
import Derived.Test.YtmjipafhahggpaaDoorMwA
namespace Go.Proofs.YtmjipafhahggpaaDoor.Ce
open Go Go.RowKit Hi

theorem mergeH_none {l : List Hit} (h : Rising l) : mergeH [] l = l := by rw [← join_eq Rising.nil h, join_nil_left]
set_option maxRecDepth 100000 in
set_option maxHeartbeats 4000000 in
theorem new_out (x f : Int) (h : x < 0 ∨ 4 < x) (w : World) :
    Calls Tryd.prog 25 #[.int .i64 f, .int .i64 x] w fun e w' => e = .returned (.tuple #[.pointer none, .int .i64 1]) ∧ Below w.heap.size w w' := by
  have hn := Hi.new_out x h w
  clear h
  go_enter Tryd.func25, Tryd.ntmps25
  go_wp2_with fail
  refine hn.mono ?_
  rintro e w1 ⟨rfl, hB⟩
  go_wp2
  go_ret2
  exact ⟨rfl, hB⟩
set_option maxRecDepth 100000 in
set_option maxHeartbeats 4000000 in
theorem new_any (k : Nat) (hk : k ≤ 4) (f : Int) (hf : In64 f) (w : World) :
    Calls Tryd.prog 25 #[.int .i64 f, .int .i64 k] w fun e w' => ∃ C S, e = .returned (.tuple #[.pointer (some ⟨C, 0, none⟩), .int .i64 0]) ∧ At.Made (Cel.new k f) w C S w' := by
  have hn := Hi.new_any k hk w
  have HK := Lib.hid hk
  have HF := Lib.hid hf
  clear hk hf
  go_enter Tryd.func25, Tryd.ntmps25
  go_wp2_with fail
  refine hn.mono ?_
  rintro e w1 ⟨B, rfl, hB, hlo, hH⟩
  have HH := Lib.hid hH
  have HL := Lib.hid hlo
  clear hn hH hlo
  go_wp2
  go_ret2
  have hC := CellsAt.new #[.pointer (some ⟨B, 0, none⟩), .int .i64 f, .int .i64 0, .int .u64 0, .int .i64 9223372036854775807, .int .i64 (-9223372036854775808)] 40 w1
  have hlt := HH.out.lt
  have hb := hB.size
  refine ⟨w1.heap.size, _, rfl, ⟨B, _, rfl, Ce.of hC ((HH.out.below ((Below.refl _ _).alloc (Nat.le_refl _) _)).mono (Nat.zero_le _)) (by omega) (by simp [Value.ownBlock]) (Cel.Ok.new HK.out HF.out)⟩, ?_, hB.alloc hb _⟩
  rintro i (rfl | rfl | hg)
  · exact hb
  · exact HL.out
  · simp [Value.ownBlock] at hg
set_option maxRecDepth 100000 in
set_option maxHeartbeats 4000000 in
theorem spread_any {S : Nat → Prop} {C : Nat} {c : Cel} {w : World} (h : At S C c w) :
    Calls Tryd.prog 21 #[.pointer (some ⟨C, 0, none⟩)] w fun e w' => ∃ B v, e = .returned (.pointer (some ⟨B, 0, none⟩)) ∧ Hs w.heap.size 66 B c.k v c.its w' ∧ Below w.heap.size w w' := by
  obtain ⟨B0, v0, rfl, h⟩ := h
  have c0 := h.c0
  have hb := bits_any h.hs
  have hn := Hi.new_any c.k h.ok.inv.hk w
  have HH := Lib.hid h
  clear h
  go_enter Tryd.func21, Tryd.ntmps21
  go_wp2_with fail
  refine hb.mono ?_
  rintro e _ ⟨rfl, rfl⟩
  go_wp2_with fail
  refine hn.mono ?_
  rintro e w1 ⟨B, rfl, hB, hlo, hH⟩
  have HC := HH.out.below hB
  have c0 := HC.c0
  have hm := merge_any hB.size hH HC.hs (by have := HH.out.ok.inv.sum; simp [countH]; omega)
  have HB := Lib.hid hB
  have HM := Lib.hid (mergeH_none HH.out.ok.inv.ris)
  have HLO := Lib.hid hlo
  clear hn hb HC hH hB hlo
  go_wp2_with fail
  refine hm.mono ?_
  rintro e w2 ⟨rfl, v', hH2, hM, hat⟩
  rw [HM.out] at hH2
  have HE : Hid (Below w.heap.size w w2) := Lib.hid (HB.out.trans (hM.below (by
    rintro i (rfl | hi)
    · exact HLO.out
    · simp [Value.ownBlock] at hi) HB.out.size))
  have HH2 := Lib.hid hH2
  clear hm hM hat hH2
  go_wp2
  go_ret
  exact ⟨B, v', rfl, HH2.out, HE.out⟩
set_option maxRecDepth 100000 in
set_option maxHeartbeats 4000000 in
theorem move_any {S : Nat → Prop} {C : Nat} {c : Cel} {w : World} (h : At S C c w) (f : Int) (hf : In64 f) :
    Calls Tryd.prog 24 #[.pointer (some ⟨C, 0, none⟩), .int .i64 f] w fun e w' => ∃ D T, e = .returned (.pointer (some ⟨D, 0, none⟩)) ∧ At.Made (c.move f) w D T w' := by
  have HA := Lib.hid h
  obtain ⟨B0, v0, rfl, h⟩ := h
  have c0 := h.c0
  have c1 := h.c1
  have c2 := h.c2
  have c3 := h.c3
  have c4 := h.c4
  have c5 := h.c5
  have hlt := h.lt
  have HK := Lib.hid h.ok
  have HF := Lib.hid hf
  clear h hf
  have hsp := spread_any (HA.out.below ((Below.refl w.heap.size w).alloc (Nat.le_refl _) (.cells #[.pointer (some ⟨B0, 0, none⟩), .int .i64 c.frm, .int .i64 (Wi.shi c.sum), .int .u64 (Wi.slo c.sum), .int .i64 c.low, .int .i64 c.top] 40)))
  have hC := CellsAt.new #[.pointer (some ⟨B0, 0, none⟩), .int .i64 c.frm, .int .i64 (Wi.shi c.sum), .int .u64 (Wi.slo c.sum), .int .i64 c.low, .int .i64 c.top] 40 w
  have HB0 : Hid (Below w.heap.size w (w.alloc (.cells #[.pointer (some ⟨B0, 0, none⟩), .int .i64 c.frm, .int .i64 (Wi.shi c.sum), .int .u64 (Wi.slo c.sum), .int .i64 c.low, .int .i64 c.top] 40))) := Lib.hid ((Below.refl w.heap.size w).alloc (Nat.le_refl _) _)
  have HC := Lib.hid hC
  clear hC
  go_enter Tryd.func24, Tryd.ntmps24
  go_wp2_with fail
  refine hsp.mono ?_
  rintro e w1 ⟨B, v, rfl, hH, hB1⟩
  have hC1 := HC.out.below hB1
  have HB1 : Hid (Below w.heap.size w w1) := Lib.hid (HB0.out.trans (hB1.mono HB0.out.size))
  have d0 := hC1.cell 0 _ rfl
  have e0 := hC1.fro 0 _ rfl
  have d1 := hC1.cell 1 _ rfl
  have e1 := hC1.fro 1 _ rfl
  have HC1 := Lib.hid hC1
  have HH := Lib.hid hH
  clear hsp HC hC1 hH hB1 c0 c1 c2 c3 c4 c5
  go_wp2
  go_ret
  have hlo := HH.out.lo
  simp at hlo
  have hsz := HB1.out.size
  refine ⟨w.heap.size, _, rfl, ⟨B, v, rfl, Ce.of ((HC1.out.set 0 (.pointer (some ⟨B, 0, none⟩)) (by simp)).set 1 (.int .i64 f) (by simp)) ?_ ?_ ?_ (HK.out.move HF.out)⟩, ?_, (HB1.out.setCell (p := ⟨w.heap.size, 0, none⟩) (Nat.le_refl _) _).setCell (p := ⟨w.heap.size, 1, none⟩) (Nat.le_refl _) _⟩
  · refine (HH.out.mov (((Mov.refl (fun i => i = w.heap.size) w1).set rfl 0 _).set rfl 1 _) ?_ ?_).mono (Nat.zero_le _)
    · omega
    · intro g hg
      have := (HH.out.row.lt hg).1
      simp at this
      omega
  · omega
  · intro hg
    have := (HH.out.row.lt hg).1
    simp at this
    omega
  · rintro i (rfl | rfl | hg)
    · exact Nat.le_refl _
    · omega
    · have := (HH.out.row.lt hg).1
      simp at this
      omega
theorem copy_any {S : Nat → Prop} {C : Nat} {c : Cel} {w : World} (h : At S C c w) :
    Calls Tryd.prog 19 #[.pointer (some ⟨C, 0, none⟩)] w fun e w' => ∃ D T, e = .returned (.pointer (some ⟨D, 0, none⟩)) ∧ At.Made c w D T w' := by
  have hm := move_any h c.frm h.ok.frm
  obtain ⟨B0, v0, rfl, h⟩ := h
  have c1 := h.c1
  clear h
  go_enter Tryd.func19, Tryd.ntmps19
  go_wp2_with fail
  refine hm.mono ?_
  rintro e w1 ⟨D, T, rfl, hM⟩
  have HM := Lib.hid hM
  clear hm hM c1
  go_wp2
  go_ret
  exact ⟨D, T, rfl, HM.out⟩
theorem from_any {S : Nat → Prop} {C : Nat} {c : Cel} {w : World} (h : At S C c w) :
    Calls Tryd.prog 16 #[.pointer (some ⟨C, 0, none⟩)] w fun e w' => e = .returned (.int .i64 c.frm) ∧ Below w.heap.size w w' := by
  obtain ⟨B0, v0, rfl, h⟩ := h
  have c1 := h.c1
  clear h
  go_enter Tryd.func16, Tryd.ntmps16
  go_wp2
  go_ret
  exact ⟨rfl, Below.refl _ _⟩
theorem sum_any {S : Nat → Prop} {C : Nat} {c : Cel} {w : World} (h : At S C c w) :
    Calls Tryd.prog 14 #[.pointer (some ⟨C, 0, none⟩)] w fun e w' => e = .returned (Wi.sv c.sum) ∧ Below w.heap.size w w' := by
  obtain ⟨B0, v0, rfl, h⟩ := h
  have c2 := h.c2
  have c3 := h.c3
  have hlt := h.lt
  clear h
  go_enter Tryd.func14, Tryd.ntmps14
  go_wp2
  simp [bodyPost, results, Tryd.results14, go_sem]
  exact (Below.refl _ _).alloc (Nat.le_refl _) _
theorem count_any {S : Nat → Prop} {C : Nat} {c : Cel} {w : World} (h : At S C c w) : ∃ B, w.cell? ⟨C, 0, none⟩ = some (.pointer (some ⟨B, 0, none⟩)) ∧ ∀ w', Below w.heap.size w w' → 
    Calls Tryd.prog 15 #[.pointer (some ⟨B, 0, none⟩)] w' fun e w'' => e = .returned (.int .u64 (countH c.its)) ∧ Below w'.heap.size w' w'' := by
  obtain ⟨B0, v0, rfl, h⟩ := h
  exact ⟨B0, h.c0, fun w' hB => Hi.count_any (h.below hB).hs⟩
set_option maxRecDepth 100000 in
set_option maxHeartbeats 4000000 in
theorem bounds_any {S : Nat → Prop} {C : Nat} {c : Cel} {w : World} (h : At S C c w) :
    Calls Tryd.prog 12 #[.pointer (some ⟨C, 0, none⟩)] w fun e w' => e = .returned (.tuple #[.int .i64 c.lowT, .int .i64 c.topT, .bool (decide (countH c.its ≠ 0))]) ∧ Below w.heap.size w w' := by
  obtain ⟨B0, v0, rfl, h⟩ := h
  have c0 := h.c0
  have hc := Hi.count_any h.hs
  have HH := Lib.hid h
  unfold Cel.lowT Cel.topT
  obtain ⟨n, hn⟩ : ∃ n, countH c.its = n := ⟨_, rfl⟩
  rw [hn] at hc ⊢
  clear hn h
  by_cases h0 : n = 0
  · subst h0
    rw [if_pos rfl, if_pos rfl]
    go_enter Tryd.func12, Tryd.ntmps12
    go_wp2_with fail
    refine hc.mono ?_
    rintro e w1 ⟨rfl, hB⟩
    clear hc c0
    go_wp2
    go_ret3
    exact ⟨rfl, hB⟩
  · rw [if_neg h0, if_neg h0]
    have hz : ¬ ((n : Int) = 0) := by omega
    go_enter Tryd.func12, Tryd.ntmps12
    go_wp2_with fail
    refine hc.mono ?_
    rintro e w1 ⟨rfl, hB⟩
    have c4 := (HH.out.below hB).c4
    have c5 := (HH.out.below hB).c5
    clear hc c0
    go_wp2
    go_region
    go_wp2
    go_ret3
    exact ⟨by simp [h0], hB.trans ⟨rfl, rfl, rfl, Nat.le_refl _, fun _ _ => rfl⟩⟩
end Go.Proofs.YtmjipafhahggpaaDoor.Ce

