/- A name comes to a top. -/
import Derived.Test.YtnkhieackclniaaTIdx
import Derived.Test.YtnkhieackclniaaTLea
import Derived.Test.YtnkhieackclniaaTApp
namespace Go.Proofs.Ytnkhieackclniaa
open Go Go.RowKit

/-- What a coming leaves. -/
def Added (base B room : Nat) (v : Value) (l' : List Itm) (code : Int) (w : World) (e : Ending) (w' : World) : Prop :=
  e = .returned (.int .i64 code) ∧ ∃ v', Tp base B room v' l' w' ∧ Mov (OwnT B v) w w' ∧ ∀ g, v'.ownBlock = some g → v.ownBlock = some g ∨ w.heap.size ≤ g
theorem Added.same {base B room : Nat} {v : Value} {l : List Itm} {code : Int} {w w' : World} (h : Tp base B room v l w) (hB : Below w.heap.size w w') : Added base B room v l code w (.returned (.int .i64 code)) w' :=
  ⟨rfl, v, h.below hB, Mov.ofB hB, fun _ hg => .inl hg⟩
set_option maxRecDepth 100000 in
set_option maxHeartbeats 4000000 in
theorem add_arg {base B room : Nat} {v : Value} {l : List Itm} {w : World} (h : Tp base B room v l w) (name : ByteArray) (b : Nat) (hn : name.size ≤ maxLen) (hbad : 64 < name.size ∨ b = 0) :
    Calls Try.prog 12 #[.pointer (some ⟨B, 0, none⟩), .string name, .int .u64 b] w (Added base B room v l 1 w) := by
  unfold maxLen at hn
  have H := Lib.hid h
  clear h
  by_cases h64 : 64 < name.size
  · clear hbad
    go_enter Try.func12, Try.ntmps12
    go_wp2
    go_ret
    exact Added.same H.out ((Below.refl _ _).alloc (Nat.le_refl _) _)
  · have hb0 : b = 0 := hbad.resolve_left h64
    subst hb0
    clear hbad
    go_enter Try.func12, Try.ntmps12
    go_wp2
    go_ret
    exact Added.same H.out ((Below.refl _ _).alloc (Nat.le_refl _) _)
set_option maxRecDepth 100000 in
set_option maxHeartbeats 4000000 in
theorem add_range {base B room : Nat} {v : Value} {l : List Itm} {w : World} (h : Tp base B room v l w) (name : ByteArray) (b : Nat) (hn : name.size ≤ 64) (hb : 0 < b) (hb2 : b < 18446744073709551616) (hbad : 4611686018427387904 < seen l + b) :
    Calls Try.prog 12 #[.pointer (some ⟨B, 0, none⟩), .string name, .int .u64 b] w (Added base B room v l 7 w) := by
  have hsum := h.inv.sum
  have hse := seen_walk (h.below ((Below.refl w.heap.size w).alloc (Nat.le_refl _) (.cells #[.string name] 9)))
  have H := Lib.hid h
  clear h
  generalize seen l = s at *
  have h0 : ((b : Int) == 0) = false := by simp; omega
  have hd : decide (64 < (name.size : Int)) = false := by simp; omega
  have h1 : ((4611686018427387904 : Int) - (s : Int)) < b := by omega
  go_enter Try.func12, Try.ntmps12
  go_wp2_with fail
  refine hse.mono ?_
  rintro e w1 ⟨rfl, hB⟩
  go_wp2
  go_ret
  exact Added.same H.out (((Below.refl _ _).alloc (Nat.le_refl _) _).trans (hB.mono (by simp)))

theorem flat_set_name : ∀ (l : List Itm) (i : Nat) (nm : ByteArray), i < l.length → flat (l.set i ⟨nm, l[i]!.many, l[i]!.over⟩) = (flat l).set (i * 3) (.string nm)
  | [], _, _, h => absurd h (Nat.not_lt_zero _)
  | y :: l, 0, x, _ => by simp [flat_cons, encI]
  | y :: l, i + 1, x, h => by
    rw [List.set_cons_succ, flat_cons, flat_cons, show (y :: l)[i + 1]! = l[i]! by simp, flat_set_name l i x (by simpa using h), show (i + 1) * 3 = i * 3 + 3 by omega]
    simp [encI]
theorem flat_set_many : ∀ (l : List Itm) (i : Nat) (m : Nat), i < l.length → flat (l.set i ⟨l[i]!.name, m, l[i]!.over⟩) = (flat l).set (i * 3 + 1) (.int .u64 m)
  | [], _, _, h => absurd h (Nat.not_lt_zero _)
  | y :: l, 0, x, _ => by simp [flat_cons, encI]
  | y :: l, i + 1, x, h => by
    rw [List.set_cons_succ, flat_cons, flat_cons, show (y :: l)[i + 1]! = l[i]! by simp, flat_set_many l i x (by simpa using h), show (i + 1) * 3 = i * 3 + 3 by omega]
    simp [encI]
theorem flat_set_over : ∀ (l : List Itm) (i : Nat) (m : Nat), i < l.length → flat (l.set i ⟨l[i]!.name, l[i]!.many, m⟩) = (flat l).set (i * 3 + 2) (.int .u64 m)
  | [], _, _, h => absurd h (Nat.not_lt_zero _)
  | y :: l, 0, x, _ => by simp [flat_cons, encI]
  | y :: l, i + 1, x, h => by
    rw [List.set_cons_succ, flat_cons, flat_cons, show (y :: l)[i + 1]! = l[i]! by simp, flat_set_over l i x (by simpa using h), show (i + 1) * 3 = i * 3 + 3 by omega]
    simp [encI]
theorem Its.store {base T g n cap : Nat} {l l' : List Itm} {w : World} (h : Its base T (.slice (some ⟨g, 0, none⟩) n cap) l w) (hn : n = l.length) (j : Nat) (u : Value) (hl : l'.length = l.length) (hf : flat l' = (flat l).set j u) :
    Its base T (.slice (some ⟨g, 0, none⟩) n cap) l' (w.setCell ⟨g, j, none⟩ u) := by
  subst hn
  unfold Its at *
  rw [hl, hf]
  exact (World.ownsRow.stored h j u).1
theorem Its.store3 {base T g n cap : Nat} {l : List Itm} {w : World} (h : Its base T (.slice (some ⟨g, 0, none⟩) n cap) l w) (hn : n = l.length) (i : Nat) (hi : i < l.length) (x : Itm) :
    Its base T (.slice (some ⟨g, 0, none⟩) n cap) (l.set i x) (((w.setCell ⟨g, i * 3, none⟩ (.string x.name)).setCell ⟨g, i * 3 + 1, none⟩ (.int .u64 x.many)).setCell ⟨g, i * 3 + 2, none⟩ (.int .u64 x.over)) := by
  have h1 := h.store hn _ _ (by simp) (flat_set_name l i x.name hi)
  have h2 := h1.store (by simpa using hn) _ _ (by simp) (flat_set_many _ i x.many (by simpa using hi))
  have h3 := h2.store (by simpa using hn) _ _ (by simp) (flat_set_over _ i x.over (by simpa using hi))
  simpa [hi] using h3
theorem Tp.rebuild {base B room : Nat} {v : Value} {l l' : List Itm} {w w' : World} (h : Tp base B room v l w) (hM : Mov (fun k => v.ownBlock = some k) w w') (hI : Inv room l') (hr : Its base 51 v l' w') : Tp base B room v l' w' :=
  ⟨Nat.lt_of_lt_of_le h.lt hM.size, h.lo, hI, (hM.cell h.lt h.ne).trans h.c0, (hM.cell h.lt h.ne).trans h.c1, (hM.frozen h.lt h.ne).trans h.f1, hr, h.ne⟩
set_option maxRecDepth 100000 in
set_option maxHeartbeats 4000000 in
theorem add_found {base B room : Nat} {v : Value} {l : List Itm} {w : World} (h : Tp base B room v l w) (name : ByteArray) (b : Nat) (hn : name.size ≤ 64) (hb : 0 < b) (hok : seen l + b ≤ 4611686018427387904) {i : Nat} (hp : plc name l = some i) :
    Calls Try.prog 12 #[.pointer (some ⟨B, 0, none⟩), .string name, .int .u64 b] w (Added base B room v (addL room name b l) 0 w) := by
  have hinv := inv_add h.inv hn hb hok
  rw [addL_some hp] at hinv ⊢
  obtain ⟨hi, hnm, _⟩ := plc_some hp
  have hpi : plcI name l = (i : Int) := by unfold plcI; rw [hp]
  have hl16 : l.length ≤ 16 := Nat.le_trans h.inv.len h.inv.hi
  have hms := many_le_seen (mem_at hi)
  have hBox := (Below.refl w.heap.size w).alloc (Nat.le_refl _) (.cells #[.string name] 9)
  have hse := seen_walk (h.below hBox)
  have hN := CellsAt.new #[.string name] 9 w
  obtain ⟨g, cap, rfl, _⟩ := h.row.form_pos (by omega)
  have H := Lib.hid h
  have HB := Lib.hid hBox
  have HN := Lib.hid hN
  have HI := Lib.hid hinv
  clear h hBox hN hinv hp hnm
  have h0 : ((b : Int) == 0) = false := by simp; omega
  have hd : decide (64 < (name.size : Int)) = false := by simp; omega
  have h1 : ¬ ((4611686018427387904 : Int) - (seen l : Int)) < b := by omega
  have hs2 : (seen l : Int) ≤ 4611686018427387904 := by omega
  go_enter Try.func12, Try.ntmps12
  go_wp2_with fail
  refine hse.mono ?_
  rintro e W1 ⟨rfl, hB1⟩
  have hBW := HB.out.trans (hB1.mono (by simp))
  have HT1 := Lib.hid (H.out.below hBW)
  have HN1 := Lib.hid (HN.out.below hB1)
  have k1 := HT1.out.c1
  have hix := index_any name HT1.out.row hl16 HN1.out.lt (HN1.out.cell 0 _ rfl)
  rw [hpi] at hix
  have HBW := Lib.hid hBW
  clear hse hB1 hpi hBW
  go_wp2_with fail
  refine hix.mono ?_
  rintro e W2 ⟨rfl, hB2⟩
  have hBW := HBW.out.trans (hB2.mono HBW.out.size)
  have hT2 := HT1.out.below hB2
  have k2 := hT2.c1
  obtain ⟨g', cap', hv, _, _, _, _, hcell, hfro⟩ := hT2.row.form_pos (by omega)
  simp only [Value.slice.injEq, Option.some.injEq, Addr.mk.injEq, and_true, true_and] at hv
  obtain ⟨rfl, rfl⟩ := hv
  obtain ⟨_, d1, _⟩ := hcell i hi
  have f1 := hfro (i * 3 + 1)
  have HT2 := Lib.hid hT2
  have HBW := Lib.hid hBW
  have hst := (hT2.row.store rfl (i * 3 + 1) (.int .u64 (l[i]!.many + b : Nat)) (by simp) (flat_set_many l i (l[i]!.many + b) hi))
  have HST := Lib.hid hst
  have HNE := Lib.hid hT2.ne
  clear hix hB2 hT2 hcell hfro hBW k1 hst
  have hi2 : (i : Int) < (l.length : Int) := by omega
  have hm2 : (l[i]!.many : Int) + b ≤ 4611686018427387904 := by omega
  obtain ⟨m, hm⟩ : ∃ m, m = l[i]!.many := ⟨_, rfl⟩
  rw [← hm] at d1 hms hm2
  have HM := Lib.hid hm
  clear hm
  go_wp2
  go_ret
  have hm := HM.out
  subst hm
  exact ⟨rfl, _, HT2.out.rebuild ((Mov.refl (fun k => (Value.slice (some ⟨g, 0, none⟩) l.length cap).ownBlock = some k) W2).set rfl _ _) HI.out HST.out, (Mov.ofB HBW.out).trans ((Mov.refl (OwnT B (.slice (some ⟨g, 0, none⟩) l.length cap)) _).set (.inr rfl) _ _) fun _ _ hk => hk, fun _ hg => .inl hg⟩
theorem Tp.stored {base B room : Nat} {v v' : Value} {l l' : List Itm} {w w1 : World} (h : Tp base B room v l w) (hM : Mov (fun k => v.ownBlock = some k) w w1) (hr : Its base 51 v' l' w1)
    (hat : ∀ g, v'.ownBlock = some g → v.ownBlock = some g ∨ w.heap.size ≤ g) (hI : Inv room l') : Tp base B room v' l' (w1.setCell ⟨B, 1, none⟩ v') ∧ Mov (OwnT B v) w (w1.setCell ⟨B, 1, none⟩ v') := by
  have hne : v'.ownBlock ≠ some B := fun e => by
    rcases hat B e with e | e
    · exact h.ne e
    · have := h.lt; omega
  have hS : Mov (fun k => k = B) w1 (w1.setCell ⟨B, 1, none⟩ v') := (Mov.refl (fun k => k = B) w1).set rfl 1 v'
  refine ⟨⟨by have := Nat.lt_of_lt_of_le h.lt hM.size; simpa using this, h.lo, hI, ?_, ?_, ?_, hr.mov hS (fun g hg e => hne (e ▸ hg)), hne⟩, Mov.trans (S := OwnT B v) (T := OwnT B v) ⟨hM.os, hM.tape, hM.output, hM.size, fun k hk hn => hM.block k hk (fun e => hn (.inr e))⟩ ⟨hS.os, hS.tape, hS.output, hS.size, fun k hk hn => hS.block k hk (fun e => hn (.inl e))⟩ fun _ _ hk => hk⟩
  · rw [World.cell?_setCell_other (h := by simp)]; exact (hM.cell h.lt h.ne).trans h.c0
  · exact World.cell?_setCell_same w1 ⟨B, 1, none⟩ _ ((hM.cell h.lt h.ne).trans h.c1)
  · rw [World.frozen?_setCell]; exact (hM.frozen h.lt h.ne).trans h.f1
set_option maxRecDepth 100000 in
set_option maxHeartbeats 4000000 in
theorem add_room {base B room : Nat} {v : Value} {l : List Itm} {w : World} (h : Tp base B room v l w) (hbase : base ≤ w.heap.size) (name : ByteArray) (b : Nat) (hn : name.size ≤ 64) (hb : 0 < b) (hok : seen l + b ≤ 4611686018427387904) (hp : plc name l = none) (hr : l.length < room) :
    Calls Try.prog 12 #[.pointer (some ⟨B, 0, none⟩), .string name, .int .u64 b] w (Added base B room v (addL room name b l) 0 w) := by
  have hinv := inv_add h.inv hn hb hok
  rw [addL_room hp hr] at hinv ⊢
  have hpi : plcI name l = -1 := by unfold plcI; rw [hp]
  have hl16 : l.length ≤ 16 := Nat.le_trans h.inv.len h.inv.hi
  have hl16' : room ≤ 16 := h.inv.hi
  have hBox := (Below.refl w.heap.size w).alloc (Nat.le_refl _) (.cells #[.string name] 9)
  have hse := seen_walk (h.below hBox)
  have hN := CellsAt.new #[.string name] 9 w
  obtain ⟨i0, hi0, hz⟩ := Option.map_eq_some_iff.1 info_item
  simp only [Prod.mk.injEq] at hz
  obtain ⟨hz0, hz1, hz2⟩ := hz
  have HZ0 := Lib.hid hz0
  have HZ1 := Lib.hid hz1
  have HZ2 := Lib.hid hz2
  have HI0 := Lib.hid hi0
  have H := Lib.hid h
  have HB := Lib.hid hBox
  have HN := Lib.hid hN
  have HI := Lib.hid hinv
  have HBS := Lib.hid hbase
  clear h hBox hN hinv hp hz0 hz1 hz2 hi0 hbase
  have h0 : ((b : Int) == 0) = false := by simp; omega
  have hd : decide (64 < (name.size : Int)) = false := by simp; omega
  have h1 : ¬ ((4611686018427387904 : Int) - (seen l : Int)) < b := by omega
  have hs2 : (seen l : Int) ≤ 4611686018427387904 := by omega
  go_enter Try.func12, Try.ntmps12
  go_wp2_with fail
  refine hse.mono ?_
  rintro e W1 ⟨rfl, hB1⟩
  have hBW := HB.out.trans (hB1.mono (by simp))
  have HT1 := Lib.hid (H.out.below hBW)
  have HN1 := Lib.hid (HN.out.below hB1)
  have k1 := HT1.out.c1
  have hix := index_any name HT1.out.row hl16 HN1.out.lt (HN1.out.cell 0 _ rfl)
  rw [hpi] at hix
  have HBW := Lib.hid hBW
  clear hse hB1 hpi hBW
  go_wp2_with fail
  refine hix.mono ?_
  rintro e W2 ⟨rfl, hB2⟩
  have hBW := HBW.out.trans (hB2.mono HBW.out.size)
  have HT2 := Lib.hid (HT1.out.below hB2)
  have HN2 := Lib.hid (HN1.out.below hB2)
  have n2 := HN2.out.cell 0 _ rfl
  have hcn := clone_name name hn W2
  have HBW := Lib.hid hBW
  clear hix hB2 hBW k1
  go_wp2_with fail
  refine hcn.mono ?_
  rintro e W3 ⟨rfl, hB3⟩
  have hBW := HBW.out.trans (hB3.mono HBW.out.size)
  have HT3 := Lib.hid (HT2.out.below hB3)
  have HBW := Lib.hid hBW
  clear hcn hB3 hBW n2
  have hX := CellsAt.new #[.string name, .int .u64 b, .int .u64 0] 51 W3
  have hBX := (Below.refl W3.heap.size W3).alloc (Nat.le_refl _) (.cells #[.string name, .int .u64 b, .int .u64 0] 51)
  have hhr := hasroom_any (HT3.out.below hBX)
  rw [show decide (l.length < room) = true from decide_eq_true hr] at hhr
  have HX := Lib.hid hX
  have HBX := Lib.hid hBX
  clear hX hBX
  go_wp2_with fail
  refine hhr.mono ?_
  rintro e W4 ⟨rfl, nq, rfl⟩
  have HT4 := Lib.hid ((HT3.out.below HBX.out).drewN nq)
  have hBW := below_drewN (HBW.out.trans (HBX.out.mono HBW.out.size)) nq
  have HX4 : Hid (CellsAt W3.heap.size #[.string name, .int .u64 b, .int .u64 0] ((W3.alloc (.cells #[.string name, .int .u64 b, .int .u64 0] 51)).drewN nq)) := Lib.hid ⟨HX.out.lt, HX.out.cell, HX.out.fro⟩
  generalize hW4 : (W3.alloc (.cells #[.string name, .int .u64 b, .int .u64 0] 51)).drewN nq = W4 at *
  clear hW4 hhr
  have HBW := Lib.hid hBW
  clear hBW
  have k1 := HT4.out.c1
  have x0 := HX4.out.cell 0 _ rfl
  have x1 := HX4.out.cell 1 _ rfl
  have x2 := HX4.out.cell 2 _ rfl
  generalize W3.heap.size = X at *
  go_wp2
  have hBlt := HT4.out.lt
  have HB4 : Hid (base ≤ W4.heap.size) := Lib.hid (Nat.le_trans HBS.out HBW.out.size)
  go_region_law ((refine step_append_at _ rfl (.tmp 54) (.tmp 56) 43 rfl base 51 i0 _ 3 32 Try.underlying43 HI0.out HZ0.out HZ1.out HZ2.out rfl (by decide) v l.length (flat l) (by simp [Act.eval, Act.put]) (World.ownsRow.alloc HT4.out.row _) ⟨W4.heap.size, 0, none⟩ 1 1 [.string name, .int .u64 b, .int .u64 0] (by simp [Act.eval, Act.put]) rfl (new_row [.string name, .int .u64 b, .int .u64 0] 51 W4) (one_cells ⟨name, b, 0⟩) (by unfold maxLen; omega) (by omega) (by have := HB4.out; simp; omega) ?_); (intro v' w1 ho hg hat); (obtain ⟨gn, capn, rfl⟩ := own_shape ho); have h' := (HT4.out.below ((Below.refl W4.heap.size W4).alloc (Nat.le_refl _) (.cells #[.string name, .int .u64 b, .int .u64 0] 51))).drew; have hs1 := h'.stored (Mov.grown hg) (its_append (x := ⟨name, b, 0⟩) ho) hat HI.out; have y1 := ((Mov.grown hg).cell (i := 1) h'.lt h'.ne).trans h'.c1; have y2 := ((Mov.grown hg).frozen (i := 1) h'.lt h'.ne).trans h'.f1; have HAT := Lib.hid hat; have HS1 := Lib.hid hs1; clear hs1 hg hat ho h')
  all_goals
    go_wp2
    go_ret
    refine ⟨rfl, _, HS1.out.1, (Mov.ofB (HBW.out.trans (((Below.refl W4.heap.size W4).alloc (Nat.le_refl _) _).drew.mono HBW.out.size))).trans HS1.out.2 (fun _ _ hk => hk), fun g hg => (HAT.out g hg).imp id fun hle => Nat.le_trans HBW.out.size (Nat.le_trans ?_ hle)⟩
    simp
end Go.Proofs.Ytnkhieackclniaa
