/- The next word, a name: what can come of the cut. The chapter's own answer: a text parsed. -/
import Derived.Test.YtdmkiiggpelmaaaGreatDoorLnC
import Derived.Test.YtdmkiiggpelmaaaGreatDoorLxRc
import Derived.Test.YtdmkiiggpelmaaaGreatDoorLnE
import Derived.Test.YtdmkiiggpelmaaaGreatDoorFxRx
namespace Go.Proofs.YtdmkiiggpelmaaaGreatDoor.Lx
open Go Go.RowKit

theorem name_cases (st l : List UInt8) : (cutL st l = none ∧ nameP st l = none) ∨
    (st ≠ [] ∧ ∃ w r z, cutL st l = some (w, r, z) ∧ nameP st l = none ∧ stopI z = 0) ∨
    (∃ r z, cutL st l = some ([], r, z) ∧ nameP st l = none ∧ stopI z ≠ 0) ∨
    (∃ w r z, cutL st l = some (w, r, z) ∧ nameP st l = none ∧ stopI z ≠ 0 ∧ w ≠ [] ∧ 64 < w.length) ∨
    (∃ w r z, cutL st l = some (w, r, z) ∧ nameP st l = some (w, r, stopI z) ∧ stopI z ≠ 0 ∧ w ≠ [] ∧ w.length ≤ 64) ∨ st = [] := by
  by_cases hst : st = []
  · exact .inr (.inr (.inr (.inr (.inr hst))))
  cases hc : cutL st l with
  | none => exact .inl ⟨rfl, by unfold nameP wordP; rw [hc]⟩
  | some x =>
    obtain ⟨w, r, z⟩ := x
    by_cases hz : stopI z = 0
    · exact .inr (.inl ⟨hst, w, r, z, rfl, by unfold nameP wordP; rw [hc]; simp only; rw [if_pos ⟨hz, hst⟩], hz⟩)
    · have hw : wordP st l = some (w, r, stopI z) := word_of hc (.inl hz)
      by_cases h0 : w = []
      · subst h0
        exact .inr (.inr (.inl ⟨r, z, rfl, by unfold nameP; rw [hw]; simp, hz⟩))
      · by_cases h64 : 64 < w.length
        · exact .inr (.inr (.inr (.inl ⟨w, r, z, rfl, by unfold nameP; rw [hw]; simp [h64], hz, h0, h64⟩)))
        · exact .inr (.inr (.inr (.inr (.inl ⟨w, r, z, rfl, by unfold nameP; rw [hw]; simp only; rw [if_neg (by rintro (e | e); exact h0 e; exact h64 e)], hz, h0, by omega⟩))))
theorem word_cases (st l : List UInt8) : (cutL st l = none ∧ wordP st l = none) ∨
    (∃ w r z, cutL st l = some (w, r, z) ∧ wordP st l = none ∧ stopI z = 0) ∨
    (∃ w r z, cutL st l = some (w, r, z) ∧ wordP st l = some (w, r, stopI z) ∧ (stopI z ≠ 0 ∨ st = [])) := by
  cases hc : cutL st l with
  | none => exact .inl ⟨rfl, by unfold wordP; rw [hc]⟩
  | some x =>
    obtain ⟨w, r, z⟩ := x
    by_cases hz : stopI z = 0 ∧ st ≠ []
    · exact .inr (.inl ⟨w, r, z, rfl, by unfold wordP; rw [hc]; simp only; rw [if_pos hz], hz.1⟩)
    · have h2 : stopI z ≠ 0 ∨ st = [] := by
        by_cases h0 : stopI z = 0
        · exact .inr (Classical.byContradiction fun hs => hz ⟨h0, hs⟩)
        · exact .inl h0
      exact .inr (.inr ⟨w, r, z, rfl, word_of hc h2, h2⟩)
/-- What is left behind the labels. -/
def finP (n : List UInt8) : Option (List Lab × List UInt8) → Except Int LineV
  | none => .error 2
  | some (ls, t) => match fieldsP t with
    | none => .error 2
    | some (a, b) => match numsP a b with
      | .error k => .error k
      | .ok x => .ok ⟨n, ls, x.1, x.2⟩
theorem lineP_fin {l n m : List UInt8} {y : Int} (h : nameP [44, 32] l = some (n, m, y)) : lineP l = finP n (labelsP 16 m y) := by
  unfold lineP finP
  rw [h]
  simp only
  cases labelsP 16 m y with
  | none => rfl
  | some x => rfl
theorem labels_bad {k : Nat} {l : List UInt8} (h : nameP [61] l = none) : labelsP k l 44 = none := by
  cases k with
  | zero => exact labelsP_zero
  | succ k => exact labelsP_n h
theorem labels_bad2 {k : Nat} {l n m : List UInt8} {z : Int} (h : nameP [61] l = some (n, m, z)) (h2 : nameP [44, 32] m = none) : labelsP k l 44 = none := by
  cases k with
  | zero => exact labelsP_zero
  | succ k => exact labelsP_v h h2
theorem fin_fields {n t : List UInt8} {ls : List Lab} (h : fieldsP t = none) : finP n (some (ls, t)) = .error 2 := by unfold finP; simp only [h]
theorem fin_nums {n t a b : List UInt8} {ls : List Lab} (h : fieldsP t = some (a, b)) : finP n (some (ls, t)) = match numsP a b with | .error k => .error k | .ok x => .ok ⟨n, ls, x.1, x.2⟩ := by unfold finP; simp only [h]
theorem rcut_of (l : List UInt8) (st : ByteArray) (hst : st.size ≤ maxLen) (h92 : (92 : UInt8) ∉ st.data.toList) (hl : l.length ≤ 1024) (w : World) :
    Calls Tryz.prog 21 #[.string (tx l), .string st] w fun e w' => e = .returned (cutV (cutL st.data.toList l)) ∧ Below w.heap.size w w' := by
  have h := ref_cut (tx l) st hst (by rw [tx_len]; omega) h92 w
  rwa [list_tx] at h
theorem below_four {N B : Nat} {w0 w : World} (h : Below N w0 w) (hB : N ≤ B) (a b c d : Value) : Below N w0 ((((w.setCell ⟨B, 0, none⟩ a).setCell ⟨B, 1, none⟩ b).setCell ⟨B, 2, none⟩ c).setCell ⟨B, 3, none⟩ d) :=
  (((h.setCell (p := ⟨B, 0, none⟩) hB a).setCell (p := ⟨B, 1, none⟩) hB b).setCell (p := ⟨B, 2, none⟩) hB c).setCell (p := ⟨B, 3, none⟩) hB d
end Go.Proofs.YtdmkiiggpelmaaaGreatDoor.Lx

namespace Go.Proofs.YtdmkiiggpelmaaaGreatDoor.Lx
open Go Go.RowKit

theorem rcut_none (l : List UInt8) (st : ByteArray) (hst : st.size ≤ maxLen) (h92 : (92 : UInt8) ∉ st.data.toList) (hl : l.length ≤ 1024) (hc : cutL st.data.toList l = none) (w : World) :
    Calls Tryz.prog 21 #[.string (tx l), .string st] w fun e w' => e = .returned (.tuple #[.string ⟨#[]⟩, .string ⟨#[]⟩, .int .u8 0, .int .i64 2]) ∧ Below w.heap.size w w' := by
  have h := rcut_of l st hst h92 hl w
  rw [hc] at h
  exact h
theorem rcut_some (l : List UInt8) (st : ByteArray) (hst : st.size ≤ maxLen) (h92 : (92 : UInt8) ∉ st.data.toList) (hl : l.length ≤ 1024) {x r : List UInt8} {z : Option UInt8} (hc : cutL st.data.toList l = some (x, r, z)) (w : World) :
    Calls Tryz.prog 21 #[.string (tx l), .string st] w fun e w' => e = .returned (.tuple #[.string (tx x), .string (tx r), .int .u8 (stopI z), .int .i64 0]) ∧ Below w.heap.size w w' := by
  have h := rcut_of l st hst h92 hl w
  rw [hc, cutV_some] at h
  exact h
theorem rread_ok (l : List UInt8) (hl : l.length ≤ 1024) (w : World) :
    Calls Tryz.prog 22 #[.string (tx l)] w fun e w' => e = .returned (.tuple #[.int .i64 (readF l).1, .int .i64 (readF l).2]) ∧ Below w.heap.size w w' := by
  refine (Go.Proofs.YtdmkiiggpelmaaaGreatDoor.ref_read l (by unfold maxLen; omega) w).mono ?_
  rintro e w' ⟨rfl, n, rfl⟩
  exact ⟨rfl, rfl, rfl, rfl, Nat.le_refl _, fun _ _ => rfl⟩
theorem rwhole_ok (l : List UInt8) (hl : l.length ≤ 1024) (w : World) :
    Calls Tryz.prog 23 #[.string (tx l)] w fun e w' => e = .returned (.tuple #[.int .i64 (wholeF l).1, .int .i64 (wholeF l).2]) ∧ Below w.heap.size w w' := by
  refine (Go.Proofs.YtdmkiiggpelmaaaGreatDoor.ref_whole l (by unfold maxLen; omega) w).mono ?_
  rintro e w' ⟨rfl, rfl⟩
  exact ⟨rfl, Below.refl _ _⟩

/-- A line that the chapter reads: the place of the answer, the line so far. -/
structure Rp0 (w0 w : World) : Prop where
  res : CellsAt w0.heap.size (lineC ⟨#[]⟩ (.slice none 0 0) 0 0) w
  bel : Below w0.heap.size w0 w
theorem Rp0.below {w0 w w' : World} (h : Rp0 w0 w) (hB : Below w.heap.size w w') : Rp0 w0 w' := ⟨h.res.below hB, h.bel.trans (hB.mono h.bel.size)⟩
structure Rp (w0 : World) (M : Nat) (n : ByteArray) (v : Value) (ls : List Lab) (w : World) : Prop where
  lo : w0.heap.size < M
  vr : CellsAt M (lineC n v 0 0) w
  res : CellsAt w0.heap.size (lineC ⟨#[]⟩ (.slice none 0 0) 0 0) w
  row : OwnL (M + 1) v ls w
  bel : Below w0.heap.size w0 w
section
variable {w0 w w' : World} {M : Nat} {n : ByteArray} {v v' : Value} {ls ls' : List Lab}
theorem Rp.below (h : Rp w0 M n v ls w) (hB : Below w.heap.size w w') : Rp w0 M n v ls w' :=
  ⟨h.lo, h.vr.below hB, h.res.below hB, h.row.below hB, h.bel.trans (hB.mono h.bel.size)⟩
theorem Rp0.new (h : Rp0 w0 w) (n : ByteArray) : Rp w0 w.heap.size n (.slice none 0 0) [] (w.alloc (.cells (lineC n (.slice none 0 0) 0 0) 32)) :=
  ⟨h.res.lt, CellsAt.new _ _ _, h.res.past _, OwnL.nil _ _, h.bel.alloc h.bel.size _⟩
theorem Rp.grow (h : Rp w0 M n v ls w) (hG : GrewL (M + 1) v ls' w v' w') : Rp w0 M n v' ls' (w'.setCell ⟨M, 1, none⟩ v') :=
  ⟨h.lo, (cells_mov h.vr hG.2.1 (fun e => by have := (h.row.lt e).1; omega)).set 1 v' (by simp),
    (cells_mov h.res hG.2.1 (fun e => by have := (h.row.lt e).1; have := h.lo; omega)).other _ _ (by have := h.lo; simp; omega),
    hG.1.mov (Mov.set (S := fun j => j = M) (Mov.refl _ _) rfl 1 v') (fun g hg e => by have := (hG.1.lt hg).1; omega),
    (h.bel.trans (hG.2.1.below (fun j hj => by have := (h.row.lt hj).1; have := h.lo; omega) h.bel.size)).setCell (p := ⟨M, 1, none⟩) (by have := h.lo; show w0.heap.size ≤ M; omega) _⟩
end

set_option maxRecDepth 100000 in
theorem rparse_long (s : ByteArray) (hs : 1024 < s.size) (hm : s.size ≤ 9223372036854775807) (w : World) :
    Calls Tryz.prog 10 #[.string s] w (ParseEnd (.error 3) w) := by
  go_enter Tryz.func10, Tryz.ntmps10
  go_wp2
  refine bodyPost_ret (v := .tuple #[.agg (lineC ⟨#[]⟩ (.slice none 0 0) 0 0), .int .i64 3]) (by simp [results, Tryz.results10, go_sem]) rfl ⟨rfl, ?_⟩
  exact (Below.refl _ _).alloc (Nat.le_refl _) _

set_option maxRecDepth 100000 in
set_option maxHeartbeats 16000000 in
theorem rparse_short (l : List UInt8) (hl : l.length ≤ 1024) (w : World) :
    Calls Tryz.prog 10 #[.string (tx l)] w (ParseEnd (lineP l) w) := by
  obtain ⟨R, hres⟩ : ∃ R, lineP l = R := ⟨_, rfl⟩
  rw [hres]
  have HRES := Lib.hid hres.symm
  have hs : (tx l).size ≤ 1024 := by rw [tx_len]; exact hl
  have H0 : Hid (Rp0 w (w.alloc (.cells (lineC ⟨#[]⟩ (.slice none 0 0) 0 0) 32))) := Lib.hid ⟨CellsAt.new _ _ w, (Below.refl _ _).alloc (Nat.le_refl _) _⟩
  clear hres
  go_enter Tryz.func10, Tryz.ntmps10
  rcases name_cases [44, 32] l with ⟨hc, hn⟩ | ⟨_, n, r, z, hc, hn, hz⟩ | ⟨r, z, hc, hn, hz⟩ | ⟨n, r, z, hc, hn, hz, hx, h64⟩ | ⟨n, r, z, hc, hn, hz, hx, h64⟩ | h0
  · obtain rfl : R = .error 2 := HRES.out.trans (lineP_a hn)
    clear HRES
    have hq := fun w => rcut_none l ⟨#[44, 32]⟩ (by decide) (by decide) hl hc w
    clear hc hn
    go_wp2_with fail
    refine (hq _).mono ?_
    rintro e w1 ⟨rfl, hBw1⟩
    have H0b := Lib.hid (H0.out.below hBw1)
    clear hq hBw1 H0
    have r0 := H0b.out.res.cell 0 _ rfl
    have r1 := H0b.out.res.cell 1 _ rfl
    have r2 := H0b.out.res.cell 2 _ rfl
    have r3 := H0b.out.res.cell 3 _ rfl
    have z0 := H0b.out.res.fro 0 _ rfl
    have z1 := H0b.out.res.fro 1 _ rfl
    have z2 := H0b.out.res.fro 2 _ rfl
    have z3 := H0b.out.res.fro 3 _ rfl
    go_wp2
    refine bodyPost_ret (v := .tuple #[.agg (lineC ⟨#[]⟩ (.slice none 0 0) 0 0), .int .i64 2]) (by simp [results, Tryz.results10, go_sem, r0, r1, r2, r3]) rfl ⟨rfl, below_four H0b.out.bel (Nat.le_refl _) _ _ _ _⟩
  · obtain rfl : R = .error 2 := HRES.out.trans (lineP_a hn)
    clear HRES
    have hq := fun w => rcut_some l ⟨#[44, 32]⟩ (by decide) (by decide) hl hc w
    rw [hz] at hq
    clear hc hn hz
    generalize tx n = X at hq
    generalize tx r = Y at hq
    go_wp2_with fail
    refine (hq _).mono ?_
    rintro e w1 ⟨rfl, hBw1⟩
    have H0b := Lib.hid (H0.out.below hBw1)
    clear hq hBw1 H0
    have r0 := H0b.out.res.cell 0 _ rfl
    have r1 := H0b.out.res.cell 1 _ rfl
    have r2 := H0b.out.res.cell 2 _ rfl
    have r3 := H0b.out.res.cell 3 _ rfl
    have z0 := H0b.out.res.fro 0 _ rfl
    have z1 := H0b.out.res.fro 1 _ rfl
    have z2 := H0b.out.res.fro 2 _ rfl
    have z3 := H0b.out.res.fro 3 _ rfl
    go_wp2
    refine bodyPost_ret (v := .tuple #[.agg (lineC ⟨#[]⟩ (.slice none 0 0) 0 0), .int .i64 2]) (by simp [results, Tryz.results10, go_sem, r0, r1, r2, r3]) rfl ⟨rfl, below_four H0b.out.bel (Nat.le_refl _) _ _ _ _⟩
  · obtain rfl : R = .error 2 := HRES.out.trans (lineP_a hn)
    clear HRES
    have hq := fun w => rcut_some l ⟨#[44, 32]⟩ (by decide) (by decide) hl hc w
    rw [show tx [] = ⟨#[]⟩ from rfl] at hq
    have hk0 : (stopI z == 0) = false := by rw [beq_eq_false_iff_ne]; exact hz
    clear hc hn hz
    generalize stopI z = K at hq hk0
    generalize tx r = Y at hq
    go_wp2_with fail
    refine (hq _).mono ?_
    rintro e w1 ⟨rfl, hBw1⟩
    have H0b := Lib.hid (H0.out.below hBw1)
    clear hq hBw1 H0
    have r0 := H0b.out.res.cell 0 _ rfl
    have r1 := H0b.out.res.cell 1 _ rfl
    have r2 := H0b.out.res.cell 2 _ rfl
    have r3 := H0b.out.res.cell 3 _ rfl
    have z0 := H0b.out.res.fro 0 _ rfl
    have z1 := H0b.out.res.fro 1 _ rfl
    have z2 := H0b.out.res.fro 2 _ rfl
    have z3 := H0b.out.res.fro 3 _ rfl
    go_wp2
    refine bodyPost_ret (v := .tuple #[.agg (lineC ⟨#[]⟩ (.slice none 0 0) 0 0), .int .i64 2]) (by simp [results, Tryz.results10, go_sem, r0, r1, r2, r3]) rfl ⟨rfl, below_four H0b.out.bel (Nat.le_refl _) _ _ _ _⟩
  · obtain rfl : R = .error 2 := HRES.out.trans (lineP_a hn)
    clear HRES
    have hq := fun w => rcut_some l ⟨#[44, 32]⟩ (by decide) (by decide) hl hc w
    have hk0 : (stopI z == 0) = false := by rw [beq_eq_false_iff_ne]; exact hz
    have he1 := txt_no hx
    have hs1 : 64 < (tx n).size := by rw [tx_len]; exact h64
    have hs2 : (tx n).size ≤ 1024 := by rw [tx_len]; have := cut_len _ _ _ _ _ hc; omega
    clear hc hn hz hx h64
    generalize stopI z = K at hq hk0
    generalize tx n = X at hq he1 hs1 hs2
    generalize tx r = Y at hq
    go_wp2_with fail
    refine (hq _).mono ?_
    rintro e w1 ⟨rfl, hBw1⟩
    have H0b := Lib.hid (H0.out.below hBw1)
    clear hq hBw1 H0
    have r0 := H0b.out.res.cell 0 _ rfl
    have r1 := H0b.out.res.cell 1 _ rfl
    have r2 := H0b.out.res.cell 2 _ rfl
    have r3 := H0b.out.res.cell 3 _ rfl
    have z0 := H0b.out.res.fro 0 _ rfl
    have z1 := H0b.out.res.fro 1 _ rfl
    have z2 := H0b.out.res.fro 2 _ rfl
    have z3 := H0b.out.res.fro 3 _ rfl
    go_wp2
    refine bodyPost_ret (v := .tuple #[.agg (lineC ⟨#[]⟩ (.slice none 0 0) 0 0), .int .i64 2]) (by simp [results, Tryz.results10, go_sem, r0, r1, r2, r3]) rfl ⟨rfl, below_four H0b.out.bel (Nat.le_refl _) _ _ _ _⟩
  · have hq := fun w => rcut_some l ⟨#[44, 32]⟩ (by decide) (by decide) hl hc w
    have hk0 : (stopI z == 0) = false := by rw [beq_eq_false_iff_ne]; exact hz
    have he1 := txt_no hx
    have hs1 : (tx n).size ≤ 64 := by rw [tx_len]; exact h64
    have hrl : r.length ≤ 1024 := by have := cut_len _ _ _ _ _ hc; omega
    have HR2 : Hid (R = finP n (labelsP 16 r (stopI z))) := Lib.hid (HRES.out.trans (lineP_fin hn))
    clear HRES hc hn hx h64 hz
    go_wp2_with fail
    refine (hq _).mono ?_
    rintro e w1 ⟨rfl, hBw1⟩
    have H1 := H0.out.below hBw1
    have HP := Lib.hid (H1.new (tx n))
    clear hq hBw1 H0 H1
    go_wp2
    clear hk0 he1 hs1 hs
    go_loopg [5, 6] 16 (fun g s5 s6 wx => ∃ (A : List Lab) (t : List UInt8) (k : Int) (v : Value), s5 = .string (tx t) ∧ s6 = .int .u8 k ∧ A.length + g = 16 ∧ t.length ≤ 1024 ∧ Hid (R = finP n ((labelsP g t k).map (fun u => (A ++ u.1, u.2)))) ∧ Hid (Rp w w1.heap.size (tx n) v A wx))
    case atStart => exact ⟨[], r, stopI z, .slice none 0 0, rfl, rfl, rfl, hrl, Lib.hid (by rw [HR2.out]; cases labelsP 16 r (stopI z) <;> simp), HP⟩
    case round =>
      clear HR2 HP hrl hl
      obtain ⟨A, t, k, v, rfl, rfl, hA, ht, HE, HP⟩ := hrel
      obtain ⟨p, cap, rfl⟩ := HP.out.row.len
      by_cases hk : k = 44
      · subst hk
        rcases name_cases [61] t with ⟨hc, hn⟩ | ⟨_, nn, m1, z1, hc, hn, hz⟩ | ⟨m1, z1, hc, hn, hz⟩ | ⟨nn, m1, z1, hc, hn, hz, hx, h64⟩ | ⟨nn, m1, z1, hc, hn, hz, hx, h64⟩ | h0
        · have hr := HE.out
          rw [labels_bad hn] at hr
          obtain rfl : R = .error 2 := hr
          clear HE
          have hq := fun w => rcut_none t ⟨#[61]⟩ (by decide) (by decide) ht hc w
          clear hc hn
          go_wp2_with fail
          refine (hq _).mono ?_
          rintro e w2 ⟨rfl, hBw2⟩
          have HPb := Lib.hid (HP.out.below hBw2)
          clear hq hBw2 HP
          have r0 := HPb.out.res.cell 0 _ rfl
          have r1 := HPb.out.res.cell 1 _ rfl
          have r2 := HPb.out.res.cell 2 _ rfl
          have r3 := HPb.out.res.cell 3 _ rfl
          have z0 := HPb.out.res.fro 0 _ rfl
          have z1 := HPb.out.res.fro 1 _ rfl
          have z2 := HPb.out.res.fro 2 _ rfl
          have z3 := HPb.out.res.fro 3 _ rfl
          go_wp2
          refine bodyPost_ret (v := .tuple #[.agg (lineC ⟨#[]⟩ (.slice none 0 0) 0 0), .int .i64 2]) (by simp [results, Tryz.results10, go_sem, r0, r1, r2, r3]) rfl ⟨rfl, below_four HPb.out.bel (Nat.le_refl _) _ _ _ _⟩
        · have hr := HE.out
          rw [labels_bad hn] at hr
          obtain rfl : R = .error 2 := hr
          clear HE
          have hq := fun w => rcut_some t ⟨#[61]⟩ (by decide) (by decide) ht hc w
          rw [hz] at hq
          clear hc hn hz
          generalize tx nn = X at hq
          generalize tx m1 = Y at hq
          go_wp2_with fail
          refine (hq _).mono ?_
          rintro e w2 ⟨rfl, hBw2⟩
          have HPb := Lib.hid (HP.out.below hBw2)
          clear hq hBw2 HP
          have r0 := HPb.out.res.cell 0 _ rfl
          have r1 := HPb.out.res.cell 1 _ rfl
          have r2 := HPb.out.res.cell 2 _ rfl
          have r3 := HPb.out.res.cell 3 _ rfl
          have z0 := HPb.out.res.fro 0 _ rfl
          have z1 := HPb.out.res.fro 1 _ rfl
          have z2 := HPb.out.res.fro 2 _ rfl
          have z3 := HPb.out.res.fro 3 _ rfl
          go_wp2
          refine bodyPost_ret (v := .tuple #[.agg (lineC ⟨#[]⟩ (.slice none 0 0) 0 0), .int .i64 2]) (by simp [results, Tryz.results10, go_sem, r0, r1, r2, r3]) rfl ⟨rfl, below_four HPb.out.bel (Nat.le_refl _) _ _ _ _⟩
        · have hr := HE.out
          rw [labels_bad hn] at hr
          obtain rfl : R = .error 2 := hr
          clear HE
          have hq := fun w => rcut_some t ⟨#[61]⟩ (by decide) (by decide) ht hc w
          rw [show tx [] = ⟨#[]⟩ from rfl] at hq
          have hk0 : (stopI z1 == 0) = false := by rw [beq_eq_false_iff_ne]; exact hz
          clear hc hn hz
          generalize stopI z1 = K at hq hk0
          generalize tx m1 = Y at hq
          go_wp2_with fail
          refine (hq _).mono ?_
          rintro e w2 ⟨rfl, hBw2⟩
          have HPb := Lib.hid (HP.out.below hBw2)
          clear hq hBw2 HP
          have r0 := HPb.out.res.cell 0 _ rfl
          have r1 := HPb.out.res.cell 1 _ rfl
          have r2 := HPb.out.res.cell 2 _ rfl
          have r3 := HPb.out.res.cell 3 _ rfl
          have z0 := HPb.out.res.fro 0 _ rfl
          have z1 := HPb.out.res.fro 1 _ rfl
          have z2 := HPb.out.res.fro 2 _ rfl
          have z3 := HPb.out.res.fro 3 _ rfl
          go_wp2
          refine bodyPost_ret (v := .tuple #[.agg (lineC ⟨#[]⟩ (.slice none 0 0) 0 0), .int .i64 2]) (by simp [results, Tryz.results10, go_sem, r0, r1, r2, r3]) rfl ⟨rfl, below_four HPb.out.bel (Nat.le_refl _) _ _ _ _⟩
        · have hr := HE.out
          rw [labels_bad hn] at hr
          obtain rfl : R = .error 2 := hr
          clear HE
          have hq := fun w => rcut_some t ⟨#[61]⟩ (by decide) (by decide) ht hc w
          have hk0 : (stopI z1 == 0) = false := by rw [beq_eq_false_iff_ne]; exact hz
          have he1 := txt_no hx
          have hs1 : 64 < (tx nn).size := by rw [tx_len]; exact h64
          have hs2 : (tx nn).size ≤ 1024 := by rw [tx_len]; have := cut_len _ _ _ _ _ hc; omega
          clear hc hn hz hx h64
          generalize stopI z1 = K at hq hk0
          generalize tx nn = X at hq he1 hs1 hs2
          generalize tx m1 = Y at hq
          go_wp2_with fail
          refine (hq _).mono ?_
          rintro e w2 ⟨rfl, hBw2⟩
          have HPb := Lib.hid (HP.out.below hBw2)
          clear hq hBw2 HP
          have r0 := HPb.out.res.cell 0 _ rfl
          have r1 := HPb.out.res.cell 1 _ rfl
          have r2 := HPb.out.res.cell 2 _ rfl
          have r3 := HPb.out.res.cell 3 _ rfl
          have z0 := HPb.out.res.fro 0 _ rfl
          have z1 := HPb.out.res.fro 1 _ rfl
          have z2 := HPb.out.res.fro 2 _ rfl
          have z3 := HPb.out.res.fro 3 _ rfl
          go_wp2
          refine bodyPost_ret (v := .tuple #[.agg (lineC ⟨#[]⟩ (.slice none 0 0) 0 0), .int .i64 2]) (by simp [results, Tryz.results10, go_sem, r0, r1, r2, r3]) rfl ⟨rfl, below_four HPb.out.bel (Nat.le_refl _) _ _ _ _⟩
        · have hq := fun w => rcut_some t ⟨#[61]⟩ (by decide) (by decide) ht hc w
          have hk0 : (stopI z1 == 0) = false := by rw [beq_eq_false_iff_ne]; exact hz
          have he1 := txt_no hx
          have hs1 : (tx nn).size ≤ 64 := by rw [tx_len]; exact h64
          have hm1l : m1.length ≤ 1024 := by have := cut_len _ _ _ _ _ hc; omega
          have HN := Lib.hid hn
          have hal : A.length ≤ 16 := by omega
          clear hc hz hx h64 hn
          have k1 := HP.out.vr.cell 1 _ rfl
          cases gk with
          | zero =>
            have hr := HE.out
            rw [labelsP_zero] at hr
            obtain rfl : R = .error 2 := hr
            have hlen : ((A.length : Int) == 16) = true := by rw [beq_iff_eq]; omega
            clear HE
            generalize stopI z1 = K at hq hk0
            generalize tx nn = X at hq he1 hs1
            generalize tx m1 = Y at hq
            go_wp2_with fail
            refine (hq _).mono ?_
            rintro e w2 ⟨rfl, hBw2⟩
            have HP2 := Lib.hid (HP.out.below hBw2)
            have k1' := HP2.out.vr.cell 1 _ rfl
            clear hq hBw2 HP k1
            have r0 := HP2.out.res.cell 0 _ rfl
            have r1 := HP2.out.res.cell 1 _ rfl
            have r2 := HP2.out.res.cell 2 _ rfl
            have r3 := HP2.out.res.cell 3 _ rfl
            have z0 := HP2.out.res.fro 0 _ rfl
            have z1 := HP2.out.res.fro 1 _ rfl
            have z2 := HP2.out.res.fro 2 _ rfl
            have z3 := HP2.out.res.fro 3 _ rfl
            go_wp2
            refine bodyPost_ret (v := .tuple #[.agg (lineC ⟨#[]⟩ (.slice none 0 0) 0 0), .int .i64 2]) (by simp [results, Tryz.results10, go_sem, r0, r1, r2, r3]) rfl ⟨rfl, below_four HP2.out.bel (Nat.le_refl _) _ _ _ _⟩
          | succ g =>
            have hlen : ((A.length : Int) == 16) = false := by rw [beq_eq_false_iff_ne]; omega
            go_wp2_with fail
            refine (hq _).mono ?_
            rintro e w2 ⟨rfl, hBw2⟩
            have HP2 := Lib.hid (HP.out.below hBw2)
            have k1' := HP2.out.vr.cell 1 _ rfl
            clear hq hBw2 HP k1
            go_wp2_with fail
            clear hk0 he1 hs1 k1'
            rcases name_cases [44, 32] m1 with ⟨hc, hn⟩ | ⟨_, vv, t2, z2, hc, hn, hz⟩ | ⟨t2, z2, hc, hn, hz⟩ | ⟨vv, t2, z2, hc, hn, hz, hx, h64⟩ | ⟨vv, t2, z2, hc, hn, hz, hx, h64⟩ | h0
            · have hr := HE.out
              rw [labels_bad2 HN.out hn] at hr
              obtain rfl : R = .error 2 := hr
              clear HE HN
              have hq := fun w => rcut_none m1 ⟨#[44, 32]⟩ (by decide) (by decide) hm1l hc w
              clear hc hn
              refine (hq _).mono ?_
              rintro e w3 ⟨rfl, hBw3⟩
              have HP2b := Lib.hid (HP2.out.below hBw3)
              clear hq hBw3 HP2
              have r0 := HP2b.out.res.cell 0 _ rfl
              have r1 := HP2b.out.res.cell 1 _ rfl
              have r2 := HP2b.out.res.cell 2 _ rfl
              have r3 := HP2b.out.res.cell 3 _ rfl
              have z0 := HP2b.out.res.fro 0 _ rfl
              have z1 := HP2b.out.res.fro 1 _ rfl
              have z2 := HP2b.out.res.fro 2 _ rfl
              have z3 := HP2b.out.res.fro 3 _ rfl
              go_wp2
              refine bodyPost_ret (v := .tuple #[.agg (lineC ⟨#[]⟩ (.slice none 0 0) 0 0), .int .i64 2]) (by simp [results, Tryz.results10, go_sem, r0, r1, r2, r3]) rfl ⟨rfl, below_four HP2b.out.bel (Nat.le_refl _) _ _ _ _⟩
            · have hr := HE.out
              rw [labels_bad2 HN.out hn] at hr
              obtain rfl : R = .error 2 := hr
              clear HE HN
              have hq := fun w => rcut_some m1 ⟨#[44, 32]⟩ (by decide) (by decide) hm1l hc w
              rw [hz] at hq
              clear hc hn hz
              generalize tx vv = X at hq
              generalize tx t2 = Y at hq
              refine (hq _).mono ?_
              rintro e w3 ⟨rfl, hBw3⟩
              have HP2b := Lib.hid (HP2.out.below hBw3)
              clear hq hBw3 HP2
              have r0 := HP2b.out.res.cell 0 _ rfl
              have r1 := HP2b.out.res.cell 1 _ rfl
              have r2 := HP2b.out.res.cell 2 _ rfl
              have r3 := HP2b.out.res.cell 3 _ rfl
              have z0 := HP2b.out.res.fro 0 _ rfl
              have z1 := HP2b.out.res.fro 1 _ rfl
              have z2 := HP2b.out.res.fro 2 _ rfl
              have z3 := HP2b.out.res.fro 3 _ rfl
              go_wp2
              refine bodyPost_ret (v := .tuple #[.agg (lineC ⟨#[]⟩ (.slice none 0 0) 0 0), .int .i64 2]) (by simp [results, Tryz.results10, go_sem, r0, r1, r2, r3]) rfl ⟨rfl, below_four HP2b.out.bel (Nat.le_refl _) _ _ _ _⟩
            · have hr := HE.out
              rw [labels_bad2 HN.out hn] at hr
              obtain rfl : R = .error 2 := hr
              clear HE HN
              have hq := fun w => rcut_some m1 ⟨#[44, 32]⟩ (by decide) (by decide) hm1l hc w
              rw [show tx [] = ⟨#[]⟩ from rfl] at hq
              have hk0 : (stopI z2 == 0) = false := by rw [beq_eq_false_iff_ne]; exact hz
              clear hc hn hz
              generalize stopI z2 = K at hq hk0
              generalize tx t2 = Y at hq
              refine (hq _).mono ?_
              rintro e w3 ⟨rfl, hBw3⟩
              have HP2b := Lib.hid (HP2.out.below hBw3)
              clear hq hBw3 HP2
              have r0 := HP2b.out.res.cell 0 _ rfl
              have r1 := HP2b.out.res.cell 1 _ rfl
              have r2 := HP2b.out.res.cell 2 _ rfl
              have r3 := HP2b.out.res.cell 3 _ rfl
              have z0 := HP2b.out.res.fro 0 _ rfl
              have z1 := HP2b.out.res.fro 1 _ rfl
              have z2 := HP2b.out.res.fro 2 _ rfl
              have z3 := HP2b.out.res.fro 3 _ rfl
              go_wp2
              refine bodyPost_ret (v := .tuple #[.agg (lineC ⟨#[]⟩ (.slice none 0 0) 0 0), .int .i64 2]) (by simp [results, Tryz.results10, go_sem, r0, r1, r2, r3]) rfl ⟨rfl, below_four HP2b.out.bel (Nat.le_refl _) _ _ _ _⟩
            · have hr := HE.out
              rw [labels_bad2 HN.out hn] at hr
              obtain rfl : R = .error 2 := hr
              clear HE HN
              have hq := fun w => rcut_some m1 ⟨#[44, 32]⟩ (by decide) (by decide) hm1l hc w
              have hk0 : (stopI z2 == 0) = false := by rw [beq_eq_false_iff_ne]; exact hz
              have he1 := txt_no hx
              have hs1 : 64 < (tx vv).size := by rw [tx_len]; exact h64
              have hs2 : (tx vv).size ≤ 1024 := by rw [tx_len]; have := cut_len _ _ _ _ _ hc; omega
              clear hc hn hz hx h64
              generalize stopI z2 = K at hq hk0
              generalize tx vv = X at hq he1 hs1 hs2
              generalize tx t2 = Y at hq
              refine (hq _).mono ?_
              rintro e w3 ⟨rfl, hBw3⟩
              have HP2b := Lib.hid (HP2.out.below hBw3)
              clear hq hBw3 HP2
              have r0 := HP2b.out.res.cell 0 _ rfl
              have r1 := HP2b.out.res.cell 1 _ rfl
              have r2 := HP2b.out.res.cell 2 _ rfl
              have r3 := HP2b.out.res.cell 3 _ rfl
              have z0 := HP2b.out.res.fro 0 _ rfl
              have z1 := HP2b.out.res.fro 1 _ rfl
              have z2 := HP2b.out.res.fro 2 _ rfl
              have z3 := HP2b.out.res.fro 3 _ rfl
              go_wp2
              refine bodyPost_ret (v := .tuple #[.agg (lineC ⟨#[]⟩ (.slice none 0 0) 0 0), .int .i64 2]) (by simp [results, Tryz.results10, go_sem, r0, r1, r2, r3]) rfl ⟨rfl, below_four HP2b.out.bel (Nat.le_refl _) _ _ _ _⟩
            · have hq := fun w => rcut_some m1 ⟨#[44, 32]⟩ (by decide) (by decide) hm1l hc w
              have hk0 : (stopI z2 == 0) = false := by rw [beq_eq_false_iff_ne]; exact hz
              have he1 := txt_no hx
              have hs1 : (tx vv).size ≤ 64 := by rw [tx_len]; exact h64
              have ht2l : t2.length ≤ 1024 := by have := cut_len _ _ _ _ _ hc; omega
              have hcm := Lib.hid hn
              have hgl : A.length + g + 1 = 16 := by omega
              have HE2 : Hid (R = finP n ((labelsP g t2 (stopI z2)).map (fun u => (A ++ [(nn, vv)] ++ u.1, u.2)))) := Lib.hid (by rw [HE.out, labelsP_s HN.out hn]; cases labelsP g t2 (stopI z2) <;> simp)
              clear hc hz hx h64 hn HE HN hcm
              refine (hq _).mono ?_
              rintro e w3 ⟨rfl, hBw3⟩
              have HP3 := Lib.hid (HP2.out.below hBw3)
              clear hq hBw3 HP2
              obtain ⟨v', w4, hr4, hG⟩ := append_label 22 HP3.out.row (nn, vv) (by omega) (Nat.succ_le_of_lt HP3.out.vr.lt)
              simp only at hr4
              have k1 := HP3.out.vr.cell 1 _ rfl
              have HV4 := Lib.hid (cells_mov HP3.out.vr hG.2.1 (fun e => by have := (HP3.out.row.lt e).1; omega))
              have c1 := HV4.out.cell 1 _ rfl
              have f1 := HV4.out.fro 1 _ rfl
              obtain ⟨p', cap', hv⟩ := hG.1.len
              generalize (A ++ [(nn, vv)]).length = m' at hv
              subst hv
              have HP4 := Lib.hid (HP3.out.grow hG)
              clear hG HP3 HV4
              go_wp2_with (at_builtin; refine Lib.wpList_append_run _ rfl _ _ _ _ rfl _ _ rfl rfl _ _ hr4 ?_)
              go_roundg g
              case measure => omega
              case rel => exact ⟨A ++ [(nn, vv)], t2, stopI z2, _, rfl, rfl, by rw [List.length_append, List.length_singleton]; omega, ht2l, HE2, HP4⟩
            · simp at h0
        · simp at h0
      · have hk1 : (k == 44) = false := by rw [beq_eq_false_iff_ne]; exact hk
        have HE2 : Hid (R = finP n (some (A, t))) := Lib.hid (by rw [HE.out, labelsP_not hk]; simp)
        clear HE hk
        rcases word_cases [61] t with ⟨hc, hw⟩ | ⟨f, m, z, hc, hw, hz⟩ | ⟨f, m, z, hc, hw, hz⟩
        · obtain rfl : R = .error 2 := HE2.out.trans (fin_fields (fields_a hw))
          have hq := fun w => rcut_none t ⟨#[61]⟩ (by decide) (by decide) ht hc w
          clear hc hw HE2
          go_wp2_with fail
          refine (hq _).mono ?_
          rintro e w2 ⟨rfl, hBw2⟩
          have HP2 := Lib.hid (HP.out.below hBw2)
          clear hq hBw2 HP
          have r0 := HP2.out.res.cell 0 _ rfl
          have r1 := HP2.out.res.cell 1 _ rfl
          have r2 := HP2.out.res.cell 2 _ rfl
          have r3 := HP2.out.res.cell 3 _ rfl
          have z0 := HP2.out.res.fro 0 _ rfl
          have z1 := HP2.out.res.fro 1 _ rfl
          have z2 := HP2.out.res.fro 2 _ rfl
          have z3 := HP2.out.res.fro 3 _ rfl
          go_wp2
          refine bodyPost_ret (v := .tuple #[.agg (lineC ⟨#[]⟩ (.slice none 0 0) 0 0), .int .i64 2]) (by simp [results, Tryz.results10, go_sem, r0, r1, r2, r3]) rfl ⟨rfl, below_four HP2.out.bel (Nat.le_refl _) _ _ _ _⟩
        · obtain rfl : R = .error 2 := HE2.out.trans (fin_fields (fields_a hw))
          have hq := fun w => rcut_some t ⟨#[61]⟩ (by decide) (by decide) ht hc w
          rw [hz] at hq
          clear hc hw HE2 hz
          generalize tx f = X at hq
          generalize tx m = Y at hq
          go_wp2_with fail
          refine (hq _).mono ?_
          rintro e w2 ⟨rfl, hBw2⟩
          have HP2 := Lib.hid (HP.out.below hBw2)
          clear hq hBw2 HP
          have r0 := HP2.out.res.cell 0 _ rfl
          have r1 := HP2.out.res.cell 1 _ rfl
          have r2 := HP2.out.res.cell 2 _ rfl
          have r3 := HP2.out.res.cell 3 _ rfl
          have z0 := HP2.out.res.fro 0 _ rfl
          have z1 := HP2.out.res.fro 1 _ rfl
          have z2 := HP2.out.res.fro 2 _ rfl
          have z3 := HP2.out.res.fro 3 _ rfl
          go_wp2
          refine bodyPost_ret (v := .tuple #[.agg (lineC ⟨#[]⟩ (.slice none 0 0) 0 0), .int .i64 2]) (by simp [results, Tryz.results10, go_sem, r0, r1, r2, r3]) rfl ⟨rfl, below_four HP2.out.bel (Nat.le_refl _) _ _ _ _⟩
        have hq := fun w => rcut_some t ⟨#[61]⟩ (by decide) (by decide) ht hc w
        have hz0 : (stopI z == 0) = false := by rw [beq_eq_false_iff_ne]; rcases hz with h | h; exact h; simp at h
        have hm : m.length ≤ 1024 := by have := cut_len _ _ _ _ _ hc; omega
        clear hc hz
        generalize stopI z = K at hq hz0 hw
        by_cases hf : f = valueL
        rotate_left
        · obtain rfl : R = .error 2 := HE2.out.trans (fin_fields (fields_b hw hf))
          have ht1 : (!(tx f).toList == [118, 97, 108, 117, 101]) = true := by
            rw [Lib.toList_data, list_tx]
            simp only [Bool.not_eq_true', beq_eq_false_iff_ne]
            exact hf
          clear hw HE2 hf
          generalize tx f = X at hq ht1
          generalize tx m = Y at hq
          go_wp2_with fail
          refine (hq _).mono ?_
          rintro e w2 ⟨rfl, hBw2⟩
          have HP2 := Lib.hid (HP.out.below hBw2)
          clear hq hBw2 HP
          have r0 := HP2.out.res.cell 0 _ rfl
          have r1 := HP2.out.res.cell 1 _ rfl
          have r2 := HP2.out.res.cell 2 _ rfl
          have r3 := HP2.out.res.cell 3 _ rfl
          have z0 := HP2.out.res.fro 0 _ rfl
          have z1 := HP2.out.res.fro 1 _ rfl
          have z2 := HP2.out.res.fro 2 _ rfl
          have z3 := HP2.out.res.fro 3 _ rfl
          go_wp2
          refine bodyPost_ret (v := .tuple #[.agg (lineC ⟨#[]⟩ (.slice none 0 0) 0 0), .int .i64 2]) (by simp [results, Tryz.results10, go_sem, r0, r1, r2, r3]) rfl ⟨rfl, below_four HP2.out.bel (Nat.le_refl _) _ _ _ _⟩
        have ht1 : (!(tx f).toList == [118, 97, 108, 117, 101]) = false := by
          rw [Lib.toList_data, list_tx, hf]
          decide
        rw [hf] at hw
        have HW := Lib.hid hw
        clear hw hf
        generalize tx f = X at hq ht1
        go_wp2_with fail
        refine (hq _).mono ?_
        rintro e w2 ⟨rfl, hBw2⟩
        have HP2 := Lib.hid (HP.out.below hBw2)
        clear hq hBw2 HP
        go_wp2_with fail
        clear ht1 hz0
        rcases word_cases [32] m with ⟨hc, hx⟩ | ⟨a, s, z, hc, hx, hz⟩ | ⟨a, s, z, hc, hx, hz⟩
        · obtain rfl : R = .error 2 := HE2.out.trans (fin_fields (fields_c HW.out hx))
          have hq := fun w => rcut_none m ⟨#[32]⟩ (by decide) (by decide) hm hc w
          clear hc hx HE2
          refine (hq _).mono ?_
          rintro e w3 ⟨rfl, hBw3⟩
          have HP3 := Lib.hid (HP2.out.below hBw3)
          clear hq hBw3 HP2
          have r0 := HP3.out.res.cell 0 _ rfl
          have r1 := HP3.out.res.cell 1 _ rfl
          have r2 := HP3.out.res.cell 2 _ rfl
          have r3 := HP3.out.res.cell 3 _ rfl
          have z0 := HP3.out.res.fro 0 _ rfl
          have z1 := HP3.out.res.fro 1 _ rfl
          have z2 := HP3.out.res.fro 2 _ rfl
          have z3 := HP3.out.res.fro 3 _ rfl
          go_wp2
          refine bodyPost_ret (v := .tuple #[.agg (lineC ⟨#[]⟩ (.slice none 0 0) 0 0), .int .i64 2]) (by simp [results, Tryz.results10, go_sem, r0, r1, r2, r3]) rfl ⟨rfl, below_four HP3.out.bel (Nat.le_refl _) _ _ _ _⟩
        · obtain rfl : R = .error 2 := HE2.out.trans (fin_fields (fields_c HW.out hx))
          have hq := fun w => rcut_some m ⟨#[32]⟩ (by decide) (by decide) hm hc w
          rw [hz] at hq
          clear hc hx HE2 hz
          generalize tx a = X at hq
          generalize tx s = Y at hq
          refine (hq _).mono ?_
          rintro e w3 ⟨rfl, hBw3⟩
          have HP3 := Lib.hid (HP2.out.below hBw3)
          clear hq hBw3 HP2
          have r0 := HP3.out.res.cell 0 _ rfl
          have r1 := HP3.out.res.cell 1 _ rfl
          have r2 := HP3.out.res.cell 2 _ rfl
          have r3 := HP3.out.res.cell 3 _ rfl
          have z0 := HP3.out.res.fro 0 _ rfl
          have z1 := HP3.out.res.fro 1 _ rfl
          have z2 := HP3.out.res.fro 2 _ rfl
          have z3 := HP3.out.res.fro 3 _ rfl
          go_wp2
          refine bodyPost_ret (v := .tuple #[.agg (lineC ⟨#[]⟩ (.slice none 0 0) 0 0), .int .i64 2]) (by simp [results, Tryz.results10, go_sem, r0, r1, r2, r3]) rfl ⟨rfl, below_four HP3.out.bel (Nat.le_refl _) _ _ _ _⟩
        have hq := fun w => rcut_some m ⟨#[32]⟩ (by decide) (by decide) hm hc w
        have hz0 : (stopI z == 0) = false := by rw [beq_eq_false_iff_ne]; rcases hz with h | h; exact h; simp at h
        have hsl : s.length ≤ 1024 := by have := cut_len _ _ _ _ _ hc; omega
        have hal : a.length ≤ 1024 := by have := cut_len _ _ _ _ _ hc; omega
        have HX := Lib.hid hx
        clear hc hz hx
        refine (hq _).mono ?_
        rintro e w3 ⟨rfl, hBw3⟩
        have HP3 := Lib.hid (HP2.out.below hBw3)
        clear hq hBw3 HP2
        go_wp2_with fail
        clear hz0
        rcases word_cases [] s with ⟨hc, hu⟩ | ⟨b, q, z, hc, hu, hz⟩ | ⟨b, q, z, hc, hu, hz⟩
        · obtain rfl : R = .error 2 := HE2.out.trans (fin_fields (fields_d HW.out HX.out hu))
          have hq := fun w => rcut_none s ⟨#[]⟩ (by decide) (by decide) hsl hc w
          clear hc hu HE2
          refine (hq _).mono ?_
          rintro e w4 ⟨rfl, hBw4⟩
          have HP4 := Lib.hid (HP3.out.below hBw4)
          clear hq hBw4 HP3
          have r0 := HP4.out.res.cell 0 _ rfl
          have r1 := HP4.out.res.cell 1 _ rfl
          have r2 := HP4.out.res.cell 2 _ rfl
          have r3 := HP4.out.res.cell 3 _ rfl
          have z0 := HP4.out.res.fro 0 _ rfl
          have z1 := HP4.out.res.fro 1 _ rfl
          have z2 := HP4.out.res.fro 2 _ rfl
          have z3 := HP4.out.res.fro 3 _ rfl
          go_wp2
          refine bodyPost_ret (v := .tuple #[.agg (lineC ⟨#[]⟩ (.slice none 0 0) 0 0), .int .i64 2]) (by simp [results, Tryz.results10, go_sem, r0, r1, r2, r3]) rfl ⟨rfl, below_four HP4.out.bel (Nat.le_refl _) _ _ _ _⟩
        · unfold wordP at hu
          rw [hc] at hu
          simp at hu
        have hq := fun w => rcut_some s ⟨#[]⟩ (by decide) (by decide) hsl hc w
        have hbl : b.length ≤ 1024 := by have := cut_len _ _ _ _ _ hc; omega
        have HE3 : Hid (R = match numsP a b with | .error k => .error k | .ok x => .ok ⟨n, A, x.1, x.2⟩) := Lib.hid (HE2.out.trans (fin_nums (fields_e HW.out HX.out hu)))
        clear hc hz hu HW HX HE2
        generalize stopI z = K at hq
        generalize tx q = Y at hq
        refine (hq _).mono ?_
        rintro e w4 ⟨rfl, hBw4⟩
        have HP4 := Lib.hid (HP3.out.below hBw4)
        clear hq hBw4 HP3
        go_wp2_with fail
        have h1 := rread_ok a hal
        by_cases he : (readF a).2 = 0
        rotate_left
        · have hr := HE3.out
          rw [nums_a he] at hr
          generalize (readF a).1 = q1 at h1
          generalize (readF a).2 = q2 at h1 he hr
          obtain rfl : R = .error q2 := hr
          have he2 : (q2 != 0) = true := by rw [bne_iff_ne]; exact he
          clear HE3 he
          refine (h1 _).mono ?_
          rintro e w5 ⟨rfl, hB5⟩
          have HP5 := Lib.hid (HP4.out.below hB5)
          clear h1 hB5 HP4
          have r0 := HP5.out.res.cell 0 _ rfl
          have r1 := HP5.out.res.cell 1 _ rfl
          have r2 := HP5.out.res.cell 2 _ rfl
          have r3 := HP5.out.res.cell 3 _ rfl
          have z0 := HP5.out.res.fro 0 _ rfl
          have z1 := HP5.out.res.fro 1 _ rfl
          have z2 := HP5.out.res.fro 2 _ rfl
          have z3 := HP5.out.res.fro 3 _ rfl
          go_wp2
          refine bodyPost_ret (v := .tuple #[.agg (lineC ⟨#[]⟩ (.slice none 0 0) 0 0), .int .i64 q2]) (by simp [results, Tryz.results10, go_sem, r0, r1, r2, r3]) rfl ⟨rfl, below_four HP5.out.bel (Nat.le_refl _) _ _ _ _⟩
        obtain ⟨q1, hq1⟩ : ∃ q, (readF a).1 = q := ⟨_, rfl⟩
        rw [he, hq1] at h1
        have HE1 := Lib.hid he
        have HQ1 := Lib.hid hq1
        clear he hq1
        refine (h1 _).mono ?_
        rintro e w5 ⟨rfl, hB5⟩
        have HP5 := Lib.hid (HP4.out.below hB5)
        clear h1 hB5 HP4
        go_wp2_with fail
        have h2 := rwhole_ok b hbl
        by_cases he : (wholeF b).2 = 0
        rotate_left
        · have hr := HE3.out
          rw [nums_b HE1.out he] at hr
          generalize (wholeF b).1 = q3 at h2
          generalize (wholeF b).2 = q2 at h2 he hr
          obtain rfl : R = .error q2 := hr
          have he2 : (q2 != 0) = true := by rw [bne_iff_ne]; exact he
          clear HE3 he
          refine (h2 _).mono ?_
          rintro e w6 ⟨rfl, hB6⟩
          have HP6 := Lib.hid (HP5.out.below hB6)
          clear h2 hB6 HP5
          have r0 := HP6.out.res.cell 0 _ rfl
          have r1 := HP6.out.res.cell 1 _ rfl
          have r2 := HP6.out.res.cell 2 _ rfl
          have r3 := HP6.out.res.cell 3 _ rfl
          have z0 := HP6.out.res.fro 0 _ rfl
          have z1 := HP6.out.res.fro 1 _ rfl
          have z2 := HP6.out.res.fro 2 _ rfl
          have z3 := HP6.out.res.fro 3 _ rfl
          go_wp2
          refine bodyPost_ret (v := .tuple #[.agg (lineC ⟨#[]⟩ (.slice none 0 0) 0 0), .int .i64 q2]) (by simp [results, Tryz.results10, go_sem, r0, r1, r2, r3]) rfl ⟨rfl, below_four HP6.out.bel (Nat.le_refl _) _ _ _ _⟩
        obtain ⟨q2, hq2⟩ : ∃ q, (wholeF b).1 = q := ⟨_, rfl⟩
        rw [he, hq2] at h2
        have HE2 := Lib.hid he
        have HQ2 := Lib.hid hq2
        clear he hq2
        refine (h2 _).mono ?_
        rintro e w6 ⟨rfl, hB6⟩
        have HP6 := Lib.hid (HP5.out.below hB6)
        clear h2 hB6 HP5
        by_cases h0 : q2 < 0
        · obtain rfl : R = .error 7 := by rw [HE3.out, nums_c HE1.out HE2.out (by rw [HQ2.out]; exact h0)]
          clear HE3
          have r0 := HP6.out.res.cell 0 _ rfl
          have r1 := HP6.out.res.cell 1 _ rfl
          have r2 := HP6.out.res.cell 2 _ rfl
          have r3 := HP6.out.res.cell 3 _ rfl
          have z0 := HP6.out.res.fro 0 _ rfl
          have z1 := HP6.out.res.fro 1 _ rfl
          have z2 := HP6.out.res.fro 2 _ rfl
          have z3 := HP6.out.res.fro 3 _ rfl
          go_wp2
          refine bodyPost_ret (v := .tuple #[.agg (lineC ⟨#[]⟩ (.slice none 0 0) 0 0), .int .i64 7]) (by simp [results, Tryz.results10, go_sem, r0, r1, r2, r3]) rfl ⟨rfl, below_four HP6.out.bel (Nat.le_refl _) _ _ _ _⟩
        have h0 : 0 ≤ q2 := by omega
        obtain rfl : R = .ok ⟨n, A, q1, q2⟩ := by rw [HE3.out, nums_d HE1.out HE2.out (by rw [HQ2.out]; omega), HQ1.out, HQ2.out]
        clear HE3
        have c2 := HP6.out.vr.cell 2 _ rfl
        have f2 := HP6.out.vr.fro 2 _ rfl
        have HV1 := Lib.hid (HP6.out.vr.set 2 (.int .i64 q1) (by simp))
        have c3 := HV1.out.cell 3 (.int .i64 0) rfl
        have f3 := HV1.out.fro 3 (.int .i64 0) rfl
        have HV2 := Lib.hid (HV1.out.set 3 (.int .i64 q2) (by simp))
        have g0 := HV2.out.cell 0 (.string (tx n)) rfl
        have g1 := HV2.out.cell 1 (.slice p A.length cap) rfl
        have g2 := HV2.out.cell 2 (.int .i64 q1) rfl
        have g3 := HV2.out.cell 3 (.int .i64 q2) rfl
        have hlo := HP6.out.lo
        have HRS := Lib.hid ((HP6.out.res.other ⟨w1.heap.size, 2, none⟩ (.int .i64 q1) (by show w1.heap.size ≠ _; omega)).other ⟨w1.heap.size, 3, none⟩ (.int .i64 q2) (by show w1.heap.size ≠ _; omega))
        have r0 := HRS.out.cell 0 _ rfl
        have r1 := HRS.out.cell 1 _ rfl
        have r2 := HRS.out.cell 2 _ rfl
        have r3 := HRS.out.cell 3 _ rfl
        have z0 := HRS.out.fro 0 _ rfl
        have z1 := HRS.out.fro 1 _ rfl
        have z2 := HRS.out.fro 2 _ rfl
        have z3 := HRS.out.fro 3 _ rfl
        have hrow := Lib.hid HP6.out.row
        have hbel := Lib.hid HP6.out.bel
        go_wp2
        refine bodyPost_ret (v := .tuple #[.agg #[.string (tx n), .slice p A.length cap, .int .i64 q1, .int .i64 q2], .int .i64 0]) (by simp [results, Tryz.results10, go_sem, r0, r1, r2, r3]) rfl ⟨_, rfl, ?_, ?_⟩
        · refine ((hrow.out.mov (S := fun j => j ≤ w1.heap.size) (Mov.set (S := fun j => j ≤ w1.heap.size) (Mov.set (S := fun j => j ≤ w1.heap.size) (Mov.set (S := fun j => j ≤ w1.heap.size) (Mov.set (S := fun j => j ≤ w1.heap.size) (Mov.set (S := fun j => j ≤ w1.heap.size) (Mov.set (S := fun j => j ≤ w1.heap.size) (Mov.refl _ _) (Nat.le_refl _) 2 _) (Nat.le_refl _) 3 _) (by omega) 0 _) (by omega) 1 _) (by omega) 2 _) (by omega) 3 _) (fun g hg e => ?_))).sub (by omega)
          have := (hrow.out.lt hg).1
          omega
        · exact below_four ((hbel.out.setCell (p := ⟨w1.heap.size, 2, none⟩) (by show w.heap.size ≤ w1.heap.size; omega) _).setCell (p := ⟨w1.heap.size, 3, none⟩) (by show w.heap.size ≤ w1.heap.size; omega) _) (Nat.le_refl _) _ _ _ _
  · simp at h0
/-- A text parsed, as the chapter says. -/
theorem rparse_any (s : ByteArray) (hs : s.size ≤ maxLen) (w : World) :
    Calls Tryz.prog 10 #[.string s] w (ParseEnd (parseP s.data.toList) w) := by
  unfold parseP maxLen at *
  by_cases h : 1024 < s.data.toList.length
  · rw [if_pos h]
    exact rparse_long s (by rw [← size_list]; exact h) (by omega) w
  · rw [if_neg h]
    have := rparse_short s.data.toList (by omega) w
    rwa [tx_list] at this
end Go.Proofs.YtdmkiiggpelmaaaGreatDoor.Lx

