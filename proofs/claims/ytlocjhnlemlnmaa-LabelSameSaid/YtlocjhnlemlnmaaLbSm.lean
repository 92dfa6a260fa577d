/- Two lists that are the same. -/
import Derived.Test.YtlocjhnlemlnmaaLbZ
import Derived.Laws.StructEq
import Derived.ChangeKeysEq
namespace Go.Proofs.Ytlocjhnlemlnmaa.Lx
open Go Go.RowKit

theorem lab_guard (x y : Operand) (xs ys : Array Value) (w : World) : (eqGuard .neq 47 x y (.agg xs) (.agg ys)).run Try.prog w = .ok () w := run_eqGuard_agg w _ _ _ _ _ _ (by kernel_rfl)
theorem lab_struct : Try.prog.underlying 47 = some (.struct (Try.prog.fieldsOf 47)) := by
  have h := Try.underlying47
  rw [h]
  unfold Program.fieldsOf
  rw [h]
set_option maxRecDepth 100000 in
theorem lab_fields : (Try.prog.fieldsOf 47).toList.map (fun f => (f.name, f.type, f.offset)) = [("Name", 9, 0), ("Value", 9, 1)] := by kernel_rfl
theorem lab_held : Try.prog.stoodInHeld 47 = false := by kernel_rfl
theorem two_fields {l : List Field} {a b : String × TypeId × Nat} (h : l.map (fun f => (f.name, f.type, f.offset)) = [a, b]) : ∃ f g : Field, l = [f, g] ∧ (f.name, f.type, f.offset) = a ∧ (g.name, g.type, g.offset) = b := by
  rcases l with _ | ⟨f, _ | ⟨g, _ | ⟨h', t⟩⟩⟩ <;> simp at h
  exact ⟨f, g, rfl, h.1, h.2⟩
set_option maxHeartbeats 4000000 in
theorem lab_neq (x1 x2 y1 y2 : ByteArray) (w : World) : (binOp .neq 47 (.agg #[.string x1, .string x2]) (.agg #[.string y1, .string y2])).run Try.prog w = .ok (.bool (!((x1.toList == y1.toList) && (x2.toList == y2.toList)))) w := by
  rw [run_neq_struct, run_equalIn_struct w 9999 _ _ _ lab_struct lab_held]
  obtain ⟨f, g, hl, hf, hg⟩ := two_fields lab_fields
  rw [hl]
  simp only [Prod.mk.injEq] at hf hg
  obtain ⟨f1, f2, f3⟩ := hf
  obtain ⟨g1, g2, g3⟩ := hg
  have hc : Try.prog.cellsOf 9 = 1 := by kernel_rfl
  have hs := run_equalIn_string (P := Try.prog) w 9998 9 x1 y1 Try.underlying9
  have hs2 := run_equalIn_string (P := Try.prog) w 9998 9 x2 y2 Try.underlying9
  have hp : Try.prog.plainKey 9 = true := by kernel_rfl
  have q1 := run_part_plain (P := Try.prog) w hp (xs := #[.string x1, .string x2]) (off := 0) rfl
  have q2 := run_part_plain (P := Try.prog) w hp (xs := #[.string y1, .string y2]) (off := 0) rfl
  have q3 := run_part_plain (P := Try.prog) w hp (xs := #[.string x1, .string x2]) (off := 1) rfl
  have q4 := run_part_plain (P := Try.prog) w hp (xs := #[.string y1, .string y2]) (off := 1) rfl
  cases hb : x1.toList == y1.toList
  · simp [Op.eqFields, f1, f2, f3, g1, g2, g3, q1, q2, hs, hb]
  · simp [Op.eqFields, f1, f2, f3, g1, g2, g3, q1, q2, q3, q4, hs, hs2, hb]
    by_cases h : x2.toList = y2.toList <;> simp [h]
attribute [local go_sem] lab_guard lab_neq
set_option maxRecDepth 100000 in
set_option maxHeartbeats 4000000 in
theorem same_any (p q : Option Addr) (a b : List LabB) (c d : Nat) (_ : a.length ≤ maxLab) (hb : b.length ≤ maxLab) (w : World) (hA : LbAt p a w) (hB : LbAt q b w) :
    Calls Try.prog 14 #[.slice p a.length c, .slice q b.length d] w fun e w' => e = .returned (.bool (decide (a = b))) ∧ Below w.heap.size w w' := by
  unfold maxLab at hb
  by_cases hn : a.length = b.length
  rotate_left
  · have hne : a ≠ b := fun e => hn (by rw [e])
    rw [decide_eq_false hne]
    have hni : ¬ (a.length : Int) = (b.length : Int) := by omega
    clear hA hB hne
    go_enter Try.func14, Try.ntmps14
    go_wp2
    go_ret
    exact ⟨rfl, Below.refl _ _⟩
  obtain ⟨n, hbn⟩ : ∃ n, b.length = n := ⟨_, rfl⟩
  rw [hbn] at hn hb ⊢
  rw [hn]
  have HBN := Lib.hid hbn
  have HAN := Lib.hid hn
  have HA := Lib.hid hA
  have HB := Lib.hid hB
  have HB0 := Lib.hid (Below.refl w.heap.size w)
  clear hA hB hbn hn 
  go_enter Try.func14, Try.ntmps14
  go_wp2
  go_loopg [5] n (fun g s5 wx => ∃ k : Nat, s5 = .int .i64 (k : Int) ∧ k + g = n ∧ Hid (a.take k = b.take k) ∧ Hid (Below w.heap.size w wx))
  case atStart => exact ⟨0, rfl, by omega, Lib.hid rfl, HB0⟩
  case round =>
    clear HB0
    obtain ⟨k, rfl, hkg, HE, HW⟩ := hrel
    cases gk with
    | zero =>
      obtain rfl : k = n := by omega
      have hab : a = b := by
        have := HE.out
        rwa [List.take_of_length_le (by rw [HAN.out]; exact Nat.le_refl _), List.take_of_length_le (by rw [HBN.out]; exact Nat.le_refl _)] at this
      have HD := Lib.hid (decide_eq_true hab)
      clear HA HB HE hab
      go_wp2
      go_ret
      exact ⟨by rw [HD.out]; rfl, HW.out⟩
    | succ g =>
      have hka : k < a.length := by rw [HAN.out]; omega
      have hkb : k < b.length := by rw [HBN.out]; omega
      obtain ⟨C, off, rfl, hC, c0, c1, -, -⟩ := (HA.out.below HW.out) k hka
      obtain ⟨E, of2, rfl, hE, e0, e1, -, -⟩ := (HB.out.below HW.out) k hkb
      have HTA := Lib.hid (List.take_succ_eq_append_getElem hka)
      have HTB := Lib.hid (List.take_succ_eq_append_getElem hkb)
      have HGA := Lib.hid (List.getElem?_eq_getElem hka)
      have HGB := Lib.hid (List.getElem?_eq_getElem hkb)
      generalize a[k] = x at c0 c1 HTA HGA
      generalize b[k] = y at e0 e1 HTB HGB
      obtain ⟨x1, x2⟩ := x
      obtain ⟨y1, y2⟩ := y
      simp only at c0 c1 e0 e1
      have h1 := tx_eq x1 y1
      have h2 := tx_eq x2 y2
      clear hka hkb
      by_cases hxy : x1 = y1 ∧ x2 = y2
      · obtain ⟨e1, e2⟩ := hxy
        rw [decide_eq_true e1] at h1
        rw [decide_eq_true e2] at h2
        have HE2 : Hid (a.take (k + 1) = b.take (k + 1)) := Lib.hid (by rw [HTA.out, HTB.out, HE.out, e1, e2])
        clear e1 e2 HTA HTB HGA HGB HE
        generalize tx x1 = X1 at *
        generalize tx x2 = X2 at *
        generalize tx y1 = Y1 at *
        generalize tx y2 = Y2 at *
        go_wp2
        go_quiet (fail)
        have HW2 := Lib.hid (below_drewN HW.out nq)
        generalize wr.drewN nq = W2 at *
        go_wp2
        go_roundg g
        case measure => omega
        case rel => exact ⟨k + 1, by go_num, by omega, HE2, HW2⟩
      · have hne : a ≠ b := by
          rintro rfl
          have := HGA.out.symm.trans HGB.out
          simp only [Option.some.injEq, Prod.mk.injEq] at this
          exact hxy this
        have HD := Lib.hid (decide_eq_false hne)
        have hnn : (((tx x1).toList == (tx y1).toList) = false) ∨ (((tx x1).toList == (tx y1).toList) = true ∧ ((tx x2).toList == (tx y2).toList) = false) := by
          rw [h1, h2]
          by_cases e1 : x1 = y1
          · exact .inr ⟨decide_eq_true e1, decide_eq_false fun e2 => hxy ⟨e1, e2⟩⟩
          · exact .inl (decide_eq_false e1)
        clear h1 h2 hxy hne HTA HTB HGA HGB HE
        generalize tx x1 = X1 at *
        generalize tx x2 = X2 at *
        generalize tx y1 = Y1 at *
        generalize tx y2 = Y2 at *
        rcases hnn with h1 | ⟨h1, h2⟩
        all_goals
          go_wp2
          go_quiet (fail)
          have HW2 := Lib.hid (below_drewN HW.out nq)
          generalize wr.drewN nq = W2 at *
          go_wp2
          go_ret
          exact ⟨by rw [HD.out]; rfl, HW2.out⟩
end Go.Proofs.Ytlocjhnlemlnmaa.Lx
