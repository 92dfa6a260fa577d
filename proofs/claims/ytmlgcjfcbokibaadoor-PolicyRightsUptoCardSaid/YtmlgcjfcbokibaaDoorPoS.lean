/- Whether two policies are the same: the program's answer. -/
import Derived.Test.YtmlgcjfcbokibaaDoorPoR
import Derived.Test.YtmlgcjfcbokibaaDoorReg
namespace Go.Proofs.YtmlgcjfcbokibaaDoor.Po
open Go Go.RowKit

theorem eq_drop {x y : List Int} {k : Nat} (h1 : k < x.length) (h2 : k < y.length) : (x.drop k = y.drop k) ↔ (x[k] = y[k] ∧ x.drop (k + 1) = y.drop (k + 1)) := by
  rw [List.drop_eq_getElem_cons h1, List.drop_eq_getElem_cons h2, List.cons.injEq]
set_option maxRecDepth 100000 in
set_option maxHeartbeats 8000000 in
theorem equal_any (S S' : Nat → Prop) (u v : Value) (x y : List Int) (w : World) (hx : Tr S u x w) (hy : Tr S' v y w) :
    Calls Tryd.prog 36 #[u, v] w fun e w' => e = .returned (.bool (decide (x = y))) ∧ Below w.heap.size w w' := by
  obtain ⟨p, c, rfl⟩ := hx.len
  obtain ⟨q, d, rfl⟩ := hy.len
  have sx : x.length ≤ 9223372036854775807 := hx.short
  have sy : y.length ≤ 9223372036854775807 := hy.short
  obtain ⟨_, _, _, _, hxa⟩ := hx.at
  obtain ⟨_, _, _, _, hya⟩ := hy.at
  have HX := Lib.hid hxa
  have HY := Lib.hid hya
  have HB0 := Lib.hid (Below.refl w.heap.size w)
  obtain ⟨V, hV⟩ : ∃ V, decide (x = y) = V := ⟨_, rfl⟩
  rw [hV]
  have HV := Lib.hid hV
  clear hx hy hxa hya hV
  by_cases hl : x.length = y.length
  · have HL := Lib.hid hl
    obtain ⟨n, hn⟩ : ∃ n, x.length = n := ⟨_, rfl⟩
    have HN := Lib.hid hn
    have HN2 : Hid (y.length = n) := Lib.hid (by rw [← hn, hl])
    have hn2 := HN2.out
    have hnb : n ≤ 9223372036854775807 := by rw [← hn]; exact sx
    rw [hn2, hn]
    clear hl hn hn2 sx sy
    have hnn : ((n : Int) != (n : Int)) = false := by simp
    go_enter Tryd.func36, Tryd.ntmps36
    go_wp2
    go_loopg [13] n (fun g s13 wx => ∃ k : Nat, s13 = .int .i64 (k : Int) ∧ g + k = n ∧ Hid ((x = y) ↔ x.drop k = y.drop k) ∧ Hid (Below w.heap.size w wx))
    case atStart => exact ⟨0, rfl, rfl, Lib.hid Iff.rfl, HB0⟩
    case round =>
      clear HB0
      obtain ⟨k, rfl, hgk, HE, HB⟩ := hrel
      cases gk with
      | zero =>
        obtain rfl : k = n := by omega
        have hf : true = V := by
          rw [← HV.out, decide_eq_true]
          rw [HE.out, List.drop_of_length_le (by rw [HN.out]; exact Nat.le_refl _), List.drop_of_length_le (by rw [HN2.out]; exact Nat.le_refl _)]
        subst hf
        go_wp2
        go_ret
        exact ⟨rfl, HB.out⟩
      | succ g =>
        have h1 : k < x.length := by rw [HN.out]; omega
        have h2 : k < y.length := by rw [HN2.out]; omega
        obtain ⟨C, off, rfl, hC, c0⟩ := HX.out k h1
        obtain ⟨D, ofd, rfl, hD, d0⟩ := HY.out k h2
        have HS := Lib.hid (eq_drop h1 h2)
        generalize x[k] = a at *
        generalize y[k] = b at *
        have c1 := (HB.out.cell (p := ⟨C, off + k, none⟩) hC).trans c0
        have d1 := (HB.out.cell (p := ⟨D, ofd + k, none⟩) hD).trans d0
        have i1 : (k : Int) < (n : Int) := by omega
        have hCr : C < wr.heap.size := Nat.lt_of_lt_of_le hC HB.out.size
        have hDr : D < wr.heap.size := Nat.lt_of_lt_of_le hD HB.out.size
        clear c0 d0 hC hD h1 h2
        go_wp2
        go_quiet (fail)
        have HBq : Hid (Below w.heap.size w (wr.drewN nq)) := Lib.hid ⟨HB.out.os, HB.out.tape, HB.out.output, HB.out.size, HB.out.block⟩
        clear HB c1 d1 hCr hDr
        generalize wr.drewN nq = wq at *
        by_cases hab : a = b
        · subst hab
          have HE2 : Hid ((x = y) ↔ x.drop (k + 1) = y.drop (k + 1)) := Lib.hid (by rw [HE.out, HS.out]; simp)
          have e0 : (a != a) = false := by simp
          go_wp2
          go_roundg g
          case measure => omega
          case rel => exact ⟨k + 1, by go_num, by omega, HE2, HBq⟩
        · have hf : false = V := by
            rw [← HV.out, decide_eq_false]
            rw [HE.out, HS.out]
            exact fun h => hab h.1
          have e0 : (a != b) = true := by simpa using hab
          subst hf
          clear hab
          go_wp2
          go_ret
          exact ⟨rfl, HBq.out⟩
  · have hf : false = V := by
      rw [← HV.out, decide_eq_false]
      intro h
      exact hl (by rw [h])
    subst hf
    have e0 : ((x.length : Int) != (y.length : Int)) = true := by simp; omega
    clear hl
    go_enter Tryd.func36, Tryd.ntmps36
    go_wp2
    go_ret
    exact ⟨rfl, HB0.out⟩
end Go.Proofs.YtmlgcjfcbokibaaDoor.Po
