/- slices.Clone and slices.Chunk at labels. -/
import Derived.Test.YtlocjhnlemlnmaaLbB
import Derived.Test.YtlocjhnlemlnmaaLbR
import Derived.Lib.SliceRun
namespace Go.Proofs.Ytlocjhnlemlnmaa.Lx
open Go Go.RowKit
attribute [local go_sem] Oper.semAt_some

set_option maxRecDepth 100000 in
set_option maxHeartbeats 4000000 in
theorem clone_ok (p : Option Addr) (c : Nat) (ls : List LabB) (hp : p = none → c = 0) (hlen : ls.length ≤ maxLab) (w : World) (hL : LbAt p ls w) :
    Calls Try.prog 27 #[.slice p ls.length c] w fun e w' => ∃ v, e = .returned v ∧ OwnL w.heap.size v ls w' ∧ Below w.heap.size w w' := by
  have q22 : ∀ (w : World) (a : Option Addr) (n c n' c' : Nat), (binOp .eql 23 (.slice a n c) (.slice none n' c')).run Try.prog w = .ok (.bool a.isNone) w := fun w a n c n' c' => Lib.run_eql_slice_nil w _ _ a n c n' c' Try.underlying23
  cases p with
  | none =>
    obtain rfl : c = 0 := hp rfl
    have h0 : ls = [] := by
      cases ls with
      | nil => rfl
      | cons x r => obtain ⟨C, off, h, _⟩ := hL 0 (by simp); cases h
    subst h0
    have HO := Lib.hid (OwnL.nil w.heap.size w)
    clear hL hp hlen
    go_enter Try.func27, Try.ntmps27
    go_wp2
    go_ret
    exact ⟨_, rfl, HO.out, Below.refl _ _⟩
  | some a =>
    obtain ⟨C, off, spot⟩ := a
    have hB0 : Below w.heap.size w (w.alloc (.cells #[] 47)) := (Below.refl _ _).alloc (Nat.le_refl _) _
    have hO0 : OwnL w.heap.size (.slice (some ⟨w.heap.size, 0, none⟩) 0 0) [] (w.alloc (.cells #[] 47)) := World.ownsRow_lit (base := w.heap.size) (size := 2) w #[] 0 (Nat.le_refl _) (by decide) rfl
    obtain ⟨v', w', hr, hG⟩ := append_labs 23 hO0 (some ⟨C, off, spot⟩) c (fun h => by cases h) (hL.below hB0) (by simpa using hlen) (by simp)
    have HO := Lib.hid hG.1
    have HB := Lib.hid (hB0.trans (hG.low (N := w.heap.size) (fun g hg => by cases hg; exact Nat.le_refl _) (by simp)))
    clear hL hp hlen hG hB0 hO0
    go_enter Try.func27, Try.ntmps27
    go_wp2_with (at_builtin; refine Lib.wpList_append_run _ rfl _ _ _ _ rfl _ _ rfl rfl _ _ hr ?_)
    go_ret
    exact ⟨_, rfl, HO.out, HB.out⟩

theorem chunk_ok (p : Option Addr) (len cap d : Nat) (hd : 1 ≤ d) (w : World) :
    Calls Try.prog 28 #[.slice p len cap, .int .i64 (d : Int)] w fun e w' =>
      e = .returned (.func (.func 38) #[] #[.pointer (some ⟨w.heap.size, 0, none⟩), .pointer (some ⟨w.heap.size + 1, 0, none⟩)]) ∧
      w' = (w.alloc (.cells #[.slice p len cap] 23)).alloc (.cells #[.int .i64 (d : Int)] 3) := by
  have h1 : ((d : Int) < 1) = False := eq_false (by omega)
  have h2 : (1 : Int) ≤ (d : Int) := by omega
  go_enter Try.func28, Try.ntmps28
  go_wp2
  go_ret
  exact ⟨rfl, rfl⟩

set_option maxRecDepth 100000 in
set_option maxHeartbeats 4000000 in
/-- The function that slices.Chunk hands back: whatever each round keeps. -/
theorem chunk_in (m l C G len cap d : Nat) (hd : 1 ≤ d) (hd2 : d ≤ 17592186044416) (hlen : len ≤ 4398046511104) (hcap : len ≤ cap) (J : Nat → World → Prop) (Jx : World → Prop)
    (hbox : ∀ o W, J o W → Boxed W C 23 (.slice (some ⟨G, 0, none⟩) len cap) ∧ Boxed W (C + 1) 3 (.int .i64 (d : Int)))
    (hdrew : ∀ o W k, J o W → J o (W.drewN k))
    (hY : ∀ o e W, J o W → o < len → min d (len - o) = e → YieldAt Fence.wide m Try.prog l #[.slice (some ⟨G, o * 2, none⟩) e e] W fun e W' => (e = .returned (.bool true) ∧ J (o + d) W') ∨ (e = .returned (.bool false) ∧ Jx W'))
    (W : World) (hJ : J 0 W) :
    CallsIn Fence.wide (m + 1) Try.prog 38 #[.func (.yield l) #[] #[], .pointer (some ⟨C, 0, none⟩), .pointer (some ⟨C + 1, 0, none⟩)] W fun e W' =>
      (∃ v, e = .returned v) ∧ ((∃ o, len ≤ o ∧ J o W') ∨ Jx W') := by
  refine callsIn_of_wp Try.func38 rfl trivial ?_ rfl
  simp only [Try.ntmps38, List.size_toArray, List.length_cons, List.length_nil, Nat.reduceAdd, Nat.reduceSub, Array.replicate_succ, Array.replicate_zero, List.push_toArray, List.append_toArray, List.nil_append, List.cons_append]
  have HJ := Lib.hid hJ
  have HX := Lib.hid hbox
  have HD := Lib.hid hdrew
  have HY := Lib.hid hY
  clear hJ hbox hdrew hY
  gi_wp2
  gi_loopg [4] len (fun g s4 wr => ∃ o : Nat, s4 = .int .i64 (o : Int) ∧ o ≤ len + d ∧ g = len - o ∧ Hid (J o wr))
  case atStart => exact ⟨0, rfl, Nat.zero_le _, rfl, HJ⟩
  case round =>
    clear HJ
    obtain ⟨o, rfl, ho, rfl, HJ⟩ := hrel
    obtain ⟨hb1, hb2⟩ := HX.out o wr HJ.out
    have c1 := hb1.cell
    have c2 := hb2.cell
    by_cases hlt : o < len
    · obtain ⟨r, hr⟩ : ∃ r, len - o = r := ⟨_, rfl⟩
      obtain ⟨e, he⟩ : ∃ e, min d r = e := ⟨_, rfl⟩
      have hei : min (d : Int) (r : Int) = (e : Int) := by omega
      have he1 : 1 ≤ e := by omega
      have he2 : e ≤ r := by omega
      have he3 : min d (len - o) = e := by rw [hr]; exact he
      clear hb1 hb2 he
      gi_wp2
      refine wpIn_wide.2 ?_
      go_quiet (fail)
      have hJd := HD.out o wr nq HJ.out
      obtain ⟨hb1, hb2⟩ := HX.out o _ hJd
      have c1 := hb1.cell
      obtain ⟨fn, tmps, assign, body, hy, hR⟩ := HY.out o e (wr.drewN nq) hJd hlt he3
      have HR := Lib.hid hR
      have hoe : o + e - o = e := by omega
      clear hR hb1 hb2 HJ hJd he3
      generalize wr.drewN nq = W1 at *
      gi_wp2
      refine HR.out.mono ?_
      rintro e2 w3 (⟨rfl, hJ3⟩ | ⟨rfl, hJ3⟩)
      · obtain ⟨hb1, hb2⟩ := HX.out _ _ hJ3
        have c2 := hb2.cell
        have HJ3 := Lib.hid hJ3
        clear hb1 hb2 hJ3 hy HR c1
        gi_wp2
        gi_roundg (len - (o + d))
        case measure => omega
        case rel => exact ⟨o + d, by go_num, by omega, rfl, HJ3⟩
      · clear hy HR c1
        gi_wp2
        refine bodyPost_ret (results_none rfl _ _ _) rfl ?_
        exact ⟨⟨_, rfl⟩, .inr hJ3⟩
    · clear hb1 hb2
      gi_wp2
      go_end0
      exact ⟨⟨_, rfl⟩, .inl ⟨o, by omega, HJ.out⟩⟩
end Go.Proofs.Ytlocjhnlemlnmaa.Lx
