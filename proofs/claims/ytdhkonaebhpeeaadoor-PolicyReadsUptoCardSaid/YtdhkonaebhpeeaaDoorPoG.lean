/- A part's numbers are set. -/
import Derived.Test.YtdhkonaebhpeeaaDoorPoF
namespace Go.Proofs.YtdhkonaebhpeeaaDoor.Po
open Go Go.RowKit

set_option maxHeartbeats 4000000 in
theorem set_cnt (S : ByteArray) (lo hi : Int) (P k : Nat) (x y : Int) (C off c : Nat) (w : World) (hlt : P < w.heap.size) (hc : w.cell? ⟨P, k, none⟩ = some (.int .i64 x)) (hf : w.frozen? ⟨P, k, none⟩ = false) (hC : C < w.heap.size) (hcell : w.cell? ⟨C, off, none⟩ = some (.int .i64 y)) :
    Calls Tryd.prog 46 #[.agg #[.string S, .int .i64 lo, .int .i64 hi, .pointer (some ⟨P, k, none⟩), .pointer (none), .pointer (none)], .slice (some ⟨C, off, none⟩) 1 c] w fun e w' =>
      e = .returned (.bool true) ∧ Below w.heap.size (w.setCell ⟨P, k, none⟩ (.int .i64 y)) w' := by
  have hB : Below w.heap.size (w.setCell ⟨P, k, none⟩ (.int .i64 y)) ((w.setCell ⟨P, k, none⟩ (.int .i64 y)).alloc (.cells #[.string S, .int .i64 lo, .int .i64 hi, .pointer (some ⟨P, k, none⟩), .pointer (none), .pointer (none)] 70)) := (Below.refl _ _).alloc (by simp) _
  go_enter Tryd.func46, Tryd.ntmps46
  go_wp2
  go_region
  all_goals (go_wp2; go_ret; exact ⟨rfl, hB.drew⟩)

set_option maxHeartbeats 4000000 in
theorem set_tim (S : ByteArray) (lo hi : Int) (P k : Nat) (x y : Int) (C off c : Nat) (w : World) (hlt : P < w.heap.size) (hc : w.cell? ⟨P, k, none⟩ = some (.int .i64 x)) (hf : w.frozen? ⟨P, k, none⟩ = false) (hC : C < w.heap.size) (hcell : w.cell? ⟨C, off, none⟩ = some (.int .i64 y)) :
    Calls Tryd.prog 46 #[.agg #[.string S, .int .i64 lo, .int .i64 hi, .pointer (none), .pointer (some ⟨P, k, none⟩), .pointer (none)], .slice (some ⟨C, off, none⟩) 1 c] w fun e w' =>
      e = .returned (.bool true) ∧ Below w.heap.size (w.setCell ⟨P, k, none⟩ (.int .i64 y)) w' := by
  have hB : Below w.heap.size (w.setCell ⟨P, k, none⟩ (.int .i64 y)) ((w.setCell ⟨P, k, none⟩ (.int .i64 y)).alloc (.cells #[.string S, .int .i64 lo, .int .i64 hi, .pointer (none), .pointer (some ⟨P, k, none⟩), .pointer (none)] 70)) := (Below.refl _ _).alloc (by simp) _
  go_enter Tryd.func46, Tryd.ntmps46
  go_wp2
  go_region
  all_goals (go_wp2; go_ret; exact ⟨rfl, hB.drew⟩)

set_option maxHeartbeats 4000000 in
theorem set_tie (S : ByteArray) (lo hi : Int) (P k : Nat) (p0 p : Option Addr) (l0 c0 len c : Nat) (w : World) (hlt : P < w.heap.size) (hc : w.cell? ⟨P, k, none⟩ = some (.slice p0 l0 c0)) (hf : w.frozen? ⟨P, k, none⟩ = false) :
    Calls Tryd.prog 46 #[.agg #[.string S, .int .i64 lo, .int .i64 hi, .pointer (none), .pointer (none), .pointer (some ⟨P, k, none⟩)], .slice p len c] w fun e w' =>
      e = .returned (.bool true) ∧ Below w.heap.size (w.setCell ⟨P, k, none⟩ (.slice p len c)) w' := by
  have hB : Below w.heap.size (w.setCell ⟨P, k, none⟩ (.slice p len c)) ((w.setCell ⟨P, k, none⟩ (.slice p len c)).alloc (.cells #[.string S, .int .i64 lo, .int .i64 hi, .pointer (none), .pointer (none), .pointer (some ⟨P, k, none⟩)] 70)) := (Below.refl _ _).alloc (by simp) _
  go_enter Tryd.func46, Tryd.ntmps46
  go_wp2
  go_ret
  exact ⟨rfl, hB⟩

set_option maxHeartbeats 4000000 in
theorem set_cnt_no (S : ByteArray) (lo hi : Int) (a : Addr) (p : Option Addr) (len c : Nat) (w : World) (hl : len ≠ 1) :
    Calls Tryd.prog 46 #[.agg #[.string S, .int .i64 lo, .int .i64 hi, .pointer (some a), .pointer (none), .pointer (none)], .slice p len c] w fun e w' =>
      e = .returned (.bool false) ∧ Below w.heap.size w w' := by
  have hB : Below w.heap.size w (w.alloc (.cells #[.string S, .int .i64 lo, .int .i64 hi, .pointer (some a), .pointer (none), .pointer (none)] 70)) := (Below.refl _ _).alloc (Nat.le_refl _) _
  have h1 : ((len : Int) != 1) = true := by simp; omega
  clear hl
  go_enter Tryd.func46, Tryd.ntmps46
  go_wp2
  go_ret
  exact ⟨rfl, hB⟩

set_option maxHeartbeats 4000000 in
theorem set_tim_no (S : ByteArray) (lo hi : Int) (a : Addr) (p : Option Addr) (len c : Nat) (w : World) (hl : len ≠ 1) :
    Calls Tryd.prog 46 #[.agg #[.string S, .int .i64 lo, .int .i64 hi, .pointer (none), .pointer (some a), .pointer (none)], .slice p len c] w fun e w' =>
      e = .returned (.bool false) ∧ Below w.heap.size w w' := by
  have hB : Below w.heap.size w (w.alloc (.cells #[.string S, .int .i64 lo, .int .i64 hi, .pointer (none), .pointer (some a), .pointer (none)] 70)) := (Below.refl _ _).alloc (Nat.le_refl _) _
  have h1 : ((len : Int) != 1) = true := by simp; omega
  clear hl
  go_enter Tryd.func46, Tryd.ntmps46
  go_wp2
  go_ret
  exact ⟨rfl, hB⟩

theorem field_cnt {P k : Nat} (h : k < 7) : fieldV P k = .agg #[.string (tx (tellN k)), .int .i64 (loN k), .int .i64 (hiN k), .pointer (some ⟨P, k, none⟩), .pointer none, .pointer none] := by
  unfold fieldV cntP timP tieP
  rw [if_pos h, if_neg (by omega), if_neg (by omega)]
theorem field_tim {P k : Nat} (h : 7 ≤ k) (h2 : k < 10) : fieldV P k = .agg #[.string (tx (tellN k)), .int .i64 (loN k), .int .i64 (hiN k), .pointer none, .pointer (some ⟨P, k, none⟩), .pointer none] := by
  unfold fieldV cntP timP tieP
  rw [if_neg (by omega), if_pos ⟨h, h2⟩, if_neg (by omega)]
theorem setN_len (n : List Int) (k : Nat) (ns : List Int) : (setN n k ns).length = n.length := by
  unfold setN
  split <;> simp
/-- What is so behind a part's numbers being set. -/
def SetEnd (S : Nat → Prop) (P k : Nat) (n t : List Int) (_v : Value) (ns : List Int) (w : World) (e : Ending) (w' : World) : Prop :=
  if k = 10 ∨ ns.length = 1 then e = .returned (.bool true) ∧ Mov (fun j => j = P) w w' ∧ ∃ v', PolAt P (setN n k ns) v' w' ∧ Tr S v' (setT t k ns) w'
  else e = .returned (.bool false) ∧ Below w.heap.size w w'
theorem set_any (S : Nat → Prop) (P k : Nat) (hSP : S P) (hk : k < 11) (n t : List Int) (v : Value) (u : Value) (ns : List Int) (w : World) (hn : n.length = 10) (hP : PolAt P n v w) (hT : Tr S v t w) (hU : Tr S u ns w) :
    Calls Tryd.prog 46 #[fieldV P k, u] w (SetEnd S P k n t v ns w) := by
  have hPl := hP.lt
  have movS : ∀ W x, Below w.heap.size (w.setCell ⟨P, k, none⟩ x) W → Mov (fun j => j = P) w W := fun W x h => ((Mov.refl (fun j => j = P) w).set rfl k x).trans (Mov.ofB (S := fun j => j = P) (by simpa using h)) (fun _ _ h => h)
  obtain ⟨p, c, rfl⟩ := hU.len
  by_cases h10 : k = 10
  · subst h10
    obtain ⟨p0, c0, rfl⟩ := hT.len
    refine (set_tie (tx (tellN 10)) (loN 10) (hiN 10) P 10 p0 p t.length c0 ns.length c w hPl (hP.cell 10 _ (valsP_last n _ hn)) (hP.fro 10 _ (valsP_last n _ hn))).mono ?_
    rintro e w' ⟨rfl, hB⟩
    unfold SetEnd
    rw [if_pos (.inl rfl)]
    refine ⟨rfl, movS _ _ hB, .slice p ns.length c, ?_, ?_⟩
    · have h2 := (CellsAt.set hP 10 (.slice p ns.length c) (by rw [valsP_size, hn]; omega)).belowAt hB hPl
      rw [valsP_setT n _ _ hn] at h2
      exact h2
    · exact hU.mov (movS _ _ hB) (fun j h _ => by rw [h]; exact hSP)
  by_cases h1 : ns.length = 1
  · obtain ⟨y, rfl⟩ : ∃ y, ns = [y] := by
      match ns, h1 with
      | [y], _ => exact ⟨y, rfl⟩
    obtain ⟨_, _, _, _, hat⟩ := hU.at
    obtain ⟨C, off, rfl, hC, hcell⟩ := hat 0 (by simp)
    have hend : ∀ e w', (e = .returned (.bool true) ∧ Below w.heap.size (w.setCell ⟨P, k, none⟩ (.int .i64 y)) w') → SetEnd S P k n t v [y] w e w' := by
      rintro e w' ⟨rfl, hB⟩
      unfold SetEnd
      rw [if_pos (.inr rfl)]
      refine ⟨rfl, movS _ _ hB, v, ?_, ?_⟩
      · have h2 := (CellsAt.set hP k (.int .i64 y) (by rw [valsP_size, hn]; omega)).belowAt hB hPl
        rw [valsP_set n _ _ _ (by omega)] at h2
        unfold setN
        rw [if_neg h10]
        exact h2
      · unfold setT
        rw [if_neg h10]
        exact hT.mov (movS _ _ hB) (fun j h _ => by rw [h]; exact hSP)
    by_cases h7 : k < 7
    · rw [field_cnt h7]
      exact (set_cnt (tx (tellN k)) (loN k) (hiN k) P k _ y C off c w hPl (hP.cell k _ (valsP_at n v k (by omega))) (hP.fro k _ (valsP_at n v k (by omega))) hC hcell).mono fun e w' h => hend e w' h
    · rw [field_tim (by omega) (by omega)]
      exact (set_tim (tx (tellN k)) (loN k) (hiN k) P k _ y C off c w hPl (hP.cell k _ (valsP_at n v k (by omega))) (hP.fro k _ (valsP_at n v k (by omega))) hC hcell).mono fun e w' h => hend e w' h
  · have hend : ∀ e w', (e = .returned (.bool false) ∧ Below w.heap.size w w') → SetEnd S P k n t v ns w e w' := by
      intro e w' h
      unfold SetEnd
      rw [if_neg (by omega)]
      exact h
    by_cases h7 : k < 7
    · rw [field_cnt h7]
      exact (set_cnt_no (tx (tellN k)) (loN k) (hiN k) ⟨P, k, none⟩ p ns.length c w h1).mono fun e w' h => hend e w' h
    · rw [field_tim (by omega) (by omega)]
      exact (set_tim_no (tx (tellN k)) (loN k) (hiN k) ⟨P, k, none⟩ p ns.length c w h1).mono fun e w' h => hend e w' h
end Go.Proofs.YtdhkonaebhpeeaaDoor.Po

