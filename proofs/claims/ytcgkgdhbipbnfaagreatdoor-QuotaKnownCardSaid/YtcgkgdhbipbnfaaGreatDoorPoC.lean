/- A policy's parts: told, listed, their numbers; the base. -/
import Derived.Test.YtcgkgdhbipbnfaaGreatDoorPoA
import Derived.Laws.ResultCell
namespace Go.Proofs.YtcgkgdhbipbnfaaGreatDoor.Po
open Go Go.RowKit

theorem row_of {B g : Nat} {l : List Int} {w : World} (hB : B ≤ g) (hh : w.heap[g]? = some (.cells (valsI l).toArray 2)) (hm : l.length ≤ maxLen) : OwnI B (.slice (some ⟨g, 0, none⟩) l.length l.length) l w := by
  refine ⟨by simp [valsI], .inr ⟨g, l.length, (valsI l).toArray, rfl, hB, hh, Nat.le_refl _, hm, ?_, ?_⟩⟩
  · simp [valsI]
  · rw [Nat.mul_one, List.take_of_length_le (by simp [valsI])]
theorem result_cell {P : Program} {fn : Func} {p : Tmp} {ty : TypeId} {a : Addr} {v : Value} {tmps : Array Value} {w : World} (h : fn.results = #[.cell p ty]) (hp : tmps.getD p undef = .pointer (some a)) (hl : (loadVar ty a).run P w = .ok v w) :
    (results fn tmps).run P w = .ok v w := by
  have hp' : tmps[p]?.getD undef = .pointer (some a) := by simpa using hp
  simp [results, h, hp', asAddr, hl]
theorem result_cell2 {P : Program} {fn : Func} {p q : Tmp} {ty : TypeId} {a : Addr} {v : Value} {tmps : Array Value} {w : World} (h : fn.results = #[.cell p ty, .tmp q]) (hp : tmps.getD p undef = .pointer (some a)) (hl : (loadVar ty a).run P w = .ok v w) :
    (results fn tmps).run P w = .ok (.tuple #[v, tmps.getD q undef]) w := by
  have hp' : tmps[p]?.getD undef = .pointer (some a) := by simpa using hp
  simp [results, h, hp', asAddr, hl]
theorem result_cell3 {P : Program} {fn : Func} {p q r : Tmp} {ty : TypeId} {a : Addr} {v : Value} {tmps : Array Value} {w : World} (h : fn.results = #[.cell p ty, .tmp q, .tmp r]) (hp : tmps.getD p undef = .pointer (some a)) (hl : (loadVar ty a).run P w = .ok v w) :
    (results fn tmps).run P w = .ok (.tuple #[v, tmps.getD q undef, tmps.getD r undef]) w := by
  have hp' : tmps[p]?.getD undef = .pointer (some a) := by simpa using hp
  simp [results, h, hp', asAddr, hl]
/-- A policy that lies somewhere, loaded. -/
theorem load_pol {P : Nat} {n : List Int} {v : Value} {w : World} (h : PolAt P n v w) (hn : n.length = 10) : (loadVar 24 ⟨P, 0, none⟩).run Tryz.prog w = .ok (.agg (valsP n v)) w := by
  obtain ⟨a, b, c, d, e, f, g, i, j, k, rfl⟩ := ten_of hn
  have c0 := h.cell 0 _ rfl
  have c1 := h.cell 1 _ rfl
  have c2 := h.cell 2 _ rfl
  have c3 := h.cell 3 _ rfl
  have c4 := h.cell 4 _ rfl
  have c5 := h.cell 5 _ rfl
  have c6 := h.cell 6 _ rfl
  have c7 := h.cell 7 _ rfl
  have c8 := h.cell 8 _ rfl
  have c9 := h.cell 9 _ rfl
  have c10 := h.cell 10 _ rfl
  clear h
  simp [loadVar, go_sem, c0, c1, c2, c3, c4, c5, c6, c7, c8, c9, c10]
  rfl
/-- A policy that lies somewhere, loaded. -/
theorem load_ref {P : Nat} {n : List Int} {v : Value} {w : World} (h : PolAt P n v w) (hn : n.length = 10) : (loadVar 38 ⟨P, 0, none⟩).run Tryz.prog w = .ok (.agg (valsP n v)) w := by
  obtain ⟨a, b, c, d, e, f, g, i, j, k, rfl⟩ := ten_of hn
  have c0 := h.cell 0 _ rfl
  have c1 := h.cell 1 _ rfl
  have c2 := h.cell 2 _ rfl
  have c3 := h.cell 3 _ rfl
  have c4 := h.cell 4 _ rfl
  have c5 := h.cell 5 _ rfl
  have c6 := h.cell 6 _ rfl
  have c7 := h.cell 7 _ rfl
  have c8 := h.cell 8 _ rfl
  have c9 := h.cell 9 _ rfl
  have c10 := h.cell 10 _ rfl
  clear h
  simp [loadVar, go_sem, c0, c1, c2, c3, c4, c5, c6, c7, c8, c9, c10]
  rfl

set_option maxHeartbeats 4000000 in
theorem base_of (w : World) : Calls Tryz.prog 30 #[] w fun e w' => ∃ v, e = .returned (.agg (valsP baseZ.n v)) ∧ OwnI w.heap.size v baseZ.t w' ∧ Below w.heap.size w w' := by
  go_enter Tryz.func30, Tryz.ntmps30
  go_wp2
  refine bodyPost_ret (result_cell rfl rfl (load_pol (n := baseZ.n) (v := .slice (some ⟨w.heap.size + 1, 0, none⟩) 2 2) ((CellsAt.new (valsP baseZ.n (.slice (some ⟨w.heap.size + 1, 0, none⟩) 2 2)) 24 w).past _) rfl)) rfl ?_
  exact ⟨_, rfl, row_of (l := baseZ.t) (by omega) (heap_alloc2_new _ _ _) (by decide), ((Below.refl _ _).alloc (Nat.le_refl _) _).alloc (by simp) _⟩
set_option maxHeartbeats 4000000 in
theorem numbers_cnt (S : ByteArray) (lo hi : Int) (a : Addr) (x : Int) (w : World) (hlt : a.block < w.heap.size) (hc : w.cell? a = some (.int .i64 x)) :
    Calls Tryz.prog 69 #[.agg #[.string S, .int .i64 lo, .int .i64 hi, .pointer (some a), .pointer (none), .pointer (none)]] w fun e w' =>
      e = .returned (.slice (some ⟨w.heap.size + 1, 0, none⟩) 1 1) ∧ w' = (w.alloc (.cells #[.string S, .int .i64 lo, .int .i64 hi, .pointer (some a), .pointer (none), .pointer (none)] 130)).alloc (.cells #[.int .i64 x] 2) := by
  go_enter Tryz.func69, Tryz.ntmps69
  go_wp2
  go_ret
  exact ⟨rfl, rfl⟩
set_option maxHeartbeats 4000000 in
theorem numbers_tim (S : ByteArray) (lo hi : Int) (a : Addr) (x : Int) (w : World) (hlt : a.block < w.heap.size) (hc : w.cell? a = some (.int .i64 x)) :
    Calls Tryz.prog 69 #[.agg #[.string S, .int .i64 lo, .int .i64 hi, .pointer (none), .pointer (some a), .pointer (none)]] w fun e w' =>
      e = .returned (.slice (some ⟨w.heap.size + 1, 0, none⟩) 1 1) ∧ w' = (w.alloc (.cells #[.string S, .int .i64 lo, .int .i64 hi, .pointer (none), .pointer (some a), .pointer (none)] 130)).alloc (.cells #[.int .i64 x] 2) := by
  go_enter Tryz.func69, Tryz.ntmps69
  go_wp2
  go_ret
  exact ⟨rfl, rfl⟩
set_option maxHeartbeats 4000000 in
theorem numbers_tie (S : ByteArray) (lo hi : Int) (a : Addr) (p : Option Addr) (len cap : Nat) (w : World) (hlt : a.block < w.heap.size) (hc : w.cell? a = some (.slice p len cap)) :
    Calls Tryz.prog 69 #[.agg #[.string S, .int .i64 lo, .int .i64 hi, .pointer (none), .pointer (none), .pointer (some a)]] w fun e w' =>
      e = .returned (.slice p len cap) ∧ w' = w.alloc (.cells #[.string S, .int .i64 lo, .int .i64 hi, .pointer (none), .pointer (none), .pointer (some a)] 130) := by
  go_enter Tryz.func69, Tryz.ntmps69
  go_wp2
  go_ret
  exact ⟨rfl, rfl⟩
/-- The numbers of a part. -/
theorem numbers_any (P k : Nat) (hk : k < 11) (n t : List Int) (v : Value) (w : World) (S : Nat → Prop) (hn : n.length = 10) (hin : ∀ x ∈ n, In64 x) (hP : PolAt P n v w) (hT : Tr S v t w) (hS : ∀ g, S g → g < w.heap.size) :
    Calls Tryz.prog 69 #[fieldV P k] w fun e w' => ∃ u, e = .returned u ∧ Tr S u (numsN n t k) w' ∧ Below w.heap.size w w' := by
  have hx : In64 (n.getD k 0) := by
    rw [List.getD_eq_getElem?_getD]
    by_cases h : k < n.length
    · rw [List.getElem?_eq_getElem h]
      exact hin _ (List.getElem_mem h)
    · rw [List.getElem?_eq_none (by omega)]
      simp [In64]
  by_cases h7 : k < 7
  · have hf : fieldV P k = .agg #[.string (tx (tellN k)), .int .i64 (loN k), .int .i64 (hiN k), .pointer (some ⟨P, k, none⟩), .pointer none, .pointer none] := by
      unfold fieldV cntP timP tieP
      rw [if_pos h7, if_neg (by omega), if_neg (by omega)]
    rw [hf]
    refine (numbers_cnt (tx (tellN k)) (loN k) (hiN k) ⟨P, k, none⟩ (n.getD k 0) w hP.lt (hP.cell k _ (valsP_at n v k (by omega)))).mono ?_
    rintro e w' ⟨rfl, rfl⟩
    refine ⟨_, rfl, ?_, ((Below.refl _ _).alloc (Nat.le_refl _) _).alloc (by simp) _⟩
    unfold numsN
    rw [if_neg (by omega)]
    have := Tr.one (S := S) (w := w.alloc (.cells #[.string (tx (tellN k)), .int .i64 (loN k), .int .i64 (hiN k), .pointer (some ⟨P, k, none⟩), .pointer none, .pointer none] 130)) (n.getD k 0) hx (by intro h; have := hS _ h; simp at this; omega)
    simpa using this
  by_cases h10 : k < 10
  · have hf : fieldV P k = .agg #[.string (tx (tellN k)), .int .i64 (loN k), .int .i64 (hiN k), .pointer none, .pointer (some ⟨P, k, none⟩), .pointer none] := by
      unfold fieldV cntP timP tieP
      rw [if_neg h7, if_pos ⟨by omega, h10⟩, if_neg (by omega)]
    rw [hf]
    refine (numbers_tim (tx (tellN k)) (loN k) (hiN k) ⟨P, k, none⟩ (n.getD k 0) w hP.lt (hP.cell k _ (valsP_at n v k (by omega)))).mono ?_
    rintro e w' ⟨rfl, rfl⟩
    refine ⟨_, rfl, ?_, ((Below.refl _ _).alloc (Nat.le_refl _) _).alloc (by simp) _⟩
    unfold numsN
    rw [if_neg (by omega)]
    have := Tr.one (S := S) (w := w.alloc (.cells #[.string (tx (tellN k)), .int .i64 (loN k), .int .i64 (hiN k), .pointer none, .pointer (some ⟨P, k, none⟩), .pointer none] 130)) (n.getD k 0) hx (by intro h; have := hS _ h; simp at this; omega)
    simpa using this
  obtain rfl : k = 10 := by omega
  have hf : fieldV P 10 = .agg #[.string (tx (tellN 10)), .int .i64 (loN 10), .int .i64 (hiN 10), .pointer none, .pointer none, .pointer (some ⟨P, 10, none⟩)] := rfl
  rw [hf]
  obtain ⟨p, cap, rfl⟩ := hT.len
  refine (numbers_tie (tx (tellN 10)) (loN 10) (hiN 10) ⟨P, 10, none⟩ p t.length cap w hP.lt (hP.cell 10 _ (valsP_last n _ hn))).mono ?_
  rintro e w' ⟨rfl, rfl⟩
  have hB : Below w.heap.size w (w.alloc (.cells #[.string (tx (tellN 10)), .int .i64 (loN 10), .int .i64 (hiN 10), .pointer none, .pointer none, .pointer (some ⟨P, 10, none⟩)] 130)) := (Below.refl _ _).alloc (Nat.le_refl _) _
  exact ⟨_, rfl, hT.below hB, hB⟩

end Go.Proofs.YtcgkgdhbipbnfaaGreatDoor.Po

