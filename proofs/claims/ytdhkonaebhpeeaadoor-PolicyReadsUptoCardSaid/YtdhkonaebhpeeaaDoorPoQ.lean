/- A text cut at a byte: strings.SplitSeq, and the loop over what it hands back, which may be left by a return. -/
import Derived.RangeFuncNested
import Derived.RangeFuncBound
import Derived.RangeFuncCalls
import Derived.RangeFuncLeaves
import Derived.RangeFuncBox
import Derived.Shelf.Abstract
import Derived.Shelf.RegionOpen
import Derived.WalkKit
import Derived.OwnWalkIn
import Derived.TacticsInMore
import Derived.LoopNIn
import Derived.LoopIn
import Derived.Sort.LoopGhostIn
import Derived.OrdersIn
import Derived.Maps.AppendAt
import Derived.Lib.IndexLaws
import Derived.Test.YtdhkonaebhpeeaaDoorShelf
import Derived.Test.YtdhkonaebhpeeaaDoorPoB
namespace Go.Proofs.YtdhkonaebhpeeaaDoor.Po
open Go Go.RowKit

/-! The loop's record, a round, the statement. -/
section
variable {P : Program} {n : Nat}
def recL (fn : FuncId) (tmps : Array Value) (ps : Array Tmp) (assign body : Code) (d : Nat) (st : LoopState) (jump : Option Code) : Obj :=
  .loop { state := st, pending := jump, fn := fn, tmps := tmps, params := ps, assign := assign, body := body, defers := d }
/-- One round: it goes on, or it returns. -/
theorem round_ret {fn : FuncId} {tmps : Array Value} {ps : Array Tmp} {assign body : Code} {d l : Nat} {rec : LoopState → Option Code → Obj} (hrec : rec = recL fn tmps ps assign body d) {W : World} {args : Array Value} {a₁ : Act} {R Rx : World → Prop}
    (hl : W.heap[l]? = some (rec .ready none)) (hs : args.size = ps.size)
    (hassign : ∀ K : Act → World → Prop, K a₁ W → assign.wpIn (Fence.wide.inRound l) n P (Exit.then K (fun _ _ _ => False)) { tmps := (ps.zip args).foldl (fun t (p, v) => t.setIfInBounds p v) tmps, defers := [] } W)
    (hbody : body.wpIn (Fence.wide.inRound l) n P (fun e _ W3 => W3.heap[l]? = some (rec .busy none) ∧ ((e = .normal ∧ R (W3.putObj l (rec .ready none))) ∨ (e = .ret ∧ Rx (W3.putObj l (rec .done (some .ret)))))) a₁ (W.putObj l (rec .busy none))) :
    YieldAt Fence.wide n P l args W fun e W' => (e = .returned (.bool true) ∧ R W') ∨ (e = .returned (.bool false) ∧ Rx W') := by
  subst hrec
  refine ⟨fn, _, assign, body, run_yield hl hs, roundIn_of_wpIn trivial (hassign _ ⟨_, run_beginRound hl rfl, wpIn_mono hbody ?_⟩)⟩
  rintro e a3 W3 ⟨h3, ⟨rfl, hR⟩ | ⟨rfl, hR⟩⟩
  · exact ⟨_, _, run_endRound none h3, .inl ⟨rfl, hR⟩⟩
  · exact ⟨_, _, run_endRound (some .ret) h3, .inr ⟨rfl, hR⟩⟩
/-- The statement: all rounds gone through, or left by a return. -/
theorem range_ret {g : Operand} {ps : Array Tmp} {assign body : Code} {Q : Exit → Act → World → Prop} {a : Act} {w : World} {gf : Nat} {lb : Array Value} (D : Nat) (hD : w.heap.size = D)
    (hg : a.eval g = .func (.func gf) #[] lb) (eg : ∀ args w, (callFunc gf args).run P w = .ok (.enter gf args) w)
    (h : ∀ (fn : FuncId) (rec : LoopState → Option Code → Obj) (W1 : World), rec = recL fn a.tmps ps assign body D → (w.alloc (.deferred (some []))).alloc (rec .ready none) = W1 →
      CallsIn Fence.wide n P gf (#[.func (.yield (D + 1)) #[] #[]] ++ lb) W1
        fun e W' => (∃ v, e = .returned v) ∧ ((W'.heap[D + 1]? = some (rec .ready none) ∧
          Q .normal { a with defers := { target := .collected D, args := #[] } :: a.defers } (W'.putObj (D + 1) (rec .exhausted none))) ∨ (W'.heap[D + 1]? = some (rec .done (some .ret)) ∧
          Q .ret { a with defers := { target := .collected D, args := #[] } :: a.defers } (W'.putObj (D + 1) (rec .exhausted (some .ret)))))) :
    (Code.rangeFunc g ps assign body).wpIn Fence.wide (n + 1) P Q a w := by
  subst hD
  refine wpIn_rangeFunc fun fn _ => ?_
  obtain ⟨W1, hW1⟩ : ∃ W1, (w.alloc (.deferred (some []))).alloc (recL fn a.tmps ps assign body w.heap.size .ready none) = W1 := ⟨_, rfl⟩
  have h1 := h fn _ W1 rfl hW1
  refine ⟨w.heap.size + 1, [{ target := .collected w.heap.size, args := #[] }], W1, { target := .fn (.func gf) lb, args := #[.func (.yield (w.heap.size + 1)) #[] #[]] }, W1, gf,
    #[.func (.yield (w.heap.size + 1)) #[] #[]] ++ lb, W1, ?_, ?_, fun _ _ => trivial, ?_, fun _ => Nat.succ_le_succ (Nat.zero_le _), ?_⟩
  · rw [← hW1]; exact run_enterLoop_outer _ _ _ _ _
  · simp only [resolve, hg]
    simp [go_sem]
  · simp [invoke, go_sem, eg]
  · refine h1.mono ?_
    rintro e W' ⟨⟨v, rfl⟩, ⟨hl, hQ⟩ | ⟨hl, hQ⟩⟩
    · exact ⟨none, _, run_endLoop hl (by simp), hQ⟩
    · exact ⟨some .ret, _, run_endLoop hl (by simp), wpIn_ret hQ⟩
end
theorem splitseq_ok (s t : ByteArray) (w : World) : Calls Tryd.prog 56 #[.string s, .string t, .int .i64 0] w fun e w' =>
    e = .returned (.func (.func 64) #[] #[.pointer (some ⟨w.heap.size + 1, 0, none⟩), .pointer (some ⟨w.heap.size, 0, none⟩), .pointer (some ⟨w.heap.size + 2, 0, none⟩)]) ∧
    w' = ((w.alloc (.cells #[.string s] 9)).alloc (.cells #[.string t] 9)).alloc (.cells #[.int .i64 0] 3) := by
  go_enter Tryd.func56, Tryd.ntmps56
  go_wp2
  go_ret
  exact ⟨rfl, rfl⟩
theorem seq_ok (s t : ByteArray) (w : World) : Calls Tryd.prog 49 #[.string s, .string t] w fun e w' =>
    e = .returned (.func (.func 64) #[] #[.pointer (some ⟨w.heap.size + 1, 0, none⟩), .pointer (some ⟨w.heap.size, 0, none⟩), .pointer (some ⟨w.heap.size + 2, 0, none⟩)]) ∧
    w' = ((w.alloc (.cells #[.string s] 9)).alloc (.cells #[.string t] 9)).alloc (.cells #[.int .i64 0] 3) := by
  go_enter Tryd.func49, Tryd.ntmps49
  go_wp2_with fail
  refine (splitseq_ok s t w).mono ?_
  rintro e w' ⟨rfl, rfl⟩
  go_wp2
  go_ret
  exact ⟨rfl, rfl⟩


/-! A text cut at a byte, by where the byte stands. -/
theorem cutB_none {b : UInt8} {l : List UInt8} (h : Lib.indexByte l b = -1) : cutB b l = [l] := cutB_plain fun hm => by
  obtain ⟨k, hk⟩ := List.mem_iff_getElem?.1 hm
  exact Lib.indexByte_none h k hk
theorem cutB_some {b : UInt8} {l : List UInt8} {o : Nat} (h : Lib.indexByte l b = (o : Int)) : o < l.length ∧ cutB b l = l.take o :: cutB b (l.drop (o + 1)) := by
  obtain ⟨h1, h2⟩ := Lib.indexByte_some h
  obtain ⟨ho, h3⟩ := List.getElem?_eq_some_iff.1 h1
  refine ⟨ho, ?_⟩
  have e : l = l.take o ++ b :: l.drop (o + 1) := by
    rw [← h3, ← List.drop_eq_getElem_cons ho, List.take_append_drop]
  have hn : b ∉ l.take o := fun hm => by
    obtain ⟨k, hk⟩ := List.mem_iff_getElem?.1 hm
    rw [List.getElem?_take] at hk
    split at hk
    · exact h2 k (by assumption) hk
    · cases hk
  conv => lhs; rw [e]
  exact cutB_app _ hn
theorem ext_from (s : ByteArray) (k : Nat) : s.extract k s.size = tx (s.data.toList.drop k) := Lib.extract_from s k
theorem ext_upto (s : ByteArray) (k : Nat) : s.extract 0 k = tx (s.data.toList.take k) := Lib.extract_upto s k

/-- What the function has captured. -/
structure Cap (b : UInt8) (B : Nat) (r : ByteArray) (W : World) : Prop where
  s : Boxed W B 9 (.string r)
  sep : Boxed W (B + 1) 9 (.string ⟨#[b]⟩)
  save : Boxed W (B + 2) 3 (.int .i64 0)
theorem Boxed.past {W : World} {B : Nat} {t : TypeId} {v : Value} (h : Boxed W B t v) (a : Addr) (u : Value) (ha : a.block ≠ B) : Boxed (W.setCell a u) B t v :=
  (Below.heap_setCell W a u B (fun e => ha e.symm)).trans h
theorem Cap.set {b : UInt8} {B : Nat} {r : ByteArray} {W : World} (h : Cap b B r W) (r' : ByteArray) : Cap b B r' (W.setCell ⟨B, 0, none⟩ (.string r')) :=
  ⟨h.s.set _, Boxed.past h.sep _ _ (by simp), Boxed.past h.save _ _ (by simp)⟩
theorem Boxed.other {W : World} {B : Nat} {t : TypeId} {v : Value} (h : Boxed W B t v) {l : Nat} (o : Obj) (hl : B ≠ l) : Boxed (W.putObj l o) B t v := (World.putObj_heap_other hl).trans h
theorem Cap.other {b : UInt8} {B : Nat} {r : ByteArray} {W : World} (h : Cap b B r W) {l : Nat} (o : Obj) (hl : B + 2 < l) : Cap b B r (W.putObj l o) :=
  ⟨Boxed.other h.s o (by omega), Boxed.other h.sep o (by omega), Boxed.other h.save o (by omega)⟩
theorem Cap.mov {b : UInt8} {B : Nat} {r : ByteArray} {W W' : World} {S : Nat → Prop} (h : Cap b B r W) (hM : Mov S W W') (hS : ∀ j, B ≤ j → j ≤ B + 2 → ¬ S j) : Cap b B r W' := by
  have hlt : ∀ {k : Nat} {o : Obj}, W.heap[k]? = some o → k < W.heap.size := fun hk => (Array.getElem?_eq_some_iff.1 hk).1
  exact ⟨(hM.block _ (hlt h.s) (hS _ (by omega) (by omega))).trans h.s, (hM.block _ (hlt h.sep) (hS _ (by omega) (by omega))).trans h.sep, (hM.block _ (hlt h.save) (hS _ (by omega) (by omega))).trans h.save⟩

section
attribute [local go_sem] Oper.semAt_some
set_option maxRecDepth 100000 in
set_option maxHeartbeats 4000000 in
/-- **The function that strings.SplitSeq hands back**: whatever each round keeps, until one leaves. -/
theorem split_in (b : UInt8) (n l B : Nat) (J : List (List UInt8) → World → Prop) (Jx : World → Prop) (s : ByteArray) (hs : s.size ≤ 4611686018427387904)
    (hset : ∀ pre W v, J pre W → J pre (W.setCell ⟨B, 0, none⟩ v))
    (hY : ∀ pre (x r : ByteArray) rest W, cutB b s.data.toList = pre ++ x.data.toList :: rest → x.size ≤ s.size → J pre W → Cap b B r W → YieldAt Fence.wide n Tryd.prog l #[.string x] W fun e W' => (e = .returned (.bool true) ∧ J (pre ++ [x.data.toList]) W' ∧ Cap b B r W') ∨ (e = .returned (.bool false) ∧ Jx W'))
    (W : World) (hJ : J [] W) (hC : Cap b B s W) :
    CallsIn Fence.wide (n + 1) Tryd.prog 64 #[.func (.yield l) #[] #[], .pointer (some ⟨B + 1, 0, none⟩), .pointer (some ⟨B, 0, none⟩), .pointer (some ⟨B + 2, 0, none⟩)] W fun e W' =>
      (∃ v, e = .returned v) ∧ (J (cutB b s.data.toList) W' ∨ Jx W') := by
  refine callsIn_of_wp Tryd.func64 rfl trivial ?_ rfl
  simp only [Tryd.ntmps64, List.size_toArray, List.length_cons, List.length_nil, Nat.reduceAdd, Nat.reduceSub, Array.replicate_succ, Array.replicate_zero, List.push_toArray, List.append_toArray, List.nil_append, List.cons_append]
  have h1 := hC.sep.cell
  have hsz1 : (⟨#[b]⟩ : ByteArray).size = 1 := rfl
  have HC := Lib.hid hC
  have HJ := Lib.hid hJ
  clear hC hJ
  gi_wp2
  clear h1
  gi_loopg [7] s.size (fun g s7 wr => ∃ (pre : List (List UInt8)) (r : ByteArray), g + pre.length = s.size ∧ pre.length + r.size ≤ s.size ∧ Hid (cutB b s.data.toList = pre ++ cutB b r.data.toList) ∧ Hid (J pre wr) ∧ Hid (Cap b B r wr))
  case atStart => exact ⟨[], s, by simp, by simp, Lib.hid rfl, HJ, HC⟩
  case round =>
    clear HC HJ
    obtain ⟨pre, r, hg, hp, HS, HJ, HC⟩ := hrel
    have c0 := HC.out.s.cell
    have c1 := HC.out.sep.cell
    have c2 := HC.out.save.cell
    have f0 := HC.out.s.frozen
    have hix := fun w => Tryd.strings_Index_one r b w
    by_cases hneg : Lib.indexByte r.data.toList b = -1
    · rw [hneg] at hix
      have hb := cutB_none hneg
      have hcs : cutB b s.data.toList = pre ++ r.data.toList :: [] := by rw [HS.out, hb]
      obtain ⟨fn, tmps, assign, body, hy, hR⟩ := hY pre r r [] wr hcs (by omega) HJ.out HC.out
      have HE := Lib.hid hcs
      clear hneg hb hY hset HS HJ HC hcs
      gi_wp2
      refine ⟨trivial, (callsIn_wide.2 (hix _)).mono ?_⟩
      rintro e w2 ⟨rfl, rfl⟩
      gi_wp2
      refine hR.mono ?_
      rintro e w3 (⟨rfl, hJ3, hC3⟩ | ⟨rfl, hJ3⟩)
      · gi_wp2
        go_end0
        exact ⟨⟨_, rfl⟩, .inl (by rw [HE.out]; exact hJ3)⟩
      · gi_wp2
        go_end0
        exact ⟨⟨_, rfl⟩, .inr hJ3⟩
    · obtain ⟨o, ho⟩ : ∃ o : Nat, Lib.indexByte r.data.toList b = (o : Int) := by
        have := Lib.indexByte_ge r.data.toList b
        exact ⟨(Lib.indexByte r.data.toList b).toNat, by omega⟩
      rw [ho] at hix
      obtain ⟨hol, hb⟩ := cutB_some ho
      rw [size_list] at hol
      clear hneg ho
      have hpe : (r.extract 0 o).data.toList = r.data.toList.take o := by rw [ext_upto, list_tx]
      have hcs : cutB b s.data.toList = pre ++ (r.extract 0 o).data.toList :: cutB b (r.data.toList.drop (o + 1)) := by rw [HS.out, hb, hpe]
      obtain ⟨fn, tmps, assign, body, hy, hR⟩ := hY pre (r.extract 0 o) r _ wr hcs (by rw [ByteArray.size_extract]; omega) HJ.out HC.out
      have HB := Lib.hid hcs
      have HY := Lib.hid hY
      have HT := Lib.hid hset
      clear hb hY hset HJ HC hcs hpe
      gi_wp2
      refine ⟨trivial, (callsIn_wide.2 (hix _)).mono ?_⟩
      rintro e w2 ⟨rfl, rfl⟩
      gi_wp2
      refine hR.mono ?_
      rintro e w3 (⟨rfl, hJ3, hC3⟩ | ⟨rfl, hJ3⟩)
      · have d0 := hC3.s.cell
        have d1 := hC3.sep.cell
        have d2 := hC3.save.cell
        have g0 := hC3.s.frozen
        have HJ3 := Lib.hid hJ3
        have HC3 := Lib.hid hC3
        clear hJ3 hC3 hR hy
        gi_wp2
        gi_roundg (s.size - (pre.length + 1))
        case measure => omega
        case rel =>
          refine ⟨pre ++ [(r.extract 0 o).data.toList], r.extract (o + 1) r.size, ?_, ?_, ?_, ?_, ?_⟩
          · rw [List.length_append, List.length_singleton]; omega
          · rw [List.length_append, List.length_singleton, ByteArray.size_extract]; omega
          · refine Lib.hid ?_
            rw [HB.out, ext_from, list_tx]
            simp
          · exact Lib.hid (HT.out _ _ _ HJ3.out)
          · exact Lib.hid (HC3.out.set _)
      · clear hR hy
        gi_wp2
        refine bodyPost_ret (results_none rfl _ _ _) rfl ?_
        exact ⟨⟨_, rfl⟩, .inr hJ3⟩
end
end Go.Proofs.YtdhkonaebhpeeaaDoor.Po

