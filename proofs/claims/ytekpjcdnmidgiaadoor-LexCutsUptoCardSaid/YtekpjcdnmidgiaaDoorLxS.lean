/- A text split at its newlines: strings.SplitSeq, and the function that it hands back. -/
import Derived.RangeFuncNested
import Derived.RangeFuncBound
import Derived.RangeFuncCalls
import Derived.RangeFuncLeaves
import Derived.RangeFuncBox
import Derived.Shelf.Abstract
import Derived.Shelf.RegionOpen
import Derived.WalkKit
import Derived.OwnWalkIn
import Derived.TacticsInMore
import Derived.LoopNIn
import Derived.LoopIn
import Derived.Sort.LoopGhostIn
import Derived.Maps.AppendAt
import Derived.Lib.IndexLaws
import Derived.Test.YtekpjcdnmidgiaaDoorLxC
namespace Go.Proofs.YtekpjcdnmidgiaaDoor
open Go Go.RowKit
attribute [local go_sem] Oper.semAt_some

/-- The pieces between newlines. -/
def splitL (l : List UInt8) : List (List UInt8) :=
  (brk l).1 :: (match _h : (brk l).2 with
    | none => []
    | some r => splitL r)
termination_by l.length
decreasing_by exact brk_len l r (by assumption)
theorem split_none {l : List UInt8} {a : List UInt8} (h : brk l = (a, none)) : splitL l = [a] := by
  rw [splitL]
  split
  · rw [h]
  · rename_i r h1; rw [h] at h1; cases h1
theorem split_some {l : List UInt8} {a r : List UInt8} (h : brk l = (a, some r)) : splitL l = a :: splitL r := by
  rw [splitL]
  split
  · rename_i h1; rw [h] at h1; cases h1
  · rename_i r' h1; rw [h] at h1; cases h1; rw [h]
theorem lines_none {l : List UInt8} {a : List UInt8} (h : brk l = (a, none)) : linesL l = oneL a := by
  rw [linesL]
  split
  · rw [h]; simp
  · rename_i r h1; rw [h] at h1; cases h1
theorem lines_some {l : List UInt8} {a r : List UInt8} (h : brk l = (a, some r)) : linesL l = oneL a ++ linesL r := by
  rw [linesL]
  split
  · rename_i h1; rw [h] at h1; cases h1
  · rename_i r' h1; rw [h] at h1; cases h1; rw [h]
theorem lines_split : ∀ (n : Nat) (l : List UInt8), l.length ≤ n → linesL l = (splitL l).flatMap oneL
  | n, l, hn => by
    rcases hb : brk l with ⟨a, o⟩
    cases o with
    | none => rw [lines_none hb, split_none hb]; simp
    | some r =>
      have hr := brk_len l r (by rw [hb])
      match n, hn with
      | 0, hn => omega
      | n + 1, hn => rw [lines_some hb, split_some hb, lines_split n r (by omega)]; simp
theorem brk_of_none {l : List UInt8} (h : Lib.indexByte l 10 = -1) : brk l = (l, none) :=
  brk_end l fun hm => by
    obtain ⟨k, hk⟩ := List.mem_iff_getElem?.1 hm
    exact Lib.indexByte_none h k hk
theorem brk_of_some {l : List UInt8} {o : Nat} (h : Lib.indexByte l 10 = (o : Int)) : o < l.length ∧ brk l = (l.take o, some (l.drop (o + 1))) := by
  obtain ⟨h1, h2⟩ := Lib.indexByte_some h
  obtain ⟨ho, h3⟩ := List.getElem?_eq_some_iff.1 h1
  refine ⟨ho, ?_⟩
  have e : l = l.take o ++ 10 :: l.drop (o + 1) := by
    rw [← h3, ← List.drop_eq_getElem_cons ho, List.take_append_drop]
  have hn : (10 : UInt8) ∉ l.take o := fun hm => by
    obtain ⟨k, hk⟩ := List.mem_iff_getElem?.1 hm
    rw [List.getElem?_take] at hk
    split at hk
    · exact h2 k (by assumption) hk
    · cases hk
  have := brk_cons (l.take o) (l.drop (o + 1)) hn
  rwa [← e] at this

theorem splitseq_ok (s t : ByteArray) (w : World) : Calls Tryd.prog 27 #[.string s, .string t, .int .i64 0] w fun e w' =>
    e = .returned (.func (.func 30) #[] #[.pointer (some ⟨w.heap.size + 1, 0, none⟩), .pointer (some ⟨w.heap.size, 0, none⟩), .pointer (some ⟨w.heap.size + 2, 0, none⟩)]) ∧
    w' = ((w.alloc (.cells #[.string s] 9)).alloc (.cells #[.string t] 9)).alloc (.cells #[.int .i64 0] 3) := by
  go_enter Tryd.func27, Tryd.ntmps27
  go_wp2
  go_ret
  exact ⟨rfl, rfl⟩
theorem seq_ok (s t : ByteArray) (w : World) : Calls Tryd.prog 24 #[.string s, .string t] w fun e w' =>
    e = .returned (.func (.func 30) #[] #[.pointer (some ⟨w.heap.size + 1, 0, none⟩), .pointer (some ⟨w.heap.size, 0, none⟩), .pointer (some ⟨w.heap.size + 2, 0, none⟩)]) ∧
    w' = ((w.alloc (.cells #[.string s] 9)).alloc (.cells #[.string t] 9)).alloc (.cells #[.int .i64 0] 3) := by
  go_enter Tryd.func24, Tryd.ntmps24
  go_wp2_with fail
  refine (splitseq_ok s t w).mono ?_
  rintro e w' ⟨rfl, rfl⟩
  go_wp2
  go_ret
  exact ⟨rfl, rfl⟩

/-- What the function has captured. -/
structure Cap (B : Nat) (r : ByteArray) (W : World) : Prop where
  s : Boxed W B 9 (.string r)
  sep : Boxed W (B + 1) 9 (.string ⟨#[10]⟩)
  save : Boxed W (B + 2) 3 (.int .i64 0)
theorem Boxed.past {W : World} {B : Nat} {t : TypeId} {v : Value} (h : Boxed W B t v) (a : Addr) (u : Value) (ha : a.block ≠ B) : Boxed (W.setCell a u) B t v :=
  (Below.heap_setCell W a u B (fun e => ha e.symm)).trans h
theorem Cap.set {B : Nat} {r : ByteArray} {W : World} (h : Cap B r W) (r' : ByteArray) : Cap B r' (W.setCell ⟨B, 0, none⟩ (.string r')) :=
  ⟨h.s.set _, Boxed.past h.sep _ _ (by simp), Boxed.past h.save _ _ (by simp)⟩

set_option maxRecDepth 100000 in
set_option maxHeartbeats 4000000 in
/-- **The function that strings.SplitSeq hands back, at a newline**: whatever each round keeps. -/
theorem split_in (n l B : Nat) (J : List (List UInt8) → World → Prop) (s : ByteArray) (hs : s.size ≤ 4611686018427387904)
    (hset : ∀ pre W v, J pre W → J pre (W.setCell ⟨B, 0, none⟩ v))
    (hY : ∀ pre (x r : ByteArray) W, J pre W → Cap B r W → pre.length + x.size ≤ s.size → YieldAt Fence.wide n Tryd.prog l #[.string x] W fun e W' => e = .returned (.bool true) ∧ J (pre ++ [x.data.toList]) W' ∧ Cap B r W')
    (W : World) (hJ : J [] W) (hC : Cap B s W) :
    CallsIn Fence.wide (n + 1) Tryd.prog 30 #[.func (.yield l) #[] #[], .pointer (some ⟨B + 1, 0, none⟩), .pointer (some ⟨B, 0, none⟩), .pointer (some ⟨B + 2, 0, none⟩)] W fun e W' =>
      (∃ v, e = .returned v) ∧ J (splitL s.data.toList) W' := by
  refine callsIn_of_wp Tryd.func30 rfl trivial ?_ rfl
  simp only [Tryd.ntmps30, List.size_toArray, List.length_cons, List.length_nil, Nat.reduceAdd, Nat.reduceSub, Array.replicate_succ, Array.replicate_zero, List.push_toArray, List.append_toArray, List.nil_append, List.cons_append]
  have h1 := hC.sep.cell
  have HC := Lib.hid hC
  have HJ := Lib.hid hJ
  clear hC hJ
  gi_wp2
  clear h1
  gi_loopg [7] s.size (fun g s7 wr => ∃ (pre : List (List UInt8)) (r : ByteArray), g + pre.length = s.size ∧ pre.length + r.size ≤ s.size ∧ Hid (splitL s.data.toList = pre ++ splitL r.data.toList) ∧ Hid (J pre wr) ∧ Hid (Cap B r wr))
  case atStart => exact ⟨[], s, by simp, by simp, Lib.hid rfl, HJ, HC⟩
  case round =>
    clear HC HJ
    obtain ⟨pre, r, hg, hp, HS, HJ, HC⟩ := hrel
    have c0 := HC.out.s.cell
    have c1 := HC.out.sep.cell
    have c2 := HC.out.save.cell
    have f0 := HC.out.s.frozen
    have hix := fun w => Tryd.strings_Index_one r 10 w
    by_cases hneg : Lib.indexByte r.data.toList 10 = -1
    · rw [hneg] at hix
      have hb := split_none (brk_of_none hneg)
      obtain ⟨fn, tmps, assign, body, hy, hR⟩ := hY pre r r wr HJ.out HC.out hp
      have HE : Hid (splitL s.data.toList = pre ++ [r.data.toList]) := Lib.hid (by rw [HS.out, hb])
      clear hneg hb hY hset HS HJ HC
      gi_wp2
      refine ⟨trivial, (callsIn_wide.2 (hix _)).mono ?_⟩
      rintro e w2 ⟨rfl, rfl⟩
      gi_wp2
      refine hR.mono ?_
      rintro e w3 ⟨rfl, hJ3, hC3⟩
      gi_wp2
      go_end0
      exact ⟨⟨_, rfl⟩, by rw [HE.out]; exact hJ3⟩
    · obtain ⟨o, ho⟩ : ∃ o : Nat, Lib.indexByte r.data.toList 10 = (o : Int) := by
        have := Lib.indexByte_ge r.data.toList 10
        exact ⟨(Lib.indexByte r.data.toList 10).toNat, by omega⟩
      rw [ho] at hix
      obtain ⟨hol, hbk⟩ := brk_of_some ho
      have hb := split_some hbk
      rw [size_list] at hol
      clear hneg ho hbk
      obtain ⟨fn, tmps, assign, body, hy, hR⟩ := hY pre (r.extract 0 o) r wr HJ.out HC.out (by rw [ByteArray.size_extract]; omega)
      have HB := Lib.hid hb
      have HY := Lib.hid hY
      have HT := Lib.hid hset
      clear hb hY hset HJ HC
      gi_wp2
      refine ⟨trivial, (callsIn_wide.2 (hix _)).mono ?_⟩
      rintro e w2 ⟨rfl, rfl⟩
      gi_wp2
      refine hR.mono ?_
      rintro e w3 ⟨rfl, hJ3, hC3⟩
      have d0 := hC3.s.cell
      have d1 := hC3.sep.cell
      have d2 := hC3.save.cell
      have g0 := hC3.s.frozen
      have HJ3 := Lib.hid hJ3
      have HC3 := Lib.hid hC3
      clear hJ3 hC3 hR hy
      gi_wp2
      gi_roundg (s.size - (pre.length + 1))
      case measure => omega
      case rel =>
        refine ⟨pre ++ [(r.extract 0 o).data.toList], r.extract (o + 1) r.size, ?_, ?_, ?_, ?_, ?_⟩
        · rw [List.length_append, List.length_singleton]; omega
        · rw [List.length_append, List.length_singleton, ByteArray.size_extract]; omega
        · refine Lib.hid ?_
          rw [HS.out, HB.out, ext_drop, ext_piece]
          simp [list_tx]
        · exact Lib.hid (HT.out _ _ _ HJ3.out)
        · exact Lib.hid (HC3.out.set _)
end Go.Proofs.YtekpjcdnmidgiaaDoor
