/- What is made of any parts, and what the chapter prints of it. Two lines held against one another; what the chapter prints is short. -/
import Derived.Test.YtdmkiiggpelmaaaGreatDoorLnS
import Derived.Test.YtdmkiiggpelmaaaGreatDoorLnH
import Derived.Deep.QuietTactic
namespace Go.Proofs.YtdmkiiggpelmaaaGreatDoor.Lx
open Go Go.RowKit

/-- What is made of any parts. -/
theorem made_say (x : MadeV) (w0 : World) (hx0 : x.fits w0) : ∃ (n : List UInt8) (ls : List Lab) (v t : Int), n.length ≤ maxLen ∧ ls.length ≤ maxLen ∧ In64 v ∧ t ≤ 9223372036854775807 ∧
    ∀ w, x.fits w → Calls Tryz.prog 7 #[.agg x.vals] w fun e w' => ∃ p cap, e = .returned (.agg (lineC (tx n) (.slice p ls.length cap) v t)) ∧ LbAt p ls w' ∧ Below w.heap.size w w' := by
  by_cases ho : x.own = true
  · obtain ⟨n, ls, t, hf, _, ht1, hm⟩ := made_some x ho hx0.hv hx0.ht
    refine ⟨n, ls, x.value, t, hf.nmax, hf.lmax, hx0.hv, ht1, fun w hx => (hm w hx).mono ?_⟩
    rintro e w' ⟨p, cap, rfl, hO, hB⟩
    exact ⟨p, cap, rfl, hO.lies hf.lbl, hB⟩
  · have ho : x.own = false := by simpa using ho
    have ht := hx0.ht
    unfold In64 at ht
    refine ⟨x.name, x.ls, x.value, x.time, hx0.hn, hx0.hl, hx0.hv, ht.2, fun w hx => (made_own x ho w).mono ?_⟩
    rintro e w' ⟨rfl, hB⟩
    exact ⟨x.lp, x.lcap, rfl, hx.lb.below hB, hB⟩
theorem ref_print (n : List UInt8) (hn : n.length ≤ maxLen) (p : Option Addr) (cap : Nat) (ls : List Lab) (a b : Int) (ha : In64 a) (hb : b ≤ 9223372036854775807) (hlm : ls.length ≤ maxLen) (w : World) (hL : LbAt p ls w) :
    Calls Tryz.prog 5 #[.agg (lineC (tx n) (.slice p ls.length cap) a b)] w fun e w' => e = .returned (printV ⟨n, ls, a, b⟩ (printB ⟨n, ls, a, b⟩)) ∧ Below w.heap.size w w' := by
  unfold printB
  by_cases hr : rightF ⟨n, ls, a, b⟩ = true
  · rw [hr]
    exact ref_print_right n p cap ls a b ha hb hr w hL
  · have hr : rightF ⟨n, ls, a, b⟩ = false := by simpa using hr
    rw [hr]
    exact ref_print_wrong n hn p cap ls a b hlm hr w hL
theorem printV_two (L : LineV) (b : Bool) : ∃ s : ByteArray, printV L b = .tuple #[.string s, .bool b] := by cases b <;> exact ⟨_, rfl⟩
end Go.Proofs.YtdmkiiggpelmaaaGreatDoor.Lx

namespace Go.Proofs.YtdmkiiggpelmaaaGreatDoor.Lx
open Go Go.RowKit

theorem print_small (L : LineV) : ∃ S : ByteArray, printV L (printB L) = .tuple #[.string S, .bool (printB L)] ∧ S.size ≤ 1024 := by
  cases h : printB L with
  | false => exact ⟨⟨#[]⟩, rfl, by decide⟩
  | true =>
    refine ⟨tx (printF L), rfl, ?_⟩
    unfold printB at h
    rw [Bool.and_eq_true, decide_eq_true_eq] at h
    rw [tx_len]
    exact h.2

set_option maxRecDepth 100000 in
set_option maxHeartbeats 8000000 in
theorem same_ok (n : ByteArray) (p q : Option Addr) (c d : Nat) (ls : List Lab) (a b : Int) (hlm : ls.length ≤ maxLen) (w : World) (hL : LbAt p ls w) (hK : LbAt q ls w) :
    Calls Tryz.prog 11 #[.agg (lineC n (.slice p ls.length c) a b), .agg (lineC n (.slice q ls.length d) a b)] w fun e w' => e = .returned (.bool true) ∧ Below w.heap.size w w' := by
  unfold maxLen at hlm
  have hA1 : Below w.heap.size w (w.alloc (.cells (lineC n (.slice p ls.length c) a b) 24)) := (Below.refl _ _).alloc (Nat.le_refl _) _
  have hA2 := hA1.alloc hA1.size (.cells (lineC n (.slice q ls.length d) a b) 32)
  have HL0 := Lib.hid (hL.below hA2)
  have HK0 := Lib.hid (hK.below hA2)
  have HC0 := Lib.hid ((CellsAt.new (lineC n (.slice p ls.length c) a b) 24 w).past (.cells (lineC n (.slice q ls.length d) a b) 32))
  have HD0 := Lib.hid (CellsAt.newAt (lineC n (.slice q ls.length d) a b) 32 (w.alloc (.cells (lineC n (.slice p ls.length c) a b) 24)) (w.heap.size + 1) (by simp))
  have HE0 := Lib.hid hA2
  have k1 := HC0.out.cell 1 _ rfl
  have d1 := HD0.out.cell 1 _ rfl
  clear hA1 hA2 hL hK
  go_enter Tryz.func11, Tryz.ntmps11
  go_wp2
  clear k1 d1
  go_loopg [5] ls.length (fun g s5 wx => ∃ i : Nat, i + g = ls.length ∧ s5 = .int .i64 (i : Int) ∧ Hid (CellsAt w.heap.size (lineC n (.slice p ls.length c) a b) wx) ∧ Hid (CellsAt (w.heap.size + 1) (lineC n (.slice q ls.length d) a b) wx) ∧ Hid (LbAt p ls wx) ∧ Hid (LbAt q ls wx) ∧ Hid (Below w.heap.size w wx))
  case atStart => exact ⟨0, by omega, rfl, HC0, HD0, HL0, HK0, HE0⟩
  case round =>
    clear HC0 HD0 HL0 HK0 HE0
    obtain ⟨i, hig, rfl, HC, HD, HL, HK, HE⟩ := hrel
    have k1 := HC.out.cell 1 _ rfl
    have d1 := HD.out.cell 1 _ rfl
    by_cases hlt : i < ls.length
    · obtain ⟨g, rfl⟩ : ∃ g, gk = g + 1 := ⟨gk - 1, by omega⟩
      obtain ⟨C, off, rfl, hC, c0, c1, _, _⟩ := HL.out i hlt
      obtain ⟨D, off2, rfl, hD, e0, e1, _, _⟩ := HK.out i hlt
      generalize ls[i] = y at c0 c1 e0 e1
      obtain ⟨y1, y2⟩ := y
      generalize tx y1 = z1 at *
      generalize tx y2 = z2 at *
      have hdr : ∀ q, Below wr.heap.size wr (wr.drewN q) := fun q => ⟨rfl, rfl, rfl, Nat.le_refl _, fun _ _ => rfl⟩
      have HC2 := Lib.hid (fun q => HC.out.below (hdr q))
      have HD2 := Lib.hid (fun q => HD.out.below (hdr q))
      have HL2 := Lib.hid (fun q => HL.out.below (hdr q))
      have HK2 := Lib.hid (fun q => HK.out.below (hdr q))
      have HE2 := Lib.hid (fun q => HE.out.trans ((hdr q).mono HE.out.size))
      clear hdr
      clear HC HD HL HK HE
      go_wp2
      go_quiet (fail)
      go_wp2
      go_roundg g
      case measure => omega
      case rel => exact ⟨i + 1, by omega, by go_num, Lib.hid (HC2.out _), Lib.hid (HD2.out _), Lib.hid (HL2.out _), Lib.hid (HK2.out _), Lib.hid (HE2.out _)⟩
    · obtain rfl : i = ls.length := by omega
      have k0 := HC.out.cell 0 _ rfl
      have k2 := HC.out.cell 2 _ rfl
      have k3 := HC.out.cell 3 _ rfl
      have d0 := HD.out.cell 0 _ rfl
      have d2 := HD.out.cell 2 _ rfl
      have d3 := HD.out.cell 3 _ rfl
      go_wp2
      go_ret
      exact ⟨rfl, HE.out⟩
end Go.Proofs.YtdmkiiggpelmaaaGreatDoor.Lx

