/- Items as the chapter's; whether two lists are the same; a deed's name. -/
import Derived.Test.YtnkhieackclniaaTRfI
import Derived.Test.YtnkhieackclniaaTLet
import Derived.BigQuiet
namespace Go.Proofs.Ytnkhieackclniaa
open Go Go.RowKit

theorem take_snoc {l : List Itm} {i : Nat} (hi : i < l.length) : l.take (i + 1) = l.take i ++ [l[i]!] := by
  rw [List.take_succ_eq_append_getElem hi, getE l i hi]
set_option maxRecDepth 100000 in
set_option maxHeartbeats 8000000 in
theorem refs_any (p : Option Addr) (l : List Itm) (cap : Nat) (hb : l.length * 32 ≤ 140737488355328) (w : World) (h : Rd p l w) :
    Calls Try.prog 21 #[.slice p l.length cap] w fun e w' => ∃ v, e = .returned v ∧ Its w.heap.size 50 v l w' ∧ Below w.heap.size w w' := by
  obtain ⟨i0, hi0, hz⟩ := Option.map_eq_some_iff.1 info_ritem
  simp only [Prod.mk.injEq] at hz
  obtain ⟨hz0, hz1, hz2⟩ := hz
  have HZ0 := Lib.hid hz0
  have HZ1 := Lib.hid hz1
  have HZ2 := Lib.hid hz2
  have HI0 := Lib.hid hi0
  have HR := Lib.hid h
  obtain ⟨N, hN⟩ : ∃ N, w.heap.size = N := ⟨_, rfl⟩
  have HN := Lib.hid hN
  rw [hN]
  obtain ⟨n, hn⟩ : ∃ n, l.length = n := ⟨_, rfl⟩
  have HLN := Lib.hid hn
  rw [hn] at hb ⊢
  clear h hz0 hz1 hz2 hi0 hN hn
  have hn63 : n ≤ 9223372036854775807 := by omega
  go_enter Try.func21, Try.ntmps21
  go_wp2
  go_loopg [3, 4] n (fun g o x wx => ∃ (i : Nat) (v : Value), i + g = n ∧ o = v ∧ x = .int .i64 i ∧ Its N 50 v (l.take i) wx ∧ Below N w wx)
  case atStart => exact ⟨0, _, by omega, rfl, rfl, Its.nil _ _ _, Below.refl _ _⟩
  case round =>
    obtain ⟨i, v, hig, hv, rfl, hI, hB⟩ := hrel
    replace hv := hv.symm
    subst hv
    cases gk with
    | zero =>
      obtain rfl : i = n := by omega
      have HI : Hid (Its N 50 v l wr) := Lib.hid (by rw [← HLN.out, List.take_length] at hI; exact hI)
      clear hI
      go_wp2
      go_ret
      exact ⟨v, rfl, HI.out, hB⟩
    | succ g =>
      have hin : i < n := by omega
      obtain ⟨C, off, rfl, hC, d0, d1, d2⟩ := HR.out i (by rw [HLN.out]; exact hin)
      have hCN : C < N := Nat.lt_of_lt_of_eq hC HN.out
      replace d0 := (hB.cell (p := ⟨C, off + i * 3, none⟩) hCN).trans d0
      replace d1 := (hB.cell (p := ⟨C, off + i * 3 + 1, none⟩) hCN).trans d1
      replace d2 := (hB.cell (p := ⟨C, off + i * 3 + 2, none⟩) hCN).trans d2
      have hNw : N ≤ wr.heap.size := Nat.le_trans (Nat.le_of_eq HN.out.symm) hB.size
      have hlen : (l.take i).length = i := by rw [List.length_take, HLN.out]; omega
      have HI : Hid (wr.ownsRow N 50 3 v i (flat (l.take i))) := Lib.hid (by have := hI; unfold Its at this; rw [hlen] at this; exact this)
      have HTS : Hid (l.take (i + 1) = l.take i ++ [⟨l[i]!.name, l[i]!.many, l[i]!.over⟩]) := Lib.hid (take_snoc (by rw [HLN.out]; exact hin))
      have HLE := Lib.hid hlen
      have HB := Lib.hid hB
      have hCw : C < wr.heap.size := by omega
      clear hI hB hC hlen
      generalize l[i]!.name = xn at *
      generalize l[i]!.many = xm at *
      generalize l[i]!.over = xo at *
      have hin2 : (i : Int) < (n : Int) := by omega
      generalize wr = W at *
      go_wp2
      go_region_law ((refine step_append_at _ rfl (.tmp 11) (.tmp 28) 38 rfl N 50 i0 _ 3 32 Try.underlying38 HI0.out HZ0.out HZ1.out HZ2.out rfl (by decide) v i (flat (l.take i)) (by simp [Act.eval, Act.put]) (World.ownsRow.alloc HI.out _) ⟨W.heap.size, 0, none⟩ 1 1 [.string xn, .int .u64 xm, .int .u64 xo] (by simp [Act.eval, Act.put]) rfl (new_row [.string xn, .int .u64 xm, .int .u64 xo] 50 W) (one_cells ⟨xn, xm, xo⟩) (by unfold maxLen; omega) (by omega) (by simp; omega) ?_); (intro v' w1 ho hg hat); have HO := Lib.hid ho; have HG := Lib.hid hg; clear ho hg hat)
      all_goals
        have hB1 : Below N w w1 := ((HB.out.alloc hNw (.cells #[.string xn, .int .u64 xm, .int .u64 xo] 50)).drew).grown HG.out (by simp; omega) (fun k hk => (World.ownsRow.lt HI.out k hk).1)
        have hI1 : Its N 50 v' (l.take (i + 1)) w1 := by
          rw [HTS.out]
          exact its_append (by rw [HLE.out]; exact HO.out)
        have HB1 := Lib.hid hB1
        have HI1 := Lib.hid hI1
        clear hB1 hI1
        go_wp2
        go_roundg g
        case measure => omega
        case rel => exact ⟨i + 1, v', by omega, rfl, by go_num, HI1.out, HB1.out⟩
set_option maxRecDepth 100000 in
set_option maxHeartbeats 4000000 in
theorem same_any (p q : Option Addr) (l : List Itm) (cap cap2 : Nat) (hl : l.length ≤ 9223372036854775807) (w : World) (h : Rd p l w) (h2 : Rd q l w) :
    Calls Try.prog 20 #[.slice p l.length cap, .slice q l.length cap2] w fun e w' => e = .returned (.bool true) ∧ Below w.heap.size w w' := by
  have HR := Lib.hid h
  have HR2 := Lib.hid h2
  obtain ⟨n, hn⟩ : ∃ n, l.length = n := ⟨_, rfl⟩
  have HLN := Lib.hid hn
  rw [hn] at hl ⊢
  clear h h2 hn
  go_enter Try.func20, Try.ntmps20
  go_wp2
  go_loopg [5] n (fun g x wx => ∃ i : Nat, i + g = n ∧ x = .int .i64 i ∧ Below w.heap.size w wx)
  case atStart => exact ⟨0, by omega, rfl, Below.refl _ _⟩
  case round =>
    obtain ⟨i, hig, rfl, hB⟩ := hrel
    cases gk with
    | zero =>
      obtain rfl : i = n := by omega
      go_wp2
      go_ret
      exact ⟨rfl, hB⟩
    | succ g =>
      have hin : i < n := by omega
      have hin2 : (i : Int) < (n : Int) := by omega
      obtain ⟨C1, o1, rfl, hC1, x0, x1, x2⟩ := HR.out i (by rw [HLN.out]; exact hin)
      obtain ⟨C2, o2, rfl, hC2, y0, y1, y2⟩ := HR2.out i (by rw [HLN.out]; exact hin)
      replace x0 := (hB.cell (p := ⟨C1, o1 + i * 3, none⟩) hC1).trans x0
      replace x1 := (hB.cell (p := ⟨C1, o1 + i * 3 + 1, none⟩) hC1).trans x1
      replace x2 := (hB.cell (p := ⟨C1, o1 + i * 3 + 2, none⟩) hC1).trans x2
      replace y0 := (hB.cell (p := ⟨C2, o2 + i * 3, none⟩) hC2).trans y0
      replace y1 := (hB.cell (p := ⟨C2, o2 + i * 3 + 1, none⟩) hC2).trans y1
      replace y2 := (hB.cell (p := ⟨C2, o2 + i * 3 + 2, none⟩) hC2).trans y2
      generalize l[i]!.name = nm at *
      generalize l[i]!.many = mm at *
      generalize l[i]!.over = oo at *
      clear hC1 hC2
      go_wp2
      go_quiet (fail)
      go_wp2
      go_roundg g
      case measure => omega
      case rel => exact ⟨i + 1, by omega, by go_num, below_drewN hB _⟩
/-- A deed's name. -/
def dName (k : Nat) (s : ByteArray) : ByteArray := if 240 < k then s else nmC (97 + k % 26)
theorem dName_size (k : Nat) (s : ByteArray) (h : s.size ≤ maxLen) : (dName k s).size ≤ maxLen := by
  unfold dName
  split
  · exact h
  · rw [nmC_size]; decide
set_option maxRecDepth 100000 in
theorem name_any (k : Nat) (hk : k < 256) (s : ByteArray) (by_ : Int) (w : World) :
    Calls Try.prog 13 #[.agg #[.int .u8 k, .string s, .int .u64 by_]] w fun e w' => e = .returned (.string (dName k s)) ∧ Below w.heap.size w w' := by
  have hBx := (Below.refl w.heap.size w).alloc (Nat.le_refl _) (.cells #[.int .u8 k, .string s, .int .u64 by_] 33)
  by_cases h : 240 < k
  · have hd : dName k s = s := by unfold dName; rw [if_pos h]
    rw [hd]
    go_enter Try.func13, Try.ntmps13
    go_wp2
    go_ret
    exact ⟨rfl, hBx⟩
  · have hd : dName k s = nmC (97 + k % 26) := by unfold dName; rw [if_neg h]
    rw [hd]
    obtain ⟨j, hj⟩ : ∃ j, k % 26 = j := ⟨_, rfl⟩
    have hji : (k : Int) % 26 = (j : Int) := by omega
    obtain ⟨q, hq⟩ : ∃ q, 97 + j = q := ⟨_, rfl⟩
    have hqi : (97 : Int) + (j : Int) = (q : Int) := by omega
    have hq2 : q < 256 := by omega
    rw [hj, hq]
    have hcv := letter_back q hq2 (w.alloc (.cells #[.int .u8 k, .string s, .int .u64 by_] 33)) (w.heap.size + 1) (by simp)
    have hBy := hBx.alloc (by simp) (.cells #[.int .u8 q] 5)
    have HBy := Lib.hid hBy
    have r1 : IntKind.u8.wrap (q : Int) = (q : Int) := IntWalk.u8_in _ (by omega)
    have r2 : IntKind.u8.wrap (j : Int) = (j : Int) := IntWalk.u8_in _ (by omega)
    clear hj hq hBx hBy
    go_enter Try.func13, Try.ntmps13
    go_wp2
    go_ret
    exact ⟨rfl, HBy.out⟩
end Go.Proofs.Ytnkhieackclniaa
