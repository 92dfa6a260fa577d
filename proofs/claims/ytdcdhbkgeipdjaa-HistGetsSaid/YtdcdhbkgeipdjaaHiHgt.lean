/- HistGets, walked. -/
import Derived.Test.YtdcdhbkgeipdjaaHiRgt
import Derived.Test.YtdcdhbkgeipdjaaHiRa
import Derived.Test.YtdcdhbkgeipdjaaHiRpt
import Derived.Test.YtdcdhbkgeipdjaaHiSam
import Derived.Test.YtdcdhbkgeipdjaaHiBnd
import Derived.Test.YtdcdhbkgeipdjaaHiOpen
namespace Go.Proofs.Ytdcdhbkgeipdjaa
open Go Go.RowKit

theorem Left.stepR {N B k : Nat} {v : Value} {l l' : List Hit} {code : Value} {w0 w w' : World} {e : Ending} (h : Hs N 83 B k v l w) (hB : Below w0.heap.size w0 w) (hN : w0.heap.size ≤ N) (hL : Left N 83 B k v l' code w e w') :
    e = .returned code ∧ Below w0.heap.size w0 w' ∧ ∃ v', Hs N 83 B k v' l' w' := by
  obtain ⟨rfl, v', h', hM, _⟩ := hL
  refine ⟨rfl, below_mov hB hM (fun j hj => ?_) (Nat.le_refl _), v', h'⟩
  rcases hj with rfl | e
  · exact Nat.le_trans hN h.lo
  · exact Nat.le_trans hN (h.row.lt e).1
set_option maxRecDepth 100000 in
set_option maxHeartbeats 4000000 in
theorem HistGets_core (x : Nat) (hx : x < 256) (p : Option Addr) (xs : List Int) (cap : Nat) (hc : xs.length ≤ cap) (hcap : cap ≤ 9223372036854775807) (s : ByteArray) (hs : s.size ≤ 140737488355328) (own : Bool) (at_ : Int) (hat : -9223372036854775808 ≤ at_ ∧ at_ ≤ 9223372036854775807) (by_ : Nat) (hby : by_ < 256)
    (w : World) (hN : Ints p xs w) :
    Calls Try.prog 4 #[.int .u8 x, .slice p xs.length cap, .string s, .bool own, .int .i64 at_, .int .u8 by_] w fun e w' => e = .returned (.bool true) ∧ Below w.heap.size w w' := by
  have HN := Lib.hid hN
  obtain ⟨k, hk⟩ : ∃ k, x % 5 = k := ⟨_, rfl⟩
  have hk4 : k ≤ 4 := by omega
  have hki : (x : Int) % 5 = (k : Int) := by omega
  have HK := Lib.hid hk4
  have HAT := Lib.hid hat
  obtain ⟨L, hL⟩ : ∃ L, xs.take 30 = L := ⟨_, rfl⟩
  have hlL : L.length = min xs.length 30 := by rw [← hL, List.length_take]; omega
  have HL := Lib.hid hL
  obtain ⟨nn, hnn⟩ : ∃ nn, xs.length = nn := ⟨_, rfl⟩
  have HNN := Lib.hid hnn
  rw [hnn] at hlL hc ⊢
  obtain ⟨m, hm⟩ : ∃ m, L.length = m := ⟨_, rfl⟩
  have HM := Lib.hid hm
  rw [hm] at hlL
  have hmn : m ≤ nn := by omega
  have hm60 : m ≤ 30 := by omega
  have HMX : Hid (m < nn → m = 30) := Lib.hid (by omega)
  have htm0 : s.size ≤ maxLen := by unfold maxLen; omega
  have HTM := Lib.hid htm0
  clear hN hk hL hnn hm hlL hat htm0
  cases own with
  | false =>
    go_enter Try.func4, Try.ntmps4
    go_wp2_with fail
    refine (examples_any _).mono ?_
    rintro e W ⟨rfl, hB⟩
    have HB := Lib.hid hB
    have hg := get_any s HTM.out W
    have hr := fun W => ref_get_any s HTM.out W
    generalize getF s.data.toList = r at hg hr
    clear hB
    cases r with
    | none =>
      go_wp2_with fail
      refine hg.mono ?_
      rintro e V1 ⟨he, hB1⟩
      obtain rfl : e = .returned noneV := he
      unfold noneV
      have HB1 := Lib.hid (below_on HB.out hB1 (Nat.le_refl _))
      clear hg hB1
      go_wp2_with fail
      refine (hr _).mono ?_
      rintro e V2 ⟨he, hB2⟩
      obtain rfl : e = .returned noneV := he
      unfold noneV
      have HB2 := Lib.hid (below_on HB1.out hB2 (Nat.le_refl _))
      clear hr hB2
      go_wp2
      go_ret
      exact ⟨rfl, HB2.out⟩
    | some z =>
      obtain ⟨kz, lz, uz⟩ := z
      go_wp2_with fail
      refine hg.mono ?_
      rintro e V1 ⟨⟨Bh, vh, rfl, hH⟩, hB1⟩
      have HB1 := Lib.hid (below_on HB.out hB1 (Nat.le_refl _))
      have HH := Lib.hid hH
      clear hg hB1 hH
      go_wp2_with fail
      refine (hr _).mono ?_
      rintro e V2 ⟨⟨Bx, vx, rfl, hX⟩, hB2⟩
      have HB2 := Lib.hid (below_on HB1.out hB2 (Nat.le_refl _))
      have hsm := same_any (HH.out.below hB2) hX
      clear hr hB2 hX HH
      go_wp2_with fail
      refine hsm.mono ?_
      rintro e V3 ⟨rfl, hB3⟩
      have HB3 := Lib.hid (below_on HB2.out hB3 (Nat.le_refl _))
      clear hsm hB3
      go_wp2
      go_ret
      exact ⟨rfl, HB3.out⟩
  | true =>
    have hn := fun W => ref_new_any k HK.out W
    go_enter Try.func4, Try.ntmps4
    go_wp2_with fail
    refine (examples_any _).mono ?_
    rintro e W1 ⟨rfl, hB⟩
    go_wp2_with fail
    refine (hn _).mono ?_
    rintro e W2 ⟨B, rfl, hB2, hH⟩
    have HH : Hid (Hs w.heap.size 83 B k (.slice none 0 0) (itemsN k (L.take 0)) W2) := Lib.hid (hH.mono hB.size)
    have HB := Lib.hid (below_on hB hB2 (Nat.le_refl _))
    clear hn hB hB2 hH
    go_wp2
    try rw [hki]
    go_loopg [15] m (fun g s15 wx => ∃ (i : Nat) (v : Value), i + g = m ∧ s15 = .int .i64 i ∧ Hid (Hs w.heap.size 83 B k v (itemsN k (L.take i)) wx) ∧ Hid (Below w.heap.size w wx))
    case atStart => exact ⟨0, _, by omega, rfl, HH, HB⟩
    case round =>
      clear HH HB
      obtain ⟨i, v, hig, rfl, HH, HB⟩ := hrel
      cases gk with
      | succ g =>
        have hi : i < m := by omega
        have hi2 : i < nn := by omega
        have hi3 : i < 30 := by omega
        have hiL : i < L.length := by rw [HM.out]; exact hi
        have hix : i < xs.length := by rw [HNN.out]; exact hi2
        obtain ⟨C, off, rfl, hC, hcell, hlt⟩ := HN.out i hix
        have hLi : L[i] = xs[i] := by have := HL.out; subst this; rw [List.getElem_take]
        have hcx := (HB.out.cell (p := ⟨C, off + i, none⟩) hC).trans hcell
        have had := ref_add_any HB.out.size HH.out xs[i] hlt (by rw [itemsN_count, List.length_take]; omega)
        rw [← hLi, ← itemsN_snoc hiL, hLi] at had
        obtain ⟨y, hy⟩ : ∃ y, xs[i] = y := ⟨_, rfl⟩
        rw [hy] at hcx had
        clear hcell hlt hy hLi
        go_wp2_with fail
        refine had.mono ?_
        intro e w2 hle
        obtain ⟨rfl, hB2, v2, hH2⟩ := hle.stepR HH.out HB.out (Nat.le_refl _)
        have HH2 := Lib.hid hH2
        have HB2 := Lib.hid hB2
        clear had hle hB2 hH2
        go_wp2
        go_roundg g
        case measure => omega
        case rel => exact ⟨i + 1, v2, by omega, by go_num, HH2, HB2⟩
      | zero =>
        obtain rfl : i = m := by omega
        have hput := ref_put_any HH.out
        have hI := HH.out.inv.len
        have hsz0 : (tx (putH k (itemsN k (L.take i)))).size = 3 + 10 * (itemsN k (L.take i)).length := by rw [tx_size, putH_length]
        obtain ⟨t0, ht0⟩ : ∃ t0, tx (putH k (itemsN k (L.take i))) = t0 := ⟨_, rfl⟩
        rw [ht0] at hput hsz0
        have hszb : t0.size ≤ 20013 := by omega
        have hszc : (9223372036854775807 < t0.size + s.size) = False := eq_false (by omega)
        have hbe := fun W => bend_any (t0 ++ s) (by rw [ByteArray.size_append]; omega) at_ (by_ : Int) HAT.out.1 HAT.out.2 (by omega) (by omega) W
        have HTS : Hid (∀ t : ByteArray, t.size = (t0 ++ s).size → t.size ≤ maxLen) := Lib.hid fun t e => by rw [e, ByteArray.size_append]; unfold maxLen; omega
        clear hsz0 ht0 hI
        have hmk : (i : Int) ≤ 30 := by omega
        by_cases hl : i < nn
        case' pos =>
          have h60 : ¬ ((i : Int) < 30) := by have := HMX.out hl; omega
          have hlI : (i : Int) < (nn : Int) := by omega
        case' neg =>
          have hlI : ¬ ((i : Int) < (nn : Int)) := by omega
        all_goals
          go_wp2_with fail
          refine hput.mono ?_
          rintro e W3 ⟨rfl, hB3⟩
          have HB3 := Lib.hid (below_on HB.out hB3 (Nat.le_refl _))
          clear hput hB3
          go_wp2_with fail
          refine (hbe _).mono ?_
          rintro e W ⟨t, rfl, hts, hB4⟩
          replace HB := Lib.hid (below_on HB3.out hB4 (Nat.le_refl _))
          have hg := get_any t (HTS.out t hts) W
          have hr := fun W => ref_get_any t (HTS.out t hts) W
          generalize getF t.data.toList = r at hg hr
          clear hbe hB4 HB3 hts HH hszc
          cases r with
          | none =>
            go_wp2_with fail
            refine hg.mono ?_
            rintro e V1 ⟨he, hB1⟩
            obtain rfl : e = .returned noneV := he
            unfold noneV
            have HB1 := Lib.hid (below_on HB.out hB1 (Nat.le_refl _))
            clear hg hB1
            go_wp2_with fail
            refine (hr _).mono ?_
            rintro e V2 ⟨he, hB2⟩
            obtain rfl : e = .returned noneV := he
            unfold noneV
            have HB2 := Lib.hid (below_on HB1.out hB2 (Nat.le_refl _))
            clear hr hB2
            go_wp2
            go_ret
            exact ⟨rfl, HB2.out⟩
          | some z =>
            obtain ⟨kz, lz, uz⟩ := z
            go_wp2_with fail
            refine hg.mono ?_
            rintro e V1 ⟨⟨Bh, vh, rfl, hH⟩, hB1⟩
            have HB1 := Lib.hid (below_on HB.out hB1 (Nat.le_refl _))
            have HH := Lib.hid hH
            clear hg hB1 hH
            go_wp2_with fail
            refine (hr _).mono ?_
            rintro e V2 ⟨⟨Bx, vx, rfl, hX⟩, hB2⟩
            have HB2 := Lib.hid (below_on HB1.out hB2 (Nat.le_refl _))
            have hsm := same_any (HH.out.below hB2) hX
            clear hr hB2 hX HH
            go_wp2_with fail
            refine hsm.mono ?_
            rintro e V3 ⟨rfl, hB3⟩
            have HB3 := Lib.hid (below_on HB2.out hB3 (Nat.le_refl _))
            clear hsm hB3
            go_wp2
            go_ret
            exact ⟨rfl, HB3.out⟩
theorem HistGets_walk (a0 : Int) (h0 : (Lit.int .u8 a0).wf = true) (p1 : Option Addr) (xs1 : List Int) (cap1 : Nat) (hl1 : xs1.length ≤ cap1) (hm1 : cap1 ≤ maxLen) (a2 : ByteArray) (h2 : a2.size ≤ maxLen) (hz2 : a2.size ≤ 140737488355328) (a3 : Bool) (a4 : Int) (h4 : (Lit.int .i64 a4).wf = true) (a5 : Int) (h5 : (Lit.int .u8 a5).wf = true) (W : World) (hn1 : Ints p1 xs1 W) :
    Calls Try.prog 4 #[.int .u8 a0, .slice p1 xs1.length cap1, .string a2, .bool a3, .int .i64 a4, .int .u8 a5] W fun e w' => e = .returned (.bool true) ∧ Below W.heap.size W w' := by
  obtain ⟨x, rfl, hx⟩ := wf_u8 h0
  obtain ⟨b, rfl, hb⟩ := wf_u8 h5
  exact HistGets_core x hx p1 xs1 cap1 hl1 hm1 a2 hz2 a3 a4 (wf_i64 h4) b hb W hn1
end Go.Proofs.Ytdcdhbkgeipdjaa
