/- Get: what bytes begin with. Get: the items that bytes begin with. The chapter's examples; a histogram of numbers; what is put is got. A histogram of numbers. -/
import Derived.Test.YtmjipafhahggpaaDoorMcM
import Derived.Test.YtmjipafhahggpaaDoorMHiTog
import Derived.Test.YtmjipafhahggpaaDoorMHiMrg
import Derived.Test.YtmjipafhahggpaaDoorMcI
namespace Go.Proofs.YtmjipafhahggpaaDoor.Hi
open Go Go.RowKit

/-- What Get answers: no histogram. -/
def noneV : Value := .tuple #[.pointer none, .string ⟨#[]⟩, .int .i64 2]
theorem list_size (s : ByteArray) : s.data.toList.length = s.size := rfl
theorem first_num {s : ByteArray} (h : 0 < s.size) : numB (s.data.toList.take 1) = (s[0]'h).toNat := by
  have e : s.data.toList.take 1 = [s[0]'h] := by
    have := list_size s
    rw [List.take_one, List.head?_eq_getElem?, List.getElem?_eq_getElem (by omega)]
    rfl
  rw [e]
  simp [numB]
theorem drop_toList (s : ByteArray) (i : Nat) : (s.extract i s.size).data.toList = s.data.toList.drop i := by
  rw [extract_toList, List.take_of_length_le]
  rw [List.length_drop, list_size]
  exact Nat.le_refl _
theorem item_take (l : List UInt8) : itemB (l.take 10) = itemB l := by
  unfold itemB
  rw [List.take_take, List.drop_take, List.take_take]
  rfl
set_option maxRecDepth 100000 in
set_option maxHeartbeats 4000000 in
theorem get_short (s : ByteArray) (h : s.size < 3) (w : World) :
    Calls Tryd.prog 48 #[.string s] w fun e w' => e = .returned noneV ∧ Below w.heap.size w w' := by
  unfold noneV
  go_enter Tryd.func48, Tryd.ntmps48
  go_wp2
  go_ret3
  exact ⟨rfl, Below.refl _ _⟩
set_option maxRecDepth 100000 in
set_option maxHeartbeats 4000000 in
theorem get_bits (s : ByteArray) (h : 3 ≤ s.size) (hm : s.size ≤ maxLen) (hb : 4 < numB (s.data.toList.take 1)) (w : World) :
    Calls Tryd.prog 48 #[.string s] w fun e w' => e = .returned noneV ∧ Below w.heap.size w w' := by
  unfold noneV
  unfold maxLen at hm
  have hs0 : 0 < s.size := by omega
  rw [first_num hs0] at hb
  obtain ⟨b, hb0⟩ : ∃ b, (s[0]'hs0).toNat = b := ⟨_, rfl⟩
  have hw : wrap64 ((s[0]'hs0).toNat : Int) = (b : Int) := by have := (s[0]'hs0).toNat_lt; rw [hb0] at this ⊢; unfold wrap64; omega
  rw [hb0] at hb
  have hn := new_out (b : Int) (by omega) w
  clear hb0 hb
  have hg := fun w => getnumber_any (s.extract 1 3) (by simp [ByteArray.size_extract]; omega) w
  have hq : ∃ q, numB (s.extract 1 3).data.toList = q ∧ q < 65536 := ⟨_, rfl, by
    have h1 := numB_lt (s.extract 1 3).data.toList
    have h2 : (s.extract 1 3).data.toList.length ≤ 2 := by rw [list_size]; simp [ByteArray.size_extract]; omega
    have h3 : 256 ^ (s.extract 1 3).data.toList.length ≤ 256 ^ 2 := Nat.pow_le_pow_right (by omega) h2
    omega⟩
  obtain ⟨q, hq1, hq2⟩ := hq
  rw [hq1] at hg
  clear hq1
  go_enter Tryd.func48, Tryd.ntmps48
  go_wp2_with fail
  refine hn.mono ?_
  rintro e w1 ⟨rfl, hB⟩
  clear hn
  go_wp2
  go_quiet (exact Calls.quiet_of_same ((hg _).mono fun _ _ h => ⟨h.1, h.2.symm⟩))
  go_wp2
  go_ret3
  exact ⟨rfl, below_drewN' hB _⟩
set_option maxRecDepth 100000 in
set_option maxHeartbeats 4000000 in
theorem get_less (s : ByteArray) (h : 3 ≤ s.size) (hm : s.size ≤ maxLen) (hb : ¬ 4 < numB (s.data.toList.take 1)) (hl : s.size - 3 < 10 * numB ((s.data.toList.drop 1).take 2)) (w : World) :
    Calls Tryd.prog 48 #[.string s] w fun e w' => e = .returned noneV ∧ Below w.heap.size w w' := by
  unfold noneV
  unfold maxLen at hm
  have hs0 : 0 < s.size := by omega
  rw [first_num hs0] at hb
  obtain ⟨b, hb0⟩ : ∃ b, (s[0]'hs0).toNat = b := ⟨_, rfl⟩
  have hw : wrap64 ((s[0]'hs0).toNat : Int) = (b : Int) := by have := (s[0]'hs0).toNat_lt; rw [hb0] at this ⊢; unfold wrap64; omega
  rw [hb0] at hb
  have hn := new_any b (by omega) w
  clear hb0 hb
  have hg := fun w => getnumber_any (s.extract 1 3) (by simp [ByteArray.size_extract]; omega) w
  have hq : ∃ q, numB (s.extract 1 3).data.toList = q ∧ q < 65536 := ⟨_, rfl, by
    have h1 := numB_lt (s.extract 1 3).data.toList
    have h2 : (s.extract 1 3).data.toList.length ≤ 2 := by rw [list_size]; simp [ByteArray.size_extract]; omega
    have h3 : 256 ^ (s.extract 1 3).data.toList.length ≤ 256 ^ 2 := Nat.pow_le_pow_right (by omega) h2
    omega⟩
  obtain ⟨q, hq1, hq2⟩ := hq
  rw [hq1] at hg
  rw [← show (s.extract 1 3).data.toList = (s.data.toList.drop 1).take 2 from extract_toList s 1 3, hq1] at hl
  clear hq1
  obtain ⟨R, hR⟩ : ∃ R, s.extract 3 s.size = R := ⟨_, rfl⟩
  have hRs : R.size = s.size - 3 := by rw [← hR]; simp [ByteArray.size_extract]
  have hlt : decide ((R.size : Int) < (q : Int) * 10) = true := decide_eq_true (by omega)
  have hRm : R.size ≤ 9223372036854775807 := by omega
  clear hl hRs
  go_enter Tryd.func48, Tryd.ntmps48
  go_wp2_with fail
  refine hn.mono ?_
  rintro e w1 ⟨B, rfl, hB, hlo, hH⟩
  have HH := Lib.hid hH
  clear hn hH hlo
  go_wp2
  go_quiet (exact Calls.quiet_of_same ((hg _).mono fun _ _ h => ⟨h.1, h.2.symm⟩))
  go_wp2
  go_ret3
  exact ⟨rfl, below_drewN' hB _⟩
end Go.Proofs.YtmjipafhahggpaaDoor.Hi

namespace Go.Proofs.YtmjipafhahggpaaDoor.Hi
open Go Go.RowKit

/-- What Get leaves of items. -/
def Got (N k : Nat) (J : Option (List Hit × List UInt8)) (e : Ending) (w' : World) : Prop :=
  match J.bind (fun p => if countH p.1 ≤ 1099511627776 then some p else none) with
  | none => e = .returned noneV
  | some (l, t) => ∃ B v, e = .returned (.tuple #[.pointer (some ⟨B, 0, none⟩), .string (tx t), .int .i64 0]) ∧ Hs N 66 B k v l w'
theorem tx_list (s : ByteArray) : tx s.data.toList = s := by cases s; rfl
theorem num_two (s : ByteArray) (i j : Nat) (h : j - i = 2) : numB (s.extract i j).data.toList < 65536 := by
  have h1 := numB_lt (s.extract i j).data.toList
  have h2 : (s.extract i j).data.toList.length ≤ 2 := by rw [list_size]; simp [ByteArray.size_extract]; omega
  have h3 : 256 ^ (s.extract i j).data.toList.length ≤ 256 ^ 2 := Nat.pow_le_pow_right (by omega) h2
  omega
theorem got_some {N k B : Nat} {v : Value} {l : List Hit} {P : ByteArray} {w' : World} (hc : countH l ≤ 1099511627776) (h : Hs N 66 B k v l w') :
    Got N k (some (l, P.data.toList)) (.returned (.tuple #[.pointer (some ⟨B, 0, none⟩), .string P, .int .i64 0])) w' := by
  simp only [Got, Option.bind_some, if_pos hc]
  exact ⟨B, v, by rw [tx_list], h⟩
theorem got_over {N k : Nat} {l : List Hit} {t : List UInt8} {w' : World} (hc : ¬ countH l ≤ 1099511627776) : Got N k (some (l, t)) (.returned noneV) w' := by
  simp only [Got, Option.bind_some, if_neg hc]
theorem got_none {N k : Nat} {w' : World} : Got N k none (.returned noneV) w' := by
  simp only [Got, Option.bind_none]
theorem Hc.drew {base T B k : Nat} {v : Value} {l : List Hit} {w : World} (h : Hc base T B k v l w) : Hc base T B k v l w.drew := ⟨h.lt, h.lo, h.c0, h.c1, h.f1, h.row, h.ne⟩
theorem Sofar.inv {k : Nat} {l : List Hit} (h : Sofar k l) (hk : k ≤ 4) (hc : countH l ≤ 1099511627776) : Inv k l := ⟨hk, h.ris, h.fit, hc⟩
theorem item_small (l : List UInt8) : (itemB l).many < 281474976710656 := num_lt6 _
set_option maxRecDepth 100000 in
set_option maxHeartbeats 8000000 in
theorem get_run (s : ByteArray) (h : 3 ≤ s.size) (hm : s.size ≤ maxLen) (hb : ¬ 4 < numB (s.data.toList.take 1)) (hl : ¬ s.size - 3 < 10 * numB ((s.data.toList.drop 1).take 2)) (w : World) :
    Calls Tryd.prog 48 #[.string s] w fun e w' => Got w.heap.size (numB (s.data.toList.take 1)) (getJ (numB (s.data.toList.take 1)) (numB ((s.data.toList.drop 1).take 2)) (s.data.toList.drop 3) []) e w' ∧ Below w.heap.size w w' := by
  unfold maxLen at hm
  have hs0 : 0 < s.size := by omega
  rw [first_num hs0] at hb ⊢
  obtain ⟨b, hb0⟩ : ∃ b, (s[0]'hs0).toNat = b := ⟨_, rfl⟩
  have hw : wrap64 ((s[0]'hs0).toNat : Int) = (b : Int) := by have := (s[0]'hs0).toNat_lt; rw [hb0] at this ⊢; unfold wrap64; omega
  rw [hb0] at hb ⊢
  have hb4 : b ≤ 4 := by omega
  have hn := new_any b hb4 w
  clear hb0 hb
  have hg := fun w => getnumber_any (s.extract 1 3) (by simp [ByteArray.size_extract]; omega) w
  have hq2 := num_two s 1 3 rfl
  rw [← show (s.extract 1 3).data.toList = (s.data.toList.drop 1).take 2 from extract_toList s 1 3] at hl ⊢
  obtain ⟨q, hq1⟩ : ∃ q, numB (s.extract 1 3).data.toList = q := ⟨_, rfl⟩
  rw [hq1] at hg hq2 hl ⊢
  clear hq1
  obtain ⟨R, hR⟩ : ∃ R, s.extract 3 s.size = R := ⟨_, rfl⟩
  have hRs : R.size = s.size - 3 := by rw [← hR]; simp [ByteArray.size_extract]
  have hlt : decide ((R.size : Int) < (q : Int) * 10) = false := decide_eq_false (by omega)
  have hRm : R.size ≤ 9223372036854775807 := by omega
  have hRq : 10 * q ≤ R.size := by omega
  rw [← drop_toList s 3, hR]
  obtain ⟨J, hJ⟩ : ∃ J, getJ b q R.data.toList [] = J := ⟨_, rfl⟩
  rw [hJ]
  have HJ := Lib.hid hJ
  have HB4 := Lib.hid hb4
  clear hl hRs hJ
  go_enter Tryd.func48, Tryd.ntmps48
  go_wp2_with fail
  refine hn.mono ?_
  rintro e w1 ⟨B, rfl, hB, hlo, hH⟩
  have HH := Lib.hid hH.c
  have HL := Lib.hid hlo
  have HB1 := Lib.hid hB
  clear hn hH hlo hB
  go_wp2
  go_quiet (exact Calls.quiet_of_same ((hg _).mono fun _ _ h => ⟨h.1, h.2.symm⟩))
  have HH1 : Hid (Hc w.heap.size 66 B b (.slice none 0 0) [] (w1.drewN nq)) := Lib.hid (HH.out.below (below_drewN' (Below.refl _ _) _))
  have HB2 := Lib.hid (below_drewN' HB1.out nq)
  clear HH HB1 hg
  generalize w1.drewN nq = W at *
  go_wp2
  go_loopg [8, 36] q (fun g s8 s36 wx => ∃ (i : Nat) (P : ByteArray) (l : List Hit) (v : Value), i + g = q ∧ s36 = .int .i64 i ∧ s8 = .string P ∧ l.length = i ∧ 10 * g ≤ P.size ∧ P.size ≤ 9223372036854775807 ∧ Hid (getJ b g P.data.toList l = J) ∧ Hid (Sofar b l) ∧ Hid (Hc w.heap.size 66 B b v l wx) ∧ Hid (Below w.heap.size w wx))
  case atStart => exact ⟨0, R, [], _, by omega, rfl, rfl, rfl, hRq, hRm, HJ, Lib.hid (Sofar.nil b), HH1, HB2⟩
  case round =>
    clear HH1 HB2 HJ
    obtain ⟨i, P, l, v, hig, rfl, rfl, hli, hPg, hPm, HJ, HS, HH, HB⟩ := hrel
    subst hli
    cases gk with
    | zero =>
      obtain rfl : l.length = q := by omega
      obtain rfl : some (l, P.data.toList) = J := HJ.out
      obtain ⟨p, cap, rfl, hcap, hmax⟩ := HH.out.row.cap
      have hcn := count_row HH.out.c1 HH.out.row (by omega) HS.out.small
      clear hcap hmax
      by_cases hc : countH l ≤ 1099511627776
      · have HC := Lib.hid hc
        have hcd : decide ((1099511627776 : Int) < (countH l : Int)) = false := decide_eq_false (by omega)
        obtain ⟨c, hce⟩ : ∃ c, countH l = c := ⟨_, rfl⟩
        rw [hce] at hcn hcd hc
        clear hce
        go_wp2_with fail
        refine hcn.mono ?_
        rintro e w2 ⟨rfl, hB2⟩
        have HH2 := Lib.hid ((HH.out.s (HS.out.inv HB4.out HC.out)).below hB2)
        have HB2 := Lib.hid (below_on HB.out hB2 (Nat.le_refl _))
        clear hcn hB2
        go_wp2
        go_ret3
        exact ⟨got_some HC.out HH2.out, HB2.out⟩
      · have HC := Lib.hid hc
        have hcd : decide ((1099511627776 : Int) < (countH l : Int)) = true := decide_eq_true (by omega)
        obtain ⟨c, hce⟩ : ∃ c, countH l = c := ⟨_, rfl⟩
        rw [hce] at hcn hcd hc
        clear hce
        go_wp2_with fail
        refine hcn.mono ?_
        rintro e w2 ⟨rfl, hB2⟩
        have HB2 := Lib.hid (below_on HB.out hB2 (Nat.le_refl _))
        clear hcn hB2
        go_wp2
        go_ret3
        exact ⟨got_over HC.out, HB2.out⟩
    | succ g =>
      have hsz : (P.extract 0 10).size = 10 := by simp [ByteArray.size_extract]; omega
      have hit := fun w => getitem_any (P.extract 0 10) hsz w
      have e10 : (P.extract 0 10).data.toList = P.data.toList.take 10 := by rw [extract_toList]; rfl
      rw [e10, item_take] at hit
      have hdr := drop_toList P 10
      have hxs := item_small P.data.toList
      have hJ := HJ.out
      unfold getJ at hJ
      rw [← hdr] at hJ
      obtain ⟨x, hx⟩ : ∃ x, itemB P.data.toList = x := ⟨_, rfl⟩
      rw [hx] at hit hJ hxs
      obtain ⟨a, m⟩ := x
      have HXS := Lib.hid hxs
      have hP10 : (P.extract 10 P.size).size + 10 = P.size := by simp [ByteArray.size_extract]; omega
      clear e10 hdr hx HJ hsz hxs
      have hi36 : (l.length : Int) < (q : Int) := by omega
      have hlen : l.length ≤ 65535 := by omega
      by_cases hmay : May b l ⟨a, m⟩
      · rw [if_pos hmay] at hJ
        have HJ := Lib.hid hJ
        have HM := Lib.hid hmay
        clear hJ hmay
        go_wp2_with fail
        refine (hit _).mono ?_
        rintro e w2 ⟨rfl, hB2⟩
        have hP := (Below.refl w2.heap.size w2).alloc (Nat.le_refl _) (.cells #[.int .i64 a, .int .u64 m] 66)
        have HH2 := Lib.hid ((HH.out.below hB2).below hP)
        have HX := Lib.hid (CellsAt.new #[.int .i64 a, .int .u64 m] 66 w2)
        have HB2 := Lib.hid ((below_on HB.out hB2 (Nat.le_refl _)).trans (hP.mono (Nat.le_trans HB.out.size hB2.size)))
        have hmy := may_yes HH2.out HB4.out hlen ⟨a, m⟩ HM.out
        clear hit hB2 hP HH HB
        go_wp2_with fail
        refine hmy.mono ?_
        rintro e w5 ⟨rfl, hB5⟩
        have H5 := Lib.hid (HH2.out.below hB5)
        have hX5 := HX.out.below hB5
        have HB5 := Lib.hid (below_on HB2.out hB5 (Nat.le_refl _))
        have x0 := hX5.cell 0 _ rfl
        have x1 := hX5.cell 1 _ rfl
        have k1 := H5.out.c1
        have hBl := H5.out.lt
        obtain ⟨i0, hi0, hz⟩ := Option.map_eq_some_iff.1 info_item
        simp only [Prod.mk.injEq] at hz
        obtain ⟨hz0, hz1, hz2⟩ := hz
        have HI0 := Lib.hid hi0
        have HZ0 := Lib.hid hz0
        have HZ1 := Lib.hid hz1
        have HZ2 := Lib.hid hz2
        clear hmy hB5 hX5 HX HH2 HB2 hi0 hz0 hz1 hz2
        generalize w2.heap.size = X at *
        go_wp2
        go_region_law ((refine step_append_at _ rfl (.tmp 49) (.tmp 51) 62 rfl w.heap.size 66 i0 _ 2 16 Tryd.underlying62 HI0.out HZ0.out HZ1.out HZ2.out rfl (by decide) v l.length (flat l) (by simp [Act.eval]) (World.ownsRow.alloc H5.out.row _) ⟨w5.heap.size, 0, none⟩ 1 1 [.int .i64 a, .int .u64 m] (by simp [Act.eval]) rfl (new_row [.int .i64 a, .int .u64 m] 66 w5) (one_cells ⟨a, m⟩) (by unfold maxLen; omega) (by omega) (by have := HB5.out.size; simp; omega) ?_); (intro v' w1' ho hg hat); (obtain ⟨gn, capn, rfl⟩ := own_shape ho); have h' := (H5.out.below ((Below.refl w5.heap.size w5).alloc (Nat.le_refl _) (.cells #[.int .i64 a, .int .u64 m] 66))).drew; have hs1 := h'.stored (Mov.grown hg) (its_append (x := ⟨a, m⟩) ho) hat; have y1 := ((Mov.grown hg).cell (i := 1) h'.lt h'.ne).trans h'.c1; have y2 := ((Mov.grown hg).frozen (i := 1) h'.lt h'.ne).trans h'.f1; have HS1 := Lib.hid hs1; clear hs1 hg hat ho h')
        all_goals
          go_wp2
          go_roundg g
          case measure => omega
          case rel =>
            refine ⟨l.length + 1, P.extract 10 P.size, l ++ [⟨a, m⟩], _, by omega, by go_num, rfl, by rw [List.length_append, List.length_singleton], by omega, by omega, HJ, Lib.hid (HS.out.snoc HM.out HXS.out), Lib.hid HS1.out.1, Lib.hid ?_⟩
            have hb6 := HB5.out.trans (((Below.refl w5.heap.size w5).alloc (Nat.le_refl _) (.cells #[.int .i64 a, .int .u64 m] 66)).drew.mono HB5.out.size)
            refine below_mov hb6 HS1.out.2 (fun k hk => ?_) (Nat.le_refl _)
            rcases hk with rfl | e
            · exact HL.out
            · exact (H5.out.row.lt e).1
      · rw [if_neg hmay] at hJ
        subst hJ
        have HM := Lib.hid hmay
        clear hmay
        go_wp2_with fail
        refine (hit _).mono ?_
        rintro e w2 ⟨rfl, hB2⟩
        have hP := (Below.refl w2.heap.size w2).alloc (Nat.le_refl _) (.cells #[.int .i64 a, .int .u64 m] 66)
        have HH2 := Lib.hid ((HH.out.below hB2).below hP)
        have HB2 := Lib.hid ((below_on HB.out hB2 (Nat.le_refl _)).trans (hP.mono (Nat.le_trans HB.out.size hB2.size)))
        have hmy := may_no HH2.out HB4.out hlen ⟨a, m⟩ HM.out
        clear hit hB2 hP HH HB
        go_wp2_with fail
        refine hmy.mono ?_
        rintro e w5 ⟨rfl, hB5⟩
        have HB5 := Lib.hid (below_on HB2.out hB5 (Nat.le_refl _))
        clear hmy hB5 HH2 HB2
        go_wp2
        go_ret3
        exact ⟨got_none, HB5.out⟩
/-- What Get answers, and leaves. -/
def GotV (N : Nat) (r : Option (Nat × List Hit × List UInt8)) (e : Ending) (w' : World) : Prop :=
  match r with
  | none => e = .returned noneV
  | some (k, l, t) => ∃ B v, e = .returned (.tuple #[.pointer (some ⟨B, 0, none⟩), .string (tx t), .int .i64 0]) ∧ Hs N 66 B k v l w'
theorem get_any (s : ByteArray) (hm : s.size ≤ maxLen) (w : World) :
    Calls Tryd.prog 48 #[.string s] w fun e w' => GotV w.heap.size (getF s.data.toList) e w' ∧ Below w.heap.size w w' := by
  have hls := list_size s
  by_cases h1 : s.size < 3
  · rw [getF_short (by omega)]
    exact get_short s h1 w
  · by_cases h2 : 4 < numB (s.data.toList.take 1)
    · rw [getF_bits h2]
      exact get_bits s (by omega) hm h2 w
    · by_cases h3 : s.size - 3 < 10 * numB ((s.data.toList.drop 1).take 2)
      · rw [getF_less (by omega)]
        exact get_less s (by omega) hm h2 h3 w
      · rw [getF_J (by omega) h2 (by omega)]
        refine (get_run s (by omega) hm h2 h3 w).mono ?_
        rintro e w' ⟨h4, h5⟩
        refine ⟨?_, h5⟩
        unfold Got at h4
        unfold GotV
        cases hj : (getJ (numB (s.data.toList.take 1)) (numB ((s.data.toList.drop 1).take 2)) (s.data.toList.drop 3) []) with
        | none => rw [hj] at h4; exact h4
        | some p =>
          rw [hj] at h4
          by_cases hc : countH p.1 ≤ 1099511627776
          · simp only [Option.bind_some, if_pos hc] at h4 ⊢
            exact h4
          · simp only [Option.bind_some, if_neg hc] at h4 ⊢
            exact h4
end Go.Proofs.YtmjipafhahggpaaDoor.Hi

namespace Go.Proofs.YtmjipafhahggpaaDoor.Hi
open Go Go.RowKit

/-- A change of a histogram that is the call's own. -/
theorem Left.step {N B k : Nat} {v : Value} {l l' : List Hit} {code : Value} {w0 w w' : World} {e : Ending} (h : Hs N 66 B k v l w) (hB : Below w0.heap.size w0 w) (hN : w0.heap.size ≤ N) (hL : Left N 66 B k v l' code w e w') :
    e = .returned code ∧ Below w0.heap.size w0 w' ∧ ∃ v', Hs N 66 B k v' l' w' := by
  obtain ⟨rfl, v', h', hM, _⟩ := hL
  refine ⟨rfl, below_mov hB hM (fun j hj => ?_) (Nat.le_refl _), v', h'⟩
  rcases hj with rfl | e
  · exact Nat.le_trans hN h.lo
  · exact Nat.le_trans hN (h.row.lt e).1
theorem getF_put {k : Nat} {l : List Hit} (h : Inv k l) (t : List UInt8) : getF (putH k l ++ t) = some (k, l, t) := by
  refine getH_put okF k h.hk l (by have := h.len; omega) h.ris.1 (fun x hx => ?_) h.sum t
  have := fits_small k h.hk _ (h.fit x hx)
  exact ⟨decide_eq_true (h.fit x hx), by omega, by omega, h.ris.2 x hx⟩
theorem getF_cut {k : Nat} {l : List Hit} (h : Inv k l) (n : Nat) (hn : n < (putH k l).length) : getF ((putH k l).take n) = none :=
  getH_cut okF k h.hk l (by have := h.len; omega) n hn
theorem tx_append_list (l : List UInt8) (s : ByteArray) : (tx l ++ s).data.toList = l ++ s.data.toList := by
  simp [tx, ByteArray.data_append]
theorem get_put_any {k : Nat} {l : List Hit} (h : Inv k l) (s : ByteArray) (hs : (tx (putH k l) ++ s).size ≤ maxLen) (w : World) :
    Calls Tryd.prog 48 #[.string (tx (putH k l) ++ s)] w fun e w' => ∃ B v, e = .returned (.tuple #[.pointer (some ⟨B, 0, none⟩), .string s, .int .i64 0]) ∧ Hs w.heap.size 66 B k v l w' ∧ Below w.heap.size w w' := by
  refine (get_any _ hs w).mono ?_
  rintro e w' ⟨h1, h2⟩
  rw [tx_append_list, getF_put h] at h1
  obtain ⟨B, v, h3, h4⟩ := h1
  exact ⟨B, v, by rw [h3, tx_list], h4, h2⟩
theorem ex_items : more ⟨ofI 1 100, 1⟩ (more ⟨ofI 1 7, 1⟩ (more ⟨ofI 1 6, 1⟩ [])) = [⟨5, 2⟩, ⟨13, 1⟩] := by decide
theorem x120 : (ByteArray.mk #[120]).size = 1 := rfl
end Go.Proofs.YtmjipafhahggpaaDoor.Hi

namespace Go.Proofs.YtmjipafhahggpaaDoor.Hi
open Go Go.RowKit

/-- A slice of numbers of 64 bits. -/
def Ints (p : Option Addr) (xs : List Int) (w : World) : Prop :=
  ∀ k (h : k < xs.length), ∃ B off, p = some ⟨B, off, none⟩ ∧ B < w.heap.size ∧ w.cell? ⟨B, off + k, none⟩ = some (.int .i64 xs[k]) ∧ In64 xs[k]
theorem Ints.below {p : Option Addr} {xs : List Int} {w w' : World} (h : Ints p xs w) (hB : Below w.heap.size w w') : Ints p xs w' := fun k hk => by
  obtain ⟨B, off, h1, h2, h3, h4⟩ := h k hk
  exact ⟨B, off, h1, Nat.lt_of_lt_of_le h2 hB.size, (hB.cell (p := ⟨B, off + k, none⟩) h2).trans h3, h4⟩
theorem Ints.nil (p : Option Addr) (w : World) : Ints p [] w := fun _ h => absurd h (Nat.not_lt_zero _)
theorem Ints.take {p : Option Addr} {xs : List Int} {w : World} (h : Ints p xs w) (n : Nat) : Ints p (xs.take n) w := fun k hk => by
  rw [List.length_take] at hk
  obtain ⟨B, off, h1, h2, h3, h4⟩ := h k (by omega)
  exact ⟨B, off, h1, h2, by rw [h3, List.getElem_take], by rw [List.getElem_take]; exact h4⟩
theorem Ints.in64 {p : Option Addr} {xs : List Int} {w : World} (h : Ints p xs w) : ∀ x ∈ xs, In64 x := fun x hx => by
  obtain ⟨k, hk, rfl⟩ := List.mem_iff_getElem.1 hx
  obtain ⟨B, off, h1, h2, h3, h4⟩ := h k hk
  exact h4
/-- The items of numbers. -/
def itemsN (k : Nat) (xs : List Int) : List Hit := itemsOf (xs.map (ofI k))
theorem itemsN_snoc {k : Nat} {xs : List Int} {i : Nat} (h : i < xs.length) : itemsN k (xs.take (i + 1)) = more ⟨ofI k xs[i], 1⟩ (itemsN k (xs.take i)) := by
  unfold itemsN
  rw [List.take_add_one, List.getElem?_eq_getElem h, List.map_append]
  exact itemsOf_snoc _ _
theorem itemsN_count (k : Nat) (xs : List Int) : countH (itemsN k xs) = xs.length := by unfold itemsN; rw [itemsOf_count, List.length_map]
end Go.Proofs.YtmjipafhahggpaaDoor.Hi

