/- The chapter's own Get: what bytes begin with. -/
import Derived.Test.YtdcdhbkgeipdjaaHiRm
import Derived.Test.YtdcdhbkgeipdjaaHiBeh
namespace Go.Proofs.Ytdcdhbkgeipdjaa
open Go Go.RowKit

/-- What the chapter's Get answers, and leaves. -/
def GotR (N : Nat) (r : Option (Nat × List Hit × List UInt8)) (e : Ending) (w' : World) : Prop :=
  match r with
  | none => e = .returned noneV
  | some (k, l, t) => ∃ B v, e = .returned (.tuple #[.pointer (some ⟨B, 0, none⟩), .string (tx t), .int .i64 0]) ∧ Hs N 83 B k v l w'
set_option maxRecDepth 100000 in
set_option maxHeartbeats 800000 in
theorem ref_get_short (s : ByteArray) (h : s.size < 3) (w : World) :
    Calls Try.prog 27 #[.string s] w fun e w' => e = .returned noneV ∧ Below w.heap.size w w' := by
  unfold noneV
  go_enter Try.func27, Try.ntmps27
  go_wp2
  go_ret3
  exact ⟨rfl, Below.refl _ _⟩
set_option maxRecDepth 100000 in
set_option maxHeartbeats 800000 in
theorem ref_get_bits (s : ByteArray) (h : 3 ≤ s.size) (hm : s.size ≤ maxLen) (hb : 4 < numB (s.data.toList.take 1)) (w : World) :
    Calls Try.prog 27 #[.string s] w fun e w' => e = .returned noneV ∧ Below w.heap.size w w' := by
  unfold noneV
  unfold maxLen at hm
  have hs0 : 0 < s.size := by omega
  rw [first_num hs0] at hb
  have hbi : (4 : Int) < ((s[0]'hs0).toNat : Int) := by omega
  go_enter Try.func27, Try.ntmps27
  go_wp2
  go_ret3
  exact ⟨rfl, Below.refl _ _⟩
set_option maxRecDepth 100000 in
set_option maxHeartbeats 800000 in
theorem ref_get_less (s : ByteArray) (h : 3 ≤ s.size) (hm : s.size ≤ maxLen) (hb : ¬ 4 < numB (s.data.toList.take 1)) (hl : s.size - 3 < 10 * numB ((s.data.toList.drop 1).take 2)) (w : World) :
    Calls Try.prog 27 #[.string s] w fun e w' => e = .returned noneV ∧ Below w.heap.size w w' := by
  unfold noneV
  unfold maxLen at hm
  have hs0 : 0 < s.size := by omega
  rw [first_num hs0] at hb
  obtain ⟨b, hb0⟩ : ∃ b, (s[0]'hs0).toNat = b := ⟨_, rfl⟩
  have hw : wrap64 ((s[0]'hs0).toNat : Int) = (b : Int) := by have := (s[0]'hs0).toNat_lt; rw [hb0] at this ⊢; unfold wrap64; omega
  rw [hb0] at hb
  have hn := ref_new_any b (by omega) w
  have hg := fun w => ref_number_any (s.extract 1 3) (by simp [ByteArray.size_extract]; omega) w
  have hq2 := num_two s 1 3 rfl
  rw [← show (s.extract 1 3).data.toList = (s.data.toList.drop 1).take 2 from extract_toList s 1 3] at hl
  obtain ⟨q, hq1⟩ : ∃ q, numB (s.extract 1 3).data.toList = q := ⟨_, rfl⟩
  rw [hq1] at hg hq2 hl
  clear hq1
  obtain ⟨R, hR⟩ : ∃ R, s.extract 3 s.size = R := ⟨_, rfl⟩
  have hRs : R.size = s.size - 3 := by rw [← hR]; simp [ByteArray.size_extract]
  have hlt : (R.size : Int) < 10 * (q : Int) := by omega
  have hRm : R.size ≤ 9223372036854775807 := by omega
  have hb4 : ¬ ((4 : Int) < (b : Int)) := by omega
  clear hl hRs hb
  go_enter Try.func27, Try.ntmps27
  go_wp2_with fail
  refine hn.mono ?_
  rintro e w1 ⟨B, rfl, hB, hH⟩
  clear hn hH
  go_wp2_with fail
  refine (hg _).mono ?_
  rintro e w2 ⟨rfl, rfl⟩
  clear hg
  go_wp2
  go_ret3
  exact ⟨rfl, hB⟩
theorem Hc.count {base B k : Nat} {v : Value} {l : List Hit} {w : World} (h : Hc base 83 B k v l w) (hl : l.length ≤ 65535) (hm : ∀ x ∈ l, x.many < 281474976710656) :
    Calls Try.prog 39 #[.pointer (some ⟨B, 0, none⟩)] w fun e w' => e = .returned (.int .u64 (countH l)) ∧ w = w' := by
  obtain ⟨p, cap, rfl, _⟩ := h.row.cap
  exact ref_count_row h.c1 h.row hl hm
theorem at_lo (u : Nat) (a : Int) (h : (u : Int) - 2147483648 = a) : -2147483648 ≤ a := by omega
theorem at_hi (u : Nat) (a : Int) (h : (u : Int) - 2147483648 = a) (hu : u < 4294967296) : a < 2147483648 := by omega
/-- What Get leaves of items, counted one by one. -/
def GotI (N k : Nat) (J : Option (List Hit × List UInt8)) (e : Ending) (w' : World) : Prop :=
  match J with
  | none => e = .returned noneV
  | some (l, t) => ∃ B v, e = .returned (.tuple #[.pointer (some ⟨B, 0, none⟩), .string (tx t), .int .i64 0]) ∧ Hs N 83 B k v l w'
theorem getI_bad {k n : Nat} {s : List UInt8} {l : List Hit} (hm : ¬ May k l (itemB s)) : getI (okF k) (n + 1) s l = none := by
  have hn : (okF k ((numB (s.take 4) : Int) - 2147483648) = false ∨ numB ((s.drop 4).take 6) = 0 ∨ ∃ y, l.getLast? = some y ∧ (numB (s.take 4) : Int) - 2147483648 ≤ y.at_) := not_may.2 hm
  unfold getI
  simp only [if_pos hn]
theorem getI_over {k n : Nat} {s : List UInt8} {l : List Hit} (hm : May k l (itemB s)) (hc : 1099511627776 < countH (l ++ [itemB s])) : getI (okF k) (n + 1) s l = none := by
  have hn : ¬ (okF k ((numB (s.take 4) : Int) - 2147483648) = false ∨ numB ((s.drop 4).take 6) = 0 ∨ ∃ y, l.getLast? = some y ∧ (numB (s.take 4) : Int) - 2147483648 ≤ y.at_) := fun h => not_may.1 h hm
  unfold getI
  simp only [if_neg hn]
  have ex : (⟨(numB (s.take 4) : Int) - 2147483648, numB ((s.drop 4).take 6)⟩ : Hit) = itemB s := rfl
  rw [ex, if_pos hc]
theorem getI_on {k n : Nat} {s : List UInt8} {l : List Hit} (hm : May k l (itemB s)) (hc : ¬ 1099511627776 < countH (l ++ [itemB s])) : getI (okF k) (n + 1) s l = getI (okF k) n (s.drop 10) (l ++ [itemB s]) := by
  have hn : ¬ (okF k ((numB (s.take 4) : Int) - 2147483648) = false ∨ numB ((s.drop 4).take 6) = 0 ∨ ∃ y, l.getLast? = some y ∧ (numB (s.take 4) : Int) - 2147483648 ≤ y.at_) := fun h => not_may.1 h hm
  have h1 : getI (okF k) (n + 1) s l = if 1099511627776 < countH (l ++ [itemB s]) then none else getI (okF k) n (s.drop 10) (l ++ [itemB s]) := by
    rw [getI]
    simp only [if_neg hn]
    rfl
  rw [h1, if_neg hc]
set_option maxRecDepth 100000 in
set_option maxHeartbeats 4000000 in
theorem ref_get_run (s : ByteArray) (h : 3 ≤ s.size) (hm : s.size ≤ maxLen) (hb : ¬ 4 < numB (s.data.toList.take 1)) (hl : ¬ s.size - 3 < 10 * numB ((s.data.toList.drop 1).take 2)) (w : World) :
    Calls Try.prog 27 #[.string s] w fun e w' => GotI w.heap.size (numB (s.data.toList.take 1)) (getI (okF (numB (s.data.toList.take 1))) (numB ((s.data.toList.drop 1).take 2)) (s.data.toList.drop 3) []) e w' ∧ Below w.heap.size w w' := by
  unfold maxLen at hm
  have hs0 : 0 < s.size := by omega
  rw [first_num hs0] at hb ⊢
  obtain ⟨b, hb0⟩ : ∃ b, (s[0]'hs0).toNat = b := ⟨_, rfl⟩
  have hw : wrap64 ((s[0]'hs0).toNat : Int) = (b : Int) := by have := (s[0]'hs0).toNat_lt; rw [hb0] at this ⊢; unfold wrap64; omega
  rw [hb0] at hb ⊢
  have hb4 : b ≤ 4 := by omega
  have hb5 : ¬ ((4 : Int) < (b : Int)) := by omega
  have hn := ref_new_any b hb4 w
  clear hb
  have hg := fun w => ref_number_any (s.extract 1 3) (by simp [ByteArray.size_extract]; omega) w
  have hq2 := num_two s 1 3 rfl
  rw [← show (s.extract 1 3).data.toList = (s.data.toList.drop 1).take 2 from extract_toList s 1 3] at hl ⊢
  obtain ⟨q, hq1⟩ : ∃ q, numB (s.extract 1 3).data.toList = q := ⟨_, rfl⟩
  rw [hq1] at hg hq2 hl ⊢
  clear hq1
  obtain ⟨R, hR⟩ : ∃ R, s.extract 3 s.size = R := ⟨_, rfl⟩
  have hRs : R.size = s.size - 3 := by rw [← hR]; simp [ByteArray.size_extract]
  have hlt : ¬ ((R.size : Int) < 10 * (q : Int)) := by omega
  have hRm : R.size ≤ 9223372036854775807 := by omega
  have hRq : 10 * q ≤ R.size := by omega
  rw [← drop_toList s 3, hR]
  obtain ⟨J, hJ⟩ : ∃ J, getI (okF b) q R.data.toList [] = J := ⟨_, rfl⟩
  rw [hJ]
  have HJ := Lib.hid hJ
  have HB4 := Lib.hid hb4
  clear hl hRs hJ
  go_enter Try.func27, Try.ntmps27
  go_wp2_with fail
  refine hn.mono ?_
  rintro e w1 ⟨B, rfl, hB, hH⟩
  have HH1 := Lib.hid hH.c
  have HB2 := Lib.hid hB
  have HL := Lib.hid hH.lo
  clear hn hH hB
  go_wp2_with fail
  refine (hg _).mono ?_
  rintro e w2 ⟨rfl, rfl⟩
  clear hg
  go_wp2
  go_loopg [7, 8] q (fun g s7 s8 wx => ∃ (i : Nat) (P : ByteArray) (l : List Hit) (v : Value), i + g = q ∧ s8 = .int .i64 i ∧ s7 = .string P ∧ l.length = i ∧ 10 * g ≤ P.size ∧ P.size ≤ 9223372036854775807 ∧ Hid (getI (okF b) g P.data.toList l = J) ∧ Hid (Sofar b l ∧ countH l ≤ 1099511627776) ∧ Hid (Hc w.heap.size 83 B b v l wx) ∧ Hid (Below w.heap.size w wx))
  case atStart => exact ⟨0, R, [], _, by omega, rfl, rfl, rfl, hRq, hRm, HJ, Lib.hid ⟨Sofar.nil b, by simp [countH]⟩, HH1, HB2⟩
  case round =>
    clear HH1 HB2 HJ
    obtain ⟨i, P, l, v, hig, rfl, rfl, hli, hPg, hPm, HJ, HS, HH, HB⟩ := hrel
    subst hli
    cases gk with
    | zero =>
      obtain rfl : l.length = q := by omega
      obtain rfl : some (l, P.data.toList) = J := HJ.out
      have HR := Lib.hid (show GotI w.heap.size b (some (l, P.data.toList)) (.returned (.tuple #[.pointer (some ⟨B, 0, none⟩), .string P, .int .i64 0])) wr from ⟨B, v, by rw [tx_list], HH.out.s (HS.out.1.inv HB4.out HS.out.2)⟩)
      go_wp2
      go_ret3
      exact ⟨HR.out, HB.out⟩
    | succ g =>
      have hsz4 : (P.extract 0 4).size = 4 := by simp [ByteArray.size_extract]; omega
      have hsz6 : (P.extract 4 10).size = 6 := by simp [ByteArray.size_extract]; omega
      have hn4 := fun w => ref_number_any (P.extract 0 4) (by omega) w
      have hn6 := fun w => ref_number_any (P.extract 4 10) (by omega) w
      have e4 : (P.extract 0 4).data.toList = P.data.toList.take 4 := by rw [extract_toList]; rfl
      have e6 : (P.extract 4 10).data.toList = (P.data.toList.drop 4).take 6 := by rw [extract_toList]
      rw [e4] at hn4
      rw [e6] at hn6
      have hdr := drop_toList P 10
      have hxs := item_small P.data.toList
      have h4b := num_lt4 P.data.toList
      have hxa : (itemB P.data.toList).at_ = (numB (P.data.toList.take 4) : Int) - 2147483648 := rfl
      have hxm : (itemB P.data.toList).many = numB ((P.data.toList.drop 4).take 6) := rfl
      have hbad := fun hm => getI_bad (k := b) (n := g) (s := P.data.toList) (l := l) hm
      have hover := fun hm hc => getI_over (k := b) (n := g) (s := P.data.toList) (l := l) hm hc
      have hon := fun hm hc => getI_on (k := b) (n := g) (s := P.data.toList) (l := l) hm hc
      rw [← hdr] at hon
      generalize itemB P.data.toList = x at hbad hover hon hxs hxa hxm
      generalize numB (P.data.toList.take 4) = u at hn4 h4b hxa
      generalize numB ((P.data.toList.drop 4).take 6) = m at hn6 hxm
      obtain ⟨a, m'⟩ := x
      have ha : (u : Int) - 2147483648 = a := hxa.symm
      obtain rfl : m' = m := hxm
      clear hxa
      have hP10 : (P.extract 10 P.size).size + 10 = P.size := by simp [ByteArray.size_extract]; omega
      have HBAD := Lib.hid hbad
      have HOVER := Lib.hid hover
      have HON := Lib.hid hon
      have HXS := Lib.hid hxs
      have hmb : m' < 281474976710656 := hxs
      generalize m' = m at *
      have HA := Lib.hid ha
      clear ha
      clear hbad hover hon hxs hdr e4 e6 hsz4 hsz6
      have hi36 : (l.length : Int) < (q : Int) := by omega
      have hlen : l.length ≤ 65535 := by omega
      have hPs : (10 : Int) ≤ (P.size : Int) := by omega
      have hPs2 : 10 ≤ P.size := by omega
      have c0 := HH.out.c0
      by_cases hf : Fits b a
      case neg =>
        have hbd := ref_bounds_no b HB4.out a hf wr
        go_wp2_with fail
        refine (hn4 _).mono ?_
        rintro e w3 ⟨rfl, rfl⟩
        go_wp2_with fail
        rw [HA.out]
        refine (hn6 _).mono ?_
        rintro e w4 ⟨rfl, rfl⟩
        clear hn4 hn6
        go_wp2_with fail
        refine hbd.mono ?_
        rintro e w5 ⟨rfl, hB5⟩
        have HH5 := Lib.hid (HH.out.below hB5)
        have HB5 := Lib.hid (below_on HB.out hB5 (Nat.le_refl _))
        clear hbd hB5
        have hJ : getI (okF b) (g + 1) P.data.toList l = none := HBAD.out (fun h => hf h.1)
        have HJ2 : Hid (none = J) := Lib.hid (hJ ▸ HJ.out)
        clear hJ
        go_wp2
        go_ret3
        exact ⟨by rw [← HJ2.out]; rfl, HB5.out⟩
      have hbd := ref_bounds_any b HB4.out a hf wr
      by_cases hm0 : m = 0
      case pos =>
        have hmI : ((m : Int) == 0) = true := by simp [hm0]
        have HM0 := Lib.hid hm0
        clear hm0
        go_wp2_with fail
        refine (hn4 _).mono ?_
        rintro e w3 ⟨rfl, rfl⟩
        go_wp2_with fail
        rw [HA.out]
        refine (hn6 _).mono ?_
        rintro e w4 ⟨rfl, rfl⟩
        clear hn4 hn6
        go_wp2_with fail
        refine hbd.mono ?_
        rintro e w5 ⟨rfl, hB5⟩
        have HH5 := Lib.hid (HH.out.below hB5)
        have HB5 := Lib.hid (below_on HB.out hB5 (Nat.le_refl _))
        clear hbd hB5
        have hJ : getI (okF b) (g + 1) P.data.toList l = none := HBAD.out (fun h => by have h2 := h.2.1; have := HM0.out; simp only at h2; omega)
        have HJ2 : Hid (none = J) := Lib.hid (hJ ▸ HJ.out)
        clear hJ
        go_wp2
        go_ret3
        exact ⟨by rw [← HJ2.out]; rfl, HB5.out⟩
      have hmI : ((m : Int) == 0) = false := beq_false_of_ne (by omega)
      have hmI2 : ¬ ((m : Int) = 0) := by omega
      by_cases hl0 : l.length = 0
      · have HM : Hid (May b l ⟨a, m⟩) := Lib.hid ⟨hf, by show 0 < m; omega, fun y hy => by rw [List.eq_nil_of_length_eq_zero hl0] at hy; cases hy⟩
        have hlI : decide ((0 : Int) < (l.length : Int)) = false := decide_eq_false (by omega)
        have hlI2 : decide (0 < l.length) = false := decide_eq_false (by omega)
        have hlI3 : ¬ (0 < l.length) := by omega
        clear hl0 hm0
        go_wp2_with fail
        refine (hn4 _).mono ?_
        rintro e w3 ⟨rfl, rfl⟩
        go_wp2_with fail
        rw [HA.out]
        refine (hn6 _).mono ?_
        rintro e w4 ⟨rfl, rfl⟩
        clear hn4 hn6
        go_wp2_with fail
        refine hbd.mono ?_
        rintro e w5 ⟨rfl, hB5⟩
        have HH5 := Lib.hid (HH.out.below hB5)
        have HB5 := Lib.hid (below_on HB.out hB5 (Nat.le_refl _))
        clear hbd hB5
        have k1 := HH5.out.c1
        obtain ⟨v', w', hr, ho, hM, hat⟩ := append_rits (l := l) (xs := [⟨a, m⟩]) (p := some ⟨w5.heap.size, 0, none⟩) (c := 1) (w := w5.alloc (.cells #[.int .i64 a, .int .u64 m] 83)) 75 (HH5.out.row.below ((Below.refl _ _).alloc (Nat.le_refl _) _)) (.inr ⟨_, rfl, fun j u hj => by
          rw [Addr.add_lit, Nat.zero_add]
          exact (CellsAt.new #[.int .i64 a, .int .u64 m] 83 w5).cell j u (by simpa [flat_one, encI] using hj)⟩) (by simp; omega) (by have := HB5.out.size; simp; omega)
        have hP := (Below.refl w5.heap.size w5).alloc (Nat.le_refl _) (.cells #[.int .i64 a, .int .u64 m] 83)
        have h' := HH5.out.below hP
        have hsh : ∃ g3 n3 cap3, v' = .slice (some ⟨g3, 0, none⟩) n3 cap3 := by
          obtain ⟨g3, cap3, e3, _⟩ := ho.form_pos (by simp)
          exact ⟨g3, _, cap3, e3⟩
        obtain ⟨g3, n3, cap3, rfl⟩ := hsh
        have hst := h'.stored hM ho hat
        have y1 := (hM.cell (i := 1) h'.lt h'.ne).trans h'.c1
        have y2 := (hM.frozen (i := 1) h'.lt h'.ne).trans h'.f1
        have HS6 := Lib.hid (HS.out.1.snoc HM.out HXS.out)
        have HH6 := Lib.hid hst.1
        have HB6 := Lib.hid (below_mov (HB5.out.trans (hP.mono HB5.out.size)) hst.2 (fun k hk => by
          rcases hk with rfl | e
          · exact HL.out
          · exact (HH5.out.row.lt e).1) (Nat.le_refl _))
        have hcn := HH6.out.count (by rw [List.length_append, List.length_singleton]; omega) HS6.out.small
        have HCN := Lib.hid hcn
        clear hM hat hst h' hP ho hcn
        go_wp2_with (at_builtin; refine Lib.wpList_append_run _ rfl _ _ _ _ rfl _ _ rfl rfl _ _ hr ?_)
        refine HCN.out.mono ?_
        rintro e w7 ⟨rfl, rfl⟩
        by_cases hc : 1099511627776 < countH (l ++ [⟨a, m⟩])
        · have hJ : getI (okF b) (g + 1) P.data.toList l = none := HOVER.out HM.out hc
          have HJ2 : Hid (none = J) := Lib.hid (hJ ▸ HJ.out)
          have hcd : decide ((1099511627776 : Int) < (countH (l ++ [⟨a, m⟩]) : Int)) = true := decide_eq_true (by omega)
          clear hJ hr y1 y2 k1
          obtain ⟨cc, hce⟩ : ∃ cc, countH (l ++ [⟨a, m⟩]) = cc := ⟨_, rfl⟩
          rw [hce] at hcd ⊢
          clear hce
          go_wp2
          go_ret3
          exact ⟨by rw [← HJ2.out]; rfl, HB6.out⟩
        · have hJ := HON.out HM.out hc
          have HJ2 : Hid (getI (okF b) g (P.extract 10 P.size).data.toList (l ++ [⟨a, m⟩]) = J) := Lib.hid (hJ ▸ HJ.out)
          have hcd : decide ((1099511627776 : Int) < (countH (l ++ [⟨a, m⟩]) : Int)) = false := decide_eq_false (by omega)
          have HCL : Hid (countH (l ++ [⟨a, m⟩]) ≤ 1099511627776) := Lib.hid (by omega)
          clear hJ hr y1 y2 k1
          obtain ⟨cc, hce⟩ : ∃ cc, countH (l ++ [⟨a, m⟩]) = cc := ⟨_, rfl⟩
          rw [hce] at hcd ⊢
          clear hce
          go_wp2
          go_roundg g
          case measure => omega
          case rel => exact ⟨l.length + 1, P.extract 10 P.size, l ++ [⟨a, m⟩], _, by omega, by go_num, rfl, by rw [List.length_append, List.length_singleton], by omega, by omega, HJ2, Lib.hid ⟨HS6.out, HCL.out⟩, HH6, HB6⟩
      · have hlI : decide ((0 : Int) < (l.length : Int)) = true := decide_eq_true (by omega)
        have hlI2 : decide (0 < l.length) = true := decide_eq_true (by omega)
        have hlI3 : 0 < l.length := by omega
        obtain ⟨gr, capr, rfl, hbr, hgr, hcapr, hmaxr, hcellr, hfror⟩ := HH.out.row.form_pos hlI3
        obtain ⟨d0, _⟩ := hcellr (l.length - 1) (by omega)
        have hlast := getLast_at hlI3
        obtain ⟨z, hz⟩ : ∃ z, l[l.length - 1]!.at_ = z := ⟨_, rfl⟩
        obtain ⟨j1, hj1⟩ : ∃ j1, l.length - 1 = j1 := ⟨_, rfl⟩
        have HZ := Lib.hid hz
        have HLA := Lib.hid hlast
        rw [hz, hj1] at d0
        have hjI : (l.length : Int) - 1 = (j1 : Int) := by omega
        have hjlt : (j1 : Int) < (l.length : Int) := by omega
        unfold maxLen at hmaxr
        clear hz hlast hcellr hfror hj1 hm0 hl0 hbr
        by_cases hza : z < a
        · have HM : Hid (May b l ⟨a, m⟩) := Lib.hid ⟨hf, by show 0 < m; omega, fun y hy => by
            rw [HLA.out] at hy
            cases hy
            rw [HZ.out]
            exact hza⟩
          have hzd : decide (a ≤ z) = false := decide_eq_false (by omega)
          go_wp2_with fail
          refine (hn4 _).mono ?_
          rintro e w3 ⟨rfl, rfl⟩
          go_wp2_with fail
          rw [HA.out]
          refine (hn6 _).mono ?_
          rintro e w4 ⟨rfl, rfl⟩
          clear hn4 hn6
          go_wp2_with fail
          refine hbd.mono ?_
          rintro e w5 ⟨rfl, hB5⟩
          have d5 := (hB5.cell (p := ⟨gr, j1 * 2, none⟩) hgr).trans d0
          have k5 := (HH.out.below hB5).c1
          have HH5 := Lib.hid (HH.out.below hB5)
          have HB5 := Lib.hid (below_on HB.out hB5 (Nat.le_refl _))
          clear hbd hB5
          have k1 := HH5.out.c1
          clear d0
          obtain ⟨v', w', hr, ho, hM, hat⟩ := append_rits (l := l) (xs := [⟨a, m⟩]) (p := some ⟨w5.heap.size, 0, none⟩) (c := 1) (w := w5.alloc (.cells #[.int .i64 a, .int .u64 m] 83)) 75 (HH5.out.row.below ((Below.refl _ _).alloc (Nat.le_refl _) _)) (.inr ⟨_, rfl, fun j u hj => by
            rw [Addr.add_lit, Nat.zero_add]
            exact (CellsAt.new #[.int .i64 a, .int .u64 m] 83 w5).cell j u (by simpa [flat_one, encI] using hj)⟩) (by simp; omega) (by have := HB5.out.size; simp; omega)
          have hP := (Below.refl w5.heap.size w5).alloc (Nat.le_refl _) (.cells #[.int .i64 a, .int .u64 m] 83)
          have h' := HH5.out.below hP
          have hsh : ∃ g3 n3 cap3, v' = .slice (some ⟨g3, 0, none⟩) n3 cap3 := by
            obtain ⟨g3, cap3, e3, _⟩ := ho.form_pos (by simp)
            exact ⟨g3, _, cap3, e3⟩
          obtain ⟨g3, n3, cap3, rfl⟩ := hsh
          have hst := h'.stored hM ho hat
          have y1 := (hM.cell (i := 1) h'.lt h'.ne).trans h'.c1
          have y2 := (hM.frozen (i := 1) h'.lt h'.ne).trans h'.f1
          have HS6 := Lib.hid (HS.out.1.snoc HM.out HXS.out)
          have HH6 := Lib.hid hst.1
          have HB6 := Lib.hid (below_mov (HB5.out.trans (hP.mono HB5.out.size)) hst.2 (fun k hk => by
            rcases hk with rfl | e
            · exact HL.out
            · exact (HH5.out.row.lt e).1) (Nat.le_refl _))
          have hcn := HH6.out.count (by rw [List.length_append, List.length_singleton]; omega) HS6.out.small
          have HCN := Lib.hid hcn
          clear hM hat hst h' hP ho hcn
          go_wp2_with (at_builtin; refine Lib.wpList_append_run _ rfl _ _ _ _ rfl _ _ rfl rfl _ _ hr ?_)
          refine HCN.out.mono ?_
          rintro e w7 ⟨rfl, rfl⟩
          by_cases hc : 1099511627776 < countH (l ++ [⟨a, m⟩])
          · have hJ : getI (okF b) (g + 1) P.data.toList l = none := HOVER.out HM.out hc
            have HJ2 : Hid (none = J) := Lib.hid (hJ ▸ HJ.out)
            have hcd : decide ((1099511627776 : Int) < (countH (l ++ [⟨a, m⟩]) : Int)) = true := decide_eq_true (by omega)
            clear hJ hr y1 y2 k1 d5 k5
            obtain ⟨cc, hce⟩ : ∃ cc, countH (l ++ [⟨a, m⟩]) = cc := ⟨_, rfl⟩
            rw [hce] at hcd ⊢
            clear hce
            go_wp2
            go_ret3
            exact ⟨by rw [← HJ2.out]; rfl, HB6.out⟩
          · have hJ := HON.out HM.out hc
            have HJ2 : Hid (getI (okF b) g (P.extract 10 P.size).data.toList (l ++ [⟨a, m⟩]) = J) := Lib.hid (hJ ▸ HJ.out)
            have hcd : decide ((1099511627776 : Int) < (countH (l ++ [⟨a, m⟩]) : Int)) = false := decide_eq_false (by omega)
            have HCL : Hid (countH (l ++ [⟨a, m⟩]) ≤ 1099511627776) := Lib.hid (by omega)
            clear hJ hr y1 y2 k1 d5 k5
            obtain ⟨cc, hce⟩ : ∃ cc, countH (l ++ [⟨a, m⟩]) = cc := ⟨_, rfl⟩
            rw [hce] at hcd ⊢
            clear hce
            go_wp2
            go_roundg g
            case measure => omega
            case rel => exact ⟨l.length + 1, P.extract 10 P.size, l ++ [⟨a, m⟩], _, by omega, by go_num, rfl, by rw [List.length_append, List.length_singleton], by omega, by omega, HJ2, Lib.hid ⟨HS6.out, HCL.out⟩, HH6, HB6⟩
        · have hzd : decide (a ≤ z) = true := decide_eq_true (by omega)
          go_wp2_with fail
          refine (hn4 _).mono ?_
          rintro e w3 ⟨rfl, rfl⟩
          go_wp2_with fail
          rw [HA.out]
          refine (hn6 _).mono ?_
          rintro e w4 ⟨rfl, rfl⟩
          clear hn4 hn6
          go_wp2_with fail
          refine hbd.mono ?_
          rintro e w5 ⟨rfl, hB5⟩
          have d5 := (hB5.cell (p := ⟨gr, j1 * 2, none⟩) hgr).trans d0
          have k5 := (HH.out.below hB5).c1
          have HH5 := Lib.hid (HH.out.below hB5)
          have HB5 := Lib.hid (below_on HB.out hB5 (Nat.le_refl _))
          clear hbd hB5
          have hJ : getI (okF b) (g + 1) P.data.toList l = none := HBAD.out (fun h => by obtain ⟨_, _, h3⟩ := h; have h2 := h3 _ HLA.out; rw [HZ.out] at h2; simp only at h2; omega)
          have HJ2 : Hid (none = J) := Lib.hid (hJ ▸ HJ.out)
          clear hJ
          go_wp2
          go_ret3
          exact ⟨by rw [← HJ2.out]; rfl, HB5.out⟩
theorem ref_get_any (s : ByteArray) (hm : s.size ≤ maxLen) (w : World) :
    Calls Try.prog 27 #[.string s] w fun e w' => GotR w.heap.size (getF s.data.toList) e w' ∧ Below w.heap.size w w' := by
  have hls := list_size s
  by_cases h1 : s.size < 3
  · rw [getF_short (by omega)]
    exact ref_get_short s h1 w
  · by_cases h2 : 4 < numB (s.data.toList.take 1)
    · rw [getF_bits h2]
      exact ref_get_bits s (by omega) hm h2 w
    · by_cases h3 : s.size - 3 < 10 * numB ((s.data.toList.drop 1).take 2)
      · rw [getF_less (by omega)]
        exact ref_get_less s (by omega) hm h2 h3 w
      · refine (ref_get_run s (by omega) hm h2 h3 w).mono ?_
        rintro e w' ⟨h4, h5⟩
        refine ⟨?_, h5⟩
        unfold getF getH
        rw [if_neg (by omega), if_neg (by omega)]
        unfold GotI at h4
        unfold GotR
        cases hj : getI (okF (numB (s.data.toList.take 1))) (numB ((s.data.toList.drop 1).take 2)) (s.data.toList.drop 3) [] with
        | none => rw [hj] at h4; exact h4
        | some p => rw [hj] at h4; exact h4
end Go.Proofs.Ytdcdhbkgeipdjaa
