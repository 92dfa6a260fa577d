/- A number comes to a histogram. -/
import Derived.Test.YtklklpccpbhfgaaHiFnd
import Derived.Test.YtklklpccpbhfgaaHiIns
namespace Go.Proofs.Ytklklpccpbhfgaa
open Go Go.RowKit

set_option maxRecDepth 100000 in
set_option maxHeartbeats 4000000 in
theorem add_full {base B k : Nat} {v : Value} {l : List Hit} {w : World} (h : Hs base 62 B k v l w) (n : Int) (hc : ¬ countH l < 1099511627776) :
    Calls Try.prog 13 #[.pointer (some ⟨B, 0, none⟩), .int .i64 n] w (Left base 62 B k v l (.int .i64 7) w) := by
  have hcn := count_any h
  have H := Lib.hid h
  have hsum := h.inv.sum
  clear h
  have hq : (1099511627776 : Int) ≤ (countH l : Int) := by omega
  generalize countH l = c at *
  go_enter Try.func13, Try.ntmps13
  go_wp2_with fail
  refine hcn.mono ?_
  rintro e w1 ⟨rfl, hB⟩
  go_wp2
  go_ret
  exact Left.same H.out hB
theorem find_any {base B k : Nat} {v : Value} {l : List Hit} {w : World} (h : Hs base 62 B k v l w) (a : Int) :
    Calls Try.prog 37 #[v, .int .i64 a, .func (.func 35) #[] #[]] w fun e w' => e = .returned (.tuple #[.int .i64 (cutH a l : Nat), .bool (decide (cutH a l < l.length) && decide (l[cutH a l]!.at_ = a))]) ∧ Below w.heap.size w w' := by
  rcases h.row.form with ⟨rfl, rfl⟩ | ⟨g, cap, rfl, _⟩
  · exact find_nil none 0 a w
  · exact find_row h.row h.inv.ris h.inv.len a
set_option maxRecDepth 100000 in
set_option maxHeartbeats 4000000 in
theorem add_found {base B k : Nat} {v : Value} {l : List Hit} {w : World} (h : Hs base 62 B k v l w) (n : Int) (hn : In64 n) (hc : countH l < 1099511627776) (hp : cutH (ofI k n) l < l.length) (he : l[cutH (ofI k n) l]!.at_ = ofI k n) :
    Calls Try.prog 13 #[.pointer (some ⟨B, 0, none⟩), .int .i64 n] w (Left base 62 B k v (more ⟨ofI k n, 1⟩ l) (.int .i64 0) w) := by
  have hI := h.inv.more (x := ⟨ofI k n, 1⟩) (of_fits k h.inv.hk n hn) (by show 0 < 1; omega) (by show countH l + 1 ≤ _; omega)
  have hmo := more_found (m := 1) hp he
  rw [hmo] at hI ⊢
  have hcn := count_any h
  have hof := fun w => of_any k h.inv.hk n hn w
  have hmany := h.inv.many hp
  have hlen := h.inv.len
  obtain ⟨g, cap, rfl, hrest⟩ := h.row.form_pos (by omega)
  clear hrest
  have hfin : (decide (cutH (ofI k n) l < l.length) && decide (l[cutH (ofI k n) l]!.at_ = ofI k n)) = true := by rw [decide_eq_true hp, decide_eq_true he]; rfl
  have hfd := fun (W : World) (hW : Hs base 62 B k (.slice (some ⟨g, 0, none⟩) l.length cap) l W) => find_any hW (ofI k n)
  rw [hfin] at hfd
  have H := Lib.hid h
  have HI := Lib.hid hI
  have hq : decide ((1099511627776 : Int) ≤ (countH l : Int)) = false := decide_eq_false (by omega)
  clear h hI hc hfin hmo he hn
  generalize ofI k n = a at *
  generalize cutH a l = p at *
  generalize countH l = c at *
  have HFD := Lib.hid hfd
  have HMY := Lib.hid hmany
  clear hfd hmany
  go_enter Try.func13, Try.ntmps13
  go_wp2_with fail
  refine hcn.mono ?_
  rintro e w1 ⟨rfl, hB1⟩
  have H1 := Lib.hid (H.out.below hB1)
  have HB1 := Lib.hid hB1
  have c0 := H1.out.c0
  clear hcn hB1
  go_wp2_with fail
  refine (hof _).mono ?_
  rintro e w2 ⟨rfl, hB2⟩
  have H2 := Lib.hid (H1.out.below hB2)
  have HB2 := Lib.hid (below_on HB1.out hB2 (Nat.le_refl _))
  have hf := HFD.out _ H2.out
  have c1 := H2.out.c1
  clear hof hB2 HFD c0
  go_wp2_with fail
  refine hf.mono ?_
  rintro e w3 ⟨rfl, hB3⟩
  have h3 := H2.out.below hB3
  have HB3 := Lib.hid (below_on HB2.out hB3 (Nat.le_refl _))
  obtain ⟨g', cap', hv, _, _, _, _, hcell, hfro⟩ := h3.row.form_pos (by omega)
  simp only [Value.slice.injEq, Option.some.injEq, Addr.mk.injEq, and_true, true_and] at hv
  obtain ⟨rfl, rfl⟩ := hv
  obtain ⟨_, d1⟩ := hcell p hp
  have f1 := hfro (p * 2 + 1)
  have c1 := h3.c1
  have hst := h3.row.store rfl (p * 2 + 1) (.int .u64 (l[p]!.many + 1 : Nat)) (by simp) (flat_set_many l p (l[p]!.many + 1) hp)
  have H3 := Lib.hid h3
  have HST := Lib.hid hst
  have hi2 : (p : Int) < (l.length : Int) := by omega
  obtain ⟨m, hm⟩ : ∃ m, l[p]!.many = m := ⟨_, rfl⟩
  have hmany := HMY.out
  rw [hm] at d1 hmany
  have HM := Lib.hid hm
  clear hf hB3 hcell hfro hst h3 hm
  obtain ⟨hm1, hm2⟩ := hmany
  go_wp2
  go_ret
  have hm := HM.out
  subst hm
  exact ⟨rfl, _, H3.out.rebuild ((Mov.refl (fun k => (Value.slice (some ⟨g, 0, none⟩) l.length cap).ownBlock = some k) w3).set rfl _ _) HI.out HST.out, (Mov.ofB HB3.out).trans ((Mov.refl (OwnT B (.slice (some ⟨g, 0, none⟩) l.length cap)) _).set (.inr rfl) _ _) fun _ _ hk => hk, fun _ hg => .inl hg⟩
theorem put_len {l : List Hit} {p : Nat} (x : Hit) : (l.take p ++ x :: l.drop p).length = l.length + 1 := by simp; omega
theorem put_at {l : List Hit} {p : Nat} (hp : p ≤ l.length) (x : Hit) : (l.take p ++ x :: l.drop p)[p]! = x := by
  rw [getElem!_pos _ p (by rw [put_len]; omega), List.getElem_append_right (by rw [List.length_take]; omega)]
  simp [List.length_take, Nat.min_eq_left hp]
theorem put_set {l : List Hit} {p : Nat} (hp : p ≤ l.length) (x y : Hit) : (l.take p ++ x :: l.drop p).set p y = l.take p ++ y :: l.drop p := by
  rw [List.set_append_right (h := by rw [List.length_take]; omega)]
  simp [List.length_take, Nat.min_eq_left hp]
set_option maxRecDepth 100000 in
set_option maxHeartbeats 4000000 in
theorem add_new {base B k : Nat} {v : Value} {l : List Hit} {w : World} (hbase : base ≤ w.heap.size) (h : Hs base 62 B k v l w) (n : Int) (hn : In64 n) (hc : countH l < 1099511627776) (he : cutH (ofI k n) l < l.length → l[cutH (ofI k n) l]!.at_ ≠ ofI k n) :
    Calls Try.prog 13 #[.pointer (some ⟨B, 0, none⟩), .int .i64 n] w (Left base 62 B k v (more ⟨ofI k n, 1⟩ l) (.int .i64 0) w) := by
  have hI := h.inv.more (x := ⟨ofI k n, 1⟩) (of_fits k h.inv.hk n hn) (by show 0 < 1; omega) (by show countH l + 1 ≤ _; omega)
  have hmo := more_new (m := 1) he
  rw [hmo] at hI ⊢
  have hcn := count_any h
  have hof := fun w => of_any k h.inv.hk n hn w
  have hlen := h.inv.len
  have hle := cutH_le (ofI k n) l
  have hfin : (decide (cutH (ofI k n) l < l.length) && decide (l[cutH (ofI k n) l]!.at_ = ofI k n)) = false := by
    by_cases hp : cutH (ofI k n) l < l.length
    · rw [decide_eq_false (he hp), Bool.and_false]
    · rw [decide_eq_false hp, Bool.false_and]
  have hfd := fun (W : World) (hW : Hs base 62 B k v l W) => find_any hW (ofI k n)
  rw [hfin] at hfd
  have H := Lib.hid h
  have HI := Lib.hid hI
  have HBS := Lib.hid hbase
  have HFD := Lib.hid hfd
  have hq : decide ((1099511627776 : Int) ≤ (countH l : Int)) = false := decide_eq_false (by omega)
  clear h hI hc hfin hmo he hn hfd hbase
  generalize ofI k n = a at *
  generalize cutH a l = p at *
  generalize countH l = c at *
  go_enter Try.func13, Try.ntmps13
  go_wp2_with fail
  refine hcn.mono ?_
  rintro e w1 ⟨rfl, hB1⟩
  have H1 := Lib.hid (H.out.below hB1)
  have HB1 := Lib.hid hB1
  have c0 := H1.out.c0
  clear hcn hB1
  go_wp2_with fail
  refine (hof _).mono ?_
  rintro e w2 ⟨rfl, hB2⟩
  have H2 := Lib.hid (H1.out.below hB2)
  have HB2 := Lib.hid (below_on HB1.out hB2 (Nat.le_refl _))
  have hf := HFD.out _ H2.out
  have c1 := H2.out.c1
  clear hof hB2 HFD c0
  go_wp2_with fail
  refine hf.mono ?_
  rintro e w3 ⟨rfl, hB3⟩
  have h3 := H2.out.below hB3
  have HB3 := Lib.hid (below_on HB2.out hB3 (Nat.le_refl _))
  have c1 := h3.c1
  have H3 := Lib.hid h3
  have hX : ((w3.alloc (.cells #[.int .i64 a, .int .u64 0] 62))).heap[w3.heap.size]? = some (.cells #[.int .i64 a, .int .u64 (0 : Nat)] 62 (0, 0)) := heap_alloc_new w3 _
  have hBX := (Below.refl w3.heap.size w3).alloc (Nat.le_refl _) (.cells #[.int .i64 a, .int .u64 0] 62)
  have hin := insert_any (p := p) (base := base) (Nat.le_trans HBS.out (Nat.le_trans HB3.out.size (by simp))) (h3.row.below hBX) hlen hX (fun e => by have := (h3.row.lt e).2; omega) hle
  have HX := Lib.hid (h3.below hBX)
  have HBX := Lib.hid hBX
  clear hf hB3 h3 hX hBX
  go_wp2_with fail
  refine hin.mono ?_
  rintro e w5 ⟨v', rfl, hI5, hM5, hat5⟩
  obtain ⟨s1, s2, s3, s4, s5, s6, s7⟩ := HX.out.stored0 hM5 hI5 hat5
  have b1 := (hM5.cell (i := 1) HX.out.lt HX.out.ne).trans HX.out.c1
  have bf := (hM5.frozen (i := 1) HX.out.lt HX.out.ne).trans HX.out.f1
  have hlt5 : w3.heap.size + 1 ≤ w5.heap.size := by have := hM5.size; simpa using this
  obtain ⟨g', cap', rfl, hbg, hg5, hcap5, hmax5, hcell, hfro⟩ := s5.form_pos (by rw [put_len]; omega)
  rw [put_len] at *
  obtain ⟨_, d1⟩ := hcell p (by omega)
  rw [put_at hle] at d1
  have f1 := hfro (p * 2 + 1)
  have hst := s5.store (l' := l.take p ++ ⟨a, 1⟩ :: l.drop p) (by rw [put_len]) (p * 2 + 1) (.int .u64 (1 : Nat)) (by rw [put_len, put_len]) (by
    have hh := flat_set_many (l.take p ++ (⟨a, 0⟩ : Hit) :: l.drop p) p 1 (by rw [put_len]; omega)
    rw [put_at hle, put_set hle] at hh
    exact hh)
  have S1 := Lib.hid s1
  have S2 := Lib.hid s2
  have S3 := Lib.hid s3
  have S4 := Lib.hid s4
  have S6 := Lib.hid s6
  have S7 := Lib.hid s7
  have HST := Lib.hid hst
  have HAT := Lib.hid hat5
  clear hcell hfro hst s1 s2 s4 s5 s6 s7 hat5 hM5 hI5 hin c1
  have hi2 : (p : Int) < (l.length : Int) + 1 := by omega
  have hgB : g' ≠ B := fun e => S6.out (by rw [e]; rfl)
  go_wp2
  go_ret
  have hs3 := HB3.out.size
  have M1 : Mov (OwnT B v) w (w5.setCell ⟨B, 1, none⟩ (.slice (some ⟨g', 0, none⟩) (l.length + 1) cap')) := ((Mov.ofB HB3.out).alloc _).trans S7.out fun _ _ hk => hk
  have hge : v.ownBlock = some g' ∨ w.heap.size ≤ g' := (HAT.out g' rfl).imp id fun hle => by simp at hle; omega
  refine ⟨rfl, _, ⟨by simpa using S1.out, H.out.lo, HI.out, ?_, ?_, ?_, HST.out, S6.out⟩, ?_, fun g hg => ?_⟩
  · rw [World.cell?_setCell_other (h := by simp [hgB.symm])]; exact S2.out
  · rw [World.cell?_setCell_other (h := by simp [hgB.symm])]; exact S3.out
  · rw [World.frozen?_setCell]; exact S4.out
  · rcases hge with e | e
    · exact M1.set (.inr e) _ _
    · exact M1.setNew e _ _
  · have : g = g' := by simpa [Value.ownBlock] using hg.symm
    rw [this]
    exact hge
theorem add_any {base B k : Nat} {v : Value} {l : List Hit} {w : World} (hbase : base ≤ w.heap.size) (h : Hs base 62 B k v l w) (n : Int) (hn : In64 n) (hc : countH l < 1099511627776) :
    Calls Try.prog 13 #[.pointer (some ⟨B, 0, none⟩), .int .i64 n] w (Left base 62 B k v (more ⟨ofI k n, 1⟩ l) (.int .i64 0) w) := by
  by_cases hp : cutH (ofI k n) l < l.length
  · by_cases he : l[cutH (ofI k n) l]!.at_ = ofI k n
    · exact add_found h n hn hc hp he
    · exact add_new hbase h n hn hc fun _ => he
  · exact add_new hbase h n hn hc fun e => absurd e hp
end Go.Proofs.Ytklklpccpbhfgaa
