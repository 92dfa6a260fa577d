/- The chapter's own: a bucket in which none stood. -/
import Derived.Test.YtklklpccpbhfgaaHiRm
namespace Go.Proofs.Ytklklpccpbhfgaa
open Go Go.RowKit

theorem more_runs {N : Nat} {W : World} (hN : N ≤ W.heap.size) {p q : Option Addr} {c d : Nat} {T1 T2 : List Hit} (x : Hit) (hl : T1.length + T2.length ≤ 10000)
    (h1 : SrcI W p c T1) (h2 : ∀ W', Below W.heap.size W W' → SrcI W' q d T2) (ty : TypeId) :
    ∃ v1 w1 v2 w2 v3 w3, (Builtin.append_ #[75, 75] ty #[.slice none 0 0, .slice p T1.length c]).run Try.prog W = .ok v1 w1 ∧
      (Builtin.append_ #[75, 75] ty #[v1, .slice (some ⟨w1.heap.size, 0, none⟩) 1 1]).run Try.prog (w1.alloc (.cells #[.int .i64 x.at_, .int .u64 x.many] 83)) = .ok v2 w2 ∧
      (Builtin.append_ #[75, 75] ty #[v2, .slice q T2.length d]).run Try.prog w2 = .ok v3 w3 ∧ Its N 83 v3 (T1 ++ x :: T2) w3 ∧
      Below W.heap.size W w1 ∧ Below W.heap.size W w2 ∧ Below W.heap.size W w3 ∧ ∀ g, v3.ownBlock = some g → W.heap.size ≤ g := by
  obtain ⟨v1, w1, r1, o1, m1, a1⟩ := append_rits ty (Its.nil N 83 W) h1 (by simp; omega) hN
  rw [List.nil_append] at o1
  have b1 : Below W.heap.size W w1 := m1.below (by intro k hk; cases hk) (Nat.le_refl _)
  have s1 := b1.size
  have f1 : ∀ g, v1.ownBlock = some g → W.heap.size ≤ g := fun g hg => by
    rcases a1 g hg with e | e
    · cases e
    · exact e
  have bA := (Below.refl w1.heap.size w1).alloc (Nat.le_refl _) (.cells #[.int .i64 x.at_, .int .u64 x.many] 83)
  have hX := CellsAt.new #[.int .i64 x.at_, .int .u64 x.many] 83 w1
  have hs : SrcI (w1.alloc (.cells #[.int .i64 x.at_, .int .u64 x.many] 83)) (some ⟨w1.heap.size, 0, none⟩) 1 [x] := .inr ⟨_, rfl, fun j u hj => by
    rw [Addr.add_lit, Nat.zero_add]
    exact hX.cell j u (by simpa [flat_one, encI] using hj)⟩
  obtain ⟨v2, w2, r2, o2, m2, a2⟩ := append_rits ty (o1.below bA) hs (by simp; omega) (Nat.le_trans hN (Nat.le_trans s1 bA.size))
  have b2 : Below W.heap.size W w2 := below_mov (b1.trans (bA.mono s1)) m2 f1 (Nat.le_refl _)
  have f2 : ∀ g, v2.ownBlock = some g → W.heap.size ≤ g := fun g hg => by
    rcases a2 g hg with e | e
    · exact f1 g e
    · exact Nat.le_trans s1 (Nat.le_trans bA.size e)
  obtain ⟨v3, w3, r3, o3, m3, a3⟩ := append_rits ty o2 (h2 w2 b2) (by simp; omega) (Nat.le_trans hN b2.size)
  refine ⟨v1, w1, v2, w2, v3, w3, r1, r2, r3, ?_, b1, b2, below_mov b2 m3 f2 (Nat.le_refl _), fun g hg => ?_⟩
  · rw [List.append_assoc] at o3
    exact o3
  · rcases a3 g hg with e | e
    · exact f2 g e
    · exact Nat.le_trans b2.size e
theorem more_shape {N T : Nat} {v : Value} {T1 T2 : List Hit} {x : Hit} {w : World} (h : Its N T v (T1 ++ x :: T2) w) : ∃ g n cap, v = .slice (some ⟨g, 0, none⟩) n cap := by
  obtain ⟨g, cap, rfl, _⟩ := h.form_pos (by simp only [List.length_append, List.length_cons]; omega)
  exact ⟨g, _, cap, rfl⟩
set_option maxRecDepth 100000 in
set_option maxHeartbeats 4000000 in
theorem ref_more_new {base B k : Nat} {v : Value} {l : List Hit} {w : World} (hbase : base ≤ w.heap.size) (h : Hs base 83 B k v l w) (x : Hit) (hx : Fits k x.at_) (hp : 0 < x.many) (hs : countH l + x.many ≤ 1099511627776) (he : cutH x.at_ l < l.length → l[cutH x.at_ l]!.at_ ≠ x.at_) :
    Calls Try.prog 41 #[.pointer (some ⟨B, 0, none⟩), .agg #[.int .i64 x.at_, .int .u64 x.many]] w (LeftU base 83 B k v (more x l) w) := by
  have hI := h.inv.more hx hp hs
  have hmo : more x l = l.take (cutH x.at_ l) ++ x :: l.drop (cutH x.at_ l) := more_new (a := x.at_) (m := x.many) he
  rw [hmo] at hI ⊢
  have hlen := h.inv.len
  have hcl := cutH_le x.at_ l
  have H1 := Lib.hid (fun i hi => cutH_lt x.at_ l i hi)
  have H2 := Lib.hid (fun hi => cutH_at x.at_ l hi)
  have hform := h.row.form
  obtain ⟨c, hc⟩ : ∃ c, cutH x.at_ l = c := ⟨_, rfl⟩
  rw [hc] at hcl he hI hmo H1 H2 ⊢
  obtain ⟨a, m⟩ := x
  simp only at *
  have hml : m ≤ 1099511627776 := by omega
  obtain ⟨n, hn⟩ : ∃ n, l.length = n := ⟨_, rfl⟩
  rw [hn] at hform hcl hlen he H2
  have HFM := Lib.hid hform
  have HE := Lib.hid he
  have HH := Lib.hid h
  have HI := Lib.hid hI
  have HN := Lib.hid hn
  have HBS := Lib.hid hbase
  have hBl := h.lt
  have hvs : ∃ p cap, v = .slice p n cap := by
    rcases hform with ⟨rfl, h0⟩ | ⟨g, cap, rfl, _⟩
    · exact ⟨none, 0, by rw [← hn, h0]; rfl⟩
    · exact ⟨_, _, rfl⟩
  obtain ⟨pv, capv, rfl⟩ := hvs
  have c1 := h.c1
  clear h hI hmo hc hn hs hx hp hform he hbase
  have hr0 : Below w.heap.size w (w.alloc (.cells #[.int .i64 a, .int .u64 m] 83)) := (Below.refl _ _).alloc (Nat.le_refl _) _
  have hX0 := CellsAt.new #[.int .i64 a, .int .u64 m] 83 w
  have HR0 := Lib.hid hr0
  have HX0 := Lib.hid hX0
  clear hr0 hX0
  go_enter Try.func41, Try.ntmps41
  go_wp2
  obtain ⟨X, hX⟩ : ∃ X, w.heap.size = X := ⟨_, rfl⟩
  have HXE := Lib.hid hX
  rw [hX] at HX0
  rw [hX]
  clear hX
  generalize w.alloc (.cells #[.int .i64 a, .int .u64 m] 83) = W0 at *
  go_loopg [4] c (fun gk s4 wx => ∃ j : Nat, j + gk = c ∧ s4 = .int .i64 j ∧ Hid (Below w.heap.size w wx) ∧ Hid (CellsAt X #[.int .i64 a, .int .u64 m] wx))
  case atStart => exact ⟨0, by omega, rfl, HR0, HX0⟩
  case round =>
    clear HR0 HX0
    obtain ⟨j, hjc, rfl, HB, HX⟩ := hrel
    have k1 := (HB.out.cell (p := ⟨B, 1, none⟩) hBl).trans c1
    have x0 := HX.out.cell 0 _ rfl
    have x1 := HX.out.cell 1 _ rfl
    cases gk with
    | succ gk =>
      have hjc2 : j < c := by omega
      have hjn : j < n := by omega
      have hlt := H1.out j hjc2
      rcases HFM.out with ⟨_, h0⟩ | ⟨g, cap, hv, _, hg, _, _, hcell, _⟩
      · exfalso; have := HN.out; rw [h0] at this; simp at this; omega
      · simp only [Value.slice.injEq] at hv
        obtain ⟨rfl, _, rfl⟩ := hv
        obtain ⟨d0, _⟩ := hcell j hjn
        have e0 := (HB.out.cell (p := ⟨g, j * 2, none⟩) hg).trans d0
        obtain ⟨z, hz⟩ : ∃ z, l[j]!.at_ = z := ⟨_, rfl⟩
        rw [hz] at e0 hlt
        have t1 : decide ((j : Int) < (n : Int)) = true := decide_eq_true (by omega)
        have t2 : decide (j < n) = true := decide_eq_true hjn
        have t3 : decide (z < a) = true := decide_eq_true hlt
        clear d0 hz hlt hcell
        go_wp2
        go_quiet (fail)
        have HBz := Lib.hid (below_drewN' HB.out nq)
        have HXz := Lib.hid (HX.out.below (below_drewN' (Below.refl _ _) nq))
        clear e0 k1 x0 x1 HB HX
        go_wp2
        go_roundg gk
        case measure => omega
        case rel => exact ⟨j + 1, by omega, by go_num, HBz, HXz⟩
    | zero =>
      obtain rfl : j = c := by omega
      rcases HFM.out with ⟨hv, h0⟩ | ⟨g, cap, hv, _, hg, hic, hcm, hcell, _⟩
      · simp only [Value.slice.injEq] at hv
        obtain ⟨rfl, rfl, rfl⟩ := hv
        obtain rfl : j = 0 := by omega
        subst h0
        have t1 : decide ((0 : Int) < (0 : Int)) = false := rfl
        go_wp2
        go_quiet (fail)
        generalize nq = n1 at *
        go_wp2
        go_quiet (fail)
        have HBz := Lib.hid (below_drewN' (below_drewN' HB.out n1) nq)
        have HXz : Hid (CellsAt X #[.int .i64 a, .int .u64 m] ((wr.drewN n1).drewN nq)) := Lib.hid (HX.out.below (below_drewN' (below_drewN' (Below.refl _ _) n1) nq))
        clear k1 x0 x1 HB HX
        generalize (wr.drewN n1).drewN nq = W5 at *
        have hH5 := HH.out.below HBz.out
        have k2 := hH5.c1
        have HH5 := Lib.hid hH5
        obtain ⟨v1, w1, v2, w2, v3, w3, r1, r2, r3, o3, b1, b2, b3, f3⟩ := more_runs (W := W5) (p := none) (q := none) (c := 0) (d := 0) (T1 := ([] : List Hit)) (T2 := ([] : List Hit)) (Nat.le_trans HBS.out HBz.out.size) ⟨a, m⟩ (by first | (simp; done) | (have := HN.out; simp; omega)) (.inl ⟨rfl, rfl, rfl⟩) (fun _ _ => .inl ⟨rfl, rfl, rfl⟩) 75
        rw [List.length_nil] at r1
        rw [List.length_nil] at r3
        simp only at r2
        obtain ⟨g3, n3, cap3, hv3⟩ := more_shape o3
        subst hv3
        have HO3 := Lib.hid o3
        have HB3 := Lib.hid b3
        have HF3 := Lib.hid f3
        have hX1 := HXz.out.below b1
        have y0 := hX1.cell 0 _ rfl
        have y1 := hX1.cell 1 _ rfl
        have k3 := (b2.cell (p := ⟨B, 1, none⟩) HH5.out.lt).trans k2
        have k4 := (b3.cell (p := ⟨B, 1, none⟩) HH5.out.lt).trans k2
        have k5 := (b3.frozen (p := ⟨B, 1, none⟩) HH5.out.lt).trans HH5.out.f1
        have hjn1 : (0 : Int) ≤ (0 : Int) := by omega
        clear o3 b3 f3 hX1 b1 b2 hH5
        go_wp2_with (first
          | (at_builtin; refine Lib.wpList_append_run _ rfl _ _ _ _ rfl _ _ rfl rfl _ _ r1 ?_)
          | (at_builtin; refine Lib.wpList_append_run _ rfl _ _ _ _ rfl _ _ rfl rfl _ _ r2 ?_)
          | (at_builtin; refine Lib.wpList_append_run _ rfl _ _ _ _ rfl _ _ rfl rfl _ _ r3 ?_))
        have hst := Hs.stored (l' := [⟨a, m⟩]) HH5.out (Mov.ofB HB3.out) (by have := HO3.out; exact this) (fun g hg => .inr (HF3.out g hg)) HI.out
        refine bodyPost_ret (v := .tuple #[]) (by simp [results, Try.results41, go_sem]) rfl ?_
        exact ⟨_, rfl, _, hst.1, ((Mov.ofB HBz.out)).trans hst.2 (fun _ _ hk => hk), fun g hg => .inr (Nat.le_trans HBz.out.size (HF3.out g hg))⟩
      · simp only [Value.slice.injEq] at hv
        obtain ⟨rfl, _, rfl⟩ := hv
        unfold maxLen at hcm
        have hOS : Hid (Its base 83 (.slice (some ⟨g, 0, none⟩) l.length capv) l w) := Lib.hid (by rw [HN.out]; exact HH.out.row)
        by_cases hjn : j < n
        · have hne := HE.out hjn
          have hnl := H2.out hjn
          obtain ⟨d0, _⟩ := hcell j hjn
          have e0 := (HB.out.cell (p := ⟨g, j * 2, none⟩) hg).trans d0
          obtain ⟨z, hz⟩ : ∃ z, l[j]!.at_ = z := ⟨_, rfl⟩
          rw [hz] at e0 hne hnl
          have t1 : decide ((j : Int) < (n : Int)) = true := decide_eq_true (by omega)
          have t2 : decide (j < n) = true := decide_eq_true hjn
          have t3 : decide (z < a) = false := decide_eq_false (by omega)
          have t4 : (z == a) = false := beq_false_of_ne hne
          have t5 : decide (z = a) = false := decide_eq_false hne
          have hnn : ¬ (capv = j) := by omega
          have hjc' : (j : Int) ≤ (capv : Int) := by omega
          obtain ⟨dl, hdl⟩ : ∃ dl, n - j = dl := ⟨_, rfl⟩
          obtain ⟨dc, hdc⟩ : ∃ dc, capv - j = dc := ⟨_, rfl⟩
          clear d0 hz hne hnl hcell
          go_wp2
          go_quiet (fail)
          generalize nq = n1 at *
          go_wp2
          go_quiet (fail)
          have HBz := Lib.hid (below_drewN' (below_drewN' HB.out n1) nq)
          have HXz : Hid (CellsAt X #[.int .i64 a, .int .u64 m] ((wr.drewN n1).drewN nq)) := Lib.hid (HX.out.below (below_drewN' (below_drewN' (Below.refl _ _) n1) nq))
          clear k1 x0 x1 HB HX
          generalize (wr.drewN n1).drewN nq = W5 at *
          have hH5 := HH.out.below HBz.out
          have k2 := hH5.c1
          have HH5 := Lib.hid hH5
          obtain ⟨v1, w1, v2, w2, v3, w3, r1, r2, r3, o3, b1, b2, b3, f3⟩ := more_runs (W := W5) (p := some ⟨g, 0, none⟩) (q := some ⟨g, j * 2, none⟩) (c := capv) (d := dc) (T1 := l.take j) (T2 := l.drop j) (Nat.le_trans HBS.out HBz.out.size) ⟨a, m⟩ (by first | (simp; done) | (have := HN.out; simp; omega)) ((hOS.out.below HBz.out).src_take j) (fun W' hW' => (hOS.out.below (below_on HBz.out hW' (Nat.le_refl _))).src_drop j _) 75
          rw [List.length_take, HN.out, Nat.min_eq_left (by omega)] at r1
          rw [List.length_drop, HN.out, hdl] at r3
          simp only at r2
          obtain ⟨g3, n3, cap3, hv3⟩ := more_shape o3
          subst hv3
          have HO3 := Lib.hid o3
          have HB3 := Lib.hid b3
          have HF3 := Lib.hid f3
          have hX1 := HXz.out.below b1
          have y0 := hX1.cell 0 _ rfl
          have y1 := hX1.cell 1 _ rfl
          have k3 := (b2.cell (p := ⟨B, 1, none⟩) HH5.out.lt).trans k2
          have k4 := (b3.cell (p := ⟨B, 1, none⟩) HH5.out.lt).trans k2
          have k5 := (b3.frozen (p := ⟨B, 1, none⟩) HH5.out.lt).trans HH5.out.f1
          have hjn1 : (j : Int) ≤ (n : Int) := by omega
          clear o3 b3 f3 hX1 b1 b2 hH5
          go_wp2_with (first
            | (at_builtin; refine Lib.wpList_append_run _ rfl _ _ _ _ rfl _ _ rfl rfl _ _ r1 ?_)
            | (at_builtin; refine Lib.wpList_append_run _ rfl _ _ _ _ rfl _ _ rfl rfl _ _ r2 ?_)
            | (at_builtin; refine Lib.wpList_append_run _ rfl _ _ _ _ rfl _ _ rfl rfl _ _ r3 ?_))
          have hst := Hs.stored (l' := l.take j ++ ⟨a, m⟩ :: l.drop j) HH5.out (Mov.ofB HB3.out) (by have := HO3.out; exact this) (fun g hg => .inr (HF3.out g hg)) HI.out
          refine bodyPost_ret (v := .tuple #[]) (by simp [results, Try.results41, go_sem]) rfl ?_
          exact ⟨_, rfl, _, hst.1, ((Mov.ofB HBz.out)).trans hst.2 (fun _ _ hk => hk), fun g hg => .inr (Nat.le_trans HBz.out.size (HF3.out g hg))⟩
        · obtain rfl : j = n := by omega
          have t1 : decide ((j : Int) < (j : Int)) = false := decide_eq_false (by omega)
          have t2 : decide (j < j) = false := decide_eq_false (by omega)
          have hTk : l.take j = l := List.take_of_length_le (by rw [HN.out]; exact Nat.le_refl _)
          have hTd : l.drop j = [] := List.drop_eq_nil_of_le (by rw [HN.out]; exact Nat.le_refl _)
          rw [hTk, hTd] at HI
          have HTK := Lib.hid hTk
          have HTD := Lib.hid hTd
          clear hcell hTk hTd
          by_cases hcc : capv = j
          · subst hcc
            go_wp2
            go_quiet (fail)
            generalize nq = n1 at *
            go_wp2
            go_quiet (fail)
            have HBz := Lib.hid (below_drewN' (below_drewN' HB.out n1) nq)
            have HXz : Hid (CellsAt X #[.int .i64 a, .int .u64 m] ((wr.drewN n1).drewN nq)) := Lib.hid (HX.out.below (below_drewN' (below_drewN' (Below.refl _ _) n1) nq))
            clear k1 x0 x1 HB HX
            generalize (wr.drewN n1).drewN nq = W5 at *
            have hH5 := HH.out.below HBz.out
            have k2 := hH5.c1
            have HH5 := Lib.hid hH5
            obtain ⟨v1, w1, v2, w2, v3, w3, r1, r2, r3, o3, b1, b2, b3, f3⟩ := more_runs (W := W5) (p := some ⟨g, 0, none⟩) (q := some ⟨g, 0, none⟩) (c := capv) (d := 0) (T1 := l) (T2 := ([] : List Hit)) (Nat.le_trans HBS.out HBz.out.size) ⟨a, m⟩ (by first | (simp; done) | (have := HN.out; simp; omega)) (by have := (hOS.out.below HBz.out).src_take l.length; rw [List.take_length] at this; exact this) (fun _ _ => .inr ⟨_, rfl, fun j u hu => by simp [flat] at hu⟩) 75
            rw [HN.out] at r1
            rw [List.length_nil] at r3
            simp only at r2
            obtain ⟨g3, n3, cap3, hv3⟩ := more_shape o3
            subst hv3
            have HO3 := Lib.hid o3
            have HB3 := Lib.hid b3
            have HF3 := Lib.hid f3
            have hX1 := HXz.out.below b1
            have y0 := hX1.cell 0 _ rfl
            have y1 := hX1.cell 1 _ rfl
            have k3 := (b2.cell (p := ⟨B, 1, none⟩) HH5.out.lt).trans k2
            have k4 := (b3.cell (p := ⟨B, 1, none⟩) HH5.out.lt).trans k2
            have k5 := (b3.frozen (p := ⟨B, 1, none⟩) HH5.out.lt).trans HH5.out.f1
            have hjn1 : (capv : Int) ≤ (capv : Int) := by omega
            clear o3 b3 f3 hX1 b1 b2 hH5
            go_wp2_with (first
              | (at_builtin; refine Lib.wpList_append_run _ rfl _ _ _ _ rfl _ _ rfl rfl _ _ r1 ?_)
              | (at_builtin; refine Lib.wpList_append_run _ rfl _ _ _ _ rfl _ _ rfl rfl _ _ r2 ?_)
              | (at_builtin; refine Lib.wpList_append_run _ rfl _ _ _ _ rfl _ _ rfl rfl _ _ r3 ?_))
            have hst := Hs.stored (l' := l ++ [⟨a, m⟩]) HH5.out (Mov.ofB HB3.out) (by have := HO3.out; exact this) (fun g hg => .inr (HF3.out g hg)) HI.out
            refine bodyPost_ret (v := .tuple #[]) (by simp [results, Try.results41, go_sem]) rfl ?_
            rw [HTK.out, HTD.out]
            exact ⟨_, rfl, _, hst.1, ((Mov.ofB HBz.out)).trans hst.2 (fun _ _ hk => hk), fun g hg => .inr (Nat.le_trans HBz.out.size (HF3.out g hg))⟩
          · obtain ⟨dc, hdc⟩ : ∃ dc, capv - j = dc := ⟨_, rfl⟩
            have hjc' : (j : Int) ≤ (capv : Int) := by omega
            go_wp2
            go_quiet (fail)
            generalize nq = n1 at *
            go_wp2
            go_quiet (fail)
            have HBz := Lib.hid (below_drewN' (below_drewN' HB.out n1) nq)
            have HXz : Hid (CellsAt X #[.int .i64 a, .int .u64 m] ((wr.drewN n1).drewN nq)) := Lib.hid (HX.out.below (below_drewN' (below_drewN' (Below.refl _ _) n1) nq))
            clear k1 x0 x1 HB HX
            generalize (wr.drewN n1).drewN nq = W5 at *
            have hH5 := HH.out.below HBz.out
            have k2 := hH5.c1
            have HH5 := Lib.hid hH5
            obtain ⟨v1, w1, v2, w2, v3, w3, r1, r2, r3, o3, b1, b2, b3, f3⟩ := more_runs (W := W5) (p := some ⟨g, 0, none⟩) (q := some ⟨g, j * 2, none⟩) (c := capv) (d := dc) (T1 := l) (T2 := ([] : List Hit)) (Nat.le_trans HBS.out HBz.out.size) ⟨a, m⟩ (by first | (simp; done) | (have := HN.out; simp; omega)) (by have := (hOS.out.below HBz.out).src_take l.length; rw [List.take_length] at this; exact this) (fun _ _ => .inr ⟨_, rfl, fun j u hu => by simp [flat] at hu⟩) 75
            rw [HN.out] at r1
            rw [List.length_nil] at r3
            simp only at r2
            obtain ⟨g3, n3, cap3, hv3⟩ := more_shape o3
            subst hv3
            have HO3 := Lib.hid o3
            have HB3 := Lib.hid b3
            have HF3 := Lib.hid f3
            have hX1 := HXz.out.below b1
            have y0 := hX1.cell 0 _ rfl
            have y1 := hX1.cell 1 _ rfl
            have k3 := (b2.cell (p := ⟨B, 1, none⟩) HH5.out.lt).trans k2
            have k4 := (b3.cell (p := ⟨B, 1, none⟩) HH5.out.lt).trans k2
            have k5 := (b3.frozen (p := ⟨B, 1, none⟩) HH5.out.lt).trans HH5.out.f1
            have hjn1 : (j : Int) ≤ (j : Int) := by omega
            clear o3 b3 f3 hX1 b1 b2 hH5
            go_wp2_with (first
              | (at_builtin; refine Lib.wpList_append_run _ rfl _ _ _ _ rfl _ _ rfl rfl _ _ r1 ?_)
              | (at_builtin; refine Lib.wpList_append_run _ rfl _ _ _ _ rfl _ _ rfl rfl _ _ r2 ?_)
              | (at_builtin; refine Lib.wpList_append_run _ rfl _ _ _ _ rfl _ _ rfl rfl _ _ r3 ?_))
            have hst := Hs.stored (l' := l ++ [⟨a, m⟩]) HH5.out (Mov.ofB HB3.out) (by have := HO3.out; exact this) (fun g hg => .inr (HF3.out g hg)) HI.out
            refine bodyPost_ret (v := .tuple #[]) (by simp [results, Try.results41, go_sem]) rfl ?_
            rw [HTK.out, HTD.out]
            exact ⟨_, rfl, _, hst.1, ((Mov.ofB HBz.out)).trans hst.2 (fun _ _ hk => hk), fun g hg => .inr (Nat.le_trans HBz.out.size (HF3.out g hg))⟩
theorem ref_more_any {base B k : Nat} {v : Value} {l : List Hit} {w : World} (hbase : base ≤ w.heap.size) (h : Hs base 83 B k v l w) (x : Hit) (hx : Fits k x.at_) (hp : 0 < x.many) (hs : countH l + x.many ≤ 1099511627776) :
    Calls Try.prog 41 #[.pointer (some ⟨B, 0, none⟩), .agg #[.int .i64 x.at_, .int .u64 x.many]] w (LeftU base 83 B k v (more x l) w) := by
  by_cases hc : cutH x.at_ l < l.length
  · by_cases he : l[cutH x.at_ l]!.at_ = x.at_
    · exact ref_more_found h x hx hp hs hc he
    · exact ref_more_new hbase h x hx hp hs fun _ => he
  · exact ref_more_new hbase h x hx hp hs fun e => absurd e hc
end Go.Proofs.Ytklklpccpbhfgaa
