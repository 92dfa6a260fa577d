/- The chapter's own top, made of items. -/
import Derived.Test.YtnkhieackclniaaTRfM
import Derived.Shelf.SlSortCmp.QuietGrown
import Derived.BigQuiet
namespace Go.Proofs.Ytnkhieackclniaa
open Go Go.RowKit

/-- What comes of items that are to be a top of a room that may be. -/
def ROfRes (r sn : Nat) (l : List Itm) (w : World) (e : Ending) (w' : World) : Prop :=
  Below w.heap.size w w' ∧ ((¬ OkOf r sn l ∧ e = .returned (.tuple #[.pointer none, .int .i64 2])) ∨ (OkOf r sn l ∧ ∃ P v, e = .returned (.tuple #[.pointer (some ⟨P, 0, none⟩), .int .i64 0]) ∧ RTp w.heap.size P r v l w'))
theorem ref_of_room (x : Int) (h : x < 1 ∨ 16 < x) (sn : Nat) (p : Option Addr) (n cap : Nat) (w : World) :
    Calls Try.prog 26 #[.int .i64 x, .int .u64 sn, .slice p n cap] w fun e w' => e = .returned (.tuple #[.pointer none, .int .i64 1]) ∧ w = w' := by
  have hn := ref_new_out x h
  clear h
  go_enter Try.func26, Try.ntmps26
  go_wp2_with fail
  refine (hn _).mono ?_
  rintro e w1 ⟨rfl, rfl⟩
  go_wp2
  go_ret2
  exact ⟨rfl, rfl⟩
set_option maxRecDepth 100000 in
set_option maxHeartbeats 64000000 in
theorem ref_of_any {base : Nat} (r : Nat) (h1 : 1 ≤ r) (h16 : r ≤ 16) (sn : Nat) (hsn : sn < 18446744073709551616) (p : Option Addr) (l : List Itm) (cap : Nat) (hf : Fit l) (w : World) (h : Its base 50 (.slice p l.length cap) l w) :
    Calls Try.prog 26 #[.int .i64 r, .int .u64 sn, .slice p l.length cap] w (ROfRes r sn l w) := by
  obtain ⟨i0, hi0, hz⟩ := Option.map_eq_some_iff.1 info_ritem
  simp only [Prod.mk.injEq] at hz
  obtain ⟨hz0, hz1, hz2⟩ := hz
  have HZ0 := Lib.hid hz0
  have HZ1 := Lib.hid hz1
  have HZ2 := Lib.hid hz2
  have HI0 := Lib.hid hi0
  have mixed : Try.prog.follows .mixedOrders = true := by kernel_rfl
  have HI := Lib.hid h
  have HR := Lib.hid h.rd
  have HF := Lib.hid hf
  have hlc : l.length ≤ cap ∧ cap ≤ 9223372036854775807 := by
    obtain ⟨p', cap', e, h1, h2⟩ := h.cap
    simp only [Value.slice.injEq] at e
    obtain ⟨_, _, rfl⟩ := e
    unfold maxLen at h2
    exact ⟨h1, by omega⟩
  obtain ⟨N, hN⟩ : ∃ N, w.heap.size = N := ⟨_, rfl⟩
  have HN := Lib.hid hN
  have hnw := ref_new_any r h1 h16 w
  rw [hN] at hnw
  obtain ⟨n, hn⟩ : ∃ n, l.length = n := ⟨_, rfl⟩
  have HLN := Lib.hid hn
  rw [hn] at hlc ⊢
  obtain ⟨hlc, hcap⟩ := hlc
  have HOUT : Hid (∀ (e : Ending) (w' : World), Below N w w' → ¬ OkOf r sn l → e = .returned (.tuple #[.pointer none, .int .i64 2]) → ROfRes r sn l w e w') := Lib.hid fun e w' hB hno he => ⟨by rw [hN]; exact hB, .inl ⟨hno, he⟩⟩
  have HOUT2 : Hid (∀ (e : Ending) (w' : World) (v : Value), Below N w w' → OkOf r sn l → RTp N N r v l w' → e = .returned (.tuple #[.pointer (some ⟨N, 0, none⟩), .int .i64 0]) → ROfRes r sn l w e w') := Lib.hid fun e w' v hB ho hX he => ⟨by rw [hN]; exact hB, .inr ⟨ho, N, v, he, by rw [hN]; exact hX⟩⟩
  clear h hf hn hN hz0 hz1 hz2 hi0
  go_enter Try.func26, Try.ntmps26
  go_wp2_with fail
  refine hnw.mono ?_
  rintro e W1 ⟨rfl, hB1, hX1⟩
  have HX1 := Lib.hid hX1
  have HB1 := Lib.hid hB1
  clear hnw hX1 hB1
  by_cases hlen : r < n
  · have hno : Hid (¬ OkOf r sn l) := Lib.hid fun h => by have := h.1; rw [HLN.out] at this; omega
    go_wp2
    go_ret2
    exact HOUT.out _ _ HB1.out hno.out rfl
  by_cases hbig : 4611686018427387904 < sn
  · have hno : Hid (¬ OkOf r sn l) := Lib.hid fun h => by have h1 := h.2.2.2.2.1; have h2 := h.2.2.2.2.2.1; omega
    go_wp2
    go_ret2
    exact HOUT.out _ _ HB1.out hno.out rfl
  have hn16 : n ≤ 16 := by omega
  go_wp2
  go_loopg [9, 10, 11, 12] n (fun g x9 x10 x11 x12 wx => ∃ (i sm : Nat), i + g = n ∧ x9 = .int .u64 sm ∧ x10 = .int .i64 i ∧ Hid (seen (l.take i) = sm) ∧ sm ≤ 4611686018427387904 ∧ Hid (∀ j, j < i → OkAt r l j) ∧ RTp N N r (.slice none 0 0) [] wx ∧ Below N w wx)
  case atStart => exact ⟨0, 0, by omega, rfl, rfl, Lib.hid rfl, by omega, Lib.hid (fun j hj => absurd hj (Nat.not_lt_zero _)), HX1.out, HB1.out⟩
  case round =>
    obtain ⟨i, sm, hig, rfl, rfl, HSM, hsm, HOK, hX, hB⟩ := hrel
    have HX := Lib.hid hX
    have HB := Lib.hid hB
    clear hX hB
    cases gk with
    | zero =>
      obtain rfl : i = n := by omega
      by_cases hse : sm = sn
      · have hok : OkOf r sn l := okOf_of (by rw [HLN.out]; omega) (by rw [HLN.out]; exact HOK.out) (by rw [← hse, ← HSM.out, ← HLN.out, List.take_length])
        have HOK2 := Lib.hid hok
        have tse : ((sm : Int) == (sn : Int)) = true := by simp [hse]
        have HSE := Lib.hid hse
        have hI2 := HI.out.below (by rw [HN.out]; exact HB.out)
        rw [HLN.out] at hI2
        have hS : Src wr p cap i 3 (flat l) := by
          have := hI2
          rw [← HLN.out] at this
          have h2 := this.src_take l.length (Nat.le_refl _)
          rw [List.take_length, HLN.out] at h2
          exact h2
        have HS := Lib.hid hS
        have hNw : N ≤ wr.heap.size := Nat.le_trans (Nat.le_of_eq HN.out.symm) HB.out.size
        have hse2 : sm ≤ 4611686018427387904 := hsm
        clear hok hI2 hS hse
        go_wp2_with (first
          | (at_builtin; refine wpList_append_src _ rfl (.const (.slice none 0 0)) (.tmp 111) 38 rfl N 50 i0 _ 3 32 Try.underlying38 HI0.out HZ0.out HZ1.out HZ2.out rfl (by decide) (.slice none 0 0) 0 [] rfl (World.ownsRow_nil _ _ _ _) p i cap (flat l) rfl HS.out (oneCells _) (by unfold maxLen; omega) (by omega) hNw ?_))
        intro v1 w1 ho1 hg1 hat1
        have hr1 : Its N 50 v1 l w1 := by
          unfold Its
          rw [HLN.out]
          simpa using ho1
        obtain ⟨q1, cq, hv1, _, _⟩ := hr1.cap
        subst hv1
        have hst := HX.out.asS.stored (Mov.grown hg1) hr1 hat1
        have hP1 := HX.out.lt
        have y0 := ((Mov.grown hg1).cell (i := 0) HX.out.lt HX.out.ne).trans HX.out.c0
        have z0 := ((Mov.grown hg1).frozen (i := 0) HX.out.lt HX.out.ne).trans HX.out.f0
        have y2 := ((Mov.grown hg1).cell (i := 2) HX.out.lt HX.out.ne).trans HX.out.c2
        have z2 := ((Mov.grown hg1).frozen (i := 2) HX.out.lt HX.out.ne).trans HX.out.f2
        have HST := Lib.hid hst.1
        have HMV := Lib.hid hst.2
        clear ho1 hg1 hat1 hr1 hst
        go_wp2
        go_ret2
        have hMV2 := HMV.out.set (.inl rfl) 2 (.int .u64 sn) (S := OwnT N (.slice none 0 0))
        exact HOUT2.out _ _ _ (HB.out.trans (hMV2.below (by rintro k (rfl | hk); exact Nat.le_refl _; cases hk) hNw)) HOK2.out ((HST.out.saw sn).top HOK2.out.2.2.2.2.2.1 (okOf_inv h1 h16 HOK2.out)) rfl
      · have hno : Hid (¬ OkOf r sn l) := Lib.hid fun h => by
          have h2 := h.2.2.2.2.2.1
          have h3 := HSM.out
          rw [← HLN.out, List.take_length] at h3
          omega
        have tse : ((sm : Int) == (sn : Int)) = false := by simp; omega
        clear hse
        go_wp2
        go_ret2
        exact HOUT.out _ _ HB.out hno.out rfl
    | succ g =>
      have hin : i < n := by omega
      have hil : i < l.length := by rw [HLN.out]; exact hin
      have hn1 : n - 1 < l.length := by rw [HLN.out]; omega
      obtain ⟨C, off, rfl, hC, d0, d1, d2⟩ := HR.out i hil
      obtain ⟨C', off', he, _, f0, f1, f2⟩ := HR.out (n - 1) hn1
      simp only [Option.some.injEq, Addr.mk.injEq, and_true] at he
      obtain ⟨rfl, rfl⟩ := he
      have hCN : C < N := Nat.lt_of_lt_of_eq hC HN.out
      have hNw : N ≤ wr.heap.size := Nat.le_trans (Nat.le_of_eq HN.out.symm) HB.out.size
      have hCw : C < wr.heap.size := Nat.lt_of_lt_of_le hCN hNw
      replace d0 := (HB.out.cell (p := ⟨C, off + i * 3, none⟩) hCN).trans d0
      replace d1 := (HB.out.cell (p := ⟨C, off + i * 3 + 1, none⟩) hCN).trans d1
      replace d2 := (HB.out.cell (p := ⟨C, off + i * 3 + 2, none⟩) hCN).trans d2
      replace f1 := (HB.out.cell (p := ⟨C, off + (n - 1) * 3 + 1, none⟩) hCN).trans f1
      have hin2 : (i : Int) < (n : Int) := by omega
      have hfit := HF.out _ (mem_at hil)
      have hnsz : l[i]!.name.size ≤ 9223372036854775807 := by have := hfit.1; unfold maxLen at this; omega
      have hmm : l[i]!.many < 18446744073709551616 := hfit.2.1
      have hoo : l[i]!.over < 18446744073709551616 := hfit.2.2
      have hfl := HF.out _ (mem_at hn1)
      have hll : l[n - 1]!.many < 18446744073709551616 := hfl.2.1
      have HEV : Hid (OkAt r l i → (l[i]!.name.size ≤ 64 ∧ l[i]!.over < l[i]!.many ∧ l[i]!.many ≤ 4611686018427387904 ∧ l[i]!.over ≤ l[n - 1]!.many ∧ (n < r → l[i]!.over = 0) ∧ (0 < i → tells l[i - 1]! ⟨l[i]!.name, l[i]!.many, l[i]!.over⟩ = true) ∧ (∀ k, k < i → l[k]!.name ≠ l[i]!.name) ∧ sm + l[i]!.many ≤ 4611686018427387904)) := Lib.hid fun h => by
        have hs := h.s
        rw [seen_snoc l i hil, HSM.out] at hs
        have hla := h.la
        have hz := h.z
        rw [HLN.out] at hla hz
        exact ⟨h.nm, h.ov, h.mx, hla, hz, h.t, h.d, hs⟩
      have HVE : Hid ((l[i]!.name.size ≤ 64 ∧ l[i]!.over < l[i]!.many ∧ l[i]!.many ≤ 4611686018427387904 ∧ l[i]!.over ≤ l[n - 1]!.many ∧ (n < r → l[i]!.over = 0) ∧ (0 < i → tells l[i - 1]! ⟨l[i]!.name, l[i]!.many, l[i]!.over⟩ = true) ∧ (∀ k, k < i → l[k]!.name ≠ l[i]!.name) ∧ sm + l[i]!.many ≤ 4611686018427387904) → OkAt r l i) := Lib.hid fun ⟨a, b, c, d, e, f, g, s⟩ => ⟨a, b, c, by rw [HLN.out]; exact d, by rw [HLN.out]; exact e, f, g, by rw [seen_snoc l i hil, HSM.out]; exact s⟩
      have HNO : Hid (∀ e w', Below N w w' → ¬ OkAt r l i → e = .returned (.tuple #[.pointer none, .int .i64 2]) → ROfRes r sn l w e w') := Lib.hid fun e w' h1 h2 h3 => HOUT.out e w' h1 (fun h => h2 (okOf_at h i hil)) h3
      have HSS : Hid (seen (l.take (i + 1)) = sm + l[i]!.many) := Lib.hid (by rw [seen_snoc l i hil, HSM.out])
      have HN0 : Hid (∀ k, k < i → ∃ nm : ByteArray, l[k]!.name = nm ∧ w.cell? ⟨C, off + k * 3, none⟩ = some (.string nm)) := Lib.hid fun k hk => by
        obtain ⟨C', off', he, _, g0, _, _⟩ := HR.out k (by omega)
        simp only [Option.some.injEq, Addr.mk.injEq, and_true] at he
        obtain ⟨rfl, rfl⟩ := he
        exact ⟨_, rfl, g0⟩
      have HPV : Hid (0 < i → wr.cell? ⟨C, off + (i - 1) * 3, none⟩ = some (.string l[i - 1]!.name) ∧ wr.cell? ⟨C, off + (i - 1) * 3 + 1, none⟩ = some (.int .u64 l[i - 1]!.many) ∧ wr.cell? ⟨C, off + (i - 1) * 3 + 2, none⟩ = some (.int .u64 l[i - 1]!.over)) := Lib.hid fun h => by
        obtain ⟨C', off', he, _, g0, g1, g2⟩ := HR.out (i - 1) (by omega)
        simp only [Option.some.injEq, Addr.mk.injEq, and_true] at he
        obtain ⟨rfl, rfl⟩ := he
        exact ⟨(HB.out.cell (p := ⟨C, off + (i - 1) * 3, none⟩) hCN).trans g0, (HB.out.cell (p := ⟨C, off + (i - 1) * 3 + 1, none⟩) hCN).trans g1, (HB.out.cell (p := ⟨C, off + (i - 1) * 3 + 2, none⟩) hCN).trans g2⟩
      clear hfit hfl hC f0 f2
      generalize l[i]!.name = xn at *
      generalize l[i]!.many = xm at *
      generalize l[i]!.over = xo at *
      generalize l[n - 1]!.many = la at *
      obtain ⟨X, hXe⟩ : ∃ X, wr.heap.size = X := ⟨_, rfl⟩
      have hXc := CellsAt.new #[.string xn, .int .u64 xm, .int .u64 xo] 50 wr
      rw [hXe] at hXc
      have HXC := Lib.hid hXc
      have x0 := hXc.cell 0 (.string xn) rfl
      have x1 := hXc.cell 1 (.int .u64 xm) rfl
      have x2 := hXc.cell 2 (.int .u64 xo) rfl
      have hBX := (Below.refl wr.heap.size wr).alloc (Nat.le_refl _) (.cells #[.string xn, .int .u64 xm, .int .u64 xo] 50)
      have HBX := Lib.hid (HB.out.trans (hBX.mono hNw))
      have HXX := Lib.hid (HX.out.below hBX)
      have hXlt := hXc.lt
      have m1 := (hBX.cell (p := ⟨C, off + (n - 1) * 3 + 1, none⟩) hCw).trans f1
      have HPV2 : Hid (0 < i → (wr.alloc (.cells #[.string xn, .int .u64 xm, .int .u64 xo] 50)).cell? ⟨C, off + (i - 1) * 3, none⟩ = some (.string l[i - 1]!.name) ∧ (wr.alloc (.cells #[.string xn, .int .u64 xm, .int .u64 xo] 50)).cell? ⟨C, off + (i - 1) * 3 + 1, none⟩ = some (.int .u64 l[i - 1]!.many) ∧ (wr.alloc (.cells #[.string xn, .int .u64 xm, .int .u64 xo] 50)).cell? ⟨C, off + (i - 1) * 3 + 2, none⟩ = some (.int .u64 l[i - 1]!.over)) := Lib.hid fun h => by
        obtain ⟨a, b, c⟩ := HPV.out h
        exact ⟨(hBX.cell (p := ⟨C, off + (i - 1) * 3, none⟩) hCw).trans a, (hBX.cell (p := ⟨C, off + (i - 1) * 3 + 1, none⟩) hCw).trans b, (hBX.cell (p := ⟨C, off + (i - 1) * 3 + 2, none⟩) hCw).trans c⟩
      have hCX : C < (wr.alloc (.cells #[.string xn, .int .u64 xm, .int .u64 xo] 50)).heap.size := Nat.lt_of_lt_of_le hCw hBX.size
      clear hXc hBX f1
      go_wp2_with fail
      have hWw : wr.heap.size ≤ (wr.alloc (.cells #[.string xn, .int .u64 xm, .int .u64 xo] 50)).heap.size := by simp
      generalize wr.alloc (.cells #[.string xn, .int .u64 xm, .int .u64 xo] 50) = W2 at *
      obtain ⟨nl, hnl⟩ : ∃ nl, n - 1 = nl := ⟨_, rfl⟩
      rw [hnl] at m1
      have hnl2 : (n : Int) - 1 = (nl : Int) := by omega
      have hnl3 : (nl : Int) < (n : Int) := by omega
      have hnl4 : nl < n := by omega
      clear hnl d0 d1 d2
      have X0 := Lib.hid x0
      have X1 := Lib.hid x1
      by_cases hA : 64 < xn.size
      · have hno : Hid (¬ OkAt r l i) := Lib.hid fun h => by have := (HEV.out h).1; omega
        have tA : decide (64 < (xn.size : Int)) = true := by simp; omega
        clear hA
        go_quiet (fail)
        have HBq := Lib.hid (below_drewN HBX.out nq)
        go_wp2
        go_ret2
        exact HNO.out _ _ HBq.out hno.out rfl
      have tA : decide (64 < (xn.size : Int)) = false := by simp; omega
      by_cases hBc : xm ≤ xo
      · have hno : Hid (¬ OkAt r l i) := Lib.hid fun h => by have := (HEV.out h).2.1; omega
        have tB : decide (xm ≤ xo) = true := decide_eq_true hBc
        clear hBc hA
        go_quiet (fail)
        have HBq := Lib.hid (below_drewN HBX.out nq)
        go_wp2
        go_ret2
        exact HNO.out _ _ HBq.out hno.out rfl
      have tB : decide (xm ≤ xo) = false := decide_eq_false hBc
      by_cases hCc : 4611686018427387904 < xm
      · have hno : Hid (¬ OkAt r l i) := Lib.hid fun h => by have := (HEV.out h).2.2.1; omega
        have tC : decide (4611686018427387904 < (xm : Int)) = true := by simp; omega
        clear hCc hBc hA
        go_quiet (fail)
        have HBq := Lib.hid (below_drewN HBX.out nq)
        go_wp2
        go_ret2
        exact HNO.out _ _ HBq.out hno.out rfl
      have tC : decide (4611686018427387904 < (xm : Int)) = false := by simp; omega
      by_cases hDc : la < xo
      · have hno : Hid (¬ OkAt r l i) := Lib.hid fun h => by have := (HEV.out h).2.2.2.1; omega
        have tD : decide (la < xo) = true := decide_eq_true hDc
        clear hDc hCc hBc hA
        go_quiet (fail)
        have HBq := Lib.hid (below_drewN HBX.out nq)
        go_wp2
        go_ret2
        exact HNO.out _ _ HBq.out hno.out rfl
      have tD : decide (la < xo) = false := decide_eq_false hDc
      by_cases hEc : n < r ∧ 0 < xo
      · have hno : Hid (¬ OkAt r l i) := Lib.hid fun h => by have := (HEV.out h).2.2.2.2.1 hEc.1; omega
        have tE : decide (n < r) = true := decide_eq_true hEc.1
        have tE2 : decide (0 < xo) = true := decide_eq_true hEc.2
        clear hDc hCc hBc hA hEc
        go_quiet (fail)
        have HBq := Lib.hid (below_drewN HBX.out nq)
        go_wp2
        go_ret2
        exact HNO.out _ _ HBq.out hno.out rfl
      have HPASS : Hid ((0 < i → tells l[i - 1]! ⟨xn, xm, xo⟩ = true) → (∀ k, k < i → l[k]!.name ≠ xn) → sm + xm ≤ 4611686018427387904 → OkAt r l i) := Lib.hid fun h1 h2 h3 => HVE.out ⟨by omega, by omega, by omega, by omega, fun h => by omega, h1, h2, h3⟩
      have HXM : Hid (xm ≤ 4611686018427387904) := Lib.hid (by omega)
      have hEE : (n < r ∧ xo = 0) ∨ ¬ n < r := by omega
      clear hEc
      by_cases hi0 : i = 0
      case' pos =>
        have tF : decide (0 < i) = false := decide_eq_false (by omega)
        have HTT : Hid (0 < i → tells l[i - 1]! ⟨xn, xm, xo⟩ = true) := Lib.hid fun h => by omega
        clear hDc hCc hBc hA hi0
        rcases hEE with ⟨hE1, hE2⟩ | hE1
        case' inl =>
          have tE : decide (n < r) = true := decide_eq_true hE1
          have tE2 : decide (0 < xo) = false := decide_eq_false (by omega)
          clear hE1 hE2
          go_quiet (fail)
          have hBq : Below W2.heap.size W2 (W2.drewN nq) := below_drewN (Below.refl _ _) nq
          clear x0 x1 x2 m1
          generalize W2.drewN nq = W5 at *
        case' inr =>
          have tE : decide (n < r) = false := decide_eq_false hE1
          clear hE1
          go_quiet (fail)
          have hBq : Below W2.heap.size W2 (W2.drewN nq) := below_drewN (Below.refl _ _) nq
          clear x0 x1 x2 m1
          generalize W2.drewN nq = W5 at *
      case' neg =>
        have hip : 0 < i := by omega
        have z0 := cell_grown (a := ⟨X, 0, none⟩) hXlt x0
        have z1 := cell_grown (a := ⟨X, 1, none⟩) hXlt x1
        have z2 := cell_grown (a := ⟨X, 2, none⟩) hXlt x2
        have z3 := cell_grown (a := ⟨C, off + nl * 3 + 1, none⟩) hCX m1
        clear x0 x1 x2 m1
        obtain ⟨v0, v1, v2⟩ := HPV2.out hip
        have hor := fun W => ref_before l[i - 1]!.name xn l[i - 1]!.many l[i - 1]!.over xm xo W
        obtain ⟨b, hb⟩ : ∃ b, tells l[i - 1]! ⟨xn, xm, xo⟩ = b := ⟨_, rfl⟩
        have hb2 : tells ⟨l[i - 1]!.name, l[i - 1]!.many, l[i - 1]!.over⟩ ⟨xn, xm, xo⟩ = b := hb
        rw [hb2] at hor
        have HBB := Lib.hid hb
        obtain ⟨il, hil2⟩ : ∃ il, i - 1 = il := ⟨_, rfl⟩
        rw [hil2] at v0 v1 v2 hor
        have hil3 : (i : Int) - 1 = (il : Int) := by omega
        have hil4 : (il : Int) < (n : Int) := by omega
        have hil5 : il < n := by omega
        have ril : IntKind.i64.wrap (il : Int) = (il : Int) := IntWalk.i64_in _ (by omega)
        have rnl : IntKind.i64.wrap (nl : Int) = (nl : Int) := IntWalk.i64_in _ (by omega)
        have u0 := cell_grown (a := ⟨C, off + il * 3, none⟩) hCX v0
        have u1 := cell_grown (a := ⟨C, off + il * 3 + 1, none⟩) hCX v1
        have u2 := cell_grown (a := ⟨C, off + il * 3 + 2, none⟩) hCX v2
        have tF : decide (0 < i) = true := decide_eq_true hip
        clear hb hb2 v0 v1 v2 hi0 hDc hCc hBc hA hil2
        generalize l[il]!.name = pn at *
        generalize l[il]!.many = pm at *
        generalize l[il]!.over = po at *
        rcases hEE with ⟨hE1, hE2⟩ | hE1
        case' inl =>
          have tE : decide (n < r) = true := decide_eq_true hE1
          have tE2 : decide (0 < xo) = false := decide_eq_false (by omega)
          clear hE1 hE2
        case' inr =>
          have tE : decide (n < r) = false := decide_eq_false hE1
          clear hE1
        all_goals
          cases b with
          | false =>
            have hno : Hid (¬ OkAt r l i) := Lib.hid fun h => by
              have := (HEV.out h).2.2.2.2.2.1 hip
              rw [HBB.out] at this
              cases this
            go_quiet_grown (exact Calls.grown_of (hor _))
            have HBq := Lib.hid (HBX.out.trans ((show Below W2.heap.size W2 (Sort.grow (W2.drewN nq) osq) from Grown.below ⟨nq, osq, rfl⟩).mono (Nat.le_trans hNw hWw)))
            go_wp2
            go_ret2
            exact HNO.out _ _ HBq.out hno.out rfl
          | true => ?_
        all_goals
          have HTT : Hid (0 < i → tells l[i - 1]! ⟨xn, xm, xo⟩ = true) := Lib.hid fun _ => HBB.out
          go_quiet_grown (exact Calls.grown_of (hor _))
          clear hor u0 u1 u2 z0 z1 z2 z3
          have hBq : Below W2.heap.size W2 (Sort.grow (W2.drewN nq) osq) := Grown.below ⟨nq, osq, rfl⟩
          generalize Sort.grow (W2.drewN nq) osq = W5 at *
      all_goals
        have HBq := Lib.hid (HBX.out.trans (hBq.mono (Nat.le_trans hNw hWw)))
        have HXq := Lib.hid (HXX.out.below hBq)
        have q0 := (hBq.cell (p := ⟨X, 0, none⟩) hXlt).trans X0.out
        have q1 := (hBq.cell (p := ⟨X, 1, none⟩) hXlt).trans X1.out
        have hX5 : X < W5.heap.size := Nat.lt_of_lt_of_le hXlt hBq.size
        have hN5 : N ≤ W5.heap.size := Nat.le_trans (Nat.le_trans hNw hWw) hBq.size
        clear hBq
        have Q0 := Lib.hid q0
        have Q1 := Lib.hid q1
        clear q0 q1
        go_wp2
        go_loopg [12] i (fun gg y wy => ∃ k : Nat, k + gg = i ∧ y = .int .i64 k ∧ Hid (∀ j, j < k → l[j]!.name ≠ xn) ∧ Below W5.heap.size W5 wy)
        case atStart => exact ⟨0, by omega, rfl, Lib.hid fun j hj => absurd hj (Nat.not_lt_zero _), Below.refl _ _⟩
        case round =>
          obtain ⟨k, hkg, rfl, HK, hBk⟩ := hrel
          have q0 := (hBk.cell (p := ⟨X, 0, none⟩) hX5).trans Q0.out
          have q1 := (hBk.cell (p := ⟨X, 1, none⟩) hX5).trans Q1.out
          have HBk := Lib.hid (HBq.out.trans (hBk.mono hN5))
          have HBk5 := Lib.hid hBk
          have HXk := Lib.hid (HXq.out.below hBk)
          cases gk with
          | zero =>
            obtain rfl : k = i := by omega
            obtain ⟨t, ht⟩ : ∃ t, sm + xm = t := ⟨_, rfl⟩
            have hti : (sm : Int) + (xm : Int) = (t : Int) := by omega
            have htb : t ≤ 9223372036854775808 := by have := HXM.out; omega
            have HTE := Lib.hid ht
            clear ht hBk
            by_cases hov : 4611686018427387904 < t
            · have hno : Hid (¬ OkAt r l k) := Lib.hid fun h => by have := (HEV.out h).2.2.2.2.2.2.2; have := HTE.out; omega
              go_wp2
              go_ret2
              exact HNO.out _ _ HBk.out hno.out rfl
            · have hok : Hid (OkAt r l k) := Lib.hid (HPASS.out HTT.out HK.out (by have := HTE.out; omega))
              have hsm2 : t ≤ 4611686018427387904 := by omega
              go_wp2
              go_roundg g
              case measure => omega
              case rel => exact ⟨k + 1, t, by omega, rfl, by go_num, Lib.hid (HSS.out.trans HTE.out), hsm2, Lib.hid (fun j hj => by
                by_cases e : j = k
                · subst e; exact hok.out
                · exact HOK.out j (by omega)), HXk.out, HBk.out⟩
          | succ gg =>
            have hki : k < i := by omega
            obtain ⟨nm, hnm, hcn⟩ := HN0.out k hki
            have e0 := (HBk.out.cell (p := ⟨C, off + k * 3, none⟩) hCN).trans hcn
            have hkn : (k : Int) < (n : Int) := by omega
            have hkn2 : k < n := by omega
            have hki2 : (k : Int) < (i : Int) := by omega
            have HNM := Lib.hid hnm
            clear hcn hnm hBk
            by_cases hsame : nm = xn
            · have hno : Hid (¬ OkAt r l i) := Lib.hid fun h => (HEV.out h).2.2.2.2.2.2.1 k hki (HNM.out.trans hsame)
              have tq : (nm.toList == xn.toList) = true := by rw [eqN]; exact decide_eq_true hsame
              clear hsame
              go_wp2
              go_quiet (fail)
              go_wp2
              go_ret2
              exact HNO.out _ _ (below_drewN HBk.out _) hno.out rfl
            · have HNE : Hid (l[k]!.name ≠ xn) := Lib.hid fun e => hsame (HNM.out.symm.trans e)
              have tq : (nm.toList == xn.toList) = false := by rw [eqN]; exact decide_eq_false hsame
              clear hsame
              go_wp2
              go_quiet (fail)
              go_wp2
              go_roundg gg
              case measure => omega
              case rel => exact ⟨k + 1, by omega, by go_num, Lib.hid (fun j hj => by
                by_cases e : j = k
                · subst e; exact HNE.out
                · exact HK.out j (by omega)), below_drewN HBk5.out _⟩
end Go.Proofs.Ytnkhieackclniaa
