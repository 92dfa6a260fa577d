/- What the chapter's own top tells. -/
import Derived.Test.YtnkhieackclniaaTRfD
import Derived.Shelf.SlSortCmp.QuietGrown
namespace Go.Proofs.Ytnkhieackclniaa
open Go Go.RowKit

/-- What is told of items: they themselves, in their order, in a row of the call's own. -/
def RItemsOf (l : List Itm) (w : World) (e : Ending) (w' : World) : Prop := ∃ v s, e = .returned v ∧ Its w.heap.size 50 v s w' ∧ s.Perm l ∧ Told s ∧ Below w.heap.size w w'
set_option maxRecDepth 100000 in
set_option maxHeartbeats 16000000 in
theorem ref_items_any {base P room : Nat} {v : Value} {l : List Itm} {w : World} (h : RTp base P room v l w) :
    Calls Try.prog 23 #[.pointer (some ⟨P, 0, none⟩)] w (RItemsOf l w) := by
  have hl16 : l.length ≤ 16 := Nat.le_trans h.inv.len h.inv.hi
  obtain ⟨i0, hi0, hz⟩ := Option.map_eq_some_iff.1 info_ritem
  simp only [Prod.mk.injEq] at hz
  obtain ⟨hz0, hz1, hz2⟩ := hz
  have HZ0 := Lib.hid hz0
  have HZ1 := Lib.hid hz1
  have HZ2 := Lib.hid hz2
  have HI0 := Lib.hid hi0
  have mixed : Try.prog.follows .mixedOrders = true := by kernel_rfl
  have c0 := h.c0
  have hP := h.lt
  obtain ⟨p0, cap0, rfl, hcap0, hmax0⟩ := h.row.cap
  have HR := Lib.hid h.row.rd
  unfold maxLen at hmax0
  obtain ⟨N, hN⟩ : ∃ N, w.heap.size = N := ⟨_, rfl⟩
  have HN := Lib.hid hN
  obtain ⟨n, hn⟩ : ∃ n, l.length = n := ⟨_, rfl⟩
  have HLN := Lib.hid hn
  have HOUT : Hid (∀ v s w', Its N 50 v s w' → s.Perm (l.take n) → Told s → Below N w w' → RItemsOf l w (.returned v) w') := Lib.hid fun v s w' h1 h2 h3 h4 => ⟨v, s, rfl, by rw [hN]; exact h1, by rw [← hn, List.take_length] at h2; exact h2, h3, by rw [hN]; exact h4⟩
  rw [hn] at hl16 hcap0 c0
  rw [hN] at hP
  clear h hz0 hz1 hz2 hi0 hN hn
  go_enter Try.func23, Try.ntmps23
  go_wp2
  go_loopg [3, 4, 5, 6] n (fun g o x y z wx => ∃ (i : Nat) (v : Value) (s : List Itm), i + g = n ∧ o = v ∧ x = .int .i64 i ∧ Its N 50 v s wx ∧ s.Perm (l.take i) ∧ Told s ∧ Below N w wx)
  case atStart => exact ⟨0, _, [], by omega, rfl, rfl, Its.nil _ _ _, by simp, List.Pairwise.nil, Below.refl _ _⟩
  case round =>
    obtain ⟨i, v, s, hig, rfl, rfl, hI, hp, ht, hB⟩ := hrel
    have k0 := (hB.cell (p := ⟨P, 0, none⟩) hP).trans c0
    cases gk with
    | zero =>
      obtain rfl : i = n := by omega
      have HE := Lib.hid (HOUT.out _ _ _ hI hp ht hB)
      clear hI hp ht hB
      go_wp2
      go_ret
      exact HE.out
    | succ g =>
      obtain ⟨C, off, rfl, hC, d0, d1, d2⟩ := HR.out i (by rw [HLN.out]; omega)
      have hNw : N ≤ wr.heap.size := Nat.le_trans (Nat.le_of_eq HN.out.symm) hB.size
      have hCN : C < N := Nat.lt_of_lt_of_eq hC HN.out
      replace d0 := (hB.cell (p := ⟨C, off + i * 3, none⟩) hCN).trans d0
      replace d1 := (hB.cell (p := ⟨C, off + i * 3 + 1, none⟩) hCN).trans d1
      replace d2 := (hB.cell (p := ⟨C, off + i * 3 + 2, none⟩) hCN).trans d2
      have hCw : C < wr.heap.size := by omega
      have hPw : P < wr.heap.size := by omega
      obtain ⟨q, capq, rfl, hcq, hmq⟩ := hI.cap
      unfold maxLen at hmq
      have hsi : s.length = i := by rw [hp.length_eq, List.length_take, HLN.out]; omega
      have HSI := Lib.hid hsi
      rw [hsi] at hcq ⊢
      have hin : (i : Int) < (n : Int) := by omega
      have hii : i < n := by omega
      have HI := Lib.hid hI
      have HP := Lib.hid hp
      have HT := Lib.hid ht
      have HB := Lib.hid hB
      have HX : Hid ((⟨l[i]!.name, l[i]!.many, l[i]!.over⟩ : Itm) = l[i]!) := Lib.hid rfl
      clear hI hp ht hB hsi hC c0
      generalize hxn : l[i]!.name = xn at *
      generalize hxm : l[i]!.many = xm at *
      generalize hxo : l[i]!.over = xo at *
      clear hxn hxm hxo
      obtain ⟨W0, e0⟩ : ∃ W0, W0 = wr := ⟨wr, rfl⟩
      subst e0
      go_wp2
      go_loopg [5] i (fun gg y wy => ∃ k : Nat, k + gg = i ∧ y = .int .i64 k ∧ Hid (∀ j, j < k → tells s[j]! ⟨xn, xm, xo⟩ = true) ∧ Below W0.heap.size W0 wy)
      case atStart => exact ⟨0, by omega, rfl, Lib.hid fun j hj => absurd hj (Nat.not_lt_zero _), Below.refl _ _⟩
      case round =>
        obtain ⟨k, hkg, rfl, HK, hBk⟩ := hrel
        have m0 := (hBk.cell (p := ⟨P, 0, none⟩) hPw).trans k0
        have m1 := (hBk.cell (p := ⟨C, off + i * 3, none⟩) hCw).trans d0
        have m2 := (hBk.cell (p := ⟨C, off + i * 3 + 1, none⟩) hCw).trans d1
        have m3 := (hBk.cell (p := ⟨C, off + i * 3 + 2, none⟩) hCw).trans d2
        have hPr : P < wr.heap.size := Nat.lt_of_lt_of_le hPw hBk.size
        have hCr : C < wr.heap.size := Nat.lt_of_lt_of_le hCw hBk.size
        have g0 := cell_grown (a := ⟨P, 0, none⟩) hPr m0
        have g1 := cell_grown (a := ⟨C, off + i * 3, none⟩) hCr m1
        have g2 := cell_grown (a := ⟨C, off + i * 3 + 1, none⟩) hCr m2
        have g3 := cell_grown (a := ⟨C, off + i * 3 + 2, none⟩) hCr m3
        have HBk := Lib.hid hBk
        have K0 := Lib.hid k0
        have D0 := Lib.hid d0
        have D1 := Lib.hid d1
        have D2 := Lib.hid d2
        clear k0 d0 d1 d2
        by_cases hgo : k < i ∧ tells s[k]! ⟨xn, xm, xo⟩ = true
        · obtain ⟨hki, htk⟩ := hgo
          obtain ⟨G, go, rfl, hG, e0, e1, e2⟩ := HI.out.rd k (by rw [HSI.out]; exact hki)
          have hGr := Nat.lt_of_lt_of_le hG hBk.size
          have f0 := cell_grown (a := ⟨G, go + k * 3, none⟩) hGr ((hBk.cell (p := ⟨G, go + k * 3, none⟩) hG).trans e0)
          have f1 := cell_grown (a := ⟨G, go + k * 3 + 1, none⟩) hGr ((hBk.cell (p := ⟨G, go + k * 3 + 1, none⟩) hG).trans e1)
          have f2 := cell_grown (a := ⟨G, go + k * 3 + 2, none⟩) hGr ((hBk.cell (p := ⟨G, go + k * 3 + 2, none⟩) hG).trans e2)
          have hor := fun W => ref_before s[k]!.name xn s[k]!.many s[k]!.over xm xo W
          have htk2 : tells ⟨s[k]!.name, s[k]!.many, s[k]!.over⟩ ⟨xn, xm, xo⟩ = true := htk
          rw [htk2] at hor
          have HTK := Lib.hid htk
          have hki2 : (k : Int) < (i : Int) := by omega
          have t1 : decide (k < i) = true := decide_eq_true hki
          clear e0 e1 e2 htk htk2 hBk m0 m1 m2 m3
          generalize s[k]!.name = yn at f0 hor
          generalize s[k]!.many = ym at f1 hor
          generalize s[k]!.over = yo at f2 hor
          cases gk with
          | zero => exact absurd hkg (by omega)
          | succ gg =>
            go_wp2
            go_quiet_grown (exact Calls.grown_of (hor _))
            have hBq : Below wr.heap.size wr (Sort.grow (wr.drewN nq) osq) := Grown.below ⟨nq, osq, rfl⟩
            have HBq := Lib.hid (HBk.out.trans (hBq.mono HBk.out.size))
            clear hBq f0 f1 f2 g0 g1 g2 g3
            generalize Sort.grow (wr.drewN nq) osq = W5 at *
            go_wp2
            go_roundg gg
            case measure => omega
            case rel => exact ⟨k + 1, by omega, by go_num, Lib.hid (fun j hj => by
              by_cases e : j = k
              · subst e; exact HTK.out
              · exact HK.out j (by omega)), HBq.out⟩
        · have hcase : k = i ∨ (k < i ∧ tells s[k]! ⟨xn, xm, xo⟩ = false) := by
            rcases Nat.lt_or_ge k i with h | h
            · exact .inr ⟨h, by rw [← Bool.not_eq_true]; exact fun e => hgo ⟨h, e⟩⟩
            · exact .inl (by omega)
          have hki' : k ≤ i := by omega
          have HKI : Hid (k < s.length → tells s[k]! ⟨xn, xm, xo⟩ = false) := Lib.hid fun h => by
            rw [HSI.out] at h
            rcases hcase with e | e
            · omega
            · exact e.2
          have HTOLD := Lib.hid (told_ins HT.out (by rw [HSI.out]; exact hki') HK.out HKI.out)
          have HPERM : Hid ((s.take k ++ (⟨xn, xm, xo⟩ : Itm) :: s.drop k).Perm (l.take (i + 1))) := by
            have := perm_ins (k := k) HP.out (by rw [HLN.out]; exact hii)
            rw [← HX.out] at this
            exact Lib.hid this
          clear hgo
          rcases hcase with hki | ⟨hki, htk⟩
          case' neg.inl =>
            have t1 : decide (k < i) = false := decide_eq_false (by omega)
            clear m0 m1 m2 m3 g0 g1 g2 g3 hBk hki
            go_wp2
            go_quiet (fail)
            have HBq := Lib.hid (below_drewN HBk.out nq)
            generalize wr.drewN nq = W5 at *
            have hN5 : N ≤ W5.heap.size := Nat.le_trans hNw HBq.out.size
            have HI5 := Lib.hid (HI.out.below HBq.out)
            have HB5 := Lib.hid (HB.out.trans (HBq.out.mono hNw))
            have hP5 : P < W5.heap.size := Nat.lt_of_lt_of_le hPw HBq.out.size
            have hC5 : C < W5.heap.size := Nat.lt_of_lt_of_le hCw HBq.out.size
            have K5 := Lib.hid ((HBq.out.cell (p := ⟨P, 0, none⟩) hPw).trans K0.out)
            have D50 := Lib.hid ((HBq.out.cell (p := ⟨C, off + i * 3, none⟩) hCw).trans D0.out)
            have D51 := Lib.hid ((HBq.out.cell (p := ⟨C, off + i * 3 + 1, none⟩) hCw).trans D1.out)
            have D52 := Lib.hid ((HBq.out.cell (p := ⟨C, off + i * 3 + 2, none⟩) hCw).trans D2.out)
            rcases HI5.out.form with ⟨e, hs0⟩ | ⟨g', cap', e, _, hg', _, _, _, _⟩
            · simp only [Value.slice.injEq] at e
              obtain ⟨rfl, _, rfl⟩ := e
              subst hs0
              obtain rfl : i = 0 := HSI.out.symm
              obtain rfl : k = 0 := by omega
              simp only [Int.natCast_zero]
              go_wp2_with (first
                | (at_builtin; refine wpList_append_src _ rfl (.tmp 36) (.tmp 39) 38 rfl N 50 i0 _ 3 32 Try.underlying38 HI0.out HZ0.out HZ1.out HZ2.out rfl (by decide) (.slice none 0 0) 0 [] rfl (World.ownsRow_nil _ _ _ _) none 0 0 [] rfl (src_nil _) (fun u hu => by cases hu) (by unfold maxLen; omega) (by omega) hN5 ?_))
              intro v1 w1 ho1 hg1 hat1
              have hb1 : Below W5.heap.size W5 w1 := (Below.refl _ _).grown hg1 (Nat.le_refl _) (fun k hk => by cases hk)
              have HO1 : Hid (w1.ownsRow N 50 3 v1 0 []) := Lib.hid (by simpa using ho1)
              have HA1 : Hid (∀ g, v1.ownBlock = some g → W5.heap.size ≤ g) := Lib.hid fun g hg => (hat1 g hg).elim (fun e => by cases e) id
              have q0 := (hb1.cell (p := ⟨P, 0, none⟩) hP5).trans K5.out
              have q1 : w1.cell? ⟨C, off, none⟩ = some (.string xn) := by simpa using (hb1.cell (p := ⟨C, off + 0 * 3, none⟩) hC5).trans D50.out
              have q2 : w1.cell? ⟨C, off + 1, none⟩ = some (.int .u64 xm) := by simpa using (hb1.cell (p := ⟨C, off + 0 * 3 + 1, none⟩) hC5).trans D51.out
              have q3 : w1.cell? ⟨C, off + 2, none⟩ = some (.int .u64 xo) := by simpa using (hb1.cell (p := ⟨C, off + 0 * 3 + 2, none⟩) hC5).trans D52.out
              have HB1 := Lib.hid hb1
              have hN1 : N ≤ w1.heap.size := Nat.le_trans hN5 hb1.size
              clear ho1 hat1 hb1 hg1
              go_wp2_with (first
                | (at_builtin; refine wpList_append_src _ rfl (.tmp 41) (.tmp 49) 38 rfl N 50 i0 _ 3 32 Try.underlying38 HI0.out HZ0.out HZ1.out HZ2.out rfl (by decide) v1 0 [] rfl (World.ownsRow.alloc HO1.out _) (some ⟨w1.heap.size, 0, none⟩) 1 1 [.string xn, .int .u64 xm, .int .u64 xo] rfl (src_one ⟨xn, xm, xo⟩ 1 50 w1) (one_cells ⟨xn, xm, xo⟩) (by unfold maxLen; omega) (by omega) (by simp; omega) ?_))
              intro v2 w2 ho2 hg2 hat2
              have hb2 : Below W5.heap.size W5 w2 := (HB1.out.alloc HB1.out.size _).grown hg2 (Nat.le_trans HB1.out.size (by simp)) (fun g hg => HA1.out g hg)
              have HO2 : Hid (w2.ownsRow N 50 3 v2 1 [.string xn, .int .u64 xm, .int .u64 xo]) := Lib.hid (by simpa using ho2)
              have HB2 := Lib.hid hb2
              have HA2 : Hid (∀ g, v2.ownBlock = some g → W5.heap.size ≤ g) := Lib.hid fun g hg => (hat2 g hg).elim (fun e => HA1.out g e) (fun e => Nat.le_trans HB1.out.size (Nat.le_trans (by simp) e))
              have hN2 : N ≤ w2.heap.size := Nat.le_trans hN5 hb2.size
              clear ho2 hg2 hat2 hb2 q0 q1 q2 q3
              go_wp2_with (first
                | (at_builtin; refine wpList_append_src _ rfl (.tmp 51) (.tmp 54) 38 rfl N 50 i0 _ 3 32 Try.underlying38 HI0.out HZ0.out HZ1.out HZ2.out rfl (by decide) v2 1 [.string xn, .int .u64 xm, .int .u64 xo] rfl HO2.out none 0 0 [] rfl (src_nil _) (fun u hu => by cases hu) (by unfold maxLen; omega) (by omega) hN2 ?_))
              intro v3 w3 ho3 hg3 hat3
              have hb3 : Below N w w3 := (HB5.out.trans (HB2.out.mono hN5)).grown hg3 hN2 (fun g hg => Nat.le_trans hN5 (HA2.out g hg))
              have HO3 : Hid (w3.ownsRow N 50 3 v3 1 ((flat (([] : List Itm).take 0) ++ [.string xn, .int .u64 xm, .int .u64 xo]) ++ flat (([] : List Itm).drop 0))) := Lib.hid (by simpa [flat_nil] using ho3)
              have HB3 := Lib.hid hb3
              clear ho3 hg3 hat3 hb3
              go_wp2
              go_roundg g
              case measure => omega
              case rel => exact ⟨0 + 1, v3, _, by omega, rfl, by go_num, its_ins (x := ⟨xn, xm, xo⟩) HO3.out rfl, HPERM.out, HTOLD.out, HB3.out⟩
            simp only [Value.slice.injEq] at e
            obtain ⟨rfl, _, rfl⟩ := e
          case' neg.inr =>
            obtain ⟨G, go, rfl, hG, e0, e1, e2⟩ := HI.out.rd k (by rw [HSI.out]; exact hki)
            have hGr := Nat.lt_of_lt_of_le hG hBk.size
            have f0 := cell_grown (a := ⟨G, go + k * 3, none⟩) hGr ((hBk.cell (p := ⟨G, go + k * 3, none⟩) hG).trans e0)
            have f1 := cell_grown (a := ⟨G, go + k * 3 + 1, none⟩) hGr ((hBk.cell (p := ⟨G, go + k * 3 + 1, none⟩) hG).trans e1)
            have f2 := cell_grown (a := ⟨G, go + k * 3 + 2, none⟩) hGr ((hBk.cell (p := ⟨G, go + k * 3 + 2, none⟩) hG).trans e2)
            have hor := fun W => ref_before s[k]!.name xn s[k]!.many s[k]!.over xm xo W
            have htk2 : tells ⟨s[k]!.name, s[k]!.many, s[k]!.over⟩ ⟨xn, xm, xo⟩ = false := htk
            rw [htk2] at hor
            have hki2 : (k : Int) < (i : Int) := by omega
            have t1 : decide (k < i) = true := decide_eq_true hki
            clear e0 e1 e2 htk htk2 hBk m0 m1 m2 m3
            generalize s[k]!.name = yn at f0 hor
            generalize s[k]!.many = ym at f1 hor
            generalize s[k]!.over = yo at f2 hor
            go_wp2
            go_quiet_grown (exact Calls.grown_of (hor _))
            have hBq : Below wr.heap.size wr (Sort.grow (wr.drewN nq) osq) := Grown.below ⟨nq, osq, rfl⟩
            have HBq := Lib.hid (HBk.out.trans (hBq.mono HBk.out.size))
            clear hBq f0 f1 f2 g0 g1 g2 g3 hor
            generalize Sort.grow (wr.drewN nq) osq = W5 at *
            generalize (some ⟨G, go, none⟩ : Option Addr) = q at *
            have hN5 : N ≤ W5.heap.size := Nat.le_trans hNw HBq.out.size
            have HI5 := Lib.hid (HI.out.below HBq.out)
            have HB5 := Lib.hid (HB.out.trans (HBq.out.mono hNw))
            have hP5 : P < W5.heap.size := Nat.lt_of_lt_of_le hPw HBq.out.size
            have hC5 : C < W5.heap.size := Nat.lt_of_lt_of_le hCw HBq.out.size
            have K5 := Lib.hid ((HBq.out.cell (p := ⟨P, 0, none⟩) hPw).trans K0.out)
            have D50 := Lib.hid ((HBq.out.cell (p := ⟨C, off + i * 3, none⟩) hCw).trans D0.out)
            have D51 := Lib.hid ((HBq.out.cell (p := ⟨C, off + i * 3 + 1, none⟩) hCw).trans D1.out)
            have D52 := Lib.hid ((HBq.out.cell (p := ⟨C, off + i * 3 + 2, none⟩) hCw).trans D2.out)
            obtain ⟨g', cap', e, _, hg', _, _, _, _⟩ := HI5.out.form_pos (by rw [HSI.out]; omega)
            simp only [Value.slice.injEq] at e
            obtain ⟨rfl, _, rfl⟩ := e
          all_goals
            have hS1 : Src W5 (some ⟨g', 0, none⟩) capq k 3 (flat (s.take k)) := by
              exact HI5.out.src_take k (by rw [HSI.out]; exact hki')
            have HS1 := Lib.hid hS1
            have hkc : (k : Int) ≤ (capq : Int) := by omega
            have hkc2 : k ≤ capq := by omega
            clear hS1
            go_wp2_with (first
              | (at_builtin; refine wpList_append_src _ rfl (.tmp 36) (.tmp 39) 38 rfl N 50 i0 _ 3 32 Try.underlying38 HI0.out HZ0.out HZ1.out HZ2.out rfl (by decide) (.slice none 0 0) 0 [] rfl (World.ownsRow_nil _ _ _ _) (some ⟨g', 0, none⟩) k capq (flat (s.take k)) rfl HS1.out (oneCells _) (by unfold maxLen; omega) (by omega) hN5 ?_))
            intro v1 w1 ho1 hg1 hat1
            have hb1 : Below W5.heap.size W5 w1 := (Below.refl _ _).grown hg1 (Nat.le_refl _) (fun k hk => by cases hk)
            have HO1 : Hid (w1.ownsRow N 50 3 v1 k (flat (s.take k))) := Lib.hid (by simpa using ho1)
            have HA1 : Hid (∀ g, v1.ownBlock = some g → W5.heap.size ≤ g) := Lib.hid fun g hg => (hat1 g hg).elim (fun e => by cases e) id
            have q0 := (hb1.cell (p := ⟨P, 0, none⟩) hP5).trans K5.out
            have q1 := (hb1.cell (p := ⟨C, off + i * 3, none⟩) hC5).trans D50.out
            have q2 := (hb1.cell (p := ⟨C, off + i * 3 + 1, none⟩) hC5).trans D51.out
            have q3 := (hb1.cell (p := ⟨C, off + i * 3 + 2, none⟩) hC5).trans D52.out
            have HB1 := Lib.hid hb1
            have hN1 : N ≤ w1.heap.size := Nat.le_trans hN5 hb1.size
            clear ho1 hat1 hb1 hg1
            go_wp2_with (first
              | (at_builtin; refine wpList_append_src _ rfl (.tmp 41) (.tmp 49) 38 rfl N 50 i0 _ 3 32 Try.underlying38 HI0.out HZ0.out HZ1.out HZ2.out rfl (by decide) v1 k (flat (s.take k)) rfl (World.ownsRow.alloc HO1.out _) (some ⟨w1.heap.size, 0, none⟩) 1 1 [.string xn, .int .u64 xm, .int .u64 xo] rfl (src_one ⟨xn, xm, xo⟩ 1 50 w1) (one_cells ⟨xn, xm, xo⟩) (by unfold maxLen; omega) (by omega) (by simp; omega) ?_))
            intro v2 w2 ho2 hg2 hat2
            have hb2 : Below W5.heap.size W5 w2 := (HB1.out.alloc HB1.out.size _).grown hg2 (Nat.le_trans HB1.out.size (by simp)) (fun g hg => HA1.out g hg)
            have HO2 : Hid (w2.ownsRow N 50 3 v2 (k + 1) (flat (s.take k) ++ [.string xn, .int .u64 xm, .int .u64 xo])) := Lib.hid (by simpa using ho2)
            have HB2 := Lib.hid hb2
            have HI2 := Lib.hid (HI5.out.below hb2)
            have HA2 : Hid (∀ g, v2.ownBlock = some g → W5.heap.size ≤ g) := Lib.hid fun g hg => (hat2 g hg).elim (fun e => HA1.out g e) (fun e => Nat.le_trans HB1.out.size (Nat.le_trans (by simp) e))
            have hN2 : N ≤ w2.heap.size := Nat.le_trans hN5 hb2.size
            clear ho2 hg2 hat2 hb2 q0 q1 q2 q3
            have hS3 := HI2.out.src_drop (c := capq - k) k
            rw [HSI.out] at hS3
            have HS3 := Lib.hid hS3
            have hki3 : (k : Int) ≤ (i : Int) := by omega
            clear hS3
            by_cases hkq : k = capq
            · obtain rfl : k = i := by omega
              subst hkq
              go_wp2_with (first
                | (at_builtin; refine wpList_append_src _ rfl (.tmp 51) (.tmp 54) 38 rfl N 50 i0 _ 3 32 Try.underlying38 HI0.out HZ0.out HZ1.out HZ2.out rfl (by decide) v2 (k + 1) (flat (s.take k) ++ [.string xn, .int .u64 xm, .int .u64 xo]) rfl HO2.out (some ⟨g', 0, none⟩) 0 0 [] rfl (src_none _ _ _) (fun u hu => by cases hu) (by unfold maxLen; omega) (by omega) hN2 ?_))
              intro v3 w3 ho3 hg3 hat3
              have hb3 : Below N w w3 := (HB5.out.trans (HB2.out.mono hN5)).grown hg3 hN2 (fun g hg => Nat.le_trans hN5 (HA2.out g hg))
              have HO3 : Hid (w3.ownsRow N 50 3 v3 (k + 1) ((flat (s.take k) ++ [.string xn, .int .u64 xm, .int .u64 xo]) ++ flat (s.drop k))) := Lib.hid (by rw [List.drop_eq_nil_of_le (by rw [HSI.out]; exact Nat.le_refl _)]; simpa [flat_nil] using ho3)
              have HB3 := Lib.hid hb3
              clear ho3 hg3 hat3 hb3
              go_wp2
              go_roundg g
              case measure => omega
              case rel => exact ⟨k + 1, v3, _, by omega, rfl, by go_num, its_ins (x := ⟨xn, xm, xo⟩) HO3.out (by rw [HSI.out]), HPERM.out, HTOLD.out, HB3.out⟩
            · have hkq2 : k < capq := by omega
              go_wp2_with (first
                | (at_builtin; refine wpList_append_src _ rfl (.tmp 51) (.tmp 54) 38 rfl N 50 i0 _ 3 32 Try.underlying38 HI0.out HZ0.out HZ1.out HZ2.out rfl (by decide) v2 (k + 1) (flat (s.take k) ++ [.string xn, .int .u64 xm, .int .u64 xo]) rfl HO2.out (some ⟨g', k * 3, none⟩) (i - k) (capq - k) (flat (s.drop k)) rfl HS3.out (oneCells _) (by unfold maxLen; omega) (by omega) hN2 ?_))
              intro v3 w3 ho3 hg3 hat3
              have hb3 : Below N w w3 := (HB5.out.trans (HB2.out.mono hN5)).grown hg3 hN2 (fun g hg => Nat.le_trans hN5 (HA2.out g hg))
              have HO3 : Hid (w3.ownsRow N 50 3 v3 (k + 1 + (i - k)) ((flat (s.take k) ++ [.string xn, .int .u64 xm, .int .u64 xo]) ++ flat (s.drop k))) := Lib.hid (by simpa using ho3)
              have HB3 := Lib.hid hb3
              clear ho3 hg3 hat3 hb3
              go_wp2
              go_roundg g
              case measure => omega
              case rel => exact ⟨i + 1, v3, _, by omega, rfl, by go_num, its_ins (x := ⟨xn, xm, xo⟩) HO3.out (by rw [HSI.out]; omega), HPERM.out, HTOLD.out, HB3.out⟩
end Go.Proofs.Ytnkhieackclniaa
