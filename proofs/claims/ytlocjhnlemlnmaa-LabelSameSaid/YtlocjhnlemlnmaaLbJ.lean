/- A key's bytes put together. -/
import Derived.Test.YtlocjhnlemlnmaaLbS
import Derived.Lib.AppendStr
namespace Go.Proofs.Ytlocjhnlemlnmaa.Lx
open Go Go.RowKit

theorem ofNat_wrap (n : Nat) : ((UInt8.ofNat n).toNat : Int) = (n : Int) % 256 := by
  rw [UInt8.toNat_ofNat']
  omega
theorem append_string {B : Nat} {v : Value} {l : List UInt8} {w : World} (ty : TypeId) (hO : OwnB B v l w) (s : List UInt8) (hlen : l.length + s.length ≤ 140737488355328) (hB : B ≤ w.heap.size) :
    ∃ v' w', (Builtin.append_ #[24, 9] ty #[v, .string (tx s)]).run Try.prog w = .ok v' w' ∧ OwnB B v' (l ++ s) w' ∧ Mov (fun j => v.ownBlock = some j) w w' := by
  obtain ⟨i, hi, hz0, hz1, hz2⟩ := info_parts info_u8
  obtain ⟨v', w', h1, h2, h3, _⟩ := Lib.run_append_own_string (P := Try.prog) w B 24 9 ty 5 i Try.underlying24 Try.underlying9 hi hz0 hz1 hz2 v l.length (u8s l) hO (tx s) (by rw [tx_len]; unfold maxLen; omega) (by rw [tx_len]; omega) hB
  refine ⟨v', w', h1, ?_, Mov.grown h3⟩
  rw [tx_len] at h2
  unfold OwnB
  rw [List.length_append, u8s_append]
  exact h2
/-- What a key's bytes are while they are put together. -/
def Keyed (N B : Nat) (A : List UInt8) (W : World) : Prop := ∃ v, Boxed W B 24 v ∧ OwnB N v A W
theorem OwnB.notBox {B X : Nat} {v u : Value} {l : List UInt8} {W : World} {t : TypeId} (h : OwnB B v l W) (hb : Boxed W X t u) (ht : t ≠ 5) : ¬ v.ownBlock = some X := fun e => Boxed.not_row hb ht h e.symm
theorem OwnB.form {B : Nat} {v : Value} {l : List UInt8} {w : World} (h : OwnB B v l w) : ∃ p c, v = .slice p l.length c := by
  rcases h.2 with ⟨rfl, h0⟩ | ⟨g, cap, cur, rfl, _⟩
  · rw [show l.length = 0 from h0]; exact ⟨_, _, rfl⟩
  · exact ⟨_, _, rfl⟩
theorem Keyed.below {N B : Nat} {A : List UInt8} {w W : World} (h : Keyed N B A w) (hB : Below w.heap.size w W) : Keyed N B A W := by
  obtain ⟨v, h1, h2⟩ := h
  exact ⟨v, (hB.block B h1.lt).trans h1, h2.below hB⟩

/-- What is no row of bytes, nor the box, stays. -/
def KeepN (B : Nat) (w w' : World) : Prop := ∀ (L : Nat) (o : Obj), w.heap[L]? = some o → L ≠ B → (∀ cur fr, o ≠ .cells cur 5 fr) → w'.heap[L]? = some o
theorem KeepN.trans {B : Nat} {a b c : World} (h : KeepN B a b) (k : KeepN B b c) : KeepN B a c := fun L o h1 h2 h3 => k L o (h L o h1 h2 h3) h2 h3
theorem KeepN.set (B : Nat) (w : World) (v : Value) : KeepN B w (w.setCell ⟨B, 0, none⟩ v) := fun _L _o h1 h2 _ => (Below.heap_setCell _ _ _ _ h2).trans h1
theorem KeepN.row {N B : Nat} {v : Value} {A : List UInt8} {w w' : World} (hO : OwnB N v A w) (hM : Mov (fun j => v.ownBlock = some j) w w') : KeepN B w w' := fun L o h1 _ h3 => by
  refine (hM.block L (Array.getElem?_eq_some_iff.1 h1).1 fun e => ?_).trans h1
  rcases hO.2 with ⟨rfl, _⟩ | ⟨g', cap, cur, rfl, _, hc, _⟩
  · cases e
  · cases e
    rw [h1] at hc
    exact h3 _ _ (Option.some.inj hc)

set_option maxRecDepth 100000 in
set_option maxHeartbeats 4000000 in
theorem add_any (N B : Nat) (A s : List UInt8) (hA : A.length ≤ 100000) (hs : s.length ≤ 255) (hNB : N ≤ B) (w : World) (hK : Keyed N B A w) :
    Calls Try.prog 41 #[.string (tx s), .pointer (some ⟨B, 0, none⟩)] w fun e w' => (∃ v, e = .returned v) ∧ Keyed N B (A ++ txK s) w' ∧ Below N w w' ∧ KeepN B w w' := by
  obtain ⟨v, hb, hO⟩ := hK
  obtain ⟨p, c, rfl⟩ := hO.form
  have hlt := hb.lt
  obtain ⟨v1, w1, hr1, hG1⟩ := append_byte 24 hO (UInt8.ofNat s.length) (by omega) (Nat.le_trans hNB (Nat.le_of_lt hlt))
  have b1 := boxed_mov hb hG1.2.1 (hO.notBox hb (by decide))
  have n1 := hG1.1.notBox b1 (by decide)
  have B1 : Below N w w1 := hG1.below (fun g hg => (hO.lt hg).1) (Nat.le_trans hNB (Nat.le_of_lt hlt))
  have O1 : OwnB N v1 (A ++ [UInt8.ofNat s.length]) (w1.setCell ⟨B, 0, none⟩ v1) := hG1.1.mov ((Mov.refl (fun k => k = B) w1).set rfl 0 _) (fun g hg h => n1 (by rw [hg, show g = B from h]))
  have B2 : Below N w (w1.setCell ⟨B, 0, none⟩ v1) := B1.setCell (p := ⟨B, 0, none⟩) hNB _
  have b2 := b1.set v1
  obtain ⟨p1, c1, rfl⟩ := hG1.1.form
  obtain ⟨v3, w3, hr3, hO3, hM3⟩ := append_string 24 O1 s (by rw [List.length_append, List.length_singleton]; omega) (by have := B1.size; simp; omega)
  have n2 := O1.notBox b2 (by decide)
  have b3 := boxed_mov b2 hM3 n2
  obtain ⟨p3, c3, rfl⟩ := hO3.form
  have B3 : Below N w w3 := B2.trans (hM3.below (fun k hk => (O1.lt hk).1) (by have := B1.size; simp; omega))
  have n3 := hO3.notBox b3 (by decide)
  have hE : Hid (Keyed N B (A ++ txK s) (w3.setCell ⟨B, 0, none⟩ (.slice p3 (A ++ [UInt8.ofNat s.length] ++ s).length c3))) := Lib.hid ⟨_, b3.set _, by
    have := hO3.mov ((Mov.refl (fun k => k = B) w3).set rfl 0 (.slice p3 (A ++ [UInt8.ofNat s.length] ++ s).length c3)) (fun g hg h => n3 (by rw [hg, show g = B from h]))
    rw [show A ++ txK s = A ++ [UInt8.ofNat s.length] ++ s by simp [txK]]
    exact this⟩
  have hG : Hid (KeepN B w (w3.setCell ⟨B, 0, none⟩ (.slice p3 (A ++ [UInt8.ofNat s.length] ++ s).length c3))) := Lib.hid ((((KeepN.row hO hG1.2.1).trans (KeepN.set B w1 _)).trans (KeepN.row O1 hM3)).trans (KeepN.set B w3 _))
  have hF : Hid (Below N w (w3.setCell ⟨B, 0, none⟩ (.slice p3 (A ++ [UInt8.ofNat s.length] ++ s).length c3))) := Lib.hid (B3.setCell (p := ⟨B, 0, none⟩) hNB _)
  have k0 := hb.cell
  have k1 := b1.cell
  have f1 := b1.frozen
  have k2 := b2.cell
  have k3 := b3.cell
  have f3 := b3.frozen
  have hwr : IntKind.u8.wrap ((tx s).size : Int) = ((UInt8.ofNat s.length).toNat : Int) := by
    rw [ofNat_wrap, tx_len]
    simp [IntKind.wrap, IntKind.signed, IntKind.bits]
  clear hb hO hG1 b1 n1 B1 O1 B2 b2 hO3 hM3 n2 b3 B3 n3 hlt
  generalize (A ++ [UInt8.ofNat s.length] ++ s).length = L3 at *
  generalize (A ++ [UInt8.ofNat s.length]).length = L1 at *
  generalize ((UInt8.ofNat s.length).toNat : Int) = y at *
  generalize A.length = L0 at *
  generalize tx s = S at *
  go_enter Try.func41, Try.ntmps41
  go_wp2_with (first | (at_builtin; refine Lib.wpList_append_run _ rfl _ _ _ _ rfl _ _ rfl rfl _ _ hr1 ?_) | (at_builtin; refine Lib.wpList_append_run _ rfl _ _ _ _ rfl _ _ rfl rfl _ _ hr3 ?_))
  go_end0
  exact ⟨⟨_, rfl⟩, hE.out, hF.out, hG.out⟩
theorem keyed_byte (N B : Nat) (A : List UInt8) (y : UInt8) (hA : A.length ≤ 100000) (hNB : N ≤ B) (w : World) (hK : Keyed N B A w) :
    ∃ p c v1 w1, w.cell? ⟨B, 0, none⟩ = some (.slice p A.length c) ∧ (Builtin.append_ #[24, 24] 24 #[.slice p A.length c, .slice (some ⟨w.heap.size, 0, none⟩) 1 1]).run Try.prog (w.alloc (.cells #[.int .u8 (y.toNat : Int)] 5)) = .ok v1 w1 ∧
      w1.cell? ⟨B, 0, none⟩ = some (.slice p A.length c) ∧ w1.frozen? ⟨B, 0, none⟩ = false ∧ (∃ q d, v1 = .slice q (A.length + 1) d) ∧ Keyed N B (A ++ [y]) (w1.setCell ⟨B, 0, none⟩ v1) ∧ Below N w (w1.setCell ⟨B, 0, none⟩ v1) := by
  obtain ⟨v, hb, hO⟩ := hK
  obtain ⟨p, c, rfl⟩ := hO.form
  have hlt := hb.lt
  obtain ⟨v1, w1, hr1, hG1⟩ := append_byte 24 hO y (by omega) (Nat.le_trans hNB (Nat.le_of_lt hlt))
  have b1 := boxed_mov hb hG1.2.1 (hO.notBox hb (by decide))
  have n1 := hG1.1.notBox b1 (by decide)
  have B1 : Below N w w1 := hG1.below (fun g hg => (hO.lt hg).1) (Nat.le_trans hNB (Nat.le_of_lt hlt))
  obtain ⟨q, d, hq⟩ := hG1.1.form
  refine ⟨p, c, v1, w1, hb.cell, hr1, b1.cell, b1.frozen, ⟨q, d, by rw [hq]; simp⟩, ⟨v1, b1.set _, hG1.1.mov ((Mov.refl (fun k => k = B) w1).set rfl 0 v1) (fun g hg h => n1 (by rw [hg, show g = B from h]))⟩, B1.setCell (p := ⟨B, 0, none⟩) hNB _⟩

theorem labK_fit : ∀ (ls : List LabB), (∀ x ∈ ls, x.1.length ≤ 64 ∧ x.2.length ≤ 64) → (ls.flatMap labK).length ≤ 130 * ls.length
  | [], _ => by simp
  | x :: t, h => by
    have ih := labK_fit t fun y hy => h y (by simp [hy])
    obtain ⟨h1, h2⟩ := h x (by simp)
    simp only [List.flatMap_cons, List.length_append, labK, txK, List.length_cons]
    omega

set_option maxRecDepth 100000 in
set_option maxHeartbeats 8000000 in
theorem join_any (n : List UInt8) (p : Option Addr) (c : Nat) (ls : List LabB) (hn : n.length ≤ 64) (hl : ls.length ≤ 16) (hf : ∀ x ∈ ls, x.1.length ≤ 64 ∧ x.2.length ≤ 64) (w : World) (hL : LbAt p ls w) :
    Calls Try.prog 31 #[.string (tx n), .slice p ls.length c] w fun e w' => e = .returned (.string (tx (keyK n ls))) ∧ Below w.heap.size w w' := by
  have b0 := Boxed.new w 24 (.slice none 0 0)
  have HK0 : Hid (Keyed w.heap.size w.heap.size [] (w.alloc (.cells #[.slice none 0 0] 24))) := Lib.hid ⟨_, b0, OwnB.nil _ _⟩
  have hB0 : Below w.heap.size w (w.alloc (.cells #[.slice none 0 0] 24)) := (Below.refl _ _).alloc (Nat.le_refl _) _
  have HB0 := Lib.hid hB0
  have HL := Lib.hid hL
  have HF := Lib.hid hf
  have ha := fun w h => add_any w.heap.size w.heap.size [] n (by simp) (by omega) (Nat.le_refl _) w h
  clear b0 hB0 hL hf ha
  obtain ⟨N, hN⟩ : ∃ N, w.heap.size = N := ⟨_, rfl⟩
  rw [hN] at HK0 HB0 ⊢
  have HNN := Lib.hid hN
  go_enter Try.func31, Try.ntmps31
  go_wp2_with fail
  refine (add_any N N [] n (by simp) (by omega) (Nat.le_refl _) _ HK0.out).mono ?_
  rintro e w1 ⟨⟨v1, rfl⟩, hK1, hB1, _⟩
  rw [List.nil_append] at hK1
  have HB1 := Lib.hid (HB0.out.trans hB1)
  obtain ⟨q1, d1, v2, w2, c0, hr2, c2, f2, ⟨q2, d2, rfl⟩, hK2, hB2⟩ := keyed_byte N N (txK n) (UInt8.ofNat ls.length) (by simp [txK]; omega) (Nat.le_refl _) w1 hK1
  have HB2 := Lib.hid (HB1.out.trans hB2)
  have HK2 := Lib.hid hK2
  have hwr : IntKind.u8.wrap (ls.length : Int) = ((UInt8.ofNat ls.length).toNat : Int) := by
    rw [ofNat_wrap]
    simp [IntKind.wrap, IntKind.signed, IntKind.bits]
  clear HK0 HB0 hK1 hB1 HB1 hK2 hB2
  have HWR := Lib.hid hwr
  go_wp2_with (at_builtin; refine Lib.wpList_append_run _ rfl _ _ _ _ rfl _ _ rfl rfl _ _ hr2 ?_)
  clear hwr hr2 c0 c2 f2
  generalize w2.setCell ⟨N, 0, none⟩ (.slice q2 ((txK n).length + 1) d2) = W2 at *
  go_loopg [21] ls.length (fun g s21 wx => ∃ k : Nat, s21 = .int .i64 (k : Int) ∧ k + g = ls.length ∧ Hid (Keyed N N (txK n ++ [UInt8.ofNat ls.length] ++ (ls.take k).flatMap labK) wx) ∧ Hid (Below N w wx))
  case atStart => exact ⟨0, rfl, by omega, Lib.hid (by simpa using HK2.out), HB2⟩
  case round =>
    clear HK2 HB2
    obtain ⟨k, rfl, hkg, HK, HB⟩ := hrel
    cases gk with
    | zero =>
      obtain rfl : k = ls.length := by omega
      obtain ⟨v, hb, hO⟩ := HK.out
      obtain ⟨q, d, rfl⟩ := hO.form
      have hcv := own_back hO
      have k0 := hb.cell
      rw [List.take_length, show txK n ++ [UInt8.ofNat ls.length] ++ ls.flatMap labK = keyK n ls by simp [keyK]] at hcv k0
      clear hb hO HK
      go_wp2
      go_ret
      exact ⟨rfl, HB.out⟩
    | succ g =>
      have hlt : k < ls.length := by omega
      have hLx : LbAt p ls wr := HL.out.below (by rw [HNN.out]; exact HB.out)
      obtain ⟨C, off, rfl, hC, c0, c1, _, _⟩ := hLx k hlt
      obtain ⟨f1, f2⟩ := HF.out _ (List.getElem_mem hlt)
      have hAl : ((ls.take k).flatMap labK).length ≤ 2080 := by
        have := labK_fit (ls.take k) (fun x hx => HF.out x (List.take_sublist _ _ |>.subset hx))
        rw [List.length_take] at this
        omega
      have htk : txK n ++ [UInt8.ofNat ls.length] ++ (ls.take (k + 1)).flatMap labK = txK n ++ [UInt8.ofNat ls.length] ++ (ls.take k).flatMap labK ++ txK ls[k].1 ++ txK ls[k].2 := by
        rw [List.take_succ_eq_append_getElem hlt, List.flatMap_append]
        simp [labK]
      have HTK := Lib.hid htk
      have hA1 : (txK n ++ [UInt8.ofNat ls.length] ++ (ls.take k).flatMap labK).length ≤ 3000 := by
        rw [List.length_append, List.length_append]
        simp only [txK, List.length_cons, List.length_nil]
        omega
      clear htk hLx hAl
      generalize ls[k] = x at c0 c1 f1 f2 HTK
      obtain ⟨x1, x2⟩ := x
      simp only at c0 c1 f1 f2 HTK
      have HNl : Hid (N ≤ wr.heap.size) := Lib.hid (by have := HB.out.size; have := HNN.out; omega)
      have HBo : Hid (Boxed (wr.alloc (.cells #[.string (tx x1), .string (tx x2)] 47)) wr.heap.size 47 (.string (tx x1)) ∨ True) := Lib.hid (.inr trivial)
      have hnew : (wr.alloc (.cells #[.string (tx x1), .string (tx x2)] 47)).heap[wr.heap.size]? = some (.cells #[.string (tx x1), .string (tx x2)] 47) := World.alloc_heap_new _ _
      have HNW := Lib.hid hnew
      have hBx : Below N wr (wr.alloc (.cells #[.string (tx x1), .string (tx x2)] 47)) := (Below.refl _ _).alloc HNl.out _
      have HKx : Hid (Keyed N N (txK n ++ [UInt8.ofNat ls.length] ++ (ls.take k).flatMap labK) (wr.alloc (.cells #[.string (tx x1), .string (tx x2)] 47))) := Lib.hid (HK.out.below ((Below.refl _ _).alloc (Nat.le_refl _) _))
      have HBx := Lib.hid (HB.out.trans hBx)
      have hNr : N < wr.heap.size := by obtain ⟨v, hb, _⟩ := HK.out; exact hb.lt
      obtain ⟨A, hA⟩ : ∃ A, txK n ++ [UInt8.ofNat ls.length] ++ (ls.take k).flatMap labK = A := ⟨_, rfl⟩
      rw [hA] at HKx HTK hA1
      clear hnew hBx HK hA HBo
      go_wp2_with fail
      refine (add_any N N A x1 (by omega) (by omega) (Nat.le_refl _) _ HKx.out).mono ?_
      rintro e w4 ⟨⟨v4, rfl⟩, hK4, hB4, hP4⟩
      have hc4 := hP4 _ _ HNW.out (by omega) (by intro cur fr e; cases e)
      have k1 : w4.cell? ⟨wr.heap.size, 1, none⟩ = some (.string (tx x2)) := by simp [World.cell?, hc4]
      have HK4 := Lib.hid hK4
      have HB4 := Lib.hid (HBx.out.trans hB4)
      clear hK4 hB4 hP4 hc4 HKx HBx HNW c0 c1
      go_wp2_with fail
      refine (add_any N N (A ++ txK x1) x2 (by rw [List.length_append]; simp only [txK, List.length_cons]; omega) (by omega) (Nat.le_refl _) _ HK4.out).mono ?_
      rintro e w5 ⟨⟨v5, rfl⟩, hK5, hB5, _⟩
      have HK5 := Lib.hid hK5
      have HB5 := Lib.hid (HB4.out.trans hB5)
      clear hK5 hB5 k1
      go_wp2
      go_roundg g
      case measure => omega
      case rel => exact ⟨k + 1, by go_num, by omega, Lib.hid (by rw [HTK.out]; exact HK5.out), HB5⟩
end Go.Proofs.Ytlocjhnlemlnmaa.Lx
