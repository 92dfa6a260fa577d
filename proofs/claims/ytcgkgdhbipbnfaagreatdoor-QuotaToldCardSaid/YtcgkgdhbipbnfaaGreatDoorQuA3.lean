/- QuotaTold walked. -/
import Derived.Test.YtcgkgdhbipbnfaaGreatDoorQuL
import Derived.Test.YtcgkgdhbipbnfaaGreatDoorTHolM
import Derived.Test.YtcgkgdhbipbnfaaGreatDoorReg3
import Derived.BigQuiet
namespace Go.Proofs.YtcgkgdhbipbnfaaGreatDoor.Qu
open Go Go.RowKit

/-- A row of one byte that lies somewhere. -/
def RowAt (z : Int) (v : Value) (w : World) : Prop := ∃ g, v = .slice (some ⟨g, 0, none⟩) 1 1 ∧ g < w.heap.size ∧ w.cell? ⟨g, 0, none⟩ = some (.int .u8 z)
theorem RowAt.stays {z : Int} {v : Value} {w w' : World} (h : RowAt z v w) (hB : Below w.heap.size w w') : RowAt z v w' := by
  obtain ⟨g, h1, h2, h3⟩ := h
  exact ⟨g, h1, Nat.lt_of_lt_of_le h2 hB.size, (hB.cell (p := ⟨g, 0, none⟩) h2).trans h3⟩
theorem letter_in (c : Nat) (hc : c < 256) (W : World) (g : Nat) (h : W.cell? ⟨g, 0, none⟩ = some (.int .u8 (c : Int))) : (convert 68 9 (.slice (some ⟨g, 0, none⟩) 1 1)).run Tryz.prog W = .ok (.string (Tq.nmC c)) W :=
  have h8 : (UInt8.ofNat c).toNat = c := by rw [UInt8.toNat_ofNat']; omega
  run_convert_bytes_back (P := Tryz.prog) W 68 9 5 ⟨g, 0, none⟩ 1 [UInt8.ofNat c] Tryz.underlying68 Tryz.underlying5 Tryz.underlying9 (fun j hj => by
    have : j = 0 := by simp at hj; omega
    subst this
    rw [Addr.add_lit, Nat.zero_add]
    simpa [h8] using h)
/-- What holds at the head of a round: how often each was refused, by the cells and by the items. -/
structure Tl (VN R : Nat) (a : Ad) (v : Value) (s : St) (b r : Nat) (lo hi : Int) (A : Nat) (c cc : Nat → Nat) (V wx : World) : Prop where
  run : Run VN ⟨a.B, a.N, a.P, a.T, v⟩ s 0 b r lo hi V wx
  ct : Tq.CntAt R 8 c wx
  no : ∀ k, Ad.own ⟨a.B, a.N, a.P, a.T, v⟩ k → k ≠ R
  hol : Tq.Hol r cc s.l
  sn : Tq.seen s.l = A
  c0 : ∀ j, 8 ≤ j → cc j = 0
  rv : VN ≤ R
section
variable {VN R : Nat} {a : Ad} {v : Value} {s : St} {b r : Nat} {lo hi : Int} {A : Nat} {c cc : Nat → Nat} {V wx : World}
theorem Tl.below (h : Tl VN R a v s b r lo hi A c cc V wx) {wy : World} (hB : Below wx.heap.size wx wy) (hV : VN = V.heap.size) : Tl VN R a v s b r lo hi A c cc V wy :=
  ⟨h.run.below hB hV, h.ct.below hB, h.no, h.hol, h.sn, h.c0, h.rv⟩
theorem Tl.counted (h : Tl VN R a v s b r lo hi A c cc V wx) (hV : VN = V.heap.size) (j x : Nat) (hj : j < 8) : Tl VN R a v s b r lo hi A (Tq.upd c j x) cc V (wx.setCell ⟨R, j, none⟩ (.int .u64 (x : Nat))) := by
  have hM : Tq.Mov (fun k => k = R) wx (wx.setCell ⟨R, j, none⟩ (.int .u64 (x : Nat))) := Tq.Mov.set (S := fun k => k = R) (Tq.Mov.refl _ _) rfl j _
  have hr := h.run
  exact ⟨⟨hr.q.mov hM (fun k hk e => h.no k hk e), hr.bel.trans (hM.below (fun k e => e ▸ h.rv) (by rw [hV]; exact hr.bel.size)), hr.eWin, hr.bits, hr.eLo, hr.eHi, hr.room, hr.old⟩, h.ct.set j x hj, h.no, h.hol, h.sn, h.c0, h.rv⟩
theorem Tl.admit (h : Tl VN R a v s b r lo hi A c c V wx) (hV : VN = V.heap.size) (hT : Hl.Tab V) (z j q : Nat) (hj : j < 8) (hq : 97 + j = q) (hA : A ≤ 100) (fu : Bool) :
    Calls Tryz.prog 26 #[.pointer (some ⟨a.B, 0, none⟩), .string (Tq.nmC z), .string (Tq.nmC q), .bool false, .bool fu] wx fun e w' => ∃ (f : Int) (v' : Value) (s' : St), e = .returned (.int .i64 f) ∧
      ((f = 0 ∧ Tl VN R a v' s' b r lo hi A c c V w') ∨ ((f = 10 ∨ f = 4) ∧ Tl VN R a v' s' b r lo hi (A + 1) c (Tq.upd c j (c j + 1)) V w')) := by
  subst hq
  obtain ⟨k1, k2, k3, k4, k5, k6⟩ := admitS_keeps s (Tq.nmC z) (Tq.nmC (97 + j)) false fu
  have hr := h.run
  refine (admit_any hr.q (hT.below (hV ▸ hr.bel)) (Tq.nmC z) (Tq.nmC (97 + j)) (by rw [Tq.nmC_size]; decide) (by rw [Tq.nmC_size]; decide) false fu).mono ?_
  rintro e w' ⟨he, v', hq', hM, hown⟩
  have hrun : Run VN ⟨a.B, a.N, a.P, a.T, v'⟩ (admitS s (Tq.nmC z) (Tq.nmC (97 + j)) false fu) 0 b r lo hi V w' := ⟨hq', hr.bel.trans (hr.q.out hM), k1.trans hr.eWin, k2.trans hr.bits, k3.trans hr.eLo, k4.trans hr.eHi, k5.trans hr.room, k6.trans hr.old⟩
  have hct : Tq.CntAt R 8 c w' := h.ct.mov hM (fun e => h.no _ e rfl)
  have hno : ∀ k, Ad.own ⟨a.B, a.N, a.P, a.T, v'⟩ k → k ≠ R := by
    rintro k (e | e | e | e | e)
    · exact h.no k (.inl e)
    · exact h.no k (.inr (.inl e))
    · exact h.no k (.inr (.inr (.inl e)))
    · exact h.no k (.inr (.inr (.inr (.inl e))))
    · rcases hown k e with e | e
      · exact h.no k (.inr (.inr (.inr (.inr e))))
      · have := h.ct.lt; omega
  have h64 : ¬ 64 < (Tq.nmC (97 + j)).size := by rw [Tq.nmC_size]; decide
  have hc : admitC s (Tq.nmC z) (Tq.nmC (97 + j)) false fu = admC (addN s (Tq.nmC z)).cl false fu := by unfold admitC; rw [if_neg h64]
  by_cases h0 : admC (addN s (Tq.nmC z)).cl false fu = 0
  · have hs : admitS s (Tq.nmC z) (Tq.nmC (97 + j)) false fu = addN s (Tq.nmC z) := by
      unfold admitS
      rw [if_neg h64]
      exact if_pos h0
    rw [hs] at hrun
    exact ⟨_, v', _, he, .inl ⟨hc.trans h0, hrun, hct, hno, h.hol, h.sn, h.c0, h.rv⟩⟩
  · have hs : admitS s (Tq.nmC z) (Tq.nmC (97 + j)) false fu = { addN s (Tq.nmC z) with l := Tq.addS s.room (Tq.nmC (97 + j)) 1 s.l } := by
      unfold admitS
      rw [if_neg h64]
      exact if_neg h0
    have hok : Tq.seen s.l + 1 ≤ 4611686018427387904 := by rw [h.sn]; omega
    rw [hs, hr.room, Tq.addS_ok (by rw [Tq.nmC_size]; decide) (by decide) hok] at hrun
    refine ⟨_, v', _, he, .inr ⟨?_, hrun, hct, hno, ?_, ?_, ?_, h.rv⟩⟩
    · rw [hc]
      revert h0
      unfold admC
      cases (addN s (Tq.nmC z)).cl <;> cases fu <;> simp
    · exact Tq.hol_step h.hol (by omega) (by decide) hok
    · show Tq.seen (Tq.addL r (Tq.nmC (97 + j)) 1 s.l) = A + 1
      rw [Tq.seen_addL h.hol.inv.lo, h.sn]
    · intro i hi
      rw [Tq.upd_ne c _ (by omega)]
      exact h.c0 i hi
end
theorem hol_le {k : Nat} {c : Nat → Nat} {l : List Tq.Itm} (h : Tq.Hol k c l) {j : Nat} (hj : j < 26) : c j ≤ Tq.seen l := by
  by_cases hex : ∃ x ∈ l, x.name = Tq.nmC (97 + j)
  · obtain ⟨x, hx, e⟩ := hex
    obtain ⟨i, hi, e2, h3, _⟩ := h.it x hx
    obtain rfl := Tq.nmC97_inj (k := 26) (by omega) hj hi (e.symm.trans e2)
    have := Tq.many_le_seen hx
    omega
  · have h1 := h.un j hj (fun x hx hxn => hex ⟨x, hx, hxn⟩)
    by_cases hr : l.length < k
    · rw [Tq.least_nm hr] at h1; omega
    · have h2 := Tq.mem_at (Tq.worst_lt (l := l) (by have := h.inv.lo; omega))
      have h3 := Tq.least_le (k := k) h2
      have := Tq.many_le_seen h2
      omega
def z8 : Array Value := #[.int .u64 0, .int .u64 0, .int .u64 0, .int .u64 0, .int .u64 0, .int .u64 0, .int .u64 0, .int .u64 0]
theorem zeros8 : ∀ j, j < 8 → z8[j]? = some (.int .u64 0) := by
  intro j hj
  match j, hj with
  | 0, _ | 1, _ | 2, _ | 3, _ | 4, _ | 5, _ | 6, _ | 7, _ => rfl
  | n + 8, h => omega
def b8 : Array Value := #[.bool false, .bool false, .bool false, .bool false, .bool false, .bool false, .bool false, .bool false]
theorem falses8 : ∀ j, j < 8 → b8[j]? = some (.bool false) := by
  intro j hj
  match j, hj with
  | 0, _ | 1, _ | 2, _ | 3, _ | 4, _ | 5, _ | 6, _ | 7, _ => rfl
  | n + 8, h => omega
/-- Whether the name of a letter is among items. -/
def toldB (s : List Tq.Itm) (j : Nat) : Bool := s.any fun x => decide (x.name = Tq.nmC (97 + j))
/-- Block Q holds which letters were told. -/
structure ToldAt (Q : Nat) (t : Nat → Bool) (w : World) : Prop where
  lt : Q < w.heap.size
  cell : ∀ j, j < 8 → w.cell? ⟨Q, j, none⟩ = some (.bool (t j))
  fro : ∀ j, j < 8 → w.frozen? ⟨Q, j, none⟩ = false
theorem ToldAt.set {Q : Nat} {t t' : Nat → Bool} {w : World} (h : ToldAt Q t w) (j : Nat) (hj : j < 8) (hs : t' j = true) (hn : ∀ i, i < 8 → i ≠ j → t' i = t i) : ToldAt Q t' (w.setCell ⟨Q, j, none⟩ (.bool true)) := by
  refine ⟨by have := h.lt; simpa using this, fun i hi => ?_, fun i hi => by rw [World.frozen?_setCell]; exact h.fro i hi⟩
  by_cases e : i = j
  · subst e
    rw [hs]
    exact World.cell?_setCell_same w ⟨Q, i, none⟩ _ (h.cell i hi)
  · rw [hn i hi e, World.cell?_setCell_other (h := by intro he; have := congrArg Addr.off he; simp at this; omega)]
    exact h.cell i hi
/-- What holds at the head of a round over what is told. -/
structure TolAt (Q i : Nat) (s : List Tq.Itm) (W wx : World) : Prop where
  mov : Tq.Mov (fun b => b = Q) W wx
  told : ToldAt Q (toldB (s.take i)) wx
theorem toldB_take {s : List Tq.Itm} {i j : Nat} (hi : i < s.length) (hn : s[i]!.name = Tq.nmC (97 + j)) : toldB (s.take (i + 1)) j = true := by
  unfold toldB
  rw [List.take_add_one, List.getElem?_eq_getElem hi, List.any_append]
  rw [Tq.getE s i hi] at hn
  simp [hn]
theorem toldB_other {s : List Tq.Itm} {i j m : Nat} (hi : i < s.length) (hn : s[i]!.name = Tq.nmC (97 + j)) (hj : j < 8) (hm : m < 8) (h : m ≠ j) : toldB (s.take (i + 1)) m = toldB (s.take i) m := by
  unfold toldB
  rw [List.take_add_one, List.getElem?_eq_getElem hi, List.any_append]
  rw [Tq.getE s i hi] at hn
  have : Tq.nmC (97 + j) ≠ Tq.nmC (97 + m) := fun e => h (Tq.nmC97_inj (k := 26) (by omega) (by omega) (by omega) e.symm)
  simp [hn, this]
/-- What each operation of the round yields. -/
def ToPhi (B C off n c1 k z j q m : Nat) (TZ TJ : ByteArray) (fu : Bool) : Nat → Value → World → Prop
  | 5, v, w => RowAt (z : Int) v w
  | 13, v, w => RowAt (q : Int) v w
  | i, v, _ => v = ([.pointer (some ⟨B, 0, none⟩), .slice (some ⟨C, off, none⟩) n c1, .int .i64 (k : Int), .pointer (some ⟨C, off + k, none⟩), .int .u8 (z : Int), undef, .string TZ, .slice (some ⟨C, off, none⟩) n c1, .int .i64 (k : Int), .pointer (some ⟨C, off + k, none⟩), .int .u8 (z : Int), .int .u8 (j : Int), .int .u8 (q : Int), undef, .string TJ, .slice (some ⟨C, off, none⟩) n c1, .int .i64 (k : Int), .pointer (some ⟨C, off + k, none⟩), .int .u8 (z : Int), .int .u8 (m : Int), .bool fu] : List Value).getD i undef
theorem ToPhi.stays {B C off n c1 k z j q m : Nat} {TZ TJ : ByteArray} {fu : Bool} : ∀ i v w w', ToPhi B C off n c1 k z j q m TZ TJ fu i v w → Reg.Old w w' → ToPhi B C off n c1 k z j q m TZ TJ fu i v w' := by
  intro i v w w' hv hB
  unfold ToPhi at *
  split at hv
  · exact hv.stays hB
  · exact hv.stays hB
  · exact hv
set_option maxRecDepth 100000 in
set_option maxHeartbeats 32000000 in
theorem told_in (a0 a1 a2 a3 a4 a5 a6 a7 a8 a9 : Int) (q0 : Option Addr) (l0 d0 : Nat) (ow : Bool) (p : Option Addr) (hs : List Nat) (c : Nat) (hl : hs.length ≤ 9223372036854775807) (x0 x1 x2 x5 x6 x7 x8 x9 : Int) (r b l : Nat) (t : List Int) (hlit : Lit hs x0 x1 x2 x5 x6 x7 x8 x9 r b l t) (p1 : Option Addr) (l1 : List Nat) (c1 : Nat) (hl1 : l1.length ≤ 9223372036854775807) (w : World) (hT : Hl.Tab w) (hS : Po.Shorts p hs w) (hO : Tq.Octs p1 l1 w) :
    Calls Tryz.prog 7 #[.agg #[.int .i64 a0, .int .i64 a1, .int .i64 a2, .int .i64 a3, .int .i64 a4, .int .i64 a5, .int .i64 a6, .int .i64 a7, .int .i64 a8, .int .i64 a9, .slice q0 l0 d0, .bool ow, .slice p hs.length c], .slice p1 l1.length c1] w fun e w' => e = .returned (.bool true) ∧ Below w.heap.size w w' := by
  obtain ⟨n, hn⟩ : ∃ n, l1.length = n := ⟨_, rfl⟩
  have HNL := Lib.hid hn
  rw [hn] at hl1 ⊢
  clear hn
  obtain ⟨N, hN⟩ : ∃ N, w.heap.size = N := ⟨_, rfl⟩
  have HC0 : Hid (CellsAt N #[.int .i64 a0, .int .i64 a1, .int .i64 a2, .int .i64 a3, .int .i64 a4, .int .i64 a5, .int .i64 a6, .int .i64 a7, .int .i64 a8, .int .i64 a9, .slice q0 l0 d0, .bool ow, .slice p hs.length c] (w.alloc (.cells #[.int .i64 a0, .int .i64 a1, .int .i64 a2, .int .i64 a3, .int .i64 a4, .int .i64 a5, .int .i64 a6, .int .i64 a7, .int .i64 a8, .int .i64 a9, .slice q0 l0 d0, .bool ow, .slice p hs.length c] 27))) := Lib.hid (CellsAt.newAt _ _ _ _ hN.symm)
  have HB : Hid (Below w.heap.size w (w.alloc (.cells #[.int .i64 a0, .int .i64 a1, .int .i64 a2, .int .i64 a3, .int .i64 a4, .int .i64 a5, .int .i64 a6, .int .i64 a7, .int .i64 a8, .int .i64 a9, .slice q0 l0 d0, .bool ow, .slice p hs.length c] 27))) := Lib.hid ((Below.refl _ _).alloc (Nat.le_refl _) _)
  have HS := Lib.hid hS
  have HO := Lib.hid hO
  have HT := Lib.hid hT
  have HLI := Lib.hid hlit
  have HHL := Lib.hid hl
  have hle : w.heap.size ≤ N := Nat.le_of_eq hN
  have HNN := Lib.hid hN
  clear hS hO hT hlit hl
  go_enter Tryz.func7, Tryz.ntmps7
  go_wp2_with fail
  refine (examples_any _ (HT.out.below HB.out)).mono ?_
  rintro e w2 ⟨rfl, hBx⟩
  replace HC0 := Lib.hid (HC0.out.below hBx)
  replace HB := Lib.hid (HB.out.trans (hBx.mono HB.out.size))
  clear hBx
  have k11 := HC0.out.cell 11 _ rfl
  have f11 := HC0.out.fro 11 _ rfl
  have lN := HC0.out.lt
  simp only [List.getElem_toArray, List.getElem_cons_zero, List.getElem_cons_succ] at k11
  have hM : Tq.Mov (fun j => j = N) w2 (w2.setCell ⟨N, 11, none⟩ (.bool true)) := Tq.Mov.set (S := fun j => j = N) (Tq.Mov.refl _ _) rfl 11 _
  have HC1 : Hid (CellsAt N #[.int .i64 a0, .int .i64 a1, .int .i64 a2, .int .i64 a3, .int .i64 a4, .int .i64 a5, .int .i64 a6, .int .i64 a7, .int .i64 a8, .int .i64 a9, .slice q0 l0 d0, .bool true, .slice p hs.length c] (w2.setCell ⟨N, 11, none⟩ (.bool true))) := Lib.hid (HC0.out.set 11 (.bool true) (by simp))
  replace HB := Lib.hid (HB.out.trans (hM.below (N := w.heap.size) (fun j h => by omega) HB.out.size))
  clear hM HC0
  go_upto_region 5 with fail
  clear k11 f11 lN hN
  generalize w2.setCell ⟨N, 11, none⟩ (.bool true) = W3 at *
  have k0 := HC1.out.cell 0 _ rfl
  have k1 := HC1.out.cell 1 _ rfl
  have k2 := HC1.out.cell 2 _ rfl
  have k3 := HC1.out.cell 3 _ rfl
  have k4 := HC1.out.cell 4 _ rfl
  have k5 := HC1.out.cell 5 _ rfl
  have k6 := HC1.out.cell 6 _ rfl
  have k7 := HC1.out.cell 7 _ rfl
  have k8 := HC1.out.cell 8 _ rfl
  have k9 := HC1.out.cell 9 _ rfl
  have k10 := HC1.out.cell 10 _ rfl
  have k11 := HC1.out.cell 11 _ rfl
  have k12 := HC1.out.cell 12 _ rfl
  have kl := HC1.out.lt
  simp only [List.getElem_toArray, List.getElem_cons_zero, List.getElem_cons_succ] at k0 k1 k2 k3 k4 k5 k6 k7 k8 k9 k10 k11 k12
  have hwi := HLI.out.wish a0 a1 a2 a3 a4 a5 a6 a7 a8 a9 q0 l0 d0 p c W3 HHL.out (HS.out.below HB.out)
  go_wp2_with fail
  refine hwi.mono ?_
  rintro e w4 ⟨q, d, rfl, hTr, hB1⟩
  clear hwi
  clear k0 k1 k2 k3 k4 k5 k6 k7 k8 k9 k10 k11 k12 kl
  obtain ⟨P, hP⟩ : ∃ P, w4.heap.size = P := ⟨_, rfl⟩
  have hBx : Below w4.heap.size w4 (w4.alloc (.cells #[.int .i64 x0, .int .i64 x1, .int .i64 x2, .int .i64 (r : Int), .int .i64 (b : Int), .int .i64 x5, .int .i64 x6, .int .i64 x7, .int .i64 x8, .int .i64 x9, .slice q l d] 24)) := (Below.refl _ _).alloc (Nat.le_refl _) _
  have HP : Hid (CellsAt P #[.int .i64 x0, .int .i64 x1, .int .i64 x2, .int .i64 (r : Int), .int .i64 (b : Int), .int .i64 x5, .int .i64 x6, .int .i64 x7, .int .i64 x8, .int .i64 x9, .slice q l d] (w4.alloc (.cells #[.int .i64 x0, .int .i64 x1, .int .i64 x2, .int .i64 (r : Int), .int .i64 (b : Int), .int .i64 x5, .int .i64 x6, .int .i64 x7, .int .i64 x8, .int .i64 x9, .slice q l d] 24))) := Lib.hid (CellsAt.newAt _ _ _ _ hP.symm)
  have HTr := Lib.hid (hTr.below hBx)
  replace HB := Lib.hid (HB.out.trans ((hB1.trans (hBx.mono hB1.size)).mono HB.out.size))
  clear hB1 hBx hTr HC1
  go_upto_region 6 with fail
  generalize w4.alloc (.cells #[.int .i64 x0, .int .i64 x1, .int .i64 x2, .int .i64 (r : Int), .int .i64 (b : Int), .int .i64 x5, .int .i64 x6, .int .i64 x7, .int .i64 x8, .int .i64 x9, .slice q l d] 24) = V at *
  clear hP
  have HTB : Hid (Hl.Tab V) := Lib.hid (HT.out.below HB.out)
  have HOV := Lib.hid (HO.out.below HB.out)
  clear HO HT HS
  have k0 := HP.out.cell 0 _ rfl
  have k1 := HP.out.cell 1 _ rfl
  have k2 := HP.out.cell 2 _ rfl
  have k3 := HP.out.cell 3 _ rfl
  have k4 := HP.out.cell 4 _ rfl
  have k5 := HP.out.cell 5 _ rfl
  have k6 := HP.out.cell 6 _ rfl
  have k7 := HP.out.cell 7 _ rfl
  have k8 := HP.out.cell 8 _ rfl
  have k9 := HP.out.cell 9 _ rfl
  have k10 := HP.out.cell 10 _ rfl
  have kl := HP.out.lt
  simp only [List.getElem_toArray, List.getElem_cons_zero, List.getElem_cons_succ] at k0 k1 k2 k3 k4 k5 k6 k7 k8 k9 k10
  have hnw := new_in x0 x1 x2 x5 x6 x7 x8 x9 0 r b q l d t HLI.out.right (by decide) (by decide) V HTr.out
  go_wp2_with fail
  refine hnw.mono ?_
  rintro e W5 ⟨a, rfl, hQ, hB5⟩
  clear hnw
  clear k0 k1 k2 k3 k4 k5 k6 k7 k8 k9 k10 kl
  obtain ⟨VN, hVN⟩ : ∃ n, V.heap.size = n := ⟨_, rfl⟩
  rw [hVN] at hQ hB5
  have HVN := Lib.hid hVN
  have HPV : Hid (P < VN) := Lib.hid (by rw [← hVN]; exact HP.out.lt)
  have HR0 : Hid (Run VN a ⟨0, false, min x1 x2, x2, b, zl b, zl b, r, []⟩ 0 b r (min x1 x2) x2 V W5) := Lib.hid ⟨hQ, hB5, rfl, rfl, rfl, rfl, rfl, rfl⟩
  clear hQ hB5 hVN hle
  go_wp2_with fail
  have hlb := HLI.out.bounds
  have hX := CellsAt.new z8 76 W5
  have hBx := (Below.refl W5.heap.size W5).alloc (Nat.le_refl _) (.cells z8 76)
  have hF0 : Tl VN W5.heap.size a a.v ⟨0, false, min x1 x2, x2, b, zl b, zl b, r, []⟩ b r (min x1 x2) x2 0 (fun _ => 0) (fun _ => 0) V (W5.alloc (.cells z8 76)) :=
    ⟨HR0.out.below hBx HVN.out.symm, ⟨hX.lt, fun j hj => hX.cell j _ (zeros8 j hj), fun j hj => hX.fro j _ (zeros8 j hj)⟩, fun k hk => by have := (HR0.out.q.lt k hk).2; omega, Tq.hol_nil hlb.2.2.2.2.2.1 hlb.2.2.2.2.2.2, rfl, fun _ _ => rfl, by have := HR0.out.bel.size; have := HVN.out; omega⟩
  have HF0 := Lib.hid hF0
  have HR16 : Hid (1 ≤ r ∧ r ≤ 16) := Lib.hid hlb.2.2.2.2.2
  clear hF0 hX hBx HR0 hlb
  unfold z8 at HF0
  generalize W5.alloc (.cells #[.int .u64 0, .int .u64 0, .int .u64 0, .int .u64 0, .int .u64 0, .int .u64 0, .int .u64 0, .int .u64 0] 76) = W6 at *
  generalize W5.heap.size = R at *
  go_loopg [10, 11] (min n 100) (fun g al i wx => ∃ (k A : Nat) (s : St) (v : Value) (c : Nat → Nat), k + g = min n 100 ∧ A ≤ k ∧ al = .int .u64 (A : Int) ∧ i = .int .i64 (k : Int) ∧ Hid (Tl VN R a v s b r (min x1 x2) x2 A c c V wx))
  case atStart => exact ⟨0, 0, _, _, _, by omega, by omega, rfl, rfl, HF0⟩
  case round =>
    clear HF0
    obtain ⟨k, A, s, v, c, hkg, hAk, rfl, rfl, HR⟩ := hrel
    cases gk with
    | zero =>
      have hend : ¬ (k < n) ∨ (k < n ∧ ¬ (k < 100)) := by omega
      have hA100 : A ≤ 100 := by omega
      clear hkg hAk
      obtain ⟨sn, hsn⟩ : ∃ v, Hl.tx s.now = v := ⟨_, rfl⟩
      obtain ⟨so, hso⟩ : ∃ v, Hl.tx s.old = v := ⟨_, rfl⟩
      obtain ⟨sw, hsw⟩ : ∃ v, s.win = v := ⟨_, rfl⟩
      obtain ⟨sc, hsc⟩ : ∃ v, s.cl = v := ⟨_, rfl⟩
      have hst : Calls Tryz.prog 20 #[.pointer (some ⟨a.B, 0, none⟩)] wr fun e w' => ∃ v, e = .returned (.agg #[.int .i64 sw, .bool sc, .string sn, .string so, .int .u64 (A : Int), v]) ∧ ItAt wr.heap.size s.l v w' ∧ Below wr.heap.size wr w' := by
        have h9 := state_any HR.out.run.q
        rw [HR.out.sn, hsn, hso, hsw, hsc] at h9
        exact h9
      clear hsn hso hsw hsc
      rcases hend with hend | ⟨hend1, hend⟩
      all_goals
        go_wp2_with fail
        refine hst.mono ?_
        rintro e W7 ⟨v7, rfl, ⟨its, hI, hp, hto⟩, hb⟩
        clear hst hend
        obtain ⟨p7, cap7, hv7, hcap7, hmax7⟩ := hI.cap
        obtain ⟨sl, hsl⟩ : ∃ sl, its.length = sl := ⟨_, rfl⟩
        have HSL := Lib.hid hsl
        rw [hsl] at hv7 hcap7
        subst hv7
        unfold maxLen at hmax7
        have hbx : Below W7.heap.size W7 (W7.alloc (.cells #[.int .i64 sw, .bool sc, .string sn, .string so, .int .u64 (A : Int), .slice p7 sl cap7] 59)) := (Below.refl _ _).alloc (Nat.le_refl _) _
        have HSS := Lib.hid (CellsAt.new #[.int .i64 sw, .bool sc, .string sn, .string so, .int .u64 (A : Int), .slice p7 sl cap7] 59 W7)
        have HT8 := Lib.hid ((HR.out.below hb HVN.out.symm).below hbx HVN.out.symm)
        have HI8 := Lib.hid (hI.below hbx)
        have HPM := Lib.hid hp
        clear hb hI hp hto hsl hbx
        obtain ⟨S, hSe⟩ : ∃ S, W7.heap.size = S := ⟨_, rfl⟩
        rw [hSe] at HSS
        go_upto_region 19 with fail
        generalize W7.alloc (.cells #[.int .i64 sw, .bool sc, .string sn, .string so, .int .u64 (A : Int), .slice p7 sl cap7] 59) = W8 at *
        clear hSe
        go_wp2_with fail
        have hXb := CellsAt.new b8 77 W8
        have hBx := (Below.refl W8.heap.size W8).alloc (Nat.le_refl _) (.cells b8 77)
        have HL0 : Hid (TolAt W8.heap.size 0 its (W8.alloc (.cells b8 77)) (W8.alloc (.cells b8 77))) := Lib.hid ⟨Tq.Mov.refl _ _, ⟨hXb.lt, fun j hj => hXb.cell j _ (falses8 j hj), fun j hj => hXb.fro j _ (falses8 j hj)⟩⟩
        have HQI : Hid (∀ g, (Value.slice p7 sl cap7).ownBlock = some g → g < W8.heap.size) := Lib.hid fun g hg => (HI8.out.lt hg).2
        have hRQ := HT8.out.ct.lt
        have hSQ := HSS.out.lt
        have hPQ : P < W8.heap.size := Nat.lt_of_lt_of_le HPV.out (Nat.le_trans HT8.out.rv (Nat.le_of_lt hRQ))
        have hVQ : VN ≤ W8.heap.size := Nat.le_trans HT8.out.rv (Nat.le_of_lt hRQ)
        have HI9 := Lib.hid (HI8.out.below hBx)
        have HS9 := Lib.hid (HSS.out.below hBx)
        have HC9 := Lib.hid (HT8.out.ct.below hBx)
        have HB9 : Hid (Below VN V (W8.alloc (.cells b8 77))) := Lib.hid (HT8.out.run.bel.trans (hBx.mono hVQ))
        have HP9 := Lib.hid (CellsAt.belowAt HP.out HB9.out HPV.out)
        have HOL : Hid (Tq.Hol r c s.l) := Lib.hid HR.out.hol
        have HSN : Hid (Tq.seen s.l = A) := Lib.hid HR.out.sn
        have HC00 : Hid (∀ j, 8 ≤ j → c j = 0) := Lib.hid HR.out.c0
        clear hXb hBx HT8 HI8 HSS HR
        unfold b8 at HL0 HI9 HS9 HC9 HB9 HP9
        generalize W8.alloc (.cells #[.bool false, .bool false, .bool false, .bool false, .bool false, .bool false, .bool false, .bool false] 77) = W9 at *
        generalize W8.heap.size = Q at *
        go_loopg [15] sl (fun g i' wx => ∃ i2 : Nat, i2 + g = sl ∧ i' = .int .i64 (i2 : Int) ∧ Hid (TolAt Q i2 its W9 wx))
        case atStart => exact ⟨0, by omega, rfl, HL0⟩
        case round =>
          clear HL0
          obtain ⟨i2, hig2, rfl, HL⟩ := hrel
          have k5 : wr.cell? ⟨S, 5, none⟩ = some (.slice p7 sl cap7) := (HL.out.mov.cell HS9.out.lt (by omega)).trans (HS9.out.cell 5 _ rfl)
          have l5 : S < wr.heap.size := Nat.lt_of_lt_of_le HS9.out.lt HL.out.mov.size
          cases gk with
          | zero =>
            obtain rfl : i2 = sl := by omega
            have htk : its.take i2 = its := List.take_of_length_le (by rw [HSL.out]; exact Nat.le_refl _)
            have hTo := HL.out.told
            rw [htk] at hTo
            have HTO := Lib.hid hTo
            have HMV := Lib.hid HL.out.mov
            clear htk hTo hig2
            go_wp2_with fail
            clear k5 l5
            go_loopg [17] 8 (fun g i' wx => ∃ j : Nat, j + g = 8 ∧ i' = .int .i64 (j : Int) ∧ ∃ nq, wx = wr.drewN nq)
            case atStart => exact ⟨0, by omega, rfl, 0, rfl⟩
            case round =>
              obtain ⟨j, hjg, rfl, nq, rfl⟩ := hrel
              cases gk with
              | zero =>
                obtain rfl : j = 8 := by omega
                have HE : Hid (Below w.heap.size w (wr.drewN nq)) := Lib.hid (HB.out.trans ((HB9.out.trans ((HMV.out.drewN nq).below (N := VN) (fun b hb => by omega) (by rw [← HVN.out]; exact HB9.out.size))).mono (by rw [← HVN.out]; exact HB.out.size)))
                have k4 : (wr.drewN nq).cell? ⟨S, 4, none⟩ = some (.int .u64 (A : Int)) := (HMV.out.cell HS9.out.lt (by omega)).trans (HS9.out.cell 4 _ rfl)
                have l4 : S < (wr.drewN nq).heap.size := Nat.lt_of_lt_of_le HS9.out.lt HMV.out.size
                generalize wr.drewN nq = WE at *
                go_wp2
                go_ret
                exact ⟨rfl, HE.out⟩
              | succ g3 =>
                have hj8 : j < 8 := by omega
                have hj8i : (j : Int) < 8 := by omega
                have k3 : (wr.drewN nq).cell? ⟨R, j, none⟩ = some (.int .u64 (c j : Nat)) := (HMV.out.cell HC9.out.lt (by omega)).trans (HC9.out.cell j hj8)
                have k4 : (wr.drewN nq).cell? ⟨Q, j, none⟩ = some (.bool (toldB its j)) := HTO.out.cell j hj8
                have k6 : (wr.drewN nq).cell? ⟨P, 3, none⟩ = some (.int .i64 (r : Int)) := (HMV.out.cell HP9.out.lt (by omega)).trans (HP9.out.cell 3 _ rfl)
                have l3 : R < (wr.drewN nq).heap.size := Nat.lt_of_lt_of_le HC9.out.lt HMV.out.size
                have l4 : Q < (wr.drewN nq).heap.size := HTO.out.lt
                have l6 : P < (wr.drewN nq).heap.size := Nat.lt_of_lt_of_le HP9.out.lt HMV.out.size
                have htl : A / r < c j → toldB its j = true := fun h => by
                  obtain ⟨x, hx, hxn⟩ := Tq.hol_told HOL.out (j := j) (by omega) (by rw [HSN.out]; exact h)
                  unfold toldB
                  rw [List.any_eq_true]
                  exact ⟨x, HPM.out.mem_iff.2 hx, by simpa using hxn⟩
                have hcA := hol_le HOL.out (j := j) (by omega)
                rw [HSN.out] at hcA
                have hr1 := HR16.out.1
                have hr2 := HR16.out.2
                generalize c j = x at *
                generalize toldB its j = tb at *
                obtain ⟨dv, hdv⟩ : ∃ dv, A / r = dv := ⟨_, rfl⟩
                rw [hdv] at htl
                have hdi : (A : Int) / (r : Int) = (dv : Int) := by rw [← hdv]; exact (Int.natCast_ediv _ _).symm
                have hdi2 : (A : Int).tdiv (r : Int) = (dv : Int) := by rw [Int.tdiv_eq_ediv_of_nonneg (by omega)]; exact hdi
                have hdle : dv ≤ A := by rw [← hdv]; exact Nat.div_le_self _ _
                have r5 : IntKind.u64.wrap (r : Int) = (r : Int) := IntWalk.u64_in _ (by omega)
                have r6 : IntKind.u64.wrap (dv : Int) = (dv : Int) := IntWalk.u64_in _ (by omega)
                have r10 : ¬ (r = 0) := by omega
                have r11 : ¬ ((r : Int) = 0) := by omega
                clear hdv
                generalize hW8 : wr.drewN nq = W8' at *
                have HW8 := Lib.hid hW8
                clear hW8
                by_cases hdx : dv < x
                · obtain rfl : tb = true := htl hdx
                  have r2 : decide (dv < x) = true := by simp; omega
                  clear htl hdx
                  go_wp2
                  go_quiet (fail)
                  go_wp2
                  go_roundg g3
                  case measure => omega
                  case rel => exact ⟨j + 1, by omega, by go_num, _, by rw [← HW8.out, World.drewN_drewN]⟩
                · have r2 : decide (dv < x) = false := by simp; omega
                  clear htl hdx
                  go_wp2
                  go_quiet (fail)
                  go_wp2
                  go_roundg g3
                  case measure => omega
                  case rel => exact ⟨j + 1, by omega, by go_num, _, by rw [← HW8.out, World.drewN_drewN]⟩
          | succ g2 =>
            have hi2 : i2 < sl := by omega
            have hi2i : (i2 : Int) < (sl : Int) := by omega
            have hi2s : i2 < its.length := by rw [HSL.out]; exact hi2
            obtain ⟨g5, cap6, hv6, _, hg5, _, _, hcell, _⟩ := HI9.out.form_pos (by rw [HSL.out]; omega)
            have hg5Q := HQI.out g5 (by rw [hv6]; rfl)
            rw [HSL.out] at hv6
            simp only [Value.slice.injEq] at hv6
            obtain ⟨rfl, _, rfl⟩ := hv6
            have hmemL := HPM.out.mem_iff.1 (Tq.mem_at (l := its) hi2s)
            obtain ⟨d0, d1, d2⟩ := hcell i2 hi2s
            obtain ⟨jj, hj1, hj2, hj3, hj4⟩ := HOL.out.it _ hmemL
            have hov := HOL.out.inv.over _ hmemL
            have hod := Tq.over_div HOL.out.inv hmemL
            rw [HSN.out] at hod
            have hmsn := Tq.many_le_seen hmemL
            rw [HSN.out] at hmsn
            have hj8 : jj < 8 := by
              rcases Nat.lt_or_ge jj 8 with h8 | h8
              · exact h8
              · have := HC00.out jj h8; omega
            have HTT := Lib.hid (toldB_take hi2s hj2)
            have HTF := Lib.hid (fun m hm => toldB_other (m := m) hi2s hj2 hj8 hm)
            rw [hj2] at d0
            have hlook : ∀ (b o : Nat) (u : Value), b < W9.heap.size → b ≠ Q → W9.cell? ⟨b, o, none⟩ = some u → wr.cell? ⟨b, o, none⟩ = some u := fun b o u hb hn hu => (HL.out.mov.cell hb hn).trans hu
            have HL6 : Hid (TolAt Q (i2 + 1) its W9 (wr.setCell ⟨Q, jj, none⟩ (.bool true))) := Lib.hid ⟨HL.out.mov.set rfl jj (.bool true), HL.out.told.set (t' := toldB (its.take (i2 + 1))) jj hj8 HTT.out HTF.out⟩
            have hlook6 : ∀ (b o : Nat) (u : Value), b < W9.heap.size → b ≠ Q → W9.cell? ⟨b, o, none⟩ = some u → (wr.setCell ⟨Q, jj, none⟩ (.bool true)).cell? ⟨b, o, none⟩ = some u := fun b o u hb hn hu => (HL6.out.mov.cell hb hn).trans hu
            have k0 := hlook _ _ _ hg5 (by omega) d0
            have lg : g5 < wr.heap.size := Nat.lt_of_lt_of_le hg5 HL.out.mov.size
            have k4 := HL.out.told.cell jj hj8
            have f4 := HL.out.told.fro jj hj8
            have l4 := HL.out.told.lt
            have k5' := hlook6 _ _ _ HS9.out.lt (by omega) (HS9.out.cell 5 _ rfl)
            have k1 := hlook6 _ _ _ hg5 (by omega) d1
            have k2 := hlook6 _ _ _ hg5 (by omega) d2
            have k3 := hlook6 _ _ _ HC9.out.lt (by omega) (HC9.out.cell jj hj8)
            have k6 : (wr.setCell ⟨Q, jj, none⟩ (.bool true)).cell? ⟨P, 3, none⟩ = some (.int .i64 (r : Int)) := hlook6 _ _ _ HP9.out.lt (by omega) (HP9.out.cell 3 _ rfl)
            have lg6 : g5 < (wr.setCell ⟨Q, jj, none⟩ (.bool true)).heap.size := Nat.lt_of_lt_of_le hg5 HL6.out.mov.size
            have lr6 : R < (wr.setCell ⟨Q, jj, none⟩ (.bool true)).heap.size := Nat.lt_of_lt_of_le HC9.out.lt HL6.out.mov.size
            have ls6 : S < (wr.setCell ⟨Q, jj, none⟩ (.bool true)).heap.size := Nat.lt_of_lt_of_le HS9.out.lt HL6.out.mov.size
            have lp6 : P < (wr.setCell ⟨Q, jj, none⟩ (.bool true)).heap.size := Nat.lt_of_lt_of_le HP9.out.lt HL6.out.mov.size
            have hb8 : ((UInt8.ofNat (97 + jj)).toNat : Int) = ((97 + jj : Nat) : Int) := by rw [UInt8.toNat_ofNat']; omega
            replace k0 : wr.cell? ⟨g5, i2 * 3, none⟩ = some (.string ⟨#[UInt8.ofNat (97 + jj)]⟩) := k0
            generalize UInt8.ofNat (97 + jj) = b8' at *
            obtain ⟨q, hq⟩ : ∃ q, 97 + jj = q := ⟨_, rfl⟩
            rw [hq] at hb8
            have hb9 : (((⟨#[b8']⟩ : ByteArray)[0]'(Nat.zero_lt_one)).toNat : Int) = (q : Int) := hb8
            have hq1 : 97 ≤ q := by omega
            have hq3 : q ≤ 104 := by omega
            have hqj : (q : Int) - 97 = (jj : Int) := by omega
            have hj8i : (jj : Int) < 8 := by omega
            have t1 : decide ((q : Int) < 97) = false := by simp; omega
            have t2 : decide (104 < (q : Int)) = false := by simp; omega
            have t4 : IntKind.u8.wrap ((q : Int) - 97) = (jj : Int) := by rw [hqj]; exact IntWalk.u8_in _ (by omega)
            have hmx : c jj ≤ its[i2]!.many := hj3
            have hmo2 : its[i2]!.many ≤ c jj + its[i2]!.over := hj4
            have hr1 := HR16.out.1
            have hr2 := HR16.out.2
            clear hlook6 hlook hcell d0 d1 d2 hj2 hq hmemL hi2s hb8 hg5 hg5Q hj3 hj4 HL hj1
            generalize its[i2]!.many = m at *
            generalize its[i2]!.over = ov at *
            generalize c jj = x at *
            obtain ⟨dv, hdv⟩ : ∃ dv, A / r = dv := ⟨_, rfl⟩
            rw [hdv] at hod
            have hdi : (A : Int) / (r : Int) = (dv : Int) := by rw [← hdv]; exact (Int.natCast_ediv _ _).symm
            have hdi2 : (A : Int).tdiv (r : Int) = (dv : Int) := by rw [Int.tdiv_eq_ediv_of_nonneg (by omega)]; exact hdi
            have hdle : dv ≤ A := by rw [← hdv]; exact Nat.div_le_self _ _
            obtain ⟨mo, hmo⟩ : ∃ mo, m - ov = mo := ⟨_, rfl⟩
            have hmoi : (m : Int) - (ov : Int) = (mo : Int) := by omega
            obtain ⟨xd, hxd⟩ : ∃ xd, x + dv = xd := ⟨_, rfl⟩
            have hxdi : (x : Int) + (dv : Int) = (xd : Int) := by omega
            have r1 : IntKind.u64.wrap ((m : Int) - (ov : Int)) = (mo : Int) := by rw [hmoi]; exact IntWalk.u64_in _ (by omega)
            have r1b : IntKind.u64.wrap (mo : Int) = (mo : Int) := IntWalk.u64_in _ (by omega)
            have r2 : decide (m < x) = false := by simp; omega
            have r3 : decide (x < mo) = false := by simp; omega
            have r4 : decide (xd < m) = false := by simp; omega
            have r5 : IntKind.u64.wrap (r : Int) = (r : Int) := IntWalk.u64_in _ (by omega)
            have r6 : IntKind.u64.wrap (dv : Int) = (dv : Int) := IntWalk.u64_in _ (by omega)
            have r8 : IntKind.u64.wrap (xd : Int) = (xd : Int) := IntWalk.u64_in _ (by omega)
            have r10 : ¬ (r = 0) := by omega
            have r11 : ¬ ((r : Int) = 0) := by omega
            have r7 : ((r : Int) == 0) = false := by simp; omega
            clear hdv hmo hxd
            go_wp2
            generalize wr.setCell ⟨Q, jj, none⟩ (.bool true) = W6 at *
            go_quiet (fail)
            have HL7 : Hid (TolAt Q (i2 + 1) its W9 (W6.drewN nq)) := Lib.hid ⟨HL6.out.mov.drewN nq, ⟨HL6.out.told.lt, HL6.out.told.cell, HL6.out.told.fro⟩⟩
            go_wp2
            go_roundg g2
            case measure => omega
            case rel => exact ⟨i2 + 1, by omega, by go_num, HL7⟩
    | succ g =>
      have hk1 : k < n := by omega
      have hk2 : k < 100 := by omega
      have hkl : k < l1.length := by rw [HNL.out]; exact hk1
      obtain ⟨C, off, rfl, hC, hcell, hz⟩ := HOV.out k hkl
      obtain ⟨z, hzz⟩ : ∃ z, l1[k]'hkl = z := ⟨_, rfl⟩
      rw [hzz] at hcell hz
      have HC9 : Hid (C < VN) := Lib.hid (by rw [← HVN.out]; exact hC)
      have HCV : Hid (V.cell? ⟨C, off + k, none⟩ = some (.int .u8 (z : Int))) := Lib.hid hcell
      have hx : wr.drew.cell? ⟨C, off + k, none⟩ = some (.int .u8 (z : Int)) := (HR.out.run.bel.cell (p := ⟨C, off + k, none⟩) HC9.out).trans HCV.out
      have hCL : C < wr.drew.heap.size := Nat.lt_of_lt_of_le hC HR.out.run.bel.size
      obtain ⟨j, hj⟩ : ∃ j, z % 8 = j := ⟨_, rfl⟩
      have hj8 : j < 8 := by omega
      obtain ⟨q, hq⟩ : ∃ q, 97 + j = q := ⟨_, rfl⟩
      obtain ⟨m, hm⟩ : ∃ m, z % 16 = m := ⟨_, rfl⟩
      obtain ⟨fu, hfu⟩ : ∃ fu, decide ((3 : Int) < (m : Int)) = fu := ⟨_, rfl⟩
      have hq2 : q < 256 := by omega
      have HJ1 : Hid ((z : Int) % 8 = (j : Int)) := Lib.hid (by omega)
      have HJ2 : Hid ((z : Int).tmod 8 = (j : Int)) := Lib.hid (by rw [Int.tmod_eq_emod_of_nonneg (by omega)]; omega)
      have HQ1 : Hid ((97 : Int) + (j : Int) = (q : Int)) := Lib.hid (by omega)
      have HQ2 : Hid (IntKind.u8.wrap (q : Int) = (q : Int)) := Lib.hid (IntWalk.u8_in _ (by omega))
      have HM1 : Hid ((z : Int) % 16 = (m : Int)) := Lib.hid (by omega)
      have HM2 : Hid ((z : Int).tmod 16 = (m : Int)) := Lib.hid (by rw [Int.tmod_eq_emod_of_nonneg (by omega)]; omega)
      have HFU := Lib.hid hfu
      have had0 := fun (wy : World) (hb : Below wr.heap.size wr wy) => (HR.out.below hb HVN.out.symm).admit HVN.out.symm HTB.out z j q hj8 hq (by omega) fu
      have one1 := fun W g => letter_in z hz W g
      have one2 := fun W g => letter_in q hq2 W g
      obtain ⟨TZ, hTZ⟩ : ∃ t, Tq.nmC z = t := ⟨_, rfl⟩
      obtain ⟨TJ, hTJ⟩ : ∃ t, Tq.nmC q = t := ⟨_, rfl⟩
      rw [hTZ] at one1
      rw [hTJ] at one2
      rw [hTZ, hTJ] at had0
      have ONE1 := Lib.hid one1
      have ONE2 := Lib.hid one2
      have HAD := Lib.hid had0
      clear hcell hC hkl hzz hj hq hm hfu had0 one1 one2 hTZ hTJ
      go_wp2_with fail
      refine Reg.wp_region_tail (n := 200) 21 (ToPhi a.B C off n c1 k z j q m TZ TJ fu) (by kernel_rfl) (by decide) (by kernel_rfl) (by kernel_rfl) (by kernel_rfl) rfl ToPhi.stays ?_ ?_
      · refine ⟨?_, ?_, ?_, ?_, ?_, ?_, ?_, ?_, ?_, ?_, ?_, ?_, ?_, ?_, ?_, ?_, ?_, ?_, ?_, ?_, ?_, trivial⟩
        · intro cx wc hB hp hs
          have g7 : cx.tmps[7]? = some (.pointer (some ⟨a.B, 0, none⟩)) := (hs 7 (by kernel_rfl)).trans rfl
          refine Reg.ok_value Reg.Old.refl (v := .pointer (some ⟨a.B, 0, none⟩)) (Reg.wanted_none rfl) ?_ rfl
          go_simp
        · intro cx wc hB hp hs
          have g1 : cx.tmps[1]? = some (.slice (some ⟨C, off, none⟩) n c1) := (hs 1 (by kernel_rfl)).trans rfl
          refine Reg.ok_value Reg.Old.refl (v := .slice (some ⟨C, off, none⟩) n c1) (Reg.wanted_none rfl) ?_ rfl
          go_simp
        · intro cx wc hB hp hs
          have g11 : cx.tmps[11]? = some (.int .i64 (k : Int)) := (hs 11 (by kernel_rfl)).trans rfl
          refine Reg.ok_value Reg.Old.refl (v := .int .i64 (k : Int)) (Reg.wanted_none rfl) ?_ rfl
          go_simp
        · intro cx wc hB hp hs
          have g46 : cx.tmps[46]? = some (.slice (some ⟨C, off, none⟩) n c1) := by obtain ⟨_, g, hv⟩ := Reg.pred hp 1 46 (by kernel_rfl) rfl rfl; exact g.trans (congrArg some hv)
          have g47 : cx.tmps[47]? = some (.int .i64 (k : Int)) := by obtain ⟨_, g, hv⟩ := Reg.pred hp 2 47 (by kernel_rfl) rfl rfl; exact g.trans (congrArg some hv)
          have i0 : (0 : Int) ≤ (k : Int) := by omega
          have i1 : (k : Int) < (n : Int) := by omega
          refine Reg.ok_value Reg.Old.refl (v := .pointer (some ⟨C, off + k, none⟩)) (Reg.wanted_none rfl) ?_ rfl
          go_simp
        · intro cx wc hB hp hs
          have g48 : cx.tmps[48]? = some (.pointer (some ⟨C, off + k, none⟩)) := by obtain ⟨_, g, hv⟩ := Reg.pred hp 3 48 (by kernel_rfl) rfl rfl; exact g.trans (congrArg some hv)
          have kx : wc.cell? ⟨C, off + k, none⟩ = some (.int .u8 (z : Int)) := (Below.cell (p := ⟨C, off + k, none⟩) hB hCL).trans hx
          refine Reg.ok_value Reg.Old.refl (v := .int .u8 (z : Int)) (Reg.wanted_none rfl) ?_ rfl
          go_simp
        · intro cx wc hB hp hs
          have g49 : cx.tmps[49]? = some (.int .u8 (z : Int)) := by obtain ⟨_, g, hv⟩ := Reg.pred hp 4 49 (by kernel_rfl) rfl rfl; exact g.trans (congrArg some hv)
          exact Reg.ok_made (w2 := wc.alloc (.cells #[.int .u8 (z : Int)] 5)) (v := .slice (some ⟨wc.heap.size, 0, none⟩) 1 1) (Reg.wanted_none rfl) (by go_simp) ((Below.refl _ _).alloc (Nat.le_refl _) _) ⟨wc.heap.size, rfl, by simp, (CellsAt.new #[.int .u8 (z : Int)] 5 wc).cell 0 _ rfl⟩
        · intro cx wc hB hp hs
          obtain ⟨v50, g50, hv⟩ := Reg.pred hp 5 50 (by kernel_rfl) rfl rfl
          obtain ⟨gg, rfl, hg, hcell⟩ := hv
          have hrun := ONE1.out wc gg hcell
          refine Reg.ok_value Reg.Old.refl (v := .string TZ) (Reg.wanted_none rfl) ?_ rfl
          go_simp
        · intro cx wc hB hp hs
          have g1 : cx.tmps[1]? = some (.slice (some ⟨C, off, none⟩) n c1) := (hs 1 (by kernel_rfl)).trans rfl
          refine Reg.ok_value Reg.Old.refl (v := .slice (some ⟨C, off, none⟩) n c1) (Reg.wanted_none rfl) ?_ rfl
          go_simp
        · intro cx wc hB hp hs
          have g11 : cx.tmps[11]? = some (.int .i64 (k : Int)) := (hs 11 (by kernel_rfl)).trans rfl
          refine Reg.ok_value Reg.Old.refl (v := .int .i64 (k : Int)) (Reg.wanted_none rfl) ?_ rfl
          go_simp
        · intro cx wc hB hp hs
          have g52 : cx.tmps[52]? = some (.slice (some ⟨C, off, none⟩) n c1) := by obtain ⟨_, g, hv⟩ := Reg.pred hp 7 52 (by kernel_rfl) rfl rfl; exact g.trans (congrArg some hv)
          have g53 : cx.tmps[53]? = some (.int .i64 (k : Int)) := by obtain ⟨_, g, hv⟩ := Reg.pred hp 8 53 (by kernel_rfl) rfl rfl; exact g.trans (congrArg some hv)
          have i0 : (0 : Int) ≤ (k : Int) := by omega
          have i1 : (k : Int) < (n : Int) := by omega
          refine Reg.ok_value Reg.Old.refl (v := .pointer (some ⟨C, off + k, none⟩)) (Reg.wanted_none rfl) ?_ rfl
          go_simp
        · intro cx wc hB hp hs
          have g54 : cx.tmps[54]? = some (.pointer (some ⟨C, off + k, none⟩)) := by obtain ⟨_, g, hv⟩ := Reg.pred hp 9 54 (by kernel_rfl) rfl rfl; exact g.trans (congrArg some hv)
          have kx : wc.cell? ⟨C, off + k, none⟩ = some (.int .u8 (z : Int)) := (Below.cell (p := ⟨C, off + k, none⟩) hB hCL).trans hx
          refine Reg.ok_value Reg.Old.refl (v := .int .u8 (z : Int)) (Reg.wanted_none rfl) ?_ rfl
          go_simp
        · intro cx wc hB hp hs
          have g55 : cx.tmps[55]? = some (.int .u8 (z : Int)) := by obtain ⟨_, g, hv⟩ := Reg.pred hp 10 55 (by kernel_rfl) rfl rfl; exact g.trans (congrArg some hv)
          have e1 := HJ1.out
          have e2 := HJ2.out
          refine Reg.ok_value Reg.Old.refl (v := .int .u8 (j : Int)) (Reg.wanted_none rfl) ?_ rfl
          go_simp
        · intro cx wc hB hp hs
          have g56 : cx.tmps[56]? = some (.int .u8 (j : Int)) := by obtain ⟨_, g, hv⟩ := Reg.pred hp 11 56 (by kernel_rfl) rfl rfl; exact g.trans (congrArg some hv)
          have e1 := HQ1.out
          have e2 := HQ2.out
          refine Reg.ok_value Reg.Old.refl (v := .int .u8 (q : Int)) (Reg.wanted_none rfl) ?_ rfl
          go_simp
        · intro cx wc hB hp hs
          have g57 : cx.tmps[57]? = some (.int .u8 (q : Int)) := by obtain ⟨_, g, hv⟩ := Reg.pred hp 12 57 (by kernel_rfl) rfl rfl; exact g.trans (congrArg some hv)
          exact Reg.ok_made (w2 := wc.alloc (.cells #[.int .u8 (q : Int)] 5)) (v := .slice (some ⟨wc.heap.size, 0, none⟩) 1 1) (Reg.wanted_none rfl) (by go_simp) ((Below.refl _ _).alloc (Nat.le_refl _) _) ⟨wc.heap.size, rfl, by simp, (CellsAt.new #[.int .u8 (q : Int)] 5 wc).cell 0 _ rfl⟩
        · intro cx wc hB hp hs
          obtain ⟨v58, g58, hv⟩ := Reg.pred hp 13 58 (by kernel_rfl) rfl rfl
          obtain ⟨gg, rfl, hg, hcell⟩ := hv
          have hrun := ONE2.out wc gg hcell
          refine Reg.ok_value Reg.Old.refl (v := .string TJ) (Reg.wanted_none rfl) ?_ rfl
          go_simp
        · intro cx wc hB hp hs
          have g1 : cx.tmps[1]? = some (.slice (some ⟨C, off, none⟩) n c1) := (hs 1 (by kernel_rfl)).trans rfl
          refine Reg.ok_value Reg.Old.refl (v := .slice (some ⟨C, off, none⟩) n c1) (Reg.wanted_none rfl) ?_ rfl
          go_simp
        · intro cx wc hB hp hs
          have g11 : cx.tmps[11]? = some (.int .i64 (k : Int)) := (hs 11 (by kernel_rfl)).trans rfl
          refine Reg.ok_value Reg.Old.refl (v := .int .i64 (k : Int)) (Reg.wanted_none rfl) ?_ rfl
          go_simp
        · intro cx wc hB hp hs
          have g60 : cx.tmps[60]? = some (.slice (some ⟨C, off, none⟩) n c1) := by obtain ⟨_, g, hv⟩ := Reg.pred hp 15 60 (by kernel_rfl) rfl rfl; exact g.trans (congrArg some hv)
          have g61 : cx.tmps[61]? = some (.int .i64 (k : Int)) := by obtain ⟨_, g, hv⟩ := Reg.pred hp 16 61 (by kernel_rfl) rfl rfl; exact g.trans (congrArg some hv)
          have i0 : (0 : Int) ≤ (k : Int) := by omega
          have i1 : (k : Int) < (n : Int) := by omega
          refine Reg.ok_value Reg.Old.refl (v := .pointer (some ⟨C, off + k, none⟩)) (Reg.wanted_none rfl) ?_ rfl
          go_simp
        · intro cx wc hB hp hs
          have g62 : cx.tmps[62]? = some (.pointer (some ⟨C, off + k, none⟩)) := by obtain ⟨_, g, hv⟩ := Reg.pred hp 17 62 (by kernel_rfl) rfl rfl; exact g.trans (congrArg some hv)
          have kx : wc.cell? ⟨C, off + k, none⟩ = some (.int .u8 (z : Int)) := (Below.cell (p := ⟨C, off + k, none⟩) hB hCL).trans hx
          refine Reg.ok_value Reg.Old.refl (v := .int .u8 (z : Int)) (Reg.wanted_none rfl) ?_ rfl
          go_simp
        · intro cx wc hB hp hs
          have g63 : cx.tmps[63]? = some (.int .u8 (z : Int)) := by obtain ⟨_, g, hv⟩ := Reg.pred hp 18 63 (by kernel_rfl) rfl rfl; exact g.trans (congrArg some hv)
          have e1 := HM1.out
          have e2 := HM2.out
          refine Reg.ok_value Reg.Old.refl (v := .int .u8 (m : Int)) (Reg.wanted_none rfl) ?_ rfl
          go_simp
        · intro cx wc hB hp hs
          have g64 : cx.tmps[64]? = some (.int .u8 (m : Int)) := by obtain ⟨_, g, hv⟩ := Reg.pred hp 19 64 (by kernel_rfl) rfl rfl; exact g.trans (congrArg some hv)
          have e1 := HFU.out
          refine Reg.ok_value Reg.Old.refl (v := .bool fu) (Reg.wanted_none rfl) ?_ rfl
          go_simp
      · intro cx w1 hB hsz hdf hv ho
        obtain ⟨R50, h50, _⟩ := hv 5 _ 50 (by decide) rfl rfl
        obtain ⟨R58, h58, _⟩ := hv 13 _ 58 (by decide) rfl rfl
        have hcx := Reg.frame_eq [_, _, _, _, _, _, _, _, _, _, _, _, _, _, _, _, _, _, _, _, _, _, _, _, _, _, _, _, _, _, _, _, _, _, _, _, _, _, _, _, _, _, _, _, _, .pointer (some ⟨a.B, 0, none⟩), .slice (some ⟨C, off, none⟩) n c1, .int .i64 (k : Int), .pointer (some ⟨C, off + k, none⟩), .int .u8 (z : Int), R50, .string TZ, .slice (some ⟨C, off, none⟩) n c1, .int .i64 (k : Int), .pointer (some ⟨C, off + k, none⟩), .int .u8 (z : Int), .int .u8 (j : Int), .int .u8 (q : Int), R58, .string TJ, .slice (some ⟨C, off, none⟩) n c1, .int .i64 (k : Int), .pointer (some ⟨C, off + k, none⟩), .int .u8 (z : Int), .int .u8 (m : Int), .bool fu, _, _, _, _, _, _, _, _, _, _, _, _, _, _, _, _, _, _, _, _, _, _, _, _, _, _, _, _, _, _, _, _, _, _, _, _, _, _, _, _, _, _, _, _, _, _, _, _, _, _, _, _, _, _, _, _, _, _, _, _, _, _, _, _, _, _, _, _, _, _, _, _, _, _, _, _, _, _, _, _, _, _, _, _, _, _, _, _, _, _, _, _, _, _, _, _, _, _, _, _, _, _, _, _, _, _, _, _, _, _, _, _, _, _, _, _, _, _, _, _, _, _, _, _, _, _, _, _, _, _, _, _, _, _] (by simpa using hsz) hdf ⟨((Reg.kept_past ho 0 (by kernel_rfl)).trans rfl), ((Reg.kept_past ho 1 (by kernel_rfl)).trans rfl), ((Reg.kept_past ho 2 (by kernel_rfl)).trans rfl), ((Reg.kept_past ho 3 (by kernel_rfl)).trans rfl), ((Reg.kept_past ho 4 (by kernel_rfl)).trans rfl), ((Reg.kept_past ho 5 (by kernel_rfl)).trans rfl), ((Reg.kept_past ho 6 (by kernel_rfl)).trans rfl), ((Reg.kept_past ho 7 (by kernel_rfl)).trans rfl), ((Reg.kept_past ho 8 (by kernel_rfl)).trans rfl), ((Reg.kept_past ho 9 (by kernel_rfl)).trans rfl), ((Reg.kept_past ho 10 (by kernel_rfl)).trans rfl), ((Reg.kept_past ho 11 (by kernel_rfl)).trans rfl), ((Reg.kept_past ho 12 (by kernel_rfl)).trans rfl), ((Reg.kept_past ho 13 (by kernel_rfl)).trans rfl), ((Reg.kept_past ho 14 (by kernel_rfl)).trans rfl), ((Reg.kept_past ho 15 (by kernel_rfl)).trans rfl), ((Reg.kept_past ho 16 (by kernel_rfl)).trans rfl), ((Reg.kept_past ho 17 (by kernel_rfl)).trans rfl), ((Reg.kept_past ho 18 (by kernel_rfl)).trans rfl), ((Reg.kept_past ho 19 (by kernel_rfl)).trans rfl), ((Reg.kept_past ho 20 (by kernel_rfl)).trans rfl), ((Reg.kept_past ho 21 (by kernel_rfl)).trans rfl), ((Reg.kept_past ho 22 (by kernel_rfl)).trans rfl), ((Reg.kept_past ho 23 (by kernel_rfl)).trans rfl), ((Reg.kept_past ho 24 (by kernel_rfl)).trans rfl), ((Reg.kept_past ho 25 (by kernel_rfl)).trans rfl), ((Reg.kept_past ho 26 (by kernel_rfl)).trans rfl), ((Reg.kept_past ho 27 (by kernel_rfl)).trans rfl), ((Reg.kept_past ho 28 (by kernel_rfl)).trans rfl), ((Reg.kept_past ho 29 (by kernel_rfl)).trans rfl), ((Reg.kept_past ho 30 (by kernel_rfl)).trans rfl), ((Reg.kept_past ho 31 (by kernel_rfl)).trans rfl), ((Reg.kept_past ho 32 (by kernel_rfl)).trans rfl), ((Reg.kept_past ho 33 (by kernel_rfl)).trans rfl), ((Reg.kept_past ho 34 (by kernel_rfl)).trans rfl), ((Reg.kept_past ho 35 (by kernel_rfl)).trans rfl), ((Reg.kept_past ho 36 (by kernel_rfl)).trans rfl), ((Reg.kept_past ho 37 (by kernel_rfl)).trans rfl), ((Reg.kept_past ho 38 (by kernel_rfl)).trans rfl), ((Reg.kept_past ho 39 (by kernel_rfl)).trans rfl), ((Reg.kept_past ho 40 (by kernel_rfl)).trans rfl), ((Reg.kept_past ho 41 (by kernel_rfl)).trans rfl), ((Reg.kept_past ho 42 (by kernel_rfl)).trans rfl), ((Reg.kept_past ho 43 (by kernel_rfl)).trans rfl), ((Reg.kept_past ho 44 (by kernel_rfl)).trans rfl), (by obtain ⟨_, g, hx⟩ := hv 0 _ 45 (by decide) rfl rfl; exact g.trans (congrArg some hx)), (by obtain ⟨_, g, hx⟩ := hv 1 _ 46 (by decide) rfl rfl; exact g.trans (congrArg some hx)), (by obtain ⟨_, g, hx⟩ := hv 2 _ 47 (by decide) rfl rfl; exact g.trans (congrArg some hx)), (by obtain ⟨_, g, hx⟩ := hv 3 _ 48 (by decide) rfl rfl; exact g.trans (congrArg some hx)), (by obtain ⟨_, g, hx⟩ := hv 4 _ 49 (by decide) rfl rfl; exact g.trans (congrArg some hx)), h50, (by obtain ⟨_, g, hx⟩ := hv 6 _ 51 (by decide) rfl rfl; exact g.trans (congrArg some hx)), (by obtain ⟨_, g, hx⟩ := hv 7 _ 52 (by decide) rfl rfl; exact g.trans (congrArg some hx)), (by obtain ⟨_, g, hx⟩ := hv 8 _ 53 (by decide) rfl rfl; exact g.trans (congrArg some hx)), (by obtain ⟨_, g, hx⟩ := hv 9 _ 54 (by decide) rfl rfl; exact g.trans (congrArg some hx)), (by obtain ⟨_, g, hx⟩ := hv 10 _ 55 (by decide) rfl rfl; exact g.trans (congrArg some hx)), (by obtain ⟨_, g, hx⟩ := hv 11 _ 56 (by decide) rfl rfl; exact g.trans (congrArg some hx)), (by obtain ⟨_, g, hx⟩ := hv 12 _ 57 (by decide) rfl rfl; exact g.trans (congrArg some hx)), h58, (by obtain ⟨_, g, hx⟩ := hv 14 _ 59 (by decide) rfl rfl; exact g.trans (congrArg some hx)), (by obtain ⟨_, g, hx⟩ := hv 15 _ 60 (by decide) rfl rfl; exact g.trans (congrArg some hx)), (by obtain ⟨_, g, hx⟩ := hv 16 _ 61 (by decide) rfl rfl; exact g.trans (congrArg some hx)), (by obtain ⟨_, g, hx⟩ := hv 17 _ 62 (by decide) rfl rfl; exact g.trans (congrArg some hx)), (by obtain ⟨_, g, hx⟩ := hv 18 _ 63 (by decide) rfl rfl; exact g.trans (congrArg some hx)), (by obtain ⟨_, g, hx⟩ := hv 19 _ 64 (by decide) rfl rfl; exact g.trans (congrArg some hx)), (by obtain ⟨_, g, hx⟩ := hv 20 _ 65 (by decide) rfl rfl; exact g.trans (congrArg some hx)), ((Reg.kept_past ho 66 (by kernel_rfl)).trans rfl), ((Reg.kept_past ho 67 (by kernel_rfl)).trans rfl), ((Reg.kept_past ho 68 (by kernel_rfl)).trans rfl), ((Reg.kept_past ho 69 (by kernel_rfl)).trans rfl), ((Reg.kept_past ho 70 (by kernel_rfl)).trans rfl), ((Reg.kept_past ho 71 (by kernel_rfl)).trans rfl), ((Reg.kept_past ho 72 (by kernel_rfl)).trans rfl), ((Reg.kept_past ho 73 (by kernel_rfl)).trans rfl), ((Reg.kept_past ho 74 (by kernel_rfl)).trans rfl), ((Reg.kept_past ho 75 (by kernel_rfl)).trans rfl), ((Reg.kept_past ho 76 (by kernel_rfl)).trans rfl), ((Reg.kept_past ho 77 (by kernel_rfl)).trans rfl), ((Reg.kept_past ho 78 (by kernel_rfl)).trans rfl), ((Reg.kept_past ho 79 (by kernel_rfl)).trans rfl), ((Reg.kept_past ho 80 (by kernel_rfl)).trans rfl), ((Reg.kept_past ho 81 (by kernel_rfl)).trans rfl), ((Reg.kept_past ho 82 (by kernel_rfl)).trans rfl), ((Reg.kept_past ho 83 (by kernel_rfl)).trans rfl), ((Reg.kept_past ho 84 (by kernel_rfl)).trans rfl), ((Reg.kept_past ho 85 (by kernel_rfl)).trans rfl), ((Reg.kept_past ho 86 (by kernel_rfl)).trans rfl), ((Reg.kept_past ho 87 (by kernel_rfl)).trans rfl), ((Reg.kept_past ho 88 (by kernel_rfl)).trans rfl), ((Reg.kept_past ho 89 (by kernel_rfl)).trans rfl), ((Reg.kept_past ho 90 (by kernel_rfl)).trans rfl), ((Reg.kept_past ho 91 (by kernel_rfl)).trans rfl), ((Reg.kept_past ho 92 (by kernel_rfl)).trans rfl), ((Reg.kept_past ho 93 (by kernel_rfl)).trans rfl), ((Reg.kept_past ho 94 (by kernel_rfl)).trans rfl), ((Reg.kept_past ho 95 (by kernel_rfl)).trans rfl), ((Reg.kept_past ho 96 (by kernel_rfl)).trans rfl), ((Reg.kept_past ho 97 (by kernel_rfl)).trans rfl), ((Reg.kept_past ho 98 (by kernel_rfl)).trans rfl), ((Reg.kept_past ho 99 (by kernel_rfl)).trans rfl), ((Reg.kept_past ho 100 (by kernel_rfl)).trans rfl), ((Reg.kept_past ho 101 (by kernel_rfl)).trans rfl), ((Reg.kept_past ho 102 (by kernel_rfl)).trans rfl), ((Reg.kept_past ho 103 (by kernel_rfl)).trans rfl), ((Reg.kept_past ho 104 (by kernel_rfl)).trans rfl), ((Reg.kept_past ho 105 (by kernel_rfl)).trans rfl), ((Reg.kept_past ho 106 (by kernel_rfl)).trans rfl), ((Reg.kept_past ho 107 (by kernel_rfl)).trans rfl), ((Reg.kept_past ho 108 (by kernel_rfl)).trans rfl), ((Reg.kept_past ho 109 (by kernel_rfl)).trans rfl), ((Reg.kept_past ho 110 (by kernel_rfl)).trans rfl), ((Reg.kept_past ho 111 (by kernel_rfl)).trans rfl), ((Reg.kept_past ho 112 (by kernel_rfl)).trans rfl), ((Reg.kept_past ho 113 (by kernel_rfl)).trans rfl), ((Reg.kept_past ho 114 (by kernel_rfl)).trans rfl), ((Reg.kept_past ho 115 (by kernel_rfl)).trans rfl), ((Reg.kept_past ho 116 (by kernel_rfl)).trans rfl), ((Reg.kept_past ho 117 (by kernel_rfl)).trans rfl), ((Reg.kept_past ho 118 (by kernel_rfl)).trans rfl), ((Reg.kept_past ho 119 (by kernel_rfl)).trans rfl), ((Reg.kept_past ho 120 (by kernel_rfl)).trans rfl), ((Reg.kept_past ho 121 (by kernel_rfl)).trans rfl), ((Reg.kept_past ho 122 (by kernel_rfl)).trans rfl), ((Reg.kept_past ho 123 (by kernel_rfl)).trans rfl), ((Reg.kept_past ho 124 (by kernel_rfl)).trans rfl), ((Reg.kept_past ho 125 (by kernel_rfl)).trans rfl), ((Reg.kept_past ho 126 (by kernel_rfl)).trans rfl), ((Reg.kept_past ho 127 (by kernel_rfl)).trans rfl), ((Reg.kept_past ho 128 (by kernel_rfl)).trans rfl), ((Reg.kept_past ho 129 (by kernel_rfl)).trans rfl), ((Reg.kept_past ho 130 (by kernel_rfl)).trans rfl), ((Reg.kept_past ho 131 (by kernel_rfl)).trans rfl), ((Reg.kept_past ho 132 (by kernel_rfl)).trans rfl), ((Reg.kept_past ho 133 (by kernel_rfl)).trans rfl), ((Reg.kept_past ho 134 (by kernel_rfl)).trans rfl), ((Reg.kept_past ho 135 (by kernel_rfl)).trans rfl), ((Reg.kept_past ho 136 (by kernel_rfl)).trans rfl), ((Reg.kept_past ho 137 (by kernel_rfl)).trans rfl), ((Reg.kept_past ho 138 (by kernel_rfl)).trans rfl), ((Reg.kept_past ho 139 (by kernel_rfl)).trans rfl), ((Reg.kept_past ho 140 (by kernel_rfl)).trans rfl), ((Reg.kept_past ho 141 (by kernel_rfl)).trans rfl), ((Reg.kept_past ho 142 (by kernel_rfl)).trans rfl), ((Reg.kept_past ho 143 (by kernel_rfl)).trans rfl), ((Reg.kept_past ho 144 (by kernel_rfl)).trans rfl), ((Reg.kept_past ho 145 (by kernel_rfl)).trans rfl), ((Reg.kept_past ho 146 (by kernel_rfl)).trans rfl), ((Reg.kept_past ho 147 (by kernel_rfl)).trans rfl), ((Reg.kept_past ho 148 (by kernel_rfl)).trans rfl), ((Reg.kept_past ho 149 (by kernel_rfl)).trans rfl), ((Reg.kept_past ho 150 (by kernel_rfl)).trans rfl), ((Reg.kept_past ho 151 (by kernel_rfl)).trans rfl), ((Reg.kept_past ho 152 (by kernel_rfl)).trans rfl), ((Reg.kept_past ho 153 (by kernel_rfl)).trans rfl), ((Reg.kept_past ho 154 (by kernel_rfl)).trans rfl), ((Reg.kept_past ho 155 (by kernel_rfl)).trans rfl), ((Reg.kept_past ho 156 (by kernel_rfl)).trans rfl), ((Reg.kept_past ho 157 (by kernel_rfl)).trans rfl), ((Reg.kept_past ho 158 (by kernel_rfl)).trans rfl), ((Reg.kept_past ho 159 (by kernel_rfl)).trans rfl), ((Reg.kept_past ho 160 (by kernel_rfl)).trans rfl), ((Reg.kept_past ho 161 (by kernel_rfl)).trans rfl), ((Reg.kept_past ho 162 (by kernel_rfl)).trans rfl), ((Reg.kept_past ho 163 (by kernel_rfl)).trans rfl), ((Reg.kept_past ho 164 (by kernel_rfl)).trans rfl), ((Reg.kept_past ho 165 (by kernel_rfl)).trans rfl), ((Reg.kept_past ho 166 (by kernel_rfl)).trans rfl), ((Reg.kept_past ho 167 (by kernel_rfl)).trans rfl), ((Reg.kept_past ho 168 (by kernel_rfl)).trans rfl), ((Reg.kept_past ho 169 (by kernel_rfl)).trans rfl), ((Reg.kept_past ho 170 (by kernel_rfl)).trans rfl), ((Reg.kept_past ho 171 (by kernel_rfl)).trans rfl), ((Reg.kept_past ho 172 (by kernel_rfl)).trans rfl), ((Reg.kept_past ho 173 (by kernel_rfl)).trans rfl), ((Reg.kept_past ho 174 (by kernel_rfl)).trans rfl), ((Reg.kept_past ho 175 (by kernel_rfl)).trans rfl), ((Reg.kept_past ho 176 (by kernel_rfl)).trans rfl), ((Reg.kept_past ho 177 (by kernel_rfl)).trans rfl), ((Reg.kept_past ho 178 (by kernel_rfl)).trans rfl), ((Reg.kept_past ho 179 (by kernel_rfl)).trans rfl), ((Reg.kept_past ho 180 (by kernel_rfl)).trans rfl), ((Reg.kept_past ho 181 (by kernel_rfl)).trans rfl), ((Reg.kept_past ho 182 (by kernel_rfl)).trans rfl), ((Reg.kept_past ho 183 (by kernel_rfl)).trans rfl), ((Reg.kept_past ho 184 (by kernel_rfl)).trans rfl), ((Reg.kept_past ho 185 (by kernel_rfl)).trans rfl), ((Reg.kept_past ho 186 (by kernel_rfl)).trans rfl), ((Reg.kept_past ho 187 (by kernel_rfl)).trans rfl), ((Reg.kept_past ho 188 (by kernel_rfl)).trans rfl), ((Reg.kept_past ho 189 (by kernel_rfl)).trans rfl), ((Reg.kept_past ho 190 (by kernel_rfl)).trans rfl), ((Reg.kept_past ho 191 (by kernel_rfl)).trans rfl), ((Reg.kept_past ho 192 (by kernel_rfl)).trans rfl), ((Reg.kept_past ho 193 (by kernel_rfl)).trans rfl), ((Reg.kept_past ho 194 (by kernel_rfl)).trans rfl), ((Reg.kept_past ho 195 (by kernel_rfl)).trans rfl), ((Reg.kept_past ho 196 (by kernel_rfl)).trans rfl), ((Reg.kept_past ho 197 (by kernel_rfl)).trans rfl), ((Reg.kept_past ho 198 (by kernel_rfl)).trans rfl), ((Reg.kept_past ho 199 (by kernel_rfl)).trans rfl), trivial⟩
        rw [hcx]
        have hb1 : Below wr.heap.size wr w1 := (Below.refl _ _).drew.trans hB
        have had := HAD.out w1 hb1
        simp only [List.drop_succ_cons, List.drop_zero]
        clear hv ho hsz hdf hcx HR hx hCL ONE1 ONE2 HAD hB hb1 h50 h58
        go_wp2_with fail
        refine had.mono ?_
        clear had
        rintro e Wa ⟨f, v', s', rfl, ⟨rfl, hT0⟩ | ⟨hf, hT1⟩⟩
        · have HT0 := Lib.hid hT0
          clear hT0
          go_wp2
          go_roundg g
          case measure => omega
          case rel => exact ⟨k + 1, A, s', v', c, by omega, by omega, rfl, by go_num, HT0⟩
        · obtain ⟨x, hxc⟩ : ∃ x, c j = x := ⟨_, rfl⟩
          obtain ⟨y, hy⟩ : ∃ y, x + 1 = y := ⟨_, rfl⟩
          have hyi : (x : Int) + 1 = (y : Int) := by omega
          have HT2 : Hid (Tl VN R a v' s' b r (min x1 x2) x2 (A + 1) (Tq.upd c j (c j + 1)) (Tq.upd c j (c j + 1)) V (Wa.setCell ⟨R, j, none⟩ (.int .u64 (y : Int)))) := Lib.hid (by
            have h9 := hT1.counted HVN.out.symm j (c j + 1) hj8
            rw [hxc, hy] at h9 ⊢
            exact h9)
          have hle9 : x ≤ A + 1 := by
            have h9 := hol_le hT1.hol (j := j) (by omega)
            rw [Tq.upd_same, hT1.sn, hxc] at h9
            omega
          have k3 : Wa.cell? ⟨R, j, none⟩ = some (.int .u64 (x : Int)) := by rw [← hxc]; exact hT1.ct.cell j hj8
          have f3 : Wa.frozen? ⟨R, j, none⟩ = false := hT1.ct.fro j hj8
          have l3 := hT1.ct.lt
          have hx9 : Wa.cell? ⟨C, off + k, none⟩ = some (.int .u8 (z : Int)) := (hT1.run.bel.cell (p := ⟨C, off + k, none⟩) HC9.out).trans HCV.out
          have l9 : C < Wa.heap.size := Nat.lt_of_lt_of_le HC9.out (by have := hT1.run.bel.size; rw [HVN.out] at this; exact this)
          have e1 := HJ1.out
          have e2 := HJ2.out
          have r1 : IntKind.u64.wrap (y : Int) = (y : Int) := IntWalk.u64_in _ (by omega)
          have hj8i : (j : Int) < 8 := by omega
          clear hxc hy hT1
          rcases hf with rfl | rfl
          all_goals
            go_wp2
            go_roundg g
            case measure => omega
            case rel => exact ⟨k + 1, A + 1, s', v', _, by omega, by omega, by go_num, by go_num, HT2⟩
theorem QuotaTold_walk (x : Po.WishV) (p1 : Option Addr) (l1 : List Nat) (c1 : Nat) (h1 : l1.length ≤ c1) (hm : c1 ≤ maxLen) (w : World) (hT : Hl.Tab w) (hx : x.fits w) (hO : Tq.Octs p1 l1 w) :
    Calls Tryz.prog 7 #[.agg x.vals, .slice p1 l1.length c1] w fun e w' => e = .returned (.bool true) ∧ Below w.heap.size w w' := by
  have hlen : l1.length ≤ 9223372036854775807 := by unfold maxLen at hm; omega
  obtain ⟨nx, q0, t0, d0, ow, p, hs, c⟩ := x
  obtain ⟨a0, a1, a2, a3, a4, a5, a6, a7, a8, a9, rfl⟩ := Po.ten_of hx.len
  obtain ⟨x0, x1, x2, x5, x6, x7, x8, x9, r, b, l, t, hlit⟩ := lit_of hs
  exact told_in a0 a1 a2 a3 a4 a5 a6 a7 a8 a9 q0 t0.length d0 ow p hs c hx.hl x0 x1 x2 x5 x6 x7 x8 x9 r b l t hlit p1 l1 c1 hlen w hT hx.nums hO
end Go.Proofs.YtcgkgdhbipbnfaaGreatDoor.Qu
