/- A quota: what it is; where it lies. What a quota is made of. How many came; whether one may come in. -/
import Derived.Test.YtcgkgdhbipbnfaaGreatDoorMhB
import Derived.Test.YtcgkgdhbipbnfaaGreatDoorMtD
import Derived.Test.YtcgkgdhbipbnfaaGreatDoorMgA
import Derived.Test.YtcgkgdhbipbnfaaGreatDoorMsA
import Derived.Test.YtcgkgdhbipbnfaaGreatDoorPoR
import Derived.Deep.Cut
namespace Go.Proofs.YtcgkgdhbipbnfaaGreatDoor.Qu
open Go Go.RowKit

/-- What a quota is. -/
structure St where
  win : Int
  cl : Bool
  lo : Int
  hi : Int
  b : Nat
  now : List UInt8
  old : List UInt8
  room : Nat
  l : List Tq.Itm
/-- Where it lies. -/
structure Ad where
  B : Nat
  N : Nat
  P : Nat
  T : Nat
  v : Value
/-- Its blocks. -/
def Ad.own (a : Ad) (k : Nat) : Prop := k = a.B ∨ k = a.N ∨ k = a.P ∨ k = a.T ∨ a.v.ownBlock = some k
/-- The cells of the quota itself. -/
def cellsQ (a : Ad) (s : St) : Array Value := #[.int .i64 s.win, .bool s.cl, .int .u64 s.lo, .int .u64 s.hi, .pointer (some ⟨a.N, 0, none⟩), .pointer (some ⟨a.P, 0, none⟩), .pointer (some ⟨a.T, 0, none⟩)]
/-- No two of the blocks are one. -/
structure Ad.Apart (a : Ad) : Prop where
  BN : a.B ≠ a.N
  BP : a.B ≠ a.P
  BT : a.B ≠ a.T
  NP : a.N ≠ a.P
  NT : a.N ≠ a.T
  PT : a.P ≠ a.T
  vB : a.v.ownBlock ≠ some a.B
  vN : a.v.ownBlock ≠ some a.N
  vP : a.v.ownBlock ≠ some a.P
/-- A quota at a. -/
structure Qo (base : Nat) (a : Ad) (s : St) (w : World) : Prop where
  lo : base ≤ a.B
  lN : base ≤ a.N
  lP : base ≤ a.P
  ap : a.Apart
  c : CellsAt a.B (cellsQ a s) w
  now : Hl.Sk a.N s.b s.now w
  old : Hl.Sk a.P s.b s.old w
  nl : Hl.Low s.now
  ol : Hl.Low s.old
  top : Tq.Tp base a.T s.room a.v s.l w
  win : 0 ≤ s.win ∧ s.win ≤ 9223372036854775807
  glo : 0 ≤ s.lo ∧ s.lo < 18446744073709551616
  ghi : 0 ≤ s.hi ∧ s.hi < 18446744073709551616

section
variable {S : Nat → Prop} {w w' : World}
theorem cells_mov {B : Nat} {xs : Array Value} (h : CellsAt B xs w) (hM : Tq.Mov S w w') (hn : ¬ S B) : CellsAt B xs w' :=
  ⟨Nat.lt_of_lt_of_le h.lt hM.size, fun i v hi => (hM.cell h.lt hn).trans (h.cell i v hi), fun i v hi => (hM.frozen h.lt hn).trans (h.fro i v hi)⟩
theorem sk_mov {B b : Nat} {l : List UInt8} (h : Hl.Sk B b l w) (hM : Tq.Mov S w w') (hn : ¬ S B) : Hl.Sk B b l w' :=
  ⟨Nat.lt_of_lt_of_le h.lt hM.size, h.lo, h.hi, h.len, (hM.cell h.lt hn).trans h.bits, fun i hi => (hM.cell h.lt hn).trans (h.cell i hi), fun i hi => (hM.frozen h.lt hn).trans (h.fro i hi)⟩
theorem mov_chg {B : Nat} (h : Hl.Chg B w w') (hS : S B) : Tq.Mov S w w' := ⟨h.os, h.tape, h.output, h.size, fun k hk hn => h.block k hk (fun e => hn (e ▸ hS))⟩
theorem mov_weak {T : Nat → Prop} (h : Tq.Mov S w w') (hST : ∀ k, k < w.heap.size → S k → T k) : Tq.Mov T w w' := ⟨h.os, h.tape, h.output, h.size, fun k hk hn => h.block k hk (fun e => hn (hST k hk e))⟩
end
section
variable {base : Nat} {a : Ad} {s : St} {w w' : World} {S : Nat → Prop}
theorem Qo.lt (h : Qo base a s w) : ∀ k, a.own k → base ≤ k ∧ k < w.heap.size := by
  rintro k (rfl | rfl | rfl | rfl | hk)
  · exact ⟨h.lo, h.c.lt⟩
  · exact ⟨h.lN, h.now.lt⟩
  · exact ⟨h.lP, h.old.lt⟩
  · exact ⟨h.top.lo, h.top.lt⟩
  · exact h.top.row.lt hk
theorem Qo.mov (h : Qo base a s w) (hM : Tq.Mov S w w') (hn : ∀ k, a.own k → ¬ S k) : Qo base a s w' :=
  ⟨h.lo, h.lN, h.lP, h.ap, cells_mov h.c hM (hn _ (.inl rfl)), sk_mov h.now hM (hn _ (.inr (.inl rfl))), sk_mov h.old hM (hn _ (.inr (.inr (.inl rfl)))), h.nl, h.ol,
    h.top.mov hM (hn _ (.inr (.inr (.inr (.inl rfl))))) (fun _ hg => hn _ (.inr (.inr (.inr (.inr hg))))), h.win, h.glo, h.ghi⟩
theorem Qo.below (h : Qo base a s w) (hB : Below w.heap.size w w') : Qo base a s w' :=
  h.mov (Tq.Mov.of hB) fun k hk => by have := (h.lt k hk).2; omega
theorem Qo.drew (h : Qo base a s w) : Qo base a s w.drew := h.mov (S := fun _ => False) ⟨rfl, rfl, rfl, Nat.le_refl _, fun _ _ _ => rfl⟩ fun _ _ h => h
/-- What changes a quota alone leaves all below it. -/
theorem Qo.out (h : Qo base a s w) (hM : Tq.Mov a.own w w') : Below base w w' := hM.below (fun k hk => (h.lt k hk).1) (Nat.le_trans h.lo (Nat.le_of_lt h.c.lt))
end

/-- Nothing added. -/
def zl (b : Nat) : List UInt8 := List.replicate (2 ^ b) 0
theorem zl_len (b : Nat) : (zl b).length = 2 ^ b := by simp [zl]
theorem merge_zl {b : Nat} {l : List UInt8} (h : l.length = 2 ^ b) : Hl.mergeL (zl b) l = l :=
  Hl.regs_ext (by rw [Hl.mergeL_length (by rw [zl_len, h]), zl_len, h]) fun i => by
    rw [Hl.mergeL_at (by rw [zl_len, h]) i]
    unfold zl
    rw [Hl.zeros_at]
    omega
theorem merge_lz {b : Nat} {l : List UInt8} (h : l.length = 2 ^ b) : Hl.mergeL l (zl b) = l :=
  Hl.regs_ext (by rw [Hl.mergeL_length (by rw [zl_len, h])]) fun i => by
    rw [Hl.mergeL_at (by rw [zl_len, h]) i]
    unfold zl
    rw [Hl.zeros_at]
    omega
theorem est_zl (b : Nat) (lo : 4 ≤ b) (hi : b ≤ 10) : Hl.estOf b (zl b) = 0 := Hl.est_none b lo hi
/-- About how many came. -/
def many (s : St) : Nat := Hl.estOf s.b (Hl.mergeL s.now s.old)
/-- The sum of a key. -/
def hashN (key : ByteArray) : Nat := (ssum 0 0 key.data.toList).toNat
/-- One that came is counted. -/
def addN (s : St) (key : ByteArray) : St :=
  let now := Hl.addL s.b (hashN key) s.now
  { s with now := now, cl := s.cl || decide (s.hi ≤ (Hl.estOf s.b (Hl.mergeL now s.old) : Int)) }
/-- Whether it may come in. -/
def admC (cl kn fu : Bool) : Int := if kn then 0 else if cl then 10 else if fu then 4 else 0
/-- What is answered. -/
def admitC (s : St) (key metric : ByteArray) (kn fu : Bool) : Int := if 64 < metric.size then 1 else admC (addN s key).cl kn fu
/-- The quota behind it. -/
def admitS (s : St) (key metric : ByteArray) (kn fu : Bool) : St :=
  if 64 < metric.size then s else
    let t := addN s key
    if admC t.cl kn fu = 0 then t else { t with l := Tq.addS t.room metric 1 t.l }
/-- What a new one is. -/
def newS (n : List Int) (win : Int) : St := ⟨win, false, min n[1]! n[2]!, n[2]!, n[4]!.toNat, zl n[4]!.toNat, zl n[4]!.toNat, n[3]!.toNat, []⟩
/-- What is told of a roll. -/
def rollC (s : St) (win : Int) (right : Bool) : Int := if win ≤ s.win ∨ right = false then 0 else if win - s.win = 1 then 1 else 2
def rollS (s : St) (win : Int) (right : Bool) (n : List Int) : St :=
  if win ≤ s.win ∨ right = false then s else
    let b := n[4]!.toNat
    let e := if win - s.win = 1 then Hl.estOf s.b s.now else 0
    let old := if win - s.win = 1 ∧ s.b = b then s.now else zl b
    ⟨win, s.cl && decide (s.lo < (e : Int)), min n[1]! n[2]!, n[2]!, b, zl b, old, n[3]!.toNat, []⟩
end Go.Proofs.YtcgkgdhbipbnfaaGreatDoor.Qu

namespace Go.Proofs.YtcgkgdhbipbnfaaGreatDoor.Qu
open Go Go.RowKit

theorem nothing_any (b : Nat) (lo : 4 ≤ b) (hi : b ≤ 10) (w : World) :
    Calls Tryz.prog 34 #[.int .i64 b] w fun e w' => e = .returned (.pointer (some ⟨w.heap.size, 0, none⟩)) ∧ Below w.heap.size w w' ∧ Hl.Sk w.heap.size b (zl b) w' ∧ w'.heap.size = w.heap.size + 1 := by
  have hn := Hl.new_in b (by omega) (by omega) w
  have HS := Lib.hid (Hl.new_sk b lo hi w)
  go_enter Tryz.func34, Tryz.ntmps34
  go_wp2_with fail
  refine hn.mono ?_
  rintro e w' ⟨rfl, hw⟩
  have HB : Hid (Below w.heap.size w w' ∧ Hl.Sk w.heap.size b (zl b) w' ∧ w'.heap.size = w.heap.size + 1) := Lib.hid (by
    subst hw
    exact ⟨(Below.refl _ _).alloc (Nat.le_refl _) _, HS.out, by simp⟩)
  clear hw hn HS
  go_wp2
  go_ret
  exact ⟨rfl, HB.out⟩
theorem nobody_any (r : Nat) (lo : 1 ≤ r) (hi : r ≤ 16) (w : World) :
    Calls Tryz.prog 35 #[.int .i64 r] w fun e w' => e = .returned (.pointer (some ⟨w.heap.size, 0, none⟩)) ∧ Below w.heap.size w w' ∧ Tq.Tp w.heap.size w.heap.size r (.slice none 0 0) [] w' ∧ w'.heap.size = w.heap.size + 1 := by
  have hn := Tq.new_in r (by omega) (by omega) w
  have hC := CellsAt.new #[.int .i64 r, .slice none 0 0] 150 w
  have HS : Hid (Tq.Tp w.heap.size w.heap.size r (.slice none 0 0) [] (w.alloc (.cells #[.int .i64 r, .slice none 0 0] 150))) := Lib.hid ⟨hC.lt, Nat.le_refl _, Tq.inv_nil lo hi, hC.cell 0 _ rfl, hC.cell 1 _ rfl, hC.fro 1 _ rfl, Tq.Its.nil _ _ _, by simp [Value.ownBlock]⟩
  clear hC
  go_enter Tryz.func35, Tryz.ntmps35
  go_wp2_with fail
  refine hn.mono ?_
  rintro e w' ⟨rfl, hw⟩
  have HB : Hid (Below w.heap.size w w' ∧ Tq.Tp w.heap.size w.heap.size r (.slice none 0 0) [] w' ∧ w'.heap.size = w.heap.size + 1) := Lib.hid (by
    subst hw
    exact ⟨(Below.refl _ _).alloc (Nat.le_refl _) _, HS.out, by simp⟩)
  clear hw hn HS
  go_wp2
  go_ret
  exact ⟨rfl, HB.out⟩
theorem bounds_any (x0 x1 x2 x3 x4 x5 x6 x7 x8 x9 : Int) (q : Option Addr) (l d : Nat) (h1 : 0 ≤ x1 ∧ x1 ≤ 1000000000) (h2 : 0 ≤ x2 ∧ x2 ≤ 1000000000) (w : World) :
    Calls Tryz.prog 42 #[.agg #[.int .i64 x0, .int .i64 x1, .int .i64 x2, .int .i64 x3, .int .i64 x4, .int .i64 x5, .int .i64 x6, .int .i64 x7, .int .i64 x8, .int .i64 x9, .slice q l d]] w fun e w' => e = .returned (.tuple #[.int .u64 x1, .int .u64 x2]) ∧ Below w.heap.size w w' ∧ w'.heap.size = w.heap.size + 1 := by
  obtain ⟨h1a, h1b⟩ := h1
  obtain ⟨h2a, h2b⟩ := h2
  have e1 : IntKind.u64.wrap x1 = x1 := IntWalk.u64_in _ (by omega)
  have e2 : IntKind.u64.wrap x2 = x2 := IntWalk.u64_in _ (by omega)
  have HB : Hid (Below w.heap.size w (w.alloc (.cells #[.int .i64 x0, .int .i64 x1, .int .i64 x2, .int .i64 x3, .int .i64 x4, .int .i64 x5, .int .i64 x6, .int .i64 x7, .int .i64 x8, .int .i64 x9, .slice q l d] 24))) := Lib.hid ((Below.refl _ _).alloc (Nat.le_refl _) _)
  go_enter Tryz.func42, Tryz.ntmps42
  go_wp2
  go_quiet (fail)
  go_wp2
  go_ret2
  exact ⟨rfl, HB.out.trans ⟨rfl, rfl, rfl, Nat.le_refl _, fun _ _ => rfl⟩, by simp⟩
set_option maxHeartbeats 4000000 in
theorem gnew_sz (l h : Int) (w : World) : Calls Tryz.prog 71 #[.int .u64 l, .int .u64 h] w fun e w' => e = .returned (.agg #[.bool false, .int .u64 (min l h), .int .u64 h]) ∧ Below w.heap.size w w' ∧ w'.heap.size = w.heap.size + 1 := by
  go_enter Tryz.func71, Tryz.ntmps71
  go_wp2
  refine bodyPost_ret (Ga.result_cell rfl rfl (Ga.load_gate (CellsAt.new _ _ _))) rfl ?_
  exact ⟨rfl, (Below.refl _ _).alloc (Nat.le_refl _) _, by simp⟩
theorem opengate_any (x0 x1 x2 x3 x4 x5 x6 x7 x8 x9 : Int) (q : Option Addr) (l d : Nat) (h1 : 0 ≤ x1 ∧ x1 ≤ 1000000000) (h2 : 0 ≤ x2 ∧ x2 ≤ 1000000000) (w : World) :
    Calls Tryz.prog 33 #[.agg #[.int .i64 x0, .int .i64 x1, .int .i64 x2, .int .i64 x3, .int .i64 x4, .int .i64 x5, .int .i64 x6, .int .i64 x7, .int .i64 x8, .int .i64 x9, .slice q l d]] w fun e w' => e = .returned (.agg #[.bool false, .int .u64 (min x1 x2), .int .u64 x2]) ∧ Below w.heap.size w w' ∧ w'.heap.size = w.heap.size + 4 := by
  have hb := fun W => bounds_any x0 x1 x2 x3 x4 x5 x6 x7 x8 x9 q l d h1 h2 W
  have hg := fun W => gnew_sz x1 x2 W
  obtain ⟨N, hN⟩ : ∃ N, w.heap.size = N := ⟨_, rfl⟩
  have hs : ((w.alloc (.cells #[.int .i64 x0, .int .i64 x1, .int .i64 x2, .int .i64 x3, .int .i64 x4, .int .i64 x5, .int .i64 x6, .int .i64 x7, .int .i64 x8, .int .i64 x9, .slice q l d] 24)).alloc (.cells #[.bool false, .int .u64 0, .int .u64 0] 85)).heap.size = N + 2 := by simp [hN]
  have HC : Hid (CellsAt (N + 1) #[.bool false, .int .u64 0, .int .u64 0] ((w.alloc (.cells #[.int .i64 x0, .int .i64 x1, .int .i64 x2, .int .i64 x3, .int .i64 x4, .int .i64 x5, .int .i64 x6, .int .i64 x7, .int .i64 x8, .int .i64 x9, .slice q l d] 24)).alloc (.cells #[.bool false, .int .u64 0, .int .u64 0] 85))) := Lib.hid (CellsAt.newAt _ _ _ _ (by simp [hN]))
  have HX : Hid (Below N w ((w.alloc (.cells #[.int .i64 x0, .int .i64 x1, .int .i64 x2, .int .i64 x3, .int .i64 x4, .int .i64 x5, .int .i64 x6, .int .i64 x7, .int .i64 x8, .int .i64 x9, .slice q l d] 24)).alloc (.cells #[.bool false, .int .u64 0, .int .u64 0] 85))) := Lib.hid (((Below.refl _ _).alloc (by omega) _).alloc (by simp; omega) _)
  have HS := Lib.hid hs
  clear h1 h2 hs
  go_enter Tryz.func33, Tryz.ntmps33
  go_wp2_with fail
  refine (hb _).mono ?_
  rintro e w1 ⟨rfl, hB, hs⟩
  have HX2 := Lib.hid (HX.out.trans (hB.mono (by rw [HS.out]; omega)))
  have HS2 : Hid (w1.heap.size = N + 3) := Lib.hid (by rw [hs, HS.out])
  have HC2 := Lib.hid (HC.out.below hB)
  clear hB hs HX HS hb HC
  go_wp2_with fail
  refine (hg _).mono ?_
  rintro e w2 ⟨rfl, hB, hs⟩
  have HX3 := Lib.hid (HX2.out.trans (hB.mono (by rw [HS2.out]; omega)))
  have HS3 : Hid (w2.heap.size = N + 4) := Lib.hid (by rw [hs, HS2.out])
  have HC3 := Lib.hid (HC2.out.below hB)
  clear hB hs hg HX2 HS2 HC2
  have k10 := HC3.out.cell 0 _ rfl
  have f10 := HC3.out.fro 0 _ rfl
  have k11 := HC3.out.cell 1 _ rfl
  have f11 := HC3.out.fro 1 _ rfl
  have k12 := HC3.out.cell 2 _ rfl
  have f12 := HC3.out.fro 2 _ rfl
  have l1 := HC3.out.lt
  simp only [List.getElem_toArray, List.getElem_cons_zero, List.getElem_cons_succ] at k10 k11 k12
  go_wp2
  refine bodyPost_ret (Ga.result_cell rfl rfl (Ga.load_gate (Ga.put_gate HC3.out))) rfl ?_
  exact ⟨rfl, by rw [hN]; exact Ga.below_gate HX3.out (by omega), by rw [hN, ← HS3.out]; simp⟩
end Go.Proofs.YtcgkgdhbipbnfaaGreatDoor.Qu

namespace Go.Proofs.YtcgkgdhbipbnfaaGreatDoor.Qu
open Go Go.RowKit

theorem ssum_in (k : List UInt8) : 0 ≤ ssum 0 0 k ∧ ssum 0 0 k ≤ 18446744073709551615 := by
  unfold ssum sfin
  exact ⟨bits_lo_u64 _ _ _, bits_hi_u64 _ _ _⟩
theorem hash_eq (key : ByteArray) : ssum 0 0 key.data.toList = ((hashN key : Nat) : Int) := by
  unfold hashN
  have := ssum_in key.data.toList
  omega
theorem hash_lt (key : ByteArray) : hashN key < 18446744073709551616 := by
  unfold hashN
  have := ssum_in key.data.toList
  omega
set_option maxRecDepth 100000 in
set_option maxHeartbeats 4000000 in
theorem many_any {base : Nat} {a : Ad} {s : St} {w : World} (h : Qo base a s w) :
    Calls Tryz.prog 24 #[.pointer (some ⟨a.B, 0, none⟩)] w fun e w' => e = .returned (.int .u64 (many s : Nat)) ∧ Below w.heap.size w w' := by
  have k4 := h.c.cell 4 _ rfl
  have k5 := h.c.cell 5 _ rfl
  have hl := h.c.lt
  have hN := h.now.lt
  have hP := h.old.lt
  have H := Lib.hid h
  have hnb := fun W => nothing_any s.b h.now.lo h.now.hi W
  have hbi := Hl.bits_any a.N s.b w h.now.bits
  clear h
  go_enter Tryz.func24, Tryz.ntmps24
  go_wp2_with fail
  refine hbi.mono ?_
  rintro e w1 ⟨rfl, rfl⟩
  clear hbi
  go_wp2_with fail
  refine (hnb _).mono ?_
  rintro e w1 ⟨rfl, hB1, hS1, hz⟩
  have hM : w.heap.size < w1.heap.size := by omega
  clear hnb
  have HB := Lib.hid hB1
  have HQ := Lib.hid (H.out.below hB1)
  have hm := Hl.merge_yes hS1 HQ.out.now
  rw [merge_zl H.out.now.len] at hm
  have k4' := HQ.out.c.cell 4 _ rfl
  have hl' := HQ.out.c.lt
  have HOW : Hid (∀ k, a.own k → ¬ k = w.heap.size) := Lib.hid (fun k hk => by have := (H.out.lt k hk).2; omega)
  clear hB1 hS1 k4 k5 hz hl hN hP H
  go_wp2_with fail
  refine hm.mono ?_
  rintro e w2 ⟨rfl, hC2, hS2⟩
  have hM2 : Tq.Mov (fun k => k = w.heap.size) w1 w2 := mov_chg hC2 rfl
  have HQ2 := Lib.hid (HQ.out.mov hM2 HOW.out)
  have HB2 : Hid (Below w.heap.size w w2) := Lib.hid (HB.out.trans (hC2.below (Nat.le_refl _) HB.out.size))
  have hmm := Hl.merge_yes hS2 HQ2.out.old
  have k5' := HQ2.out.c.cell 5 _ rfl
  have hl2 := HQ2.out.c.lt
  clear hm hC2 hS2 hM2 k4' hl' HQ HB
  go_wp2_with fail
  refine hmm.mono ?_
  rintro e w3 ⟨rfl, hC3, hS3⟩
  have HB3 : Hid (Below w.heap.size w w3) := Lib.hid (HB2.out.trans (hC3.below (Nat.le_refl _) HB2.out.size))
  have hes := Hl.est_any hS3 (Hl.mergeL_low HQ2.out.nl HQ2.out.ol)
  clear hmm hC3 hS3 k5' hl2 HQ2 HB2
  go_wp2_with fail
  refine hes.mono ?_
  rintro e w4 ⟨rfl, hB4⟩
  have HB4 : Hid (Below w.heap.size w w4) := Lib.hid (HB3.out.trans (hB4.mono HB3.out.size))
  clear hB4 hes HB3
  go_wp2
  go_ret
  exact ⟨rfl, HB4.out⟩
end Go.Proofs.YtcgkgdhbipbnfaaGreatDoor.Qu

