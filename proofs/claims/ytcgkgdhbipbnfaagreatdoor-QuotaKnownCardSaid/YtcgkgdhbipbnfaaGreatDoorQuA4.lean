/- QuotaKnown walked. -/
import Derived.Test.YtcgkgdhbipbnfaaGreatDoorQuL
import Derived.Test.YtcgkgdhbipbnfaaGreatDoorReg3
import Derived.BigQuiet
import Derived.Deep.Slices
import Derived.Deep.Fields
namespace Go.Proofs.YtcgkgdhbipbnfaaGreatDoor.Qu
open Go Go.RowKit

/-- A row of one byte that lies somewhere. -/
def RowK (z : Int) (v : Value) (w : World) : Prop := ∃ g, v = .slice (some ⟨g, 0, none⟩) 1 1 ∧ g < w.heap.size ∧ w.cell? ⟨g, 0, none⟩ = some (.int .u8 z)
theorem RowK.stays {z : Int} {v : Value} {w w' : World} (h : RowK z v w) (hB : Below w.heap.size w w') : RowK z v w' := by
  obtain ⟨g, h1, h2, h3⟩ := h
  exact ⟨g, h1, Nat.lt_of_lt_of_le h2 hB.size, (hB.cell (p := ⟨g, 0, none⟩) h2).trans h3⟩
theorem letter_at (c : Nat) (hc : c < 256) (W : World) (g : Nat) (h : W.cell? ⟨g, 0, none⟩ = some (.int .u8 (c : Int))) : (convert 68 9 (.slice (some ⟨g, 0, none⟩) 1 1)).run Tryz.prog W = .ok (.string (Tq.nmC c)) W :=
  have h8 : (UInt8.ofNat c).toNat = c := by rw [UInt8.toNat_ofNat']; omega
  run_convert_bytes_back (P := Tryz.prog) W 68 9 5 ⟨g, 0, none⟩ 1 [UInt8.ofNat c] Tryz.underlying68 Tryz.underlying5 Tryz.underlying9 (fun j hj => by
    have : j = 0 := by simp at hj; omega
    subst this
    rw [Addr.add_lit, Nat.zero_add]
    simpa [h8] using h)
/-- A slice of n deeds: of each, the key, whether it is known, whether all is full. -/
def Dds (p : Option Addr) (n : Nat) (w : World) : Prop := ∀ k, k < n → ∃ (C off z : Nat) (kn fu : Bool), p = some ⟨C, off, none⟩ ∧ C < w.heap.size ∧ z < 256 ∧ w.cell? ⟨C, off + k * 19 + 1, none⟩ = some (.int .u8 (z : Int)) ∧ w.cell? ⟨C, off + k * 19 + 3, none⟩ = some (.bool kn) ∧ w.cell? ⟨C, off + k * 19 + 4, none⟩ = some (.bool fu)
theorem Dds.below {p : Option Addr} {n : Nat} {w w' : World} (h : Dds p n w) (hB : Below w.heap.size w w') : Dds p n w' := fun k hk => by
  obtain ⟨C, off, z, kn, fu, h1, h2, h3, h4, h5, h6⟩ := h k hk
  exact ⟨C, off, z, kn, fu, h1, Nat.lt_of_lt_of_le h2 hB.size, h3, (hB.cell (p := ⟨C, _, none⟩) h2).trans h4, (hB.cell (p := ⟨C, _, none⟩) h2).trans h5, (hB.cell (p := ⟨C, _, none⟩) h2).trans h6⟩
theorem at_drop {l : List Value} {i : Nat} {x : Value} (h : (l.drop i).take 1 = [x]) : l[i]? = some x := by
  have h2 : ((l.drop i).take 1)[0]? = some x := by rw [h]; rfl
  rw [List.getElem?_take, if_pos (by decide), List.getElem?_drop] at h2
  simpa using h2
set_option maxRecDepth 100000 in
theorem hone_dd : ∃ f0 f1 f2 f3 f4 f5 f6 : Field, Tryz.prog.underlying 41 = some (.struct #[f0, f1, f2, f3, f4, f5, f6]) ∧ f1.offset = 1 ∧ f3.offset = 3 ∧ f4.offset = 4 ∧ f1.type = 5 ∧ f3.type = 4 ∧ f4.type = 4 :=
  ⟨_, _, _, _, _, _, _, Tryz.underlying41, rfl, rfl, rfl, rfl, rfl, rfl⟩
set_option maxRecDepth 100000 in
theorem dds_of {H : Type} {enc : TypeId × Value → H} {W : World} {spare : Nat → Bool} {held : Bool} {v : Value} {d : DataW H} {ps : List MemPlace}
    (hv : ∃ p len cap, v = .slice p len cap) (h : DataW.Trod enc Tryz.prog W 0 spare held 28 v d ps) (hlt : ∀ x ∈ ps, x.block < W.heap.size) :
    ∃ (p : Option Addr) (n cap : Nat), v = .slice p n cap ∧ n ≤ 9223372036854775807 ∧ Dds p n W := by
  obtain ⟨p, len, cap, rfl⟩ := hv
  obtain ⟨fuel, hf⟩ := h
  have c19 : Tryz.prog.cellsOf 41 = 19 := by kernel_rfl
  rcases Deep.open_slice Tryz.underlying28 hf with ⟨hcs, hx⟩ | ⟨a, len', cap', m, n, D, Pl, hcs, _, hl, hm, hmm, hx, hi⟩
  · simp [Value.cells] at hcs
    obtain ⟨rfl, rfl, rfl⟩ := hcs
    exact ⟨none, 0, 0, rfl, Nat.zero_le _, fun k hk => by omega⟩
  · simp [Value.cells] at hcs
    obtain ⟨rfl, rfl, rfl⟩ := hcs
    simp only [Prod.mk.injEq] at hx
    obtain ⟨rfl, rfl⟩ := hx
    refine ⟨some a, len, cap, rfl, by unfold maxLen at hm; omega, fun k hk => ?_⟩
    have hkm : k < m := by rw [hmm]; split <;> omega
    obtain ⟨cs', hc, hd⟩ := hi k hkm
    rw [c19] at hc
    obtain ⟨_, hlen, hcell⟩ := World.cells?_some hc
    obtain ⟨f0, f1, f2, f3, f4, f5, f6, hu, o1, o3, o4, t1, t3, t4⟩ := hone_dd
    obtain ⟨xs, n', _, hxx, _, hxl, hfl⟩ := DataW.trod_struct hu hd
    have g1 := hfl 1 f1 rfl
    have g3 := hfl 3 f3 rfl
    have g4 := hfl 4 f4 rfl
    rw [o1, t1, show Tryz.prog.cellsOf 5 = 1 by kernel_rfl] at g1
    rw [o3, t3, show Tryz.prog.cellsOf 4 = 1 by kernel_rfl] at g3
    rw [o4, t4, show Tryz.prog.cellsOf 4 = 1 by kernel_rfl] at g4
    have hxl' : xs.length = 7 := hxl
    obtain ⟨x1, hx1⟩ : ∃ x, xs[1]? = some x := ⟨_, List.getElem?_eq_getElem (by omega)⟩
    obtain ⟨x3, hx3⟩ : ∃ x, xs[3]? = some x := ⟨_, List.getElem?_eq_getElem (by omega)⟩
    obtain ⟨x4, hx4⟩ : ∃ x, xs[4]? = some x := ⟨_, List.getElem?_eq_getElem (by omega)⟩
    simp only [hx1] at g1
    simp only [hx3] at g3
    simp only [hx4] at g4
    obtain ⟨k1, e1, _, w1⟩ := DataW.trod_int Tryz.underlying5 g1
    obtain ⟨kn, e3, _⟩ := DataW.trod_bool Tryz.underlying4 g3
    obtain ⟨fu, e4, _⟩ := DataW.trod_bool Tryz.underlying4 g4
    obtain ⟨z, rfl, hz⟩ := Tq.wf_u8 w1
    obtain ⟨b, off, spot⟩ := a
    obtain ⟨cs0, hcs0, _⟩ := hi 0 (by omega)
    rw [c19] at hcs0
    obtain ⟨_, hlen0, hcell0⟩ := World.cells?_some hcs0
    have hspot : spot = none := by
      have h9 := hcell0 0 (by omega)
      rw [List.getElem?_eq_getElem (by omega)] at h9
      simpa [Addr.add] using World.cell?_spot h9
    subst hspot
    refine ⟨b, off, z, kn, fu, rfl, ?_, hz, ?_, ?_, ?_⟩
    · exact hlt (.cell b off) (List.mem_append.2 (.inl (MemPlace.mem_row.2 ⟨0, by rw [c19]; omega, by simp⟩)))
    · have h9 := hcell 1 (by omega)
      rw [at_drop e1, Addr.add_lit, Addr.add_lit] at h9
      exact h9
    · have h9 := hcell 3 (by omega)
      rw [at_drop e3, Addr.add_lit, Addr.add_lit] at h9
      exact h9
    · have h9 := hcell 4 (by omega)
      rw [at_drop e4, Addr.add_lit, Addr.add_lit] at h9
      exact h9
theorem Run.admitK {VN : Nat} {a : Ad} {s : St} {win lo hi : Int} {b r A : Nat} {V wx : World} (h : Run VN a s win b r lo hi V wx) (hV : VN = V.heap.size) (hT : Hl.Tab V) (hr : 1 ≤ r) (hA : Tq.seen s.l = A) (hA2 : A ≤ 100) (z q : Nat) (kn fu : Bool) :
    Calls Tryz.prog 26 #[.pointer (some ⟨a.B, 0, none⟩), .string (Tq.nmC z), .string (Tq.nmC q), .bool kn, .bool fu] wx fun e w' => ∃ (f : Int) (v' : Value) (s' : St) (M : Nat), e = .returned (.int .i64 f) ∧ Run VN ⟨a.B, a.N, a.P, a.T, v'⟩ s' win b r lo hi V w' ∧
      many s' = M ∧ s'.cl = (s.cl || decide (hi ≤ (M : Int))) ∧ f = admC s'.cl kn fu ∧ Tq.seen s'.l = if f = 0 then A else A + 1 := by
  refine (h.admit hV hT (Tq.nmC z) (Tq.nmC q) (by rw [Tq.nmC_size]; decide) (by rw [Tq.nmC_size]; decide) kn fu).mono ?_
  rintro e w' ⟨he, v', hrun⟩
  have h64 : ¬ 64 < (Tq.nmC q).size := by rw [Tq.nmC_size]; decide
  have hc : admitC s (Tq.nmC z) (Tq.nmC q) kn fu = admC (addN s (Tq.nmC z)).cl kn fu := by unfold admitC; rw [if_neg h64]
  have hcl : (addN s (Tq.nmC z)).cl = (s.cl || decide (hi ≤ ((many (addN s (Tq.nmC z)) : Nat) : Int))) := by
    rw [← h.eHi]
    rfl
  by_cases h0 : admC (addN s (Tq.nmC z)).cl kn fu = 0
  · have hs : admitS s (Tq.nmC z) (Tq.nmC q) kn fu = addN s (Tq.nmC z) := by
      unfold admitS
      rw [if_neg h64]
      exact if_pos h0
    rw [hs] at hrun
    refine ⟨_, v', _, _, he, hrun, rfl, hcl, hc, ?_⟩
    rw [hc, if_pos h0]
    exact hA
  · have hs : admitS s (Tq.nmC z) (Tq.nmC q) kn fu = { addN s (Tq.nmC z) with l := Tq.addS s.room (Tq.nmC q) 1 s.l } := by
      unfold admitS
      rw [if_neg h64]
      exact if_neg h0
    rw [hs] at hrun
    refine ⟨_, v', _, _, he, hrun, rfl, hcl, hc, ?_⟩
    rw [hc, if_neg h0]
    show Tq.seen (Tq.addS s.room (Tq.nmC q) 1 s.l) = A + 1
    rw [h.room, Tq.addS_ok (by rw [Tq.nmC_size]; decide) (by decide) (by omega), Tq.seen_addL hr, hA]
/-- What each operation of the round yields. -/
def KnPhi (B C off n c1 k z j q : Nat) (TZ TJ : ByteArray) (kn fu : Bool) : Nat → Value → World → Prop
  | 6, v, w => RowK (z : Int) v w
  | 15, v, w => RowK (q : Int) v w
  | i, v, _ => v = ([.pointer (some ⟨B, 0, none⟩), .slice (some ⟨C, off, none⟩) n c1, .int .i64 (k : Int), .pointer (some ⟨C, off + k * 19, none⟩), .pointer (some ⟨C, off + k * 19 + 1, none⟩), .int .u8 (z : Int), undef, .string TZ, .slice (some ⟨C, off, none⟩) n c1, .int .i64 (k : Int), .pointer (some ⟨C, off + k * 19, none⟩), .pointer (some ⟨C, off + k * 19 + 1, none⟩), .int .u8 (z : Int), .int .u8 (j : Int), .int .u8 (q : Int), undef, .string TJ, .slice (some ⟨C, off, none⟩) n c1, .int .i64 (k : Int), .pointer (some ⟨C, off + k * 19, none⟩), .pointer (some ⟨C, off + k * 19 + 3, none⟩), .bool kn, .slice (some ⟨C, off, none⟩) n c1, .int .i64 (k : Int), .pointer (some ⟨C, off + k * 19, none⟩), .pointer (some ⟨C, off + k * 19 + 4, none⟩), .bool fu] : List Value).getD i undef
theorem KnPhi.stays {B C off n c1 k z j q : Nat} {TZ TJ : ByteArray} {kn fu : Bool} : ∀ i v w w', KnPhi B C off n c1 k z j q TZ TJ kn fu i v w → Reg.Old w w' → KnPhi B C off n c1 k z j q TZ TJ kn fu i v w' := by
  intro i v w w' hv hB
  unfold KnPhi at *
  split at hv
  · exact hv.stays hB
  · exact hv.stays hB
  · exact hv
def K15tt (a : Ad) (_ _ : Nat) (_ : Int) : Nat → Value → World → Prop
  | i, v, _ => v = ([.bool true, .bool true, .pointer (some ⟨a.B, 0, none⟩), .bool true, .bool false, .bool false, .bool false, .pointer (some ⟨a.B, 0, none⟩), .bool true, .bool true, .bool true, undef, undef, undef, undef, undef, undef, .bool true, .bool false, .bool false] : List Value).getD i undef
theorem K15tt.stays {a : Ad} {P M : Nat} {x2 : Int} : ∀ i v wx wy, K15tt a P M x2 i v wx → Reg.Old wx wy → K15tt a P M x2 i v wy := fun _ _ _ _ h _ => h
def K15ft (a : Ad) (P M : Nat) (x2 : Int) : Nat → Value → World → Prop
  | i, v, _ => v = ([.bool false, .bool false, undef, undef, undef, .bool false, .bool false, .pointer (some ⟨a.B, 0, none⟩), .bool true, .bool false, .bool false, .pointer (some ⟨a.B, 0, none⟩), .int .u64 ((M : Int)), .pointer (some ⟨P, 2, none⟩), .int .i64 x2, .int .u64 x2, .bool true, .bool true, .bool false, .bool false] : List Value).getD i undef
theorem K15ft.stays {a : Ad} {P M : Nat} {x2 : Int} : ∀ i v wx wy, K15ft a P M x2 i v wx → Reg.Old wx wy → K15ft a P M x2 i v wy := fun _ _ _ _ h _ => h
def K15ff (a : Ad) (P M : Nat) (x2 : Int) : Nat → Value → World → Prop
  | i, v, _ => v = ([.bool false, .bool false, undef, undef, undef, .bool false, .bool false, .pointer (some ⟨a.B, 0, none⟩), .bool false, .bool false, .bool false, .pointer (some ⟨a.B, 0, none⟩), .int .u64 ((M : Int)), .pointer (some ⟨P, 2, none⟩), .int .i64 x2, .int .u64 x2, .bool false, .bool false, .bool false, .bool false] : List Value).getD i undef
theorem K15ff.stays {a : Ad} {P M : Nat} {x2 : Int} : ∀ i v wx wy, K15ff a P M x2 i v wx → Reg.Old wx wy → K15ff a P M x2 i v wy := fun _ _ _ _ h _ => h
theorem seen_field (sw : Int) (sc : Bool) (sn so : ByteArray) (A : Int) (vi : Option Addr) (li ci : Nat) (w : World) : (Instr.field 59 (.agg #[.int .i64 sw, .bool sc, .string sn, .string so, .int .u64 A, .slice vi li ci]) 4).run Tryz.prog w = .ok (.int .u64 A) w := by kernel_rfl
attribute [local go_sem] seen_field
set_option maxRecDepth 100000 in
set_option maxHeartbeats 32000000 in
theorem known_in (a0 a1 a2 a3 a4 a5 a6 a7 a8 a9 : Int) (q0 : Option Addr) (l0 d0 : Nat) (ow : Bool) (p : Option Addr) (hs : List Nat) (c : Nat) (hl : hs.length ≤ 9223372036854775807) (x0 x1 x2 x5 x6 x7 x8 x9 : Int) (r b l : Nat) (t : List Int) (hlit : Lit hs x0 x1 x2 x5 x6 x7 x8 x9 r b l t) (p1 : Option Addr) (n c1 : Nat) (hl1 : n ≤ 9223372036854775807) (w : World) (hT : Hl.Tab w) (hS : Po.Shorts p hs w) (hO : Dds p1 n w) :
    Calls Tryz.prog 5 #[.agg #[.int .i64 a0, .int .i64 a1, .int .i64 a2, .int .i64 a3, .int .i64 a4, .int .i64 a5, .int .i64 a6, .int .i64 a7, .int .i64 a8, .int .i64 a9, .slice q0 l0 d0, .bool ow, .slice p hs.length c], .slice p1 n c1] w fun e w' => e = .returned (.bool true) ∧ Below w.heap.size w w' := by
  obtain ⟨N, hN⟩ : ∃ N, w.heap.size = N := ⟨_, rfl⟩
  have HC0 : Hid (CellsAt N #[.int .i64 a0, .int .i64 a1, .int .i64 a2, .int .i64 a3, .int .i64 a4, .int .i64 a5, .int .i64 a6, .int .i64 a7, .int .i64 a8, .int .i64 a9, .slice q0 l0 d0, .bool ow, .slice p hs.length c] (w.alloc (.cells #[.int .i64 a0, .int .i64 a1, .int .i64 a2, .int .i64 a3, .int .i64 a4, .int .i64 a5, .int .i64 a6, .int .i64 a7, .int .i64 a8, .int .i64 a9, .slice q0 l0 d0, .bool ow, .slice p hs.length c] 27))) := Lib.hid (CellsAt.newAt _ _ _ _ hN.symm)
  have HB : Hid (Below w.heap.size w (w.alloc (.cells #[.int .i64 a0, .int .i64 a1, .int .i64 a2, .int .i64 a3, .int .i64 a4, .int .i64 a5, .int .i64 a6, .int .i64 a7, .int .i64 a8, .int .i64 a9, .slice q0 l0 d0, .bool ow, .slice p hs.length c] 27))) := Lib.hid ((Below.refl _ _).alloc (Nat.le_refl _) _)
  have HS := Lib.hid hS
  have HO := Lib.hid hO
  have HT := Lib.hid hT
  have HLI := Lib.hid hlit
  have HHL := Lib.hid hl
  have hle : w.heap.size ≤ N := Nat.le_of_eq hN
  have HNN := Lib.hid hN
  clear hS hO hT hlit hl
  go_enter Tryz.func5, Tryz.ntmps5
  go_wp2_with fail
  refine (examples_any _ (HT.out.below HB.out)).mono ?_
  rintro e w2 ⟨rfl, hBx⟩
  replace HC0 := Lib.hid (HC0.out.below hBx)
  replace HB := Lib.hid (HB.out.trans (hBx.mono HB.out.size))
  clear hBx
  have k11 := HC0.out.cell 11 _ rfl
  have f11 := HC0.out.fro 11 _ rfl
  have lN := HC0.out.lt
  simp only [List.getElem_toArray, List.getElem_cons_zero, List.getElem_cons_succ] at k11
  have hM : Tq.Mov (fun j => j = N) w2 (w2.setCell ⟨N, 11, none⟩ (.bool true)) := Tq.Mov.set (S := fun j => j = N) (Tq.Mov.refl _ _) rfl 11 _
  have HC1 : Hid (CellsAt N #[.int .i64 a0, .int .i64 a1, .int .i64 a2, .int .i64 a3, .int .i64 a4, .int .i64 a5, .int .i64 a6, .int .i64 a7, .int .i64 a8, .int .i64 a9, .slice q0 l0 d0, .bool true, .slice p hs.length c] (w2.setCell ⟨N, 11, none⟩ (.bool true))) := Lib.hid (HC0.out.set 11 (.bool true) (by simp))
  replace HB := Lib.hid (HB.out.trans (hM.below (N := w.heap.size) (fun j h => by omega) HB.out.size))
  clear hM HC0
  go_upto_region 5 with fail
  clear k11 f11 lN hN
  generalize w2.setCell ⟨N, 11, none⟩ (.bool true) = W3 at *
  have k0 := HC1.out.cell 0 _ rfl
  have k1 := HC1.out.cell 1 _ rfl
  have k2 := HC1.out.cell 2 _ rfl
  have k3 := HC1.out.cell 3 _ rfl
  have k4 := HC1.out.cell 4 _ rfl
  have k5 := HC1.out.cell 5 _ rfl
  have k6 := HC1.out.cell 6 _ rfl
  have k7 := HC1.out.cell 7 _ rfl
  have k8 := HC1.out.cell 8 _ rfl
  have k9 := HC1.out.cell 9 _ rfl
  have k10 := HC1.out.cell 10 _ rfl
  have k11 := HC1.out.cell 11 _ rfl
  have k12 := HC1.out.cell 12 _ rfl
  have kl := HC1.out.lt
  simp only [List.getElem_toArray, List.getElem_cons_zero, List.getElem_cons_succ] at k0 k1 k2 k3 k4 k5 k6 k7 k8 k9 k10 k11 k12
  have hwi := HLI.out.wish a0 a1 a2 a3 a4 a5 a6 a7 a8 a9 q0 l0 d0 p c W3 HHL.out (HS.out.below HB.out)
  go_wp2_with fail
  refine hwi.mono ?_
  rintro e w4 ⟨q, d, rfl, hTr, hB1⟩
  clear hwi
  clear k0 k1 k2 k3 k4 k5 k6 k7 k8 k9 k10 k11 k12 kl
  obtain ⟨P, hP⟩ : ∃ P, w4.heap.size = P := ⟨_, rfl⟩
  have hBx : Below w4.heap.size w4 (w4.alloc (.cells #[.int .i64 x0, .int .i64 x1, .int .i64 x2, .int .i64 (r : Int), .int .i64 (b : Int), .int .i64 x5, .int .i64 x6, .int .i64 x7, .int .i64 x8, .int .i64 x9, .slice q l d] 24)) := (Below.refl _ _).alloc (Nat.le_refl _) _
  have HP : Hid (CellsAt P #[.int .i64 x0, .int .i64 x1, .int .i64 x2, .int .i64 (r : Int), .int .i64 (b : Int), .int .i64 x5, .int .i64 x6, .int .i64 x7, .int .i64 x8, .int .i64 x9, .slice q l d] (w4.alloc (.cells #[.int .i64 x0, .int .i64 x1, .int .i64 x2, .int .i64 (r : Int), .int .i64 (b : Int), .int .i64 x5, .int .i64 x6, .int .i64 x7, .int .i64 x8, .int .i64 x9, .slice q l d] 24))) := Lib.hid (CellsAt.newAt _ _ _ _ hP.symm)
  have HTr := Lib.hid (hTr.below hBx)
  replace HB := Lib.hid (HB.out.trans ((hB1.trans (hBx.mono hB1.size)).mono HB.out.size))
  clear hB1 hBx hTr HC1
  go_upto_region 6 with fail
  generalize w4.alloc (.cells #[.int .i64 x0, .int .i64 x1, .int .i64 x2, .int .i64 (r : Int), .int .i64 (b : Int), .int .i64 x5, .int .i64 x6, .int .i64 x7, .int .i64 x8, .int .i64 x9, .slice q l d] 24) = V at *
  clear hP
  have HTB : Hid (Hl.Tab V) := Lib.hid (HT.out.below HB.out)
  have HOV := Lib.hid (HO.out.below HB.out)
  clear HO HT HS
  have k0 := HP.out.cell 0 _ rfl
  have k1 := HP.out.cell 1 _ rfl
  have k2 := HP.out.cell 2 _ rfl
  have k3 := HP.out.cell 3 _ rfl
  have k4 := HP.out.cell 4 _ rfl
  have k5 := HP.out.cell 5 _ rfl
  have k6 := HP.out.cell 6 _ rfl
  have k7 := HP.out.cell 7 _ rfl
  have k8 := HP.out.cell 8 _ rfl
  have k9 := HP.out.cell 9 _ rfl
  have k10 := HP.out.cell 10 _ rfl
  have kl := HP.out.lt
  simp only [List.getElem_toArray, List.getElem_cons_zero, List.getElem_cons_succ] at k0 k1 k2 k3 k4 k5 k6 k7 k8 k9 k10
  have hnw := new_in x0 x1 x2 x5 x6 x7 x8 x9 0 r b q l d t HLI.out.right (by decide) (by decide) V HTr.out
  go_wp2_with fail
  refine hnw.mono ?_
  rintro e W5 ⟨a, rfl, hQ, hB5⟩
  clear hnw
  clear k0 k1 k2 k3 k4 k5 k6 k7 k8 k9 k10 kl
  obtain ⟨VN, hVN⟩ : ∃ n, V.heap.size = n := ⟨_, rfl⟩
  rw [hVN] at hQ hB5
  have HVN := Lib.hid hVN
  have HPV : Hid (P < VN) := Lib.hid (by rw [← hVN]; exact HP.out.lt)
  have HR0 : Hid (Run VN a ⟨0, false, min x1 x2, x2, b, zl b, zl b, r, []⟩ 0 b r (min x1 x2) x2 V W5) := Lib.hid ⟨hQ, hB5, rfl, rfl, rfl, rfl, rfl, rfl⟩
  clear hQ hB5 hVN hle
  go_wp2_with fail
  have HLB := Lib.hid HLI.out.bounds
  go_loopg [9, 10] (min n 80) (fun g al i wx => ∃ (k A : Nat) (s : St) (v : Value), k + g = min n 80 ∧ A ≤ k ∧ al = .int .u64 (A : Int) ∧ i = .int .i64 (k : Int) ∧ Hid (Tq.seen s.l = A) ∧ Hid (Run VN ⟨a.B, a.N, a.P, a.T, v⟩ s 0 b r (min x1 x2) x2 V wx))
  case atStart => exact ⟨0, 0, _, a.v, by omega, by omega, rfl, rfl, Lib.hid rfl, HR0⟩
  case round =>
    clear HR0
    obtain ⟨k, A, s, v, hkg, hAk, rfl, rfl, HSN, HR⟩ := hrel
    cases gk with
    | zero =>
      have hend : ¬ (k < n) ∨ (k < n ∧ ¬ (k < 80)) := by omega
      have hE := HB.out.trans (HR.out.bel.mono (by rw [← HVN.out]; exact HB.out.size))
      clear hkg hAk
      rcases hend with hend | ⟨hend1, hend⟩
      all_goals
        go_wp2
        go_ret
        exact ⟨rfl, hE⟩
    | succ g =>
      have hk1 : k < n := by omega
      have hk2 : k < 80 := by omega
      obtain ⟨C, off, z, kn, fu, rfl, hC, hz, hy1, hy3, hy4⟩ := HOV.out k hk1
      obtain ⟨cl, hcl⟩ : ∃ x, s.cl = x := ⟨_, rfl⟩
      have hclo : Calls Tryz.prog 28 #[.pointer (some ⟨a.B, 0, none⟩)] wr fun e w' => e = .returned (.bool cl) ∧ wr = w' := by
        have h9 := closed_any HR.out.q
        rwa [hcl] at h9
      have HCLO := Lib.hid hclo
      have HCE := Lib.hid hcl
      have HC9 : Hid (C < VN) := Lib.hid (by rw [← HVN.out]; exact hC)
      have HY3 : Hid (V.cell? ⟨C, off + k * 19 + 3, none⟩ = some (.bool kn)) := Lib.hid hy3
      have HY4 : Hid (V.cell? ⟨C, off + k * 19 + 4, none⟩ = some (.bool fu)) := Lib.hid hy4
      have hx1 : wr.drew.cell? ⟨C, off + k * 19 + 1, none⟩ = some (.int .u8 (z : Int)) := (HR.out.bel.cell (p := ⟨C, off + k * 19 + 1, none⟩) HC9.out).trans hy1
      have hx3 : wr.drew.cell? ⟨C, off + k * 19 + 3, none⟩ = some (.bool kn) := (HR.out.bel.cell (p := ⟨C, off + k * 19 + 3, none⟩) HC9.out).trans hy3
      have hx4 : wr.drew.cell? ⟨C, off + k * 19 + 4, none⟩ = some (.bool fu) := (HR.out.bel.cell (p := ⟨C, off + k * 19 + 4, none⟩) HC9.out).trans hy4
      have hCL : C < wr.drew.heap.size := Nat.lt_of_lt_of_le hC HR.out.bel.size
      obtain ⟨j, hj⟩ : ∃ j, z % 5 = j := ⟨_, rfl⟩
      have hj5 : j < 5 := by omega
      obtain ⟨u, hq⟩ : ∃ q, 97 + j = q := ⟨_, rfl⟩
      have hq2 : u < 256 := by omega
      have HJ1 : Hid ((z : Int) % 5 = (j : Int)) := Lib.hid (by omega)
      have HJ2 : Hid ((z : Int).tmod 5 = (j : Int)) := Lib.hid (by rw [Int.tmod_eq_emod_of_nonneg (by omega)]; omega)
      have HQ1 : Hid ((97 : Int) + (j : Int) = (u : Int)) := Lib.hid (by omega)
      have HQ2 : Hid (IntKind.u8.wrap (u : Int) = (u : Int)) := Lib.hid (IntWalk.u8_in _ (by omega))
      have had0 := fun (wy : World) (hb : Below wr.heap.size wr wy) => (HR.out.below hb HVN.out.symm).admitK HVN.out.symm HTB.out HLB.out.2.2.2.2.2.1 HSN.out (by omega) z u kn fu
      have one1 := fun W g => letter_at z hz W g
      have one2 := fun W g => letter_at u hq2 W g
      obtain ⟨TZ, hTZ⟩ : ∃ t, Tq.nmC z = t := ⟨_, rfl⟩
      obtain ⟨TJ, hTJ⟩ : ∃ t, Tq.nmC u = t := ⟨_, rfl⟩
      rw [hTZ] at one1
      rw [hTJ] at one2
      rw [hTZ, hTJ] at had0
      have ONE1 := Lib.hid one1
      have ONE2 := Lib.hid one2
      have HAD := Lib.hid had0
      clear hC hcl hclo hj hq had0 one1 one2 hTZ hTJ hy1 hy3 hy4
      have hclo := HCLO.out
      go_wp2_with fail
      refine hclo.mono ?_
      rintro e _ ⟨rfl, rfl⟩
      clear hclo HCLO
      go_wp2_with fail
      refine Reg.wp_region_tail (n := 127) 27 (KnPhi a.B C off n c1 k z j u TZ TJ kn fu) (by kernel_rfl) (by decide) (by kernel_rfl) (by kernel_rfl) (by kernel_rfl) rfl KnPhi.stays ?_ ?_
      · refine ⟨?_, ?_, ?_, ?_, ?_, ?_, ?_, ?_, ?_, ?_, ?_, ?_, ?_, ?_, ?_, ?_, ?_, ?_, ?_, ?_, ?_, ?_, ?_, ?_, ?_, ?_, ?_, trivial⟩
        · intro cx wc hB hp hs
          have g7 : cx.tmps[7]? = some (.pointer (some ⟨a.B, 0, none⟩)) := (hs 7 (by kernel_rfl)).trans rfl
          refine Reg.ok_value Reg.Old.refl (v := .pointer (some ⟨a.B, 0, none⟩)) (Reg.wanted_none rfl) ?_ rfl
          go_simp
        · intro cx wc hB hp hs
          have g1 : cx.tmps[1]? = some (.slice (some ⟨C, off, none⟩) n c1) := (hs 1 (by kernel_rfl)).trans rfl
          refine Reg.ok_value Reg.Old.refl (v := .slice (some ⟨C, off, none⟩) n c1) (Reg.wanted_none rfl) ?_ rfl
          go_simp
        · intro cx wc hB hp hs
          have g10 : cx.tmps[10]? = some (.int .i64 (k : Int)) := (hs 10 (by kernel_rfl)).trans rfl
          refine Reg.ok_value Reg.Old.refl (v := .int .i64 (k : Int)) (Reg.wanted_none rfl) ?_ rfl
          go_simp
        · intro cx wc hB hp hs
          have g44 : cx.tmps[44]? = some (.slice (some ⟨C, off, none⟩) n c1) := by obtain ⟨_, g, hv⟩ := Reg.pred hp 1 44 (by kernel_rfl) rfl rfl; exact g.trans (congrArg some hv)
          have g45 : cx.tmps[45]? = some (.int .i64 (k : Int)) := by obtain ⟨_, g, hv⟩ := Reg.pred hp 2 45 (by kernel_rfl) rfl rfl; exact g.trans (congrArg some hv)
          have i0 : (0 : Int) ≤ (k : Int) := by omega
          have i1 : (k : Int) < (n : Int) := by omega
          refine Reg.ok_value Reg.Old.refl (v := .pointer (some ⟨C, off + k * 19, none⟩)) (Reg.wanted_none rfl) ?_ rfl
          go_simp
        · intro cx wc hB hp hs
          have g46 : cx.tmps[46]? = some (.pointer (some ⟨C, off + k * 19, none⟩)) := by obtain ⟨_, g, hv⟩ := Reg.pred hp 3 46 (by kernel_rfl) rfl rfl; exact g.trans (congrArg some hv)
          refine Reg.ok_value Reg.Old.refl (v := .pointer (some ⟨C, off + k * 19 + 1, none⟩)) (Reg.wanted_none rfl) ?_ rfl
          go_simp
        · intro cx wc hB hp hs
          have g47 : cx.tmps[47]? = some (.pointer (some ⟨C, off + k * 19 + 1, none⟩)) := by obtain ⟨_, g, hv⟩ := Reg.pred hp 4 47 (by kernel_rfl) rfl rfl; exact g.trans (congrArg some hv)
          have kx : wc.cell? ⟨C, off + k * 19 + 1, none⟩ = some (.int .u8 (z : Int)) := (Below.cell (p := ⟨C, off + k * 19 + 1, none⟩) hB hCL).trans hx1
          refine Reg.ok_value Reg.Old.refl (v := .int .u8 (z : Int)) (Reg.wanted_none rfl) ?_ rfl
          go_simp
        · intro cx wc hB hp hs
          have g48 : cx.tmps[48]? = some (.int .u8 (z : Int)) := by obtain ⟨_, g, hv⟩ := Reg.pred hp 5 48 (by kernel_rfl) rfl rfl; exact g.trans (congrArg some hv)
          exact Reg.ok_made (w2 := wc.alloc (.cells #[.int .u8 (z : Int)] 5)) (v := .slice (some ⟨wc.heap.size, 0, none⟩) 1 1) (Reg.wanted_none rfl) (by go_simp) ((Below.refl _ _).alloc (Nat.le_refl _) _) ⟨wc.heap.size, rfl, by simp, (CellsAt.new #[.int .u8 (z : Int)] 5 wc).cell 0 _ rfl⟩
        · intro cx wc hB hp hs
          obtain ⟨v49, g49, hv⟩ := Reg.pred hp 6 49 (by kernel_rfl) rfl rfl
          obtain ⟨gg, rfl, hg, hcell⟩ := hv
          have hrun := ONE1.out wc gg hcell
          refine Reg.ok_value Reg.Old.refl (v := .string TZ) (Reg.wanted_none rfl) ?_ rfl
          go_simp
        · intro cx wc hB hp hs
          have g1 : cx.tmps[1]? = some (.slice (some ⟨C, off, none⟩) n c1) := (hs 1 (by kernel_rfl)).trans rfl
          refine Reg.ok_value Reg.Old.refl (v := .slice (some ⟨C, off, none⟩) n c1) (Reg.wanted_none rfl) ?_ rfl
          go_simp
        · intro cx wc hB hp hs
          have g10 : cx.tmps[10]? = some (.int .i64 (k : Int)) := (hs 10 (by kernel_rfl)).trans rfl
          refine Reg.ok_value Reg.Old.refl (v := .int .i64 (k : Int)) (Reg.wanted_none rfl) ?_ rfl
          go_simp
        · intro cx wc hB hp hs
          have g51 : cx.tmps[51]? = some (.slice (some ⟨C, off, none⟩) n c1) := by obtain ⟨_, g, hv⟩ := Reg.pred hp 8 51 (by kernel_rfl) rfl rfl; exact g.trans (congrArg some hv)
          have g52 : cx.tmps[52]? = some (.int .i64 (k : Int)) := by obtain ⟨_, g, hv⟩ := Reg.pred hp 9 52 (by kernel_rfl) rfl rfl; exact g.trans (congrArg some hv)
          have i0 : (0 : Int) ≤ (k : Int) := by omega
          have i1 : (k : Int) < (n : Int) := by omega
          refine Reg.ok_value Reg.Old.refl (v := .pointer (some ⟨C, off + k * 19, none⟩)) (Reg.wanted_none rfl) ?_ rfl
          go_simp
        · intro cx wc hB hp hs
          have g53 : cx.tmps[53]? = some (.pointer (some ⟨C, off + k * 19, none⟩)) := by obtain ⟨_, g, hv⟩ := Reg.pred hp 10 53 (by kernel_rfl) rfl rfl; exact g.trans (congrArg some hv)
          refine Reg.ok_value Reg.Old.refl (v := .pointer (some ⟨C, off + k * 19 + 1, none⟩)) (Reg.wanted_none rfl) ?_ rfl
          go_simp
        · intro cx wc hB hp hs
          have g54 : cx.tmps[54]? = some (.pointer (some ⟨C, off + k * 19 + 1, none⟩)) := by obtain ⟨_, g, hv⟩ := Reg.pred hp 11 54 (by kernel_rfl) rfl rfl; exact g.trans (congrArg some hv)
          have kx : wc.cell? ⟨C, off + k * 19 + 1, none⟩ = some (.int .u8 (z : Int)) := (Below.cell (p := ⟨C, off + k * 19 + 1, none⟩) hB hCL).trans hx1
          refine Reg.ok_value Reg.Old.refl (v := .int .u8 (z : Int)) (Reg.wanted_none rfl) ?_ rfl
          go_simp
        · intro cx wc hB hp hs
          have g55 : cx.tmps[55]? = some (.int .u8 (z : Int)) := by obtain ⟨_, g, hv⟩ := Reg.pred hp 12 55 (by kernel_rfl) rfl rfl; exact g.trans (congrArg some hv)
          have e1 := HJ1.out
          have e2 := HJ2.out
          refine Reg.ok_value Reg.Old.refl (v := .int .u8 (j : Int)) (Reg.wanted_none rfl) ?_ rfl
          go_simp
        · intro cx wc hB hp hs
          have g56 : cx.tmps[56]? = some (.int .u8 (j : Int)) := by obtain ⟨_, g, hv⟩ := Reg.pred hp 13 56 (by kernel_rfl) rfl rfl; exact g.trans (congrArg some hv)
          have e1 := HQ1.out
          have e2 := HQ2.out
          refine Reg.ok_value Reg.Old.refl (v := .int .u8 (u : Int)) (Reg.wanted_none rfl) ?_ rfl
          go_simp
        · intro cx wc hB hp hs
          have g57 : cx.tmps[57]? = some (.int .u8 (u : Int)) := by obtain ⟨_, g, hv⟩ := Reg.pred hp 14 57 (by kernel_rfl) rfl rfl; exact g.trans (congrArg some hv)
          exact Reg.ok_made (w2 := wc.alloc (.cells #[.int .u8 (u : Int)] 5)) (v := .slice (some ⟨wc.heap.size, 0, none⟩) 1 1) (Reg.wanted_none rfl) (by go_simp) ((Below.refl _ _).alloc (Nat.le_refl _) _) ⟨wc.heap.size, rfl, by simp, (CellsAt.new #[.int .u8 (u : Int)] 5 wc).cell 0 _ rfl⟩
        · intro cx wc hB hp hs
          obtain ⟨v58, g58, hv⟩ := Reg.pred hp 15 58 (by kernel_rfl) rfl rfl
          obtain ⟨gg, rfl, hg, hcell⟩ := hv
          have hrun := ONE2.out wc gg hcell
          refine Reg.ok_value Reg.Old.refl (v := .string TJ) (Reg.wanted_none rfl) ?_ rfl
          go_simp
        · intro cx wc hB hp hs
          have g1 : cx.tmps[1]? = some (.slice (some ⟨C, off, none⟩) n c1) := (hs 1 (by kernel_rfl)).trans rfl
          refine Reg.ok_value Reg.Old.refl (v := .slice (some ⟨C, off, none⟩) n c1) (Reg.wanted_none rfl) ?_ rfl
          go_simp
        · intro cx wc hB hp hs
          have g10 : cx.tmps[10]? = some (.int .i64 (k : Int)) := (hs 10 (by kernel_rfl)).trans rfl
          refine Reg.ok_value Reg.Old.refl (v := .int .i64 (k : Int)) (Reg.wanted_none rfl) ?_ rfl
          go_simp
        · intro cx wc hB hp hs
          have g60 : cx.tmps[60]? = some (.slice (some ⟨C, off, none⟩) n c1) := by obtain ⟨_, g, hv⟩ := Reg.pred hp 17 60 (by kernel_rfl) rfl rfl; exact g.trans (congrArg some hv)
          have g61 : cx.tmps[61]? = some (.int .i64 (k : Int)) := by obtain ⟨_, g, hv⟩ := Reg.pred hp 18 61 (by kernel_rfl) rfl rfl; exact g.trans (congrArg some hv)
          have i0 : (0 : Int) ≤ (k : Int) := by omega
          have i1 : (k : Int) < (n : Int) := by omega
          refine Reg.ok_value Reg.Old.refl (v := .pointer (some ⟨C, off + k * 19, none⟩)) (Reg.wanted_none rfl) ?_ rfl
          go_simp
        · intro cx wc hB hp hs
          have g62 : cx.tmps[62]? = some (.pointer (some ⟨C, off + k * 19, none⟩)) := by obtain ⟨_, g, hv⟩ := Reg.pred hp 19 62 (by kernel_rfl) rfl rfl; exact g.trans (congrArg some hv)
          refine Reg.ok_value Reg.Old.refl (v := .pointer (some ⟨C, off + k * 19 + 3, none⟩)) (Reg.wanted_none rfl) ?_ rfl
          go_simp
        · intro cx wc hB hp hs
          have g63 : cx.tmps[63]? = some (.pointer (some ⟨C, off + k * 19 + 3, none⟩)) := by obtain ⟨_, g, hv⟩ := Reg.pred hp 20 63 (by kernel_rfl) rfl rfl; exact g.trans (congrArg some hv)
          have kx : wc.cell? ⟨C, off + k * 19 + 3, none⟩ = some (.bool kn) := (Below.cell (p := ⟨C, off + k * 19 + 3, none⟩) hB hCL).trans hx3
          refine Reg.ok_value Reg.Old.refl (v := .bool kn) (Reg.wanted_none rfl) ?_ rfl
          go_simp
        · intro cx wc hB hp hs
          have g1 : cx.tmps[1]? = some (.slice (some ⟨C, off, none⟩) n c1) := (hs 1 (by kernel_rfl)).trans rfl
          refine Reg.ok_value Reg.Old.refl (v := .slice (some ⟨C, off, none⟩) n c1) (Reg.wanted_none rfl) ?_ rfl
          go_simp
        · intro cx wc hB hp hs
          have g10 : cx.tmps[10]? = some (.int .i64 (k : Int)) := (hs 10 (by kernel_rfl)).trans rfl
          refine Reg.ok_value Reg.Old.refl (v := .int .i64 (k : Int)) (Reg.wanted_none rfl) ?_ rfl
          go_simp
        · intro cx wc hB hp hs
          have g65 : cx.tmps[65]? = some (.slice (some ⟨C, off, none⟩) n c1) := by obtain ⟨_, g, hv⟩ := Reg.pred hp 22 65 (by kernel_rfl) rfl rfl; exact g.trans (congrArg some hv)
          have g66 : cx.tmps[66]? = some (.int .i64 (k : Int)) := by obtain ⟨_, g, hv⟩ := Reg.pred hp 23 66 (by kernel_rfl) rfl rfl; exact g.trans (congrArg some hv)
          have i0 : (0 : Int) ≤ (k : Int) := by omega
          have i1 : (k : Int) < (n : Int) := by omega
          refine Reg.ok_value Reg.Old.refl (v := .pointer (some ⟨C, off + k * 19, none⟩)) (Reg.wanted_none rfl) ?_ rfl
          go_simp
        · intro cx wc hB hp hs
          have g67 : cx.tmps[67]? = some (.pointer (some ⟨C, off + k * 19, none⟩)) := by obtain ⟨_, g, hv⟩ := Reg.pred hp 24 67 (by kernel_rfl) rfl rfl; exact g.trans (congrArg some hv)
          refine Reg.ok_value Reg.Old.refl (v := .pointer (some ⟨C, off + k * 19 + 4, none⟩)) (Reg.wanted_none rfl) ?_ rfl
          go_simp
        · intro cx wc hB hp hs
          have g68 : cx.tmps[68]? = some (.pointer (some ⟨C, off + k * 19 + 4, none⟩)) := by obtain ⟨_, g, hv⟩ := Reg.pred hp 25 68 (by kernel_rfl) rfl rfl; exact g.trans (congrArg some hv)
          have kx : wc.cell? ⟨C, off + k * 19 + 4, none⟩ = some (.bool fu) := (Below.cell (p := ⟨C, off + k * 19 + 4, none⟩) hB hCL).trans hx4
          refine Reg.ok_value Reg.Old.refl (v := .bool fu) (Reg.wanted_none rfl) ?_ rfl
          go_simp
      · intro cx w1 hB hsz hdf hv ho
        obtain ⟨R49, h49, _⟩ := hv 6 _ 49 (by decide) rfl rfl
        obtain ⟨R58, h58, _⟩ := hv 15 _ 58 (by decide) rfl rfl
        have hcx := Reg.frame_eq [_, _, _, _, _, _, _, _, _, _, _, _, _, _, _, _, _, _, _, _, _, _, _, _, _, _, _, _, _, _, _, _, _, _, _, _, _, _, _, _, _, _, _, .pointer (some ⟨a.B, 0, none⟩), .slice (some ⟨C, off, none⟩) n c1, .int .i64 (k : Int), .pointer (some ⟨C, off + k * 19, none⟩), .pointer (some ⟨C, off + k * 19 + 1, none⟩), .int .u8 (z : Int), R49, .string TZ, .slice (some ⟨C, off, none⟩) n c1, .int .i64 (k : Int), .pointer (some ⟨C, off + k * 19, none⟩), .pointer (some ⟨C, off + k * 19 + 1, none⟩), .int .u8 (z : Int), .int .u8 (j : Int), .int .u8 (u : Int), R58, .string TJ, .slice (some ⟨C, off, none⟩) n c1, .int .i64 (k : Int), .pointer (some ⟨C, off + k * 19, none⟩), .pointer (some ⟨C, off + k * 19 + 3, none⟩), .bool kn, .slice (some ⟨C, off, none⟩) n c1, .int .i64 (k : Int), .pointer (some ⟨C, off + k * 19, none⟩), .pointer (some ⟨C, off + k * 19 + 4, none⟩), .bool fu, _, _, _, _, _, _, _, _, _, _, _, _, _, _, _, _, _, _, _, _, _, _, _, _, _, _, _, _, _, _, _, _, _, _, _, _, _, _, _, _, _, _, _, _, _, _, _, _, _, _, _, _, _, _, _, _, _] (by simpa using hsz) hdf ⟨((Reg.kept_past ho 0 (by kernel_rfl)).trans rfl), ((Reg.kept_past ho 1 (by kernel_rfl)).trans rfl), ((Reg.kept_past ho 2 (by kernel_rfl)).trans rfl), ((Reg.kept_past ho 3 (by kernel_rfl)).trans rfl), ((Reg.kept_past ho 4 (by kernel_rfl)).trans rfl), ((Reg.kept_past ho 5 (by kernel_rfl)).trans rfl), ((Reg.kept_past ho 6 (by kernel_rfl)).trans rfl), ((Reg.kept_past ho 7 (by kernel_rfl)).trans rfl), ((Reg.kept_past ho 8 (by kernel_rfl)).trans rfl), ((Reg.kept_past ho 9 (by kernel_rfl)).trans rfl), ((Reg.kept_past ho 10 (by kernel_rfl)).trans rfl), ((Reg.kept_past ho 11 (by kernel_rfl)).trans rfl), ((Reg.kept_past ho 12 (by kernel_rfl)).trans rfl), ((Reg.kept_past ho 13 (by kernel_rfl)).trans rfl), ((Reg.kept_past ho 14 (by kernel_rfl)).trans rfl), ((Reg.kept_past ho 15 (by kernel_rfl)).trans rfl), ((Reg.kept_past ho 16 (by kernel_rfl)).trans rfl), ((Reg.kept_past ho 17 (by kernel_rfl)).trans rfl), ((Reg.kept_past ho 18 (by kernel_rfl)).trans rfl), ((Reg.kept_past ho 19 (by kernel_rfl)).trans rfl), ((Reg.kept_past ho 20 (by kernel_rfl)).trans rfl), ((Reg.kept_past ho 21 (by kernel_rfl)).trans rfl), ((Reg.kept_past ho 22 (by kernel_rfl)).trans rfl), ((Reg.kept_past ho 23 (by kernel_rfl)).trans rfl), ((Reg.kept_past ho 24 (by kernel_rfl)).trans rfl), ((Reg.kept_past ho 25 (by kernel_rfl)).trans rfl), ((Reg.kept_past ho 26 (by kernel_rfl)).trans rfl), ((Reg.kept_past ho 27 (by kernel_rfl)).trans rfl), ((Reg.kept_past ho 28 (by kernel_rfl)).trans rfl), ((Reg.kept_past ho 29 (by kernel_rfl)).trans rfl), ((Reg.kept_past ho 30 (by kernel_rfl)).trans rfl), ((Reg.kept_past ho 31 (by kernel_rfl)).trans rfl), ((Reg.kept_past ho 32 (by kernel_rfl)).trans rfl), ((Reg.kept_past ho 33 (by kernel_rfl)).trans rfl), ((Reg.kept_past ho 34 (by kernel_rfl)).trans rfl), ((Reg.kept_past ho 35 (by kernel_rfl)).trans rfl), ((Reg.kept_past ho 36 (by kernel_rfl)).trans rfl), ((Reg.kept_past ho 37 (by kernel_rfl)).trans rfl), ((Reg.kept_past ho 38 (by kernel_rfl)).trans rfl), ((Reg.kept_past ho 39 (by kernel_rfl)).trans rfl), ((Reg.kept_past ho 40 (by kernel_rfl)).trans rfl), ((Reg.kept_past ho 41 (by kernel_rfl)).trans rfl), ((Reg.kept_past ho 42 (by kernel_rfl)).trans rfl), (by obtain ⟨_, g, hx⟩ := hv 0 _ 43 (by decide) rfl rfl; exact g.trans (congrArg some hx)), (by obtain ⟨_, g, hx⟩ := hv 1 _ 44 (by decide) rfl rfl; exact g.trans (congrArg some hx)), (by obtain ⟨_, g, hx⟩ := hv 2 _ 45 (by decide) rfl rfl; exact g.trans (congrArg some hx)), (by obtain ⟨_, g, hx⟩ := hv 3 _ 46 (by decide) rfl rfl; exact g.trans (congrArg some hx)), (by obtain ⟨_, g, hx⟩ := hv 4 _ 47 (by decide) rfl rfl; exact g.trans (congrArg some hx)), (by obtain ⟨_, g, hx⟩ := hv 5 _ 48 (by decide) rfl rfl; exact g.trans (congrArg some hx)), h49, (by obtain ⟨_, g, hx⟩ := hv 7 _ 50 (by decide) rfl rfl; exact g.trans (congrArg some hx)), (by obtain ⟨_, g, hx⟩ := hv 8 _ 51 (by decide) rfl rfl; exact g.trans (congrArg some hx)), (by obtain ⟨_, g, hx⟩ := hv 9 _ 52 (by decide) rfl rfl; exact g.trans (congrArg some hx)), (by obtain ⟨_, g, hx⟩ := hv 10 _ 53 (by decide) rfl rfl; exact g.trans (congrArg some hx)), (by obtain ⟨_, g, hx⟩ := hv 11 _ 54 (by decide) rfl rfl; exact g.trans (congrArg some hx)), (by obtain ⟨_, g, hx⟩ := hv 12 _ 55 (by decide) rfl rfl; exact g.trans (congrArg some hx)), (by obtain ⟨_, g, hx⟩ := hv 13 _ 56 (by decide) rfl rfl; exact g.trans (congrArg some hx)), (by obtain ⟨_, g, hx⟩ := hv 14 _ 57 (by decide) rfl rfl; exact g.trans (congrArg some hx)), h58, (by obtain ⟨_, g, hx⟩ := hv 16 _ 59 (by decide) rfl rfl; exact g.trans (congrArg some hx)), (by obtain ⟨_, g, hx⟩ := hv 17 _ 60 (by decide) rfl rfl; exact g.trans (congrArg some hx)), (by obtain ⟨_, g, hx⟩ := hv 18 _ 61 (by decide) rfl rfl; exact g.trans (congrArg some hx)), (by obtain ⟨_, g, hx⟩ := hv 19 _ 62 (by decide) rfl rfl; exact g.trans (congrArg some hx)), (by obtain ⟨_, g, hx⟩ := hv 20 _ 63 (by decide) rfl rfl; exact g.trans (congrArg some hx)), (by obtain ⟨_, g, hx⟩ := hv 21 _ 64 (by decide) rfl rfl; exact g.trans (congrArg some hx)), (by obtain ⟨_, g, hx⟩ := hv 22 _ 65 (by decide) rfl rfl; exact g.trans (congrArg some hx)), (by obtain ⟨_, g, hx⟩ := hv 23 _ 66 (by decide) rfl rfl; exact g.trans (congrArg some hx)), (by obtain ⟨_, g, hx⟩ := hv 24 _ 67 (by decide) rfl rfl; exact g.trans (congrArg some hx)), (by obtain ⟨_, g, hx⟩ := hv 25 _ 68 (by decide) rfl rfl; exact g.trans (congrArg some hx)), (by obtain ⟨_, g, hx⟩ := hv 26 _ 69 (by decide) rfl rfl; exact g.trans (congrArg some hx)), ((Reg.kept_past ho 70 (by kernel_rfl)).trans rfl), ((Reg.kept_past ho 71 (by kernel_rfl)).trans rfl), ((Reg.kept_past ho 72 (by kernel_rfl)).trans rfl), ((Reg.kept_past ho 73 (by kernel_rfl)).trans rfl), ((Reg.kept_past ho 74 (by kernel_rfl)).trans rfl), ((Reg.kept_past ho 75 (by kernel_rfl)).trans rfl), ((Reg.kept_past ho 76 (by kernel_rfl)).trans rfl), ((Reg.kept_past ho 77 (by kernel_rfl)).trans rfl), ((Reg.kept_past ho 78 (by kernel_rfl)).trans rfl), ((Reg.kept_past ho 79 (by kernel_rfl)).trans rfl), ((Reg.kept_past ho 80 (by kernel_rfl)).trans rfl), ((Reg.kept_past ho 81 (by kernel_rfl)).trans rfl), ((Reg.kept_past ho 82 (by kernel_rfl)).trans rfl), ((Reg.kept_past ho 83 (by kernel_rfl)).trans rfl), ((Reg.kept_past ho 84 (by kernel_rfl)).trans rfl), ((Reg.kept_past ho 85 (by kernel_rfl)).trans rfl), ((Reg.kept_past ho 86 (by kernel_rfl)).trans rfl), ((Reg.kept_past ho 87 (by kernel_rfl)).trans rfl), ((Reg.kept_past ho 88 (by kernel_rfl)).trans rfl), ((Reg.kept_past ho 89 (by kernel_rfl)).trans rfl), ((Reg.kept_past ho 90 (by kernel_rfl)).trans rfl), ((Reg.kept_past ho 91 (by kernel_rfl)).trans rfl), ((Reg.kept_past ho 92 (by kernel_rfl)).trans rfl), ((Reg.kept_past ho 93 (by kernel_rfl)).trans rfl), ((Reg.kept_past ho 94 (by kernel_rfl)).trans rfl), ((Reg.kept_past ho 95 (by kernel_rfl)).trans rfl), ((Reg.kept_past ho 96 (by kernel_rfl)).trans rfl), ((Reg.kept_past ho 97 (by kernel_rfl)).trans rfl), ((Reg.kept_past ho 98 (by kernel_rfl)).trans rfl), ((Reg.kept_past ho 99 (by kernel_rfl)).trans rfl), ((Reg.kept_past ho 100 (by kernel_rfl)).trans rfl), ((Reg.kept_past ho 101 (by kernel_rfl)).trans rfl), ((Reg.kept_past ho 102 (by kernel_rfl)).trans rfl), ((Reg.kept_past ho 103 (by kernel_rfl)).trans rfl), ((Reg.kept_past ho 104 (by kernel_rfl)).trans rfl), ((Reg.kept_past ho 105 (by kernel_rfl)).trans rfl), ((Reg.kept_past ho 106 (by kernel_rfl)).trans rfl), ((Reg.kept_past ho 107 (by kernel_rfl)).trans rfl), ((Reg.kept_past ho 108 (by kernel_rfl)).trans rfl), ((Reg.kept_past ho 109 (by kernel_rfl)).trans rfl), ((Reg.kept_past ho 110 (by kernel_rfl)).trans rfl), ((Reg.kept_past ho 111 (by kernel_rfl)).trans rfl), ((Reg.kept_past ho 112 (by kernel_rfl)).trans rfl), ((Reg.kept_past ho 113 (by kernel_rfl)).trans rfl), ((Reg.kept_past ho 114 (by kernel_rfl)).trans rfl), ((Reg.kept_past ho 115 (by kernel_rfl)).trans rfl), ((Reg.kept_past ho 116 (by kernel_rfl)).trans rfl), ((Reg.kept_past ho 117 (by kernel_rfl)).trans rfl), ((Reg.kept_past ho 118 (by kernel_rfl)).trans rfl), ((Reg.kept_past ho 119 (by kernel_rfl)).trans rfl), ((Reg.kept_past ho 120 (by kernel_rfl)).trans rfl), ((Reg.kept_past ho 121 (by kernel_rfl)).trans rfl), ((Reg.kept_past ho 122 (by kernel_rfl)).trans rfl), ((Reg.kept_past ho 123 (by kernel_rfl)).trans rfl), ((Reg.kept_past ho 124 (by kernel_rfl)).trans rfl), ((Reg.kept_past ho 125 (by kernel_rfl)).trans rfl), ((Reg.kept_past ho 126 (by kernel_rfl)).trans rfl), trivial⟩
        rw [hcx]
        have hb1 : Below wr.heap.size wr w1 := (Below.refl _ _).drew.trans hB
        have had := HAD.out w1 hb1
        simp only [List.drop_succ_cons, List.drop_zero]
        clear hv ho hsz hdf hcx HR hx1 hx3 hx4 hCL ONE1 ONE2 HAD hB hb1 h49 h58
        go_wp2_with fail
        refine had.mono ?_
        clear had
        rintro e Wa ⟨f, v', s', M, rfl, hR1, hMM, hC1, hF, hSE⟩
        have HX3 : Hid (Wa.drew.cell? ⟨C, off + k * 19 + 3, none⟩ = some (.bool kn)) := Lib.hid ((hR1.bel.cell (p := ⟨C, off + k * 19 + 3, none⟩) HC9.out).trans HY3.out)
        have HX4 : Hid (Wa.drew.cell? ⟨C, off + k * 19 + 4, none⟩ = some (.bool fu)) := Lib.hid ((hR1.bel.cell (p := ⟨C, off + k * 19 + 4, none⟩) HC9.out).trans HY4.out)
        have HCA : Hid (C < Wa.heap.size) := Lib.hid (Nat.lt_of_lt_of_le HC9.out (by have := hR1.bel.size; rw [HVN.out] at this; exact this))
        have HPA : Hid (CellsAt P #[.int .i64 x0, .int .i64 x1, .int .i64 x2, .int .i64 (r : Int), .int .i64 (b : Int), .int .i64 x5, .int .i64 x6, .int .i64 x7, .int .i64 x8, .int .i64 x9, .slice q l d] Wa) := Lib.hid (CellsAt.belowAt HP.out hR1.bel HPV.out)
        have HX2 : Hid (IntKind.u64.wrap x2 = x2) := Lib.hid (IntWalk.u64_in _ (by have := HLB.out.2.1; omega))
        rw [HCE.out] at hC1
        have HR1 := Lib.hid hR1
        have HMM := Lib.hid hMM
        have HC1 := Lib.hid hC1
        have HF := Lib.hid hF
        have HSE := Lib.hid hSE
        clear hR1 hMM hC1 hF hSE HCE
        cases cl with
        | true =>
          have hc1 : s'.cl = true := HC1.out.trans (rfl)
          have HCL : Hid (∀ wc, Reg.Old Wa.drew wc → Calls Tryz.prog 28 #[.pointer (some ⟨a.B, 0, none⟩)] wc fun e w' => e = .returned (.bool true) ∧ wc = w') := Lib.hid (fun wc hB => by have h9 := closed_any (HR1.out.q.drew.below hB); rwa [hc1] at h9)
          have HMA : Hid (∀ wc, Reg.Old Wa.drew wc → Calls Tryz.prog 24 #[.pointer (some ⟨a.B, 0, none⟩)] wc fun e w' => e = .returned (.int .u64 (M : Int)) ∧ Below wc.heap.size wc w') := Lib.hid (fun wc hB => by have h9 := many_any (HR1.out.q.drew.below hB); rwa [HMM.out] at h9)
          have hfv : f = admC true kn fu := by rw [HF.out, hc1]
          have HFV := Lib.hid hfv
          clear hc1 hfv
          go_wp2_with fail
          refine Reg.wp_region_inv (n := 127) (K15tt a P M x2) (by kernel_rfl) (by kernel_rfl) rfl K15tt.stays ?_ ?_
          · refine ⟨?_, ?_, ?_, ?_, ?_, ?_, ?_, ?_, ?_, ?_, ?_, ?_, ?_, ?_, ?_, ?_, ?_, ?_, ?_, ?_, trivial⟩
            · intro cx wc hB hp hs
              have g11 : cx.tmps[11]? = some (.bool true) := (hs 11 (by kernel_rfl)).trans rfl
              refine Reg.ok_value Reg.Old.refl (v := .bool true) (Reg.wanted_none rfl) ?_ rfl
              go_simp
            · intro cx wc hB hp hs
              have g71 : cx.tmps[71]? = some (.bool true) := by obtain ⟨_, g, hv⟩ := Reg.pred hp 0 71 (by kernel_rfl) rfl rfl; exact g.trans (congrArg some hv)
              refine Reg.ok_value Reg.Old.refl (v := .bool true) (Reg.wanted_none rfl) ?_ rfl
              go_simp
            · intro cx wc hB hp hs
              have g7 : cx.tmps[7]? = some (.pointer (some ⟨a.B, 0, none⟩)) := (hs 7 (by kernel_rfl)).trans rfl
              have g72 : cx.tmps[72]? = some (.bool true) := by obtain ⟨_, g, hv⟩ := Reg.pred hp 1 72 (by kernel_rfl) rfl rfl; exact g.trans (congrArg some hv)
              refine Reg.ok_value Reg.Old.refl (v := .pointer (some ⟨a.B, 0, none⟩)) (Reg.wanted_at (j := 1) (d := 72) rfl rfl rfl g72) ?_ rfl
              go_simp
            · intro cx wc hB hp hs
              have g73 : cx.tmps[73]? = some (.pointer (some ⟨a.B, 0, none⟩)) := by obtain ⟨_, g, hv⟩ := Reg.pred hp 2 73 (by kernel_rfl) rfl rfl; exact g.trans (congrArg some hv)
              have g72 : cx.tmps[72]? = some (.bool true) := by obtain ⟨_, g, hv⟩ := Reg.pred hp 1 72 (by kernel_rfl) rfl rfl; exact g.trans (congrArg some hv)
              refine Reg.ok_call (f := 28) (args := #[.pointer (some ⟨a.B, 0, none⟩)]) (Reg.wanted_at (j := 1) (d := 72) rfl rfl rfl g72) (by go_simp) ((HCL.out wc hB).mono ?_)
              rintro e w' ⟨rfl, rfl⟩
              exact ⟨_, rfl, Reg.Old.refl _, rfl⟩
            · intro cx wc hB hp hs
              have g74 : cx.tmps[74]? = some (.bool true) := by obtain ⟨_, g, hv⟩ := Reg.pred hp 3 74 (by kernel_rfl) rfl rfl; exact g.trans (congrArg some hv)
              have g72 : cx.tmps[72]? = some (.bool true) := by obtain ⟨_, g, hv⟩ := Reg.pred hp 1 72 (by kernel_rfl) rfl rfl; exact g.trans (congrArg some hv)
              refine Reg.ok_value Reg.Old.refl (v := .bool false) (Reg.wanted_at (j := 1) (d := 72) rfl rfl rfl g72) ?_ rfl
              go_simp
            · intro cx wc hB hp hs
              have g72 : cx.tmps[72]? = some (.bool true) := by obtain ⟨_, g, hv⟩ := Reg.pred hp 1 72 (by kernel_rfl) rfl rfl; exact g.trans (congrArg some hv)
              have g75 : cx.tmps[75]? = some (.bool false) := by obtain ⟨_, g, hv⟩ := Reg.pred hp 4 75 (by kernel_rfl) rfl rfl; exact g.trans (congrArg some hv)
              refine Reg.ok_value Reg.Old.refl (v := .bool false) (Reg.wanted_none rfl) ?_ rfl
              go_simp
            · intro cx wc hB hp hs
              have g76 : cx.tmps[76]? = some (.bool false) := by obtain ⟨_, g, hv⟩ := Reg.pred hp 5 76 (by kernel_rfl) rfl rfl; exact g.trans (congrArg some hv)
              refine Reg.ok_value Reg.Old.refl (v := .bool false) (Reg.wanted_none rfl) ?_ rfl
              go_simp
            · intro cx wc hB hp hs
              have g7 : cx.tmps[7]? = some (.pointer (some ⟨a.B, 0, none⟩)) := (hs 7 (by kernel_rfl)).trans rfl
              have g77 : cx.tmps[77]? = some (.bool false) := by obtain ⟨_, g, hv⟩ := Reg.pred hp 6 77 (by kernel_rfl) rfl rfl; exact g.trans (congrArg some hv)
              refine Reg.ok_value Reg.Old.refl (v := .pointer (some ⟨a.B, 0, none⟩)) (Reg.wanted_at (j := 6) (d := 77) rfl rfl rfl g77) ?_ rfl
              go_simp
            · intro cx wc hB hp hs
              have g78 : cx.tmps[78]? = some (.pointer (some ⟨a.B, 0, none⟩)) := by obtain ⟨_, g, hv⟩ := Reg.pred hp 7 78 (by kernel_rfl) rfl rfl; exact g.trans (congrArg some hv)
              have g77 : cx.tmps[77]? = some (.bool false) := by obtain ⟨_, g, hv⟩ := Reg.pred hp 6 77 (by kernel_rfl) rfl rfl; exact g.trans (congrArg some hv)
              refine Reg.ok_call (f := 28) (args := #[.pointer (some ⟨a.B, 0, none⟩)]) (Reg.wanted_at (j := 6) (d := 77) rfl rfl rfl g77) (by go_simp) ((HCL.out wc hB).mono ?_)
              rintro e w' ⟨rfl, rfl⟩
              exact ⟨_, rfl, Reg.Old.refl _, rfl⟩
            · intro cx wc hB hp hs
              have g11 : cx.tmps[11]? = some (.bool true) := (hs 11 (by kernel_rfl)).trans rfl
              have g77 : cx.tmps[77]? = some (.bool false) := by obtain ⟨_, g, hv⟩ := Reg.pred hp 6 77 (by kernel_rfl) rfl rfl; exact g.trans (congrArg some hv)
              refine Reg.ok_value Reg.Old.refl (v := .bool true) (Reg.wanted_at (j := 6) (d := 77) rfl rfl rfl g77) ?_ rfl
              go_simp
            · intro cx wc hB hp hs
              have g80 : cx.tmps[80]? = some (.bool true) := by obtain ⟨_, g, hv⟩ := Reg.pred hp 9 80 (by kernel_rfl) rfl rfl; exact g.trans (congrArg some hv)
              have g77 : cx.tmps[77]? = some (.bool false) := by obtain ⟨_, g, hv⟩ := Reg.pred hp 6 77 (by kernel_rfl) rfl rfl; exact g.trans (congrArg some hv)
              refine Reg.ok_value Reg.Old.refl (v := .bool true) (Reg.wanted_at (j := 6) (d := 77) rfl rfl rfl g77) ?_ rfl
              go_simp
            · intro cx wc hB hp hs
              have g81 : cx.tmps[81]? = some (.bool true) := by obtain ⟨_, g, hv⟩ := Reg.pred hp 10 81 (by kernel_rfl) rfl rfl; exact g.trans (congrArg some hv)
              exact Reg.ok_skip (Reg.unwanted_at (j := 10) (d := 81) rfl rfl rfl g81 rfl) rfl
            · intro cx wc hB hp hs
              have g81 : cx.tmps[81]? = some (.bool true) := by obtain ⟨_, g, hv⟩ := Reg.pred hp 10 81 (by kernel_rfl) rfl rfl; exact g.trans (congrArg some hv)
              exact Reg.ok_skip (Reg.unwanted_at (j := 10) (d := 81) rfl rfl rfl g81 rfl) rfl
            · intro cx wc hB hp hs
              have g81 : cx.tmps[81]? = some (.bool true) := by obtain ⟨_, g, hv⟩ := Reg.pred hp 10 81 (by kernel_rfl) rfl rfl; exact g.trans (congrArg some hv)
              exact Reg.ok_skip (Reg.unwanted_at (j := 10) (d := 81) rfl rfl rfl g81 rfl) rfl
            · intro cx wc hB hp hs
              have g81 : cx.tmps[81]? = some (.bool true) := by obtain ⟨_, g, hv⟩ := Reg.pred hp 10 81 (by kernel_rfl) rfl rfl; exact g.trans (congrArg some hv)
              exact Reg.ok_skip (Reg.unwanted_at (j := 10) (d := 81) rfl rfl rfl g81 rfl) rfl
            · intro cx wc hB hp hs
              have g81 : cx.tmps[81]? = some (.bool true) := by obtain ⟨_, g, hv⟩ := Reg.pred hp 10 81 (by kernel_rfl) rfl rfl; exact g.trans (congrArg some hv)
              exact Reg.ok_skip (Reg.unwanted_at (j := 10) (d := 81) rfl rfl rfl g81 rfl) rfl
            · intro cx wc hB hp hs
              have g81 : cx.tmps[81]? = some (.bool true) := by obtain ⟨_, g, hv⟩ := Reg.pred hp 10 81 (by kernel_rfl) rfl rfl; exact g.trans (congrArg some hv)
              exact Reg.ok_skip (Reg.unwanted_at (j := 10) (d := 81) rfl rfl rfl g81 rfl) rfl
            · intro cx wc hB hp hs
              have g81 : cx.tmps[81]? = some (.bool true) := by obtain ⟨_, g, hv⟩ := Reg.pred hp 10 81 (by kernel_rfl) rfl rfl; exact g.trans (congrArg some hv)
              have g77 : cx.tmps[77]? = some (.bool false) := by obtain ⟨_, g, hv⟩ := Reg.pred hp 6 77 (by kernel_rfl) rfl rfl; exact g.trans (congrArg some hv)
              refine Reg.ok_value Reg.Old.refl (v := .bool true) (Reg.wanted_at (j := 6) (d := 77) rfl rfl rfl g77) ?_ rfl
              go_simp
            · intro cx wc hB hp hs
              have g79 : cx.tmps[79]? = some (.bool true) := by obtain ⟨_, g, hv⟩ := Reg.pred hp 8 79 (by kernel_rfl) rfl rfl; exact g.trans (congrArg some hv)
              have g88 : cx.tmps[88]? = some (.bool true) := by obtain ⟨_, g, hv⟩ := Reg.pred hp 17 88 (by kernel_rfl) rfl rfl; exact g.trans (congrArg some hv)
              have g77 : cx.tmps[77]? = some (.bool false) := by obtain ⟨_, g, hv⟩ := Reg.pred hp 6 77 (by kernel_rfl) rfl rfl; exact g.trans (congrArg some hv)
              refine Reg.ok_value Reg.Old.refl (v := .bool false) (Reg.wanted_at (j := 6) (d := 77) rfl rfl rfl g77) ?_ rfl
              go_simp
            · intro cx wc hB hp hs
              have g77 : cx.tmps[77]? = some (.bool false) := by obtain ⟨_, g, hv⟩ := Reg.pred hp 6 77 (by kernel_rfl) rfl rfl; exact g.trans (congrArg some hv)
              have g89 : cx.tmps[89]? = some (.bool false) := by obtain ⟨_, g, hv⟩ := Reg.pred hp 18 89 (by kernel_rfl) rfl rfl; exact g.trans (congrArg some hv)
              refine Reg.ok_value Reg.Old.refl (v := .bool false) (Reg.wanted_none rfl) ?_ rfl
              go_simp
          · intro d wc hB hsz hdf hv ho
            have hfr := Reg.frame_eq [_, _, _, _, _, _, _, _, _, _, _, _, _, _, _, _, _, _, _, _, _, _, _, _, _, _, _, _, _, _, _, _, _, _, _, _, _, _, _, _, _, _, _, _, _, _, _, _, _, _, _, _, _, _, _, _, _, _, _, _, _, _, _, _, _, _, _, _, _, _, _, .bool true, .bool true, .pointer (some ⟨a.B, 0, none⟩), .bool true, .bool false, .bool false, .bool false, .pointer (some ⟨a.B, 0, none⟩), .bool true, .bool true, .bool true, undef, undef, undef, undef, undef, undef, .bool true, .bool false, .bool false, _, _, _, _, _, _, _, _, _, _, _, _, _, _, _, _, _, _, _, _, _, _, _, _, _, _, _, _, _, _, _, _, _, _, _, _] (by simpa using hsz) hdf ⟨((Reg.kept ho 0 (by kernel_rfl)).trans rfl), ((Reg.kept ho 1 (by kernel_rfl)).trans rfl), ((Reg.kept ho 2 (by kernel_rfl)).trans rfl), ((Reg.kept ho 3 (by kernel_rfl)).trans rfl), ((Reg.kept ho 4 (by kernel_rfl)).trans rfl), ((Reg.kept ho 5 (by kernel_rfl)).trans rfl), ((Reg.kept ho 6 (by kernel_rfl)).trans rfl), ((Reg.kept ho 7 (by kernel_rfl)).trans rfl), ((Reg.kept ho 8 (by kernel_rfl)).trans rfl), ((Reg.kept ho 9 (by kernel_rfl)).trans rfl), ((Reg.kept ho 10 (by kernel_rfl)).trans rfl), ((Reg.kept ho 11 (by kernel_rfl)).trans rfl), ((Reg.kept ho 12 (by kernel_rfl)).trans rfl), ((Reg.kept ho 13 (by kernel_rfl)).trans rfl), ((Reg.kept ho 14 (by kernel_rfl)).trans rfl), ((Reg.kept ho 15 (by kernel_rfl)).trans rfl), ((Reg.kept ho 16 (by kernel_rfl)).trans rfl), ((Reg.kept ho 17 (by kernel_rfl)).trans rfl), ((Reg.kept ho 18 (by kernel_rfl)).trans rfl), ((Reg.kept ho 19 (by kernel_rfl)).trans rfl), ((Reg.kept ho 20 (by kernel_rfl)).trans rfl), ((Reg.kept ho 21 (by kernel_rfl)).trans rfl), ((Reg.kept ho 22 (by kernel_rfl)).trans rfl), ((Reg.kept ho 23 (by kernel_rfl)).trans rfl), ((Reg.kept ho 24 (by kernel_rfl)).trans rfl), ((Reg.kept ho 25 (by kernel_rfl)).trans rfl), ((Reg.kept ho 26 (by kernel_rfl)).trans rfl), ((Reg.kept ho 27 (by kernel_rfl)).trans rfl), ((Reg.kept ho 28 (by kernel_rfl)).trans rfl), ((Reg.kept ho 29 (by kernel_rfl)).trans rfl), ((Reg.kept ho 30 (by kernel_rfl)).trans rfl), ((Reg.kept ho 31 (by kernel_rfl)).trans rfl), ((Reg.kept ho 32 (by kernel_rfl)).trans rfl), ((Reg.kept ho 33 (by kernel_rfl)).trans rfl), ((Reg.kept ho 34 (by kernel_rfl)).trans rfl), ((Reg.kept ho 35 (by kernel_rfl)).trans rfl), ((Reg.kept ho 36 (by kernel_rfl)).trans rfl), ((Reg.kept ho 37 (by kernel_rfl)).trans rfl), ((Reg.kept ho 38 (by kernel_rfl)).trans rfl), ((Reg.kept ho 39 (by kernel_rfl)).trans rfl), ((Reg.kept ho 40 (by kernel_rfl)).trans rfl), ((Reg.kept ho 41 (by kernel_rfl)).trans rfl), ((Reg.kept ho 42 (by kernel_rfl)).trans rfl), ((Reg.kept ho 43 (by kernel_rfl)).trans rfl), ((Reg.kept ho 44 (by kernel_rfl)).trans rfl), ((Reg.kept ho 45 (by kernel_rfl)).trans rfl), ((Reg.kept ho 46 (by kernel_rfl)).trans rfl), ((Reg.kept ho 47 (by kernel_rfl)).trans rfl), ((Reg.kept ho 48 (by kernel_rfl)).trans rfl), ((Reg.kept ho 49 (by kernel_rfl)).trans rfl), ((Reg.kept ho 50 (by kernel_rfl)).trans rfl), ((Reg.kept ho 51 (by kernel_rfl)).trans rfl), ((Reg.kept ho 52 (by kernel_rfl)).trans rfl), ((Reg.kept ho 53 (by kernel_rfl)).trans rfl), ((Reg.kept ho 54 (by kernel_rfl)).trans rfl), ((Reg.kept ho 55 (by kernel_rfl)).trans rfl), ((Reg.kept ho 56 (by kernel_rfl)).trans rfl), ((Reg.kept ho 57 (by kernel_rfl)).trans rfl), ((Reg.kept ho 58 (by kernel_rfl)).trans rfl), ((Reg.kept ho 59 (by kernel_rfl)).trans rfl), ((Reg.kept ho 60 (by kernel_rfl)).trans rfl), ((Reg.kept ho 61 (by kernel_rfl)).trans rfl), ((Reg.kept ho 62 (by kernel_rfl)).trans rfl), ((Reg.kept ho 63 (by kernel_rfl)).trans rfl), ((Reg.kept ho 64 (by kernel_rfl)).trans rfl), ((Reg.kept ho 65 (by kernel_rfl)).trans rfl), ((Reg.kept ho 66 (by kernel_rfl)).trans rfl), ((Reg.kept ho 67 (by kernel_rfl)).trans rfl), ((Reg.kept ho 68 (by kernel_rfl)).trans rfl), ((Reg.kept ho 69 (by kernel_rfl)).trans rfl), ((Reg.kept ho 70 (by kernel_rfl)).trans rfl), (by obtain ⟨_, g, hx⟩ := hv 0 _ 71 rfl rfl; exact g.trans (congrArg some hx)), (by obtain ⟨_, g, hx⟩ := hv 1 _ 72 rfl rfl; exact g.trans (congrArg some hx)), (by obtain ⟨_, g, hx⟩ := hv 2 _ 73 rfl rfl; exact g.trans (congrArg some hx)), (by obtain ⟨_, g, hx⟩ := hv 3 _ 74 rfl rfl; exact g.trans (congrArg some hx)), (by obtain ⟨_, g, hx⟩ := hv 4 _ 75 rfl rfl; exact g.trans (congrArg some hx)), (by obtain ⟨_, g, hx⟩ := hv 5 _ 76 rfl rfl; exact g.trans (congrArg some hx)), (by obtain ⟨_, g, hx⟩ := hv 6 _ 77 rfl rfl; exact g.trans (congrArg some hx)), (by obtain ⟨_, g, hx⟩ := hv 7 _ 78 rfl rfl; exact g.trans (congrArg some hx)), (by obtain ⟨_, g, hx⟩ := hv 8 _ 79 rfl rfl; exact g.trans (congrArg some hx)), (by obtain ⟨_, g, hx⟩ := hv 9 _ 80 rfl rfl; exact g.trans (congrArg some hx)), (by obtain ⟨_, g, hx⟩ := hv 10 _ 81 rfl rfl; exact g.trans (congrArg some hx)), (by obtain ⟨_, g, hx⟩ := hv 11 _ 82 rfl rfl; exact g.trans (congrArg some hx)), (by obtain ⟨_, g, hx⟩ := hv 12 _ 83 rfl rfl; exact g.trans (congrArg some hx)), (by obtain ⟨_, g, hx⟩ := hv 13 _ 84 rfl rfl; exact g.trans (congrArg some hx)), (by obtain ⟨_, g, hx⟩ := hv 14 _ 85 rfl rfl; exact g.trans (congrArg some hx)), (by obtain ⟨_, g, hx⟩ := hv 15 _ 86 rfl rfl; exact g.trans (congrArg some hx)), (by obtain ⟨_, g, hx⟩ := hv 16 _ 87 rfl rfl; exact g.trans (congrArg some hx)), (by obtain ⟨_, g, hx⟩ := hv 17 _ 88 rfl rfl; exact g.trans (congrArg some hx)), (by obtain ⟨_, g, hx⟩ := hv 18 _ 89 rfl rfl; exact g.trans (congrArg some hx)), (by obtain ⟨_, g, hx⟩ := hv 19 _ 90 rfl rfl; exact g.trans (congrArg some hx)), ((Reg.kept ho 91 (by kernel_rfl)).trans rfl), ((Reg.kept ho 92 (by kernel_rfl)).trans rfl), ((Reg.kept ho 93 (by kernel_rfl)).trans rfl), ((Reg.kept ho 94 (by kernel_rfl)).trans rfl), ((Reg.kept ho 95 (by kernel_rfl)).trans rfl), ((Reg.kept ho 96 (by kernel_rfl)).trans rfl), ((Reg.kept ho 97 (by kernel_rfl)).trans rfl), ((Reg.kept ho 98 (by kernel_rfl)).trans rfl), ((Reg.kept ho 99 (by kernel_rfl)).trans rfl), ((Reg.kept ho 100 (by kernel_rfl)).trans rfl), ((Reg.kept ho 101 (by kernel_rfl)).trans rfl), ((Reg.kept ho 102 (by kernel_rfl)).trans rfl), ((Reg.kept ho 103 (by kernel_rfl)).trans rfl), ((Reg.kept ho 104 (by kernel_rfl)).trans rfl), ((Reg.kept ho 105 (by kernel_rfl)).trans rfl), ((Reg.kept ho 106 (by kernel_rfl)).trans rfl), ((Reg.kept ho 107 (by kernel_rfl)).trans rfl), ((Reg.kept ho 108 (by kernel_rfl)).trans rfl), ((Reg.kept ho 109 (by kernel_rfl)).trans rfl), ((Reg.kept ho 110 (by kernel_rfl)).trans rfl), ((Reg.kept ho 111 (by kernel_rfl)).trans rfl), ((Reg.kept ho 112 (by kernel_rfl)).trans rfl), ((Reg.kept ho 113 (by kernel_rfl)).trans rfl), ((Reg.kept ho 114 (by kernel_rfl)).trans rfl), ((Reg.kept ho 115 (by kernel_rfl)).trans rfl), ((Reg.kept ho 116 (by kernel_rfl)).trans rfl), ((Reg.kept ho 117 (by kernel_rfl)).trans rfl), ((Reg.kept ho 118 (by kernel_rfl)).trans rfl), ((Reg.kept ho 119 (by kernel_rfl)).trans rfl), ((Reg.kept ho 120 (by kernel_rfl)).trans rfl), ((Reg.kept ho 121 (by kernel_rfl)).trans rfl), ((Reg.kept ho 122 (by kernel_rfl)).trans rfl), ((Reg.kept ho 123 (by kernel_rfl)).trans rfl), ((Reg.kept ho 124 (by kernel_rfl)).trans rfl), ((Reg.kept ho 125 (by kernel_rfl)).trans rfl), ((Reg.kept ho 126 (by kernel_rfl)).trans rfl), trivial⟩
            subst hfr
            have HRC := Lib.hid (HR1.out.below hB HVN.out.symm)
            have HXC := Lib.hid (And.intro ((Below.cell (p := ⟨C, off + k * 19 + 3, none⟩) hB HCA.out).trans HX3.out) ((Below.cell (p := ⟨C, off + k * 19 + 4, none⟩) hB HCA.out).trans HX4.out))
            have HCC : Hid (C < wc.heap.size) := Lib.hid (Nat.lt_of_lt_of_le HCA.out hB.size)
            have hclc : Calls Tryz.prog 28 #[.pointer (some ⟨a.B, 0, none⟩)] wc fun e w' => e = .returned (.bool true) ∧ wc = w' := by
              have h9 := closed_any HRC.out.q
              rwa [show s'.cl = true from HC1.out] at h9
            clear hv ho hsz hdf hB HR1 HCL HMA HPA HX3 HX4
            have q3 := HXC.out.1
            have q4 := HXC.out.2
            have ql := HCC.out
            have i0 : (0 : Int) ≤ (k : Int) := by omega
            have i1 : (k : Int) < (n : Int) := by omega
            have HCLC := Lib.hid hclc
            clear hclc
            cases kn with
            | true =>
              have hf0 : f = 0 := HFV.out
              subst hf0
              have hse : Tq.seen s'.l = A := by have h9 := HSE.out; simpa using h9
              obtain ⟨A2, hA2⟩ : ∃ x, A = x := ⟨_, rfl⟩
              rw [hA2] at hse
              have hA2i : (A2 : Int) = (A : Int) := by omega
              have hA3 : A = A2 := hA2
              subst hA3
              obtain ⟨sn, hsn⟩ : ∃ v, Hl.tx s'.now = v := ⟨_, rfl⟩
              obtain ⟨so, hso⟩ : ∃ v, Hl.tx s'.old = v := ⟨_, rfl⟩
              obtain ⟨sw, hsw⟩ : ∃ v, s'.win = v := ⟨_, rfl⟩
              obtain ⟨sc, hsc⟩ : ∃ v, s'.cl = v := ⟨_, rfl⟩
              have hst : Calls Tryz.prog 20 #[.pointer (some ⟨a.B, 0, none⟩)] wc fun e w' => ∃ v, e = .returned (.agg #[.int .i64 sw, .bool sc, .string sn, .string so, .int .u64 (A : Int), v]) ∧ (∃ p l c, v = .slice p l c) ∧ Below wc.heap.size wc w' := by
                have h9 := state_any HRC.out.q
                rw [hse, hsw, hsc, hsn, hso] at h9
                refine h9.mono ?_
                rintro e w' ⟨v, he, ⟨its, hI, hp, -⟩, hB⟩
                obtain ⟨p9, c9, rfl, _, _⟩ := hI.cap
                exact ⟨_, he, ⟨_, _, _, rfl⟩, hB⟩
              have HST := Lib.hid hst
              have HSE2 := Lib.hid hse
              clear hst hse hsn hso hsw hsc hA2i
              have hst := HST.out
              go_wp2_with fail
              refine hst.mono ?_
              rintro e W9 ⟨_, rfl, ⟨vi, li, ci, rfl⟩, hb⟩
              clear hst
              have HR9 := Lib.hid (HRC.out.below hb HVN.out.symm)
              clear hb
              go_wp2
              go_roundg g
              case measure => omega
              case rel => exact ⟨k + 1, A, s', v', by omega, by omega, by go_num, by go_num, HSE2, HR9⟩
            | false =>
              have hf0 : f = 10 := HFV.out
              subst hf0
              have hse : Tq.seen s'.l = (A + 1) := by have h9 := HSE.out; simpa using h9
              obtain ⟨A2, hA2⟩ : ∃ x, (A + 1) = x := ⟨_, rfl⟩
              rw [hA2] at hse
              have hA2i : (A2 : Int) = (A : Int) + 1 := by omega
              have hA3 : (A : Int) + 1 = (A2 : Int) := by omega
              have r1 : IntKind.u64.wrap (A2 : Int) = (A2 : Int) := IntWalk.u64_in _ (by omega)
              obtain ⟨sn, hsn⟩ : ∃ v, Hl.tx s'.now = v := ⟨_, rfl⟩
              obtain ⟨so, hso⟩ : ∃ v, Hl.tx s'.old = v := ⟨_, rfl⟩
              obtain ⟨sw, hsw⟩ : ∃ v, s'.win = v := ⟨_, rfl⟩
              obtain ⟨sc, hsc⟩ : ∃ v, s'.cl = v := ⟨_, rfl⟩
              have hst : Calls Tryz.prog 20 #[.pointer (some ⟨a.B, 0, none⟩)] wc fun e w' => ∃ v, e = .returned (.agg #[.int .i64 sw, .bool sc, .string sn, .string so, .int .u64 (A2 : Int), v]) ∧ (∃ p l c, v = .slice p l c) ∧ Below wc.heap.size wc w' := by
                have h9 := state_any HRC.out.q
                rw [hse, hsw, hsc, hsn, hso] at h9
                refine h9.mono ?_
                rintro e w' ⟨v, he, ⟨its, hI, hp, -⟩, hB⟩
                obtain ⟨p9, c9, rfl, _, _⟩ := hI.cap
                exact ⟨_, he, ⟨_, _, _, rfl⟩, hB⟩
              have HST := Lib.hid hst
              have HSE2 := Lib.hid hse
              clear hst hse hsn hso hsw hsc hA2i
              have hclc := HCLC.out
              go_wp2_with fail
              refine hclc.mono ?_
              rintro e _ ⟨rfl, rfl⟩
              clear hclc
              have hst := HST.out
              go_wp2_with fail
              refine hst.mono ?_
              rintro e W9 ⟨_, rfl, ⟨vi, li, ci, rfl⟩, hb⟩
              clear hst
              have HR9 := Lib.hid (HRC.out.below hb HVN.out.symm)
              clear hb
              go_wp2
              go_roundg g
              case measure => omega
              case rel => exact ⟨k + 1, A2, s', v', by omega, by omega, by go_num, by go_num, HSE2, HR9⟩
        | false =>
          cases hcm : decide (x2 ≤ (M : Int)) with
          | true =>
            have hc1 : s'.cl = true := HC1.out.trans (by rw [hcm]; rfl)
            have HCL : Hid (∀ wc, Reg.Old Wa.drew wc → Calls Tryz.prog 28 #[.pointer (some ⟨a.B, 0, none⟩)] wc fun e w' => e = .returned (.bool true) ∧ wc = w') := Lib.hid (fun wc hB => by have h9 := closed_any (HR1.out.q.drew.below hB); rwa [hc1] at h9)
            have HMA : Hid (∀ wc, Reg.Old Wa.drew wc → Calls Tryz.prog 24 #[.pointer (some ⟨a.B, 0, none⟩)] wc fun e w' => e = .returned (.int .u64 (M : Int)) ∧ Below wc.heap.size wc w') := Lib.hid (fun wc hB => by have h9 := many_any (HR1.out.q.drew.below hB); rwa [HMM.out] at h9)
            have hfv : f = admC true kn fu := by rw [HF.out, hc1]
            have HLE : Hid (decide (x2 ≤ (M : Int)) = true) := Lib.hid hcm
            have HFV := Lib.hid hfv
            clear hc1 hfv hcm
            go_wp2_with fail
            refine Reg.wp_region_inv (n := 127) (K15ft a P M x2) (by kernel_rfl) (by kernel_rfl) rfl K15ft.stays ?_ ?_
            · refine ⟨?_, ?_, ?_, ?_, ?_, ?_, ?_, ?_, ?_, ?_, ?_, ?_, ?_, ?_, ?_, ?_, ?_, ?_, ?_, ?_, trivial⟩
              · intro cx wc hB hp hs
                have g11 : cx.tmps[11]? = some (.bool false) := (hs 11 (by kernel_rfl)).trans rfl
                refine Reg.ok_value Reg.Old.refl (v := .bool false) (Reg.wanted_none rfl) ?_ rfl
                go_simp
              · intro cx wc hB hp hs
                have g71 : cx.tmps[71]? = some (.bool false) := by obtain ⟨_, g, hv⟩ := Reg.pred hp 0 71 (by kernel_rfl) rfl rfl; exact g.trans (congrArg some hv)
                refine Reg.ok_value Reg.Old.refl (v := .bool false) (Reg.wanted_none rfl) ?_ rfl
                go_simp
              · intro cx wc hB hp hs
                have g72 : cx.tmps[72]? = some (.bool false) := by obtain ⟨_, g, hv⟩ := Reg.pred hp 1 72 (by kernel_rfl) rfl rfl; exact g.trans (congrArg some hv)
                exact Reg.ok_skip (Reg.unwanted_at (j := 1) (d := 72) rfl rfl rfl g72 rfl) rfl
              · intro cx wc hB hp hs
                have g72 : cx.tmps[72]? = some (.bool false) := by obtain ⟨_, g, hv⟩ := Reg.pred hp 1 72 (by kernel_rfl) rfl rfl; exact g.trans (congrArg some hv)
                exact Reg.ok_skip (Reg.unwanted_at (j := 1) (d := 72) rfl rfl rfl g72 rfl) rfl
              · intro cx wc hB hp hs
                have g72 : cx.tmps[72]? = some (.bool false) := by obtain ⟨_, g, hv⟩ := Reg.pred hp 1 72 (by kernel_rfl) rfl rfl; exact g.trans (congrArg some hv)
                exact Reg.ok_skip (Reg.unwanted_at (j := 1) (d := 72) rfl rfl rfl g72 rfl) rfl
              · intro cx wc hB hp hs
                have g72 : cx.tmps[72]? = some (.bool false) := by obtain ⟨_, g, hv⟩ := Reg.pred hp 1 72 (by kernel_rfl) rfl rfl; exact g.trans (congrArg some hv)
                refine Reg.ok_value Reg.Old.refl (v := .bool false) (Reg.wanted_none rfl) ?_ rfl
                go_simp
              · intro cx wc hB hp hs
                have g76 : cx.tmps[76]? = some (.bool false) := by obtain ⟨_, g, hv⟩ := Reg.pred hp 5 76 (by kernel_rfl) rfl rfl; exact g.trans (congrArg some hv)
                refine Reg.ok_value Reg.Old.refl (v := .bool false) (Reg.wanted_none rfl) ?_ rfl
                go_simp
              · intro cx wc hB hp hs
                have g7 : cx.tmps[7]? = some (.pointer (some ⟨a.B, 0, none⟩)) := (hs 7 (by kernel_rfl)).trans rfl
                have g77 : cx.tmps[77]? = some (.bool false) := by obtain ⟨_, g, hv⟩ := Reg.pred hp 6 77 (by kernel_rfl) rfl rfl; exact g.trans (congrArg some hv)
                refine Reg.ok_value Reg.Old.refl (v := .pointer (some ⟨a.B, 0, none⟩)) (Reg.wanted_at (j := 6) (d := 77) rfl rfl rfl g77) ?_ rfl
                go_simp
              · intro cx wc hB hp hs
                have g78 : cx.tmps[78]? = some (.pointer (some ⟨a.B, 0, none⟩)) := by obtain ⟨_, g, hv⟩ := Reg.pred hp 7 78 (by kernel_rfl) rfl rfl; exact g.trans (congrArg some hv)
                have g77 : cx.tmps[77]? = some (.bool false) := by obtain ⟨_, g, hv⟩ := Reg.pred hp 6 77 (by kernel_rfl) rfl rfl; exact g.trans (congrArg some hv)
                refine Reg.ok_call (f := 28) (args := #[.pointer (some ⟨a.B, 0, none⟩)]) (Reg.wanted_at (j := 6) (d := 77) rfl rfl rfl g77) (by go_simp) ((HCL.out wc hB).mono ?_)
                rintro e w' ⟨rfl, rfl⟩
                exact ⟨_, rfl, Reg.Old.refl _, rfl⟩
              · intro cx wc hB hp hs
                have g11 : cx.tmps[11]? = some (.bool false) := (hs 11 (by kernel_rfl)).trans rfl
                have g77 : cx.tmps[77]? = some (.bool false) := by obtain ⟨_, g, hv⟩ := Reg.pred hp 6 77 (by kernel_rfl) rfl rfl; exact g.trans (congrArg some hv)
                refine Reg.ok_value Reg.Old.refl (v := .bool false) (Reg.wanted_at (j := 6) (d := 77) rfl rfl rfl g77) ?_ rfl
                go_simp
              · intro cx wc hB hp hs
                have g80 : cx.tmps[80]? = some (.bool false) := by obtain ⟨_, g, hv⟩ := Reg.pred hp 9 80 (by kernel_rfl) rfl rfl; exact g.trans (congrArg some hv)
                have g77 : cx.tmps[77]? = some (.bool false) := by obtain ⟨_, g, hv⟩ := Reg.pred hp 6 77 (by kernel_rfl) rfl rfl; exact g.trans (congrArg some hv)
                refine Reg.ok_value Reg.Old.refl (v := .bool false) (Reg.wanted_at (j := 6) (d := 77) rfl rfl rfl g77) ?_ rfl
                go_simp
              · intro cx wc hB hp hs
                have g7 : cx.tmps[7]? = some (.pointer (some ⟨a.B, 0, none⟩)) := (hs 7 (by kernel_rfl)).trans rfl
                have g81 : cx.tmps[81]? = some (.bool false) := by obtain ⟨_, g, hv⟩ := Reg.pred hp 10 81 (by kernel_rfl) rfl rfl; exact g.trans (congrArg some hv)
                refine Reg.ok_value Reg.Old.refl (v := .pointer (some ⟨a.B, 0, none⟩)) (Reg.wanted_at (j := 10) (d := 81) rfl rfl rfl g81) ?_ rfl
                go_simp
              · intro cx wc hB hp hs
                have g82 : cx.tmps[82]? = some (.pointer (some ⟨a.B, 0, none⟩)) := by obtain ⟨_, g, hv⟩ := Reg.pred hp 11 82 (by kernel_rfl) rfl rfl; exact g.trans (congrArg some hv)
                have g81 : cx.tmps[81]? = some (.bool false) := by obtain ⟨_, g, hv⟩ := Reg.pred hp 10 81 (by kernel_rfl) rfl rfl; exact g.trans (congrArg some hv)
                refine Reg.ok_call (f := 24) (args := #[.pointer (some ⟨a.B, 0, none⟩)]) (Reg.wanted_at (j := 10) (d := 81) rfl rfl rfl g81) (by go_simp) ((HMA.out wc hB).mono ?_)
                rintro e w' ⟨rfl, hB2⟩
                exact ⟨_, rfl, hB2, rfl⟩
              · intro cx wc hB hp hs
                have g6 : cx.tmps[6]? = some (.pointer (some ⟨P, 0, none⟩)) := (hs 6 (by kernel_rfl)).trans rfl
                have g81 : cx.tmps[81]? = some (.bool false) := by obtain ⟨_, g, hv⟩ := Reg.pred hp 10 81 (by kernel_rfl) rfl rfl; exact g.trans (congrArg some hv)
                refine Reg.ok_value Reg.Old.refl (v := .pointer (some ⟨P, 2, none⟩)) (Reg.wanted_at (j := 10) (d := 81) rfl rfl rfl g81) ?_ rfl
                go_simp
              · intro cx wc hB hp hs
                have g84 : cx.tmps[84]? = some (.pointer (some ⟨P, 2, none⟩)) := by obtain ⟨_, g, hv⟩ := Reg.pred hp 13 84 (by kernel_rfl) rfl rfl; exact g.trans (congrArg some hv)
                have g81 : cx.tmps[81]? = some (.bool false) := by obtain ⟨_, g, hv⟩ := Reg.pred hp 10 81 (by kernel_rfl) rfl rfl; exact g.trans (congrArg some hv)
                have hc := HPA.out.drew.below hB
                have k2 := hc.cell 2 (.int .i64 x2) rfl
                refine Reg.ok_value Reg.Old.refl (v := .int .i64 x2) (Reg.wanted_at (j := 10) (d := 81) rfl rfl rfl g81) ?_ rfl
                go_simp
              · intro cx wc hB hp hs
                have g85 : cx.tmps[85]? = some (.int .i64 x2) := by obtain ⟨_, g, hv⟩ := Reg.pred hp 14 85 (by kernel_rfl) rfl rfl; exact g.trans (congrArg some hv)
                have g81 : cx.tmps[81]? = some (.bool false) := by obtain ⟨_, g, hv⟩ := Reg.pred hp 10 81 (by kernel_rfl) rfl rfl; exact g.trans (congrArg some hv)
                have e1 := HX2.out
                refine Reg.ok_value Reg.Old.refl (v := .int .u64 x2) (Reg.wanted_at (j := 10) (d := 81) rfl rfl rfl g81) ?_ rfl
                go_simp
              · intro cx wc hB hp hs
                have g83 : cx.tmps[83]? = some (.int .u64 ((M : Int))) := by obtain ⟨_, g, hv⟩ := Reg.pred hp 12 83 (by kernel_rfl) rfl rfl; exact g.trans (congrArg some hv)
                have g86 : cx.tmps[86]? = some (.int .u64 x2) := by obtain ⟨_, g, hv⟩ := Reg.pred hp 15 86 (by kernel_rfl) rfl rfl; exact g.trans (congrArg some hv)
                have g81 : cx.tmps[81]? = some (.bool false) := by obtain ⟨_, g, hv⟩ := Reg.pred hp 10 81 (by kernel_rfl) rfl rfl; exact g.trans (congrArg some hv)
                have e1 := HLE.out
                refine Reg.ok_value Reg.Old.refl (v := .bool true) (Reg.wanted_at (j := 10) (d := 81) rfl rfl rfl g81) ?_ rfl
                go_simp
              · intro cx wc hB hp hs
                have g81 : cx.tmps[81]? = some (.bool false) := by obtain ⟨_, g, hv⟩ := Reg.pred hp 10 81 (by kernel_rfl) rfl rfl; exact g.trans (congrArg some hv)
                have g87 : cx.tmps[87]? = some (.bool true) := by obtain ⟨_, g, hv⟩ := Reg.pred hp 16 87 (by kernel_rfl) rfl rfl; exact g.trans (congrArg some hv)
                have g77 : cx.tmps[77]? = some (.bool false) := by obtain ⟨_, g, hv⟩ := Reg.pred hp 6 77 (by kernel_rfl) rfl rfl; exact g.trans (congrArg some hv)
                refine Reg.ok_value Reg.Old.refl (v := .bool true) (Reg.wanted_at (j := 6) (d := 77) rfl rfl rfl g77) ?_ rfl
                go_simp
              · intro cx wc hB hp hs
                have g79 : cx.tmps[79]? = some (.bool true) := by obtain ⟨_, g, hv⟩ := Reg.pred hp 8 79 (by kernel_rfl) rfl rfl; exact g.trans (congrArg some hv)
                have g88 : cx.tmps[88]? = some (.bool true) := by obtain ⟨_, g, hv⟩ := Reg.pred hp 17 88 (by kernel_rfl) rfl rfl; exact g.trans (congrArg some hv)
                have g77 : cx.tmps[77]? = some (.bool false) := by obtain ⟨_, g, hv⟩ := Reg.pred hp 6 77 (by kernel_rfl) rfl rfl; exact g.trans (congrArg some hv)
                refine Reg.ok_value Reg.Old.refl (v := .bool false) (Reg.wanted_at (j := 6) (d := 77) rfl rfl rfl g77) ?_ rfl
                go_simp
              · intro cx wc hB hp hs
                have g77 : cx.tmps[77]? = some (.bool false) := by obtain ⟨_, g, hv⟩ := Reg.pred hp 6 77 (by kernel_rfl) rfl rfl; exact g.trans (congrArg some hv)
                have g89 : cx.tmps[89]? = some (.bool false) := by obtain ⟨_, g, hv⟩ := Reg.pred hp 18 89 (by kernel_rfl) rfl rfl; exact g.trans (congrArg some hv)
                refine Reg.ok_value Reg.Old.refl (v := .bool false) (Reg.wanted_none rfl) ?_ rfl
                go_simp
            · intro d wc hB hsz hdf hv ho
              have hfr := Reg.frame_eq [_, _, _, _, _, _, _, _, _, _, _, _, _, _, _, _, _, _, _, _, _, _, _, _, _, _, _, _, _, _, _, _, _, _, _, _, _, _, _, _, _, _, _, _, _, _, _, _, _, _, _, _, _, _, _, _, _, _, _, _, _, _, _, _, _, _, _, _, _, _, _, .bool false, .bool false, undef, undef, undef, .bool false, .bool false, .pointer (some ⟨a.B, 0, none⟩), .bool true, .bool false, .bool false, .pointer (some ⟨a.B, 0, none⟩), .int .u64 ((M : Int)), .pointer (some ⟨P, 2, none⟩), .int .i64 x2, .int .u64 x2, .bool true, .bool true, .bool false, .bool false, _, _, _, _, _, _, _, _, _, _, _, _, _, _, _, _, _, _, _, _, _, _, _, _, _, _, _, _, _, _, _, _, _, _, _, _] (by simpa using hsz) hdf ⟨((Reg.kept ho 0 (by kernel_rfl)).trans rfl), ((Reg.kept ho 1 (by kernel_rfl)).trans rfl), ((Reg.kept ho 2 (by kernel_rfl)).trans rfl), ((Reg.kept ho 3 (by kernel_rfl)).trans rfl), ((Reg.kept ho 4 (by kernel_rfl)).trans rfl), ((Reg.kept ho 5 (by kernel_rfl)).trans rfl), ((Reg.kept ho 6 (by kernel_rfl)).trans rfl), ((Reg.kept ho 7 (by kernel_rfl)).trans rfl), ((Reg.kept ho 8 (by kernel_rfl)).trans rfl), ((Reg.kept ho 9 (by kernel_rfl)).trans rfl), ((Reg.kept ho 10 (by kernel_rfl)).trans rfl), ((Reg.kept ho 11 (by kernel_rfl)).trans rfl), ((Reg.kept ho 12 (by kernel_rfl)).trans rfl), ((Reg.kept ho 13 (by kernel_rfl)).trans rfl), ((Reg.kept ho 14 (by kernel_rfl)).trans rfl), ((Reg.kept ho 15 (by kernel_rfl)).trans rfl), ((Reg.kept ho 16 (by kernel_rfl)).trans rfl), ((Reg.kept ho 17 (by kernel_rfl)).trans rfl), ((Reg.kept ho 18 (by kernel_rfl)).trans rfl), ((Reg.kept ho 19 (by kernel_rfl)).trans rfl), ((Reg.kept ho 20 (by kernel_rfl)).trans rfl), ((Reg.kept ho 21 (by kernel_rfl)).trans rfl), ((Reg.kept ho 22 (by kernel_rfl)).trans rfl), ((Reg.kept ho 23 (by kernel_rfl)).trans rfl), ((Reg.kept ho 24 (by kernel_rfl)).trans rfl), ((Reg.kept ho 25 (by kernel_rfl)).trans rfl), ((Reg.kept ho 26 (by kernel_rfl)).trans rfl), ((Reg.kept ho 27 (by kernel_rfl)).trans rfl), ((Reg.kept ho 28 (by kernel_rfl)).trans rfl), ((Reg.kept ho 29 (by kernel_rfl)).trans rfl), ((Reg.kept ho 30 (by kernel_rfl)).trans rfl), ((Reg.kept ho 31 (by kernel_rfl)).trans rfl), ((Reg.kept ho 32 (by kernel_rfl)).trans rfl), ((Reg.kept ho 33 (by kernel_rfl)).trans rfl), ((Reg.kept ho 34 (by kernel_rfl)).trans rfl), ((Reg.kept ho 35 (by kernel_rfl)).trans rfl), ((Reg.kept ho 36 (by kernel_rfl)).trans rfl), ((Reg.kept ho 37 (by kernel_rfl)).trans rfl), ((Reg.kept ho 38 (by kernel_rfl)).trans rfl), ((Reg.kept ho 39 (by kernel_rfl)).trans rfl), ((Reg.kept ho 40 (by kernel_rfl)).trans rfl), ((Reg.kept ho 41 (by kernel_rfl)).trans rfl), ((Reg.kept ho 42 (by kernel_rfl)).trans rfl), ((Reg.kept ho 43 (by kernel_rfl)).trans rfl), ((Reg.kept ho 44 (by kernel_rfl)).trans rfl), ((Reg.kept ho 45 (by kernel_rfl)).trans rfl), ((Reg.kept ho 46 (by kernel_rfl)).trans rfl), ((Reg.kept ho 47 (by kernel_rfl)).trans rfl), ((Reg.kept ho 48 (by kernel_rfl)).trans rfl), ((Reg.kept ho 49 (by kernel_rfl)).trans rfl), ((Reg.kept ho 50 (by kernel_rfl)).trans rfl), ((Reg.kept ho 51 (by kernel_rfl)).trans rfl), ((Reg.kept ho 52 (by kernel_rfl)).trans rfl), ((Reg.kept ho 53 (by kernel_rfl)).trans rfl), ((Reg.kept ho 54 (by kernel_rfl)).trans rfl), ((Reg.kept ho 55 (by kernel_rfl)).trans rfl), ((Reg.kept ho 56 (by kernel_rfl)).trans rfl), ((Reg.kept ho 57 (by kernel_rfl)).trans rfl), ((Reg.kept ho 58 (by kernel_rfl)).trans rfl), ((Reg.kept ho 59 (by kernel_rfl)).trans rfl), ((Reg.kept ho 60 (by kernel_rfl)).trans rfl), ((Reg.kept ho 61 (by kernel_rfl)).trans rfl), ((Reg.kept ho 62 (by kernel_rfl)).trans rfl), ((Reg.kept ho 63 (by kernel_rfl)).trans rfl), ((Reg.kept ho 64 (by kernel_rfl)).trans rfl), ((Reg.kept ho 65 (by kernel_rfl)).trans rfl), ((Reg.kept ho 66 (by kernel_rfl)).trans rfl), ((Reg.kept ho 67 (by kernel_rfl)).trans rfl), ((Reg.kept ho 68 (by kernel_rfl)).trans rfl), ((Reg.kept ho 69 (by kernel_rfl)).trans rfl), ((Reg.kept ho 70 (by kernel_rfl)).trans rfl), (by obtain ⟨_, g, hx⟩ := hv 0 _ 71 rfl rfl; exact g.trans (congrArg some hx)), (by obtain ⟨_, g, hx⟩ := hv 1 _ 72 rfl rfl; exact g.trans (congrArg some hx)), (by obtain ⟨_, g, hx⟩ := hv 2 _ 73 rfl rfl; exact g.trans (congrArg some hx)), (by obtain ⟨_, g, hx⟩ := hv 3 _ 74 rfl rfl; exact g.trans (congrArg some hx)), (by obtain ⟨_, g, hx⟩ := hv 4 _ 75 rfl rfl; exact g.trans (congrArg some hx)), (by obtain ⟨_, g, hx⟩ := hv 5 _ 76 rfl rfl; exact g.trans (congrArg some hx)), (by obtain ⟨_, g, hx⟩ := hv 6 _ 77 rfl rfl; exact g.trans (congrArg some hx)), (by obtain ⟨_, g, hx⟩ := hv 7 _ 78 rfl rfl; exact g.trans (congrArg some hx)), (by obtain ⟨_, g, hx⟩ := hv 8 _ 79 rfl rfl; exact g.trans (congrArg some hx)), (by obtain ⟨_, g, hx⟩ := hv 9 _ 80 rfl rfl; exact g.trans (congrArg some hx)), (by obtain ⟨_, g, hx⟩ := hv 10 _ 81 rfl rfl; exact g.trans (congrArg some hx)), (by obtain ⟨_, g, hx⟩ := hv 11 _ 82 rfl rfl; exact g.trans (congrArg some hx)), (by obtain ⟨_, g, hx⟩ := hv 12 _ 83 rfl rfl; exact g.trans (congrArg some hx)), (by obtain ⟨_, g, hx⟩ := hv 13 _ 84 rfl rfl; exact g.trans (congrArg some hx)), (by obtain ⟨_, g, hx⟩ := hv 14 _ 85 rfl rfl; exact g.trans (congrArg some hx)), (by obtain ⟨_, g, hx⟩ := hv 15 _ 86 rfl rfl; exact g.trans (congrArg some hx)), (by obtain ⟨_, g, hx⟩ := hv 16 _ 87 rfl rfl; exact g.trans (congrArg some hx)), (by obtain ⟨_, g, hx⟩ := hv 17 _ 88 rfl rfl; exact g.trans (congrArg some hx)), (by obtain ⟨_, g, hx⟩ := hv 18 _ 89 rfl rfl; exact g.trans (congrArg some hx)), (by obtain ⟨_, g, hx⟩ := hv 19 _ 90 rfl rfl; exact g.trans (congrArg some hx)), ((Reg.kept ho 91 (by kernel_rfl)).trans rfl), ((Reg.kept ho 92 (by kernel_rfl)).trans rfl), ((Reg.kept ho 93 (by kernel_rfl)).trans rfl), ((Reg.kept ho 94 (by kernel_rfl)).trans rfl), ((Reg.kept ho 95 (by kernel_rfl)).trans rfl), ((Reg.kept ho 96 (by kernel_rfl)).trans rfl), ((Reg.kept ho 97 (by kernel_rfl)).trans rfl), ((Reg.kept ho 98 (by kernel_rfl)).trans rfl), ((Reg.kept ho 99 (by kernel_rfl)).trans rfl), ((Reg.kept ho 100 (by kernel_rfl)).trans rfl), ((Reg.kept ho 101 (by kernel_rfl)).trans rfl), ((Reg.kept ho 102 (by kernel_rfl)).trans rfl), ((Reg.kept ho 103 (by kernel_rfl)).trans rfl), ((Reg.kept ho 104 (by kernel_rfl)).trans rfl), ((Reg.kept ho 105 (by kernel_rfl)).trans rfl), ((Reg.kept ho 106 (by kernel_rfl)).trans rfl), ((Reg.kept ho 107 (by kernel_rfl)).trans rfl), ((Reg.kept ho 108 (by kernel_rfl)).trans rfl), ((Reg.kept ho 109 (by kernel_rfl)).trans rfl), ((Reg.kept ho 110 (by kernel_rfl)).trans rfl), ((Reg.kept ho 111 (by kernel_rfl)).trans rfl), ((Reg.kept ho 112 (by kernel_rfl)).trans rfl), ((Reg.kept ho 113 (by kernel_rfl)).trans rfl), ((Reg.kept ho 114 (by kernel_rfl)).trans rfl), ((Reg.kept ho 115 (by kernel_rfl)).trans rfl), ((Reg.kept ho 116 (by kernel_rfl)).trans rfl), ((Reg.kept ho 117 (by kernel_rfl)).trans rfl), ((Reg.kept ho 118 (by kernel_rfl)).trans rfl), ((Reg.kept ho 119 (by kernel_rfl)).trans rfl), ((Reg.kept ho 120 (by kernel_rfl)).trans rfl), ((Reg.kept ho 121 (by kernel_rfl)).trans rfl), ((Reg.kept ho 122 (by kernel_rfl)).trans rfl), ((Reg.kept ho 123 (by kernel_rfl)).trans rfl), ((Reg.kept ho 124 (by kernel_rfl)).trans rfl), ((Reg.kept ho 125 (by kernel_rfl)).trans rfl), ((Reg.kept ho 126 (by kernel_rfl)).trans rfl), trivial⟩
              subst hfr
              have HRC := Lib.hid (HR1.out.below hB HVN.out.symm)
              have HXC := Lib.hid (And.intro ((Below.cell (p := ⟨C, off + k * 19 + 3, none⟩) hB HCA.out).trans HX3.out) ((Below.cell (p := ⟨C, off + k * 19 + 4, none⟩) hB HCA.out).trans HX4.out))
              have HCC : Hid (C < wc.heap.size) := Lib.hid (Nat.lt_of_lt_of_le HCA.out hB.size)
              have hclc : Calls Tryz.prog 28 #[.pointer (some ⟨a.B, 0, none⟩)] wc fun e w' => e = .returned (.bool true) ∧ wc = w' := by
                have h9 := closed_any HRC.out.q
                rwa [show s'.cl = true from (HC1.out.trans (by rw [HLE.out]; rfl))] at h9
              clear hv ho hsz hdf hB HR1 HCL HMA HPA HX3 HX4
              have q3 := HXC.out.1
              have q4 := HXC.out.2
              have ql := HCC.out
              have i0 : (0 : Int) ≤ (k : Int) := by omega
              have i1 : (k : Int) < (n : Int) := by omega
              have HCLC := Lib.hid hclc
              clear hclc
              cases kn with
              | true =>
                have hf0 : f = 0 := HFV.out
                subst hf0
                have hse : Tq.seen s'.l = A := by have h9 := HSE.out; simpa using h9
                obtain ⟨A2, hA2⟩ : ∃ x, A = x := ⟨_, rfl⟩
                rw [hA2] at hse
                have hA2i : (A2 : Int) = (A : Int) := by omega
                have hA3 : A = A2 := hA2
                subst hA3
                obtain ⟨sn, hsn⟩ : ∃ v, Hl.tx s'.now = v := ⟨_, rfl⟩
                obtain ⟨so, hso⟩ : ∃ v, Hl.tx s'.old = v := ⟨_, rfl⟩
                obtain ⟨sw, hsw⟩ : ∃ v, s'.win = v := ⟨_, rfl⟩
                obtain ⟨sc, hsc⟩ : ∃ v, s'.cl = v := ⟨_, rfl⟩
                have hst : Calls Tryz.prog 20 #[.pointer (some ⟨a.B, 0, none⟩)] wc fun e w' => ∃ v, e = .returned (.agg #[.int .i64 sw, .bool sc, .string sn, .string so, .int .u64 (A : Int), v]) ∧ (∃ p l c, v = .slice p l c) ∧ Below wc.heap.size wc w' := by
                  have h9 := state_any HRC.out.q
                  rw [hse, hsw, hsc, hsn, hso] at h9
                  refine h9.mono ?_
                  rintro e w' ⟨v, he, ⟨its, hI, hp, -⟩, hB⟩
                  obtain ⟨p9, c9, rfl, _, _⟩ := hI.cap
                  exact ⟨_, he, ⟨_, _, _, rfl⟩, hB⟩
                have HST := Lib.hid hst
                have HSE2 := Lib.hid hse
                clear hst hse hsn hso hsw hsc hA2i
                have hst := HST.out
                go_wp2_with fail
                refine hst.mono ?_
                rintro e W9 ⟨_, rfl, ⟨vi, li, ci, rfl⟩, hb⟩
                clear hst
                have HR9 := Lib.hid (HRC.out.below hb HVN.out.symm)
                clear hb
                go_wp2
                go_roundg g
                case measure => omega
                case rel => exact ⟨k + 1, A, s', v', by omega, by omega, by go_num, by go_num, HSE2, HR9⟩
              | false =>
                have hf0 : f = 10 := HFV.out
                subst hf0
                have hse : Tq.seen s'.l = (A + 1) := by have h9 := HSE.out; simpa using h9
                obtain ⟨A2, hA2⟩ : ∃ x, (A + 1) = x := ⟨_, rfl⟩
                rw [hA2] at hse
                have hA2i : (A2 : Int) = (A : Int) + 1 := by omega
                have hA3 : (A : Int) + 1 = (A2 : Int) := by omega
                have r1 : IntKind.u64.wrap (A2 : Int) = (A2 : Int) := IntWalk.u64_in _ (by omega)
                obtain ⟨sn, hsn⟩ : ∃ v, Hl.tx s'.now = v := ⟨_, rfl⟩
                obtain ⟨so, hso⟩ : ∃ v, Hl.tx s'.old = v := ⟨_, rfl⟩
                obtain ⟨sw, hsw⟩ : ∃ v, s'.win = v := ⟨_, rfl⟩
                obtain ⟨sc, hsc⟩ : ∃ v, s'.cl = v := ⟨_, rfl⟩
                have hst : Calls Tryz.prog 20 #[.pointer (some ⟨a.B, 0, none⟩)] wc fun e w' => ∃ v, e = .returned (.agg #[.int .i64 sw, .bool sc, .string sn, .string so, .int .u64 (A2 : Int), v]) ∧ (∃ p l c, v = .slice p l c) ∧ Below wc.heap.size wc w' := by
                  have h9 := state_any HRC.out.q
                  rw [hse, hsw, hsc, hsn, hso] at h9
                  refine h9.mono ?_
                  rintro e w' ⟨v, he, ⟨its, hI, hp, -⟩, hB⟩
                  obtain ⟨p9, c9, rfl, _, _⟩ := hI.cap
                  exact ⟨_, he, ⟨_, _, _, rfl⟩, hB⟩
                have HST := Lib.hid hst
                have HSE2 := Lib.hid hse
                clear hst hse hsn hso hsw hsc hA2i
                have hclc := HCLC.out
                go_wp2_with fail
                refine hclc.mono ?_
                rintro e _ ⟨rfl, rfl⟩
                clear hclc
                have hst := HST.out
                go_wp2_with fail
                refine hst.mono ?_
                rintro e W9 ⟨_, rfl, ⟨vi, li, ci, rfl⟩, hb⟩
                clear hst
                have HR9 := Lib.hid (HRC.out.below hb HVN.out.symm)
                clear hb
                go_wp2
                go_roundg g
                case measure => omega
                case rel => exact ⟨k + 1, A2, s', v', by omega, by omega, by go_num, by go_num, HSE2, HR9⟩
          | false =>
            have hc1 : s'.cl = false := HC1.out.trans (by rw [hcm]; rfl)
            have HCL : Hid (∀ wc, Reg.Old Wa.drew wc → Calls Tryz.prog 28 #[.pointer (some ⟨a.B, 0, none⟩)] wc fun e w' => e = .returned (.bool false) ∧ wc = w') := Lib.hid (fun wc hB => by have h9 := closed_any (HR1.out.q.drew.below hB); rwa [hc1] at h9)
            have HMA : Hid (∀ wc, Reg.Old Wa.drew wc → Calls Tryz.prog 24 #[.pointer (some ⟨a.B, 0, none⟩)] wc fun e w' => e = .returned (.int .u64 (M : Int)) ∧ Below wc.heap.size wc w') := Lib.hid (fun wc hB => by have h9 := many_any (HR1.out.q.drew.below hB); rwa [HMM.out] at h9)
            have hfv : f = admC false kn fu := by rw [HF.out, hc1]
            have HLE : Hid (decide (x2 ≤ (M : Int)) = false) := Lib.hid hcm
            have HFV := Lib.hid hfv
            clear hc1 hfv hcm
            go_wp2_with fail
            refine Reg.wp_region_inv (n := 127) (K15ff a P M x2) (by kernel_rfl) (by kernel_rfl) rfl K15ff.stays ?_ ?_
            · refine ⟨?_, ?_, ?_, ?_, ?_, ?_, ?_, ?_, ?_, ?_, ?_, ?_, ?_, ?_, ?_, ?_, ?_, ?_, ?_, ?_, trivial⟩
              · intro cx wc hB hp hs
                have g11 : cx.tmps[11]? = some (.bool false) := (hs 11 (by kernel_rfl)).trans rfl
                refine Reg.ok_value Reg.Old.refl (v := .bool false) (Reg.wanted_none rfl) ?_ rfl
                go_simp
              · intro cx wc hB hp hs
                have g71 : cx.tmps[71]? = some (.bool false) := by obtain ⟨_, g, hv⟩ := Reg.pred hp 0 71 (by kernel_rfl) rfl rfl; exact g.trans (congrArg some hv)
                refine Reg.ok_value Reg.Old.refl (v := .bool false) (Reg.wanted_none rfl) ?_ rfl
                go_simp
              · intro cx wc hB hp hs
                have g72 : cx.tmps[72]? = some (.bool false) := by obtain ⟨_, g, hv⟩ := Reg.pred hp 1 72 (by kernel_rfl) rfl rfl; exact g.trans (congrArg some hv)
                exact Reg.ok_skip (Reg.unwanted_at (j := 1) (d := 72) rfl rfl rfl g72 rfl) rfl
              · intro cx wc hB hp hs
                have g72 : cx.tmps[72]? = some (.bool false) := by obtain ⟨_, g, hv⟩ := Reg.pred hp 1 72 (by kernel_rfl) rfl rfl; exact g.trans (congrArg some hv)
                exact Reg.ok_skip (Reg.unwanted_at (j := 1) (d := 72) rfl rfl rfl g72 rfl) rfl
              · intro cx wc hB hp hs
                have g72 : cx.tmps[72]? = some (.bool false) := by obtain ⟨_, g, hv⟩ := Reg.pred hp 1 72 (by kernel_rfl) rfl rfl; exact g.trans (congrArg some hv)
                exact Reg.ok_skip (Reg.unwanted_at (j := 1) (d := 72) rfl rfl rfl g72 rfl) rfl
              · intro cx wc hB hp hs
                have g72 : cx.tmps[72]? = some (.bool false) := by obtain ⟨_, g, hv⟩ := Reg.pred hp 1 72 (by kernel_rfl) rfl rfl; exact g.trans (congrArg some hv)
                refine Reg.ok_value Reg.Old.refl (v := .bool false) (Reg.wanted_none rfl) ?_ rfl
                go_simp
              · intro cx wc hB hp hs
                have g76 : cx.tmps[76]? = some (.bool false) := by obtain ⟨_, g, hv⟩ := Reg.pred hp 5 76 (by kernel_rfl) rfl rfl; exact g.trans (congrArg some hv)
                refine Reg.ok_value Reg.Old.refl (v := .bool false) (Reg.wanted_none rfl) ?_ rfl
                go_simp
              · intro cx wc hB hp hs
                have g7 : cx.tmps[7]? = some (.pointer (some ⟨a.B, 0, none⟩)) := (hs 7 (by kernel_rfl)).trans rfl
                have g77 : cx.tmps[77]? = some (.bool false) := by obtain ⟨_, g, hv⟩ := Reg.pred hp 6 77 (by kernel_rfl) rfl rfl; exact g.trans (congrArg some hv)
                refine Reg.ok_value Reg.Old.refl (v := .pointer (some ⟨a.B, 0, none⟩)) (Reg.wanted_at (j := 6) (d := 77) rfl rfl rfl g77) ?_ rfl
                go_simp
              · intro cx wc hB hp hs
                have g78 : cx.tmps[78]? = some (.pointer (some ⟨a.B, 0, none⟩)) := by obtain ⟨_, g, hv⟩ := Reg.pred hp 7 78 (by kernel_rfl) rfl rfl; exact g.trans (congrArg some hv)
                have g77 : cx.tmps[77]? = some (.bool false) := by obtain ⟨_, g, hv⟩ := Reg.pred hp 6 77 (by kernel_rfl) rfl rfl; exact g.trans (congrArg some hv)
                refine Reg.ok_call (f := 28) (args := #[.pointer (some ⟨a.B, 0, none⟩)]) (Reg.wanted_at (j := 6) (d := 77) rfl rfl rfl g77) (by go_simp) ((HCL.out wc hB).mono ?_)
                rintro e w' ⟨rfl, rfl⟩
                exact ⟨_, rfl, Reg.Old.refl _, rfl⟩
              · intro cx wc hB hp hs
                have g11 : cx.tmps[11]? = some (.bool false) := (hs 11 (by kernel_rfl)).trans rfl
                have g77 : cx.tmps[77]? = some (.bool false) := by obtain ⟨_, g, hv⟩ := Reg.pred hp 6 77 (by kernel_rfl) rfl rfl; exact g.trans (congrArg some hv)
                refine Reg.ok_value Reg.Old.refl (v := .bool false) (Reg.wanted_at (j := 6) (d := 77) rfl rfl rfl g77) ?_ rfl
                go_simp
              · intro cx wc hB hp hs
                have g80 : cx.tmps[80]? = some (.bool false) := by obtain ⟨_, g, hv⟩ := Reg.pred hp 9 80 (by kernel_rfl) rfl rfl; exact g.trans (congrArg some hv)
                have g77 : cx.tmps[77]? = some (.bool false) := by obtain ⟨_, g, hv⟩ := Reg.pred hp 6 77 (by kernel_rfl) rfl rfl; exact g.trans (congrArg some hv)
                refine Reg.ok_value Reg.Old.refl (v := .bool false) (Reg.wanted_at (j := 6) (d := 77) rfl rfl rfl g77) ?_ rfl
                go_simp
              · intro cx wc hB hp hs
                have g7 : cx.tmps[7]? = some (.pointer (some ⟨a.B, 0, none⟩)) := (hs 7 (by kernel_rfl)).trans rfl
                have g81 : cx.tmps[81]? = some (.bool false) := by obtain ⟨_, g, hv⟩ := Reg.pred hp 10 81 (by kernel_rfl) rfl rfl; exact g.trans (congrArg some hv)
                refine Reg.ok_value Reg.Old.refl (v := .pointer (some ⟨a.B, 0, none⟩)) (Reg.wanted_at (j := 10) (d := 81) rfl rfl rfl g81) ?_ rfl
                go_simp
              · intro cx wc hB hp hs
                have g82 : cx.tmps[82]? = some (.pointer (some ⟨a.B, 0, none⟩)) := by obtain ⟨_, g, hv⟩ := Reg.pred hp 11 82 (by kernel_rfl) rfl rfl; exact g.trans (congrArg some hv)
                have g81 : cx.tmps[81]? = some (.bool false) := by obtain ⟨_, g, hv⟩ := Reg.pred hp 10 81 (by kernel_rfl) rfl rfl; exact g.trans (congrArg some hv)
                refine Reg.ok_call (f := 24) (args := #[.pointer (some ⟨a.B, 0, none⟩)]) (Reg.wanted_at (j := 10) (d := 81) rfl rfl rfl g81) (by go_simp) ((HMA.out wc hB).mono ?_)
                rintro e w' ⟨rfl, hB2⟩
                exact ⟨_, rfl, hB2, rfl⟩
              · intro cx wc hB hp hs
                have g6 : cx.tmps[6]? = some (.pointer (some ⟨P, 0, none⟩)) := (hs 6 (by kernel_rfl)).trans rfl
                have g81 : cx.tmps[81]? = some (.bool false) := by obtain ⟨_, g, hv⟩ := Reg.pred hp 10 81 (by kernel_rfl) rfl rfl; exact g.trans (congrArg some hv)
                refine Reg.ok_value Reg.Old.refl (v := .pointer (some ⟨P, 2, none⟩)) (Reg.wanted_at (j := 10) (d := 81) rfl rfl rfl g81) ?_ rfl
                go_simp
              · intro cx wc hB hp hs
                have g84 : cx.tmps[84]? = some (.pointer (some ⟨P, 2, none⟩)) := by obtain ⟨_, g, hv⟩ := Reg.pred hp 13 84 (by kernel_rfl) rfl rfl; exact g.trans (congrArg some hv)
                have g81 : cx.tmps[81]? = some (.bool false) := by obtain ⟨_, g, hv⟩ := Reg.pred hp 10 81 (by kernel_rfl) rfl rfl; exact g.trans (congrArg some hv)
                have hc := HPA.out.drew.below hB
                have k2 := hc.cell 2 (.int .i64 x2) rfl
                refine Reg.ok_value Reg.Old.refl (v := .int .i64 x2) (Reg.wanted_at (j := 10) (d := 81) rfl rfl rfl g81) ?_ rfl
                go_simp
              · intro cx wc hB hp hs
                have g85 : cx.tmps[85]? = some (.int .i64 x2) := by obtain ⟨_, g, hv⟩ := Reg.pred hp 14 85 (by kernel_rfl) rfl rfl; exact g.trans (congrArg some hv)
                have g81 : cx.tmps[81]? = some (.bool false) := by obtain ⟨_, g, hv⟩ := Reg.pred hp 10 81 (by kernel_rfl) rfl rfl; exact g.trans (congrArg some hv)
                have e1 := HX2.out
                refine Reg.ok_value Reg.Old.refl (v := .int .u64 x2) (Reg.wanted_at (j := 10) (d := 81) rfl rfl rfl g81) ?_ rfl
                go_simp
              · intro cx wc hB hp hs
                have g83 : cx.tmps[83]? = some (.int .u64 ((M : Int))) := by obtain ⟨_, g, hv⟩ := Reg.pred hp 12 83 (by kernel_rfl) rfl rfl; exact g.trans (congrArg some hv)
                have g86 : cx.tmps[86]? = some (.int .u64 x2) := by obtain ⟨_, g, hv⟩ := Reg.pred hp 15 86 (by kernel_rfl) rfl rfl; exact g.trans (congrArg some hv)
                have g81 : cx.tmps[81]? = some (.bool false) := by obtain ⟨_, g, hv⟩ := Reg.pred hp 10 81 (by kernel_rfl) rfl rfl; exact g.trans (congrArg some hv)
                have e1 := HLE.out
                refine Reg.ok_value Reg.Old.refl (v := .bool false) (Reg.wanted_at (j := 10) (d := 81) rfl rfl rfl g81) ?_ rfl
                go_simp
              · intro cx wc hB hp hs
                have g81 : cx.tmps[81]? = some (.bool false) := by obtain ⟨_, g, hv⟩ := Reg.pred hp 10 81 (by kernel_rfl) rfl rfl; exact g.trans (congrArg some hv)
                have g87 : cx.tmps[87]? = some (.bool false) := by obtain ⟨_, g, hv⟩ := Reg.pred hp 16 87 (by kernel_rfl) rfl rfl; exact g.trans (congrArg some hv)
                have g77 : cx.tmps[77]? = some (.bool false) := by obtain ⟨_, g, hv⟩ := Reg.pred hp 6 77 (by kernel_rfl) rfl rfl; exact g.trans (congrArg some hv)
                refine Reg.ok_value Reg.Old.refl (v := .bool false) (Reg.wanted_at (j := 6) (d := 77) rfl rfl rfl g77) ?_ rfl
                go_simp
              · intro cx wc hB hp hs
                have g79 : cx.tmps[79]? = some (.bool false) := by obtain ⟨_, g, hv⟩ := Reg.pred hp 8 79 (by kernel_rfl) rfl rfl; exact g.trans (congrArg some hv)
                have g88 : cx.tmps[88]? = some (.bool false) := by obtain ⟨_, g, hv⟩ := Reg.pred hp 17 88 (by kernel_rfl) rfl rfl; exact g.trans (congrArg some hv)
                have g77 : cx.tmps[77]? = some (.bool false) := by obtain ⟨_, g, hv⟩ := Reg.pred hp 6 77 (by kernel_rfl) rfl rfl; exact g.trans (congrArg some hv)
                refine Reg.ok_value Reg.Old.refl (v := .bool false) (Reg.wanted_at (j := 6) (d := 77) rfl rfl rfl g77) ?_ rfl
                go_simp
              · intro cx wc hB hp hs
                have g77 : cx.tmps[77]? = some (.bool false) := by obtain ⟨_, g, hv⟩ := Reg.pred hp 6 77 (by kernel_rfl) rfl rfl; exact g.trans (congrArg some hv)
                have g89 : cx.tmps[89]? = some (.bool false) := by obtain ⟨_, g, hv⟩ := Reg.pred hp 18 89 (by kernel_rfl) rfl rfl; exact g.trans (congrArg some hv)
                refine Reg.ok_value Reg.Old.refl (v := .bool false) (Reg.wanted_none rfl) ?_ rfl
                go_simp
            · intro d wc hB hsz hdf hv ho
              have hfr := Reg.frame_eq [_, _, _, _, _, _, _, _, _, _, _, _, _, _, _, _, _, _, _, _, _, _, _, _, _, _, _, _, _, _, _, _, _, _, _, _, _, _, _, _, _, _, _, _, _, _, _, _, _, _, _, _, _, _, _, _, _, _, _, _, _, _, _, _, _, _, _, _, _, _, _, .bool false, .bool false, undef, undef, undef, .bool false, .bool false, .pointer (some ⟨a.B, 0, none⟩), .bool false, .bool false, .bool false, .pointer (some ⟨a.B, 0, none⟩), .int .u64 ((M : Int)), .pointer (some ⟨P, 2, none⟩), .int .i64 x2, .int .u64 x2, .bool false, .bool false, .bool false, .bool false, _, _, _, _, _, _, _, _, _, _, _, _, _, _, _, _, _, _, _, _, _, _, _, _, _, _, _, _, _, _, _, _, _, _, _, _] (by simpa using hsz) hdf ⟨((Reg.kept ho 0 (by kernel_rfl)).trans rfl), ((Reg.kept ho 1 (by kernel_rfl)).trans rfl), ((Reg.kept ho 2 (by kernel_rfl)).trans rfl), ((Reg.kept ho 3 (by kernel_rfl)).trans rfl), ((Reg.kept ho 4 (by kernel_rfl)).trans rfl), ((Reg.kept ho 5 (by kernel_rfl)).trans rfl), ((Reg.kept ho 6 (by kernel_rfl)).trans rfl), ((Reg.kept ho 7 (by kernel_rfl)).trans rfl), ((Reg.kept ho 8 (by kernel_rfl)).trans rfl), ((Reg.kept ho 9 (by kernel_rfl)).trans rfl), ((Reg.kept ho 10 (by kernel_rfl)).trans rfl), ((Reg.kept ho 11 (by kernel_rfl)).trans rfl), ((Reg.kept ho 12 (by kernel_rfl)).trans rfl), ((Reg.kept ho 13 (by kernel_rfl)).trans rfl), ((Reg.kept ho 14 (by kernel_rfl)).trans rfl), ((Reg.kept ho 15 (by kernel_rfl)).trans rfl), ((Reg.kept ho 16 (by kernel_rfl)).trans rfl), ((Reg.kept ho 17 (by kernel_rfl)).trans rfl), ((Reg.kept ho 18 (by kernel_rfl)).trans rfl), ((Reg.kept ho 19 (by kernel_rfl)).trans rfl), ((Reg.kept ho 20 (by kernel_rfl)).trans rfl), ((Reg.kept ho 21 (by kernel_rfl)).trans rfl), ((Reg.kept ho 22 (by kernel_rfl)).trans rfl), ((Reg.kept ho 23 (by kernel_rfl)).trans rfl), ((Reg.kept ho 24 (by kernel_rfl)).trans rfl), ((Reg.kept ho 25 (by kernel_rfl)).trans rfl), ((Reg.kept ho 26 (by kernel_rfl)).trans rfl), ((Reg.kept ho 27 (by kernel_rfl)).trans rfl), ((Reg.kept ho 28 (by kernel_rfl)).trans rfl), ((Reg.kept ho 29 (by kernel_rfl)).trans rfl), ((Reg.kept ho 30 (by kernel_rfl)).trans rfl), ((Reg.kept ho 31 (by kernel_rfl)).trans rfl), ((Reg.kept ho 32 (by kernel_rfl)).trans rfl), ((Reg.kept ho 33 (by kernel_rfl)).trans rfl), ((Reg.kept ho 34 (by kernel_rfl)).trans rfl), ((Reg.kept ho 35 (by kernel_rfl)).trans rfl), ((Reg.kept ho 36 (by kernel_rfl)).trans rfl), ((Reg.kept ho 37 (by kernel_rfl)).trans rfl), ((Reg.kept ho 38 (by kernel_rfl)).trans rfl), ((Reg.kept ho 39 (by kernel_rfl)).trans rfl), ((Reg.kept ho 40 (by kernel_rfl)).trans rfl), ((Reg.kept ho 41 (by kernel_rfl)).trans rfl), ((Reg.kept ho 42 (by kernel_rfl)).trans rfl), ((Reg.kept ho 43 (by kernel_rfl)).trans rfl), ((Reg.kept ho 44 (by kernel_rfl)).trans rfl), ((Reg.kept ho 45 (by kernel_rfl)).trans rfl), ((Reg.kept ho 46 (by kernel_rfl)).trans rfl), ((Reg.kept ho 47 (by kernel_rfl)).trans rfl), ((Reg.kept ho 48 (by kernel_rfl)).trans rfl), ((Reg.kept ho 49 (by kernel_rfl)).trans rfl), ((Reg.kept ho 50 (by kernel_rfl)).trans rfl), ((Reg.kept ho 51 (by kernel_rfl)).trans rfl), ((Reg.kept ho 52 (by kernel_rfl)).trans rfl), ((Reg.kept ho 53 (by kernel_rfl)).trans rfl), ((Reg.kept ho 54 (by kernel_rfl)).trans rfl), ((Reg.kept ho 55 (by kernel_rfl)).trans rfl), ((Reg.kept ho 56 (by kernel_rfl)).trans rfl), ((Reg.kept ho 57 (by kernel_rfl)).trans rfl), ((Reg.kept ho 58 (by kernel_rfl)).trans rfl), ((Reg.kept ho 59 (by kernel_rfl)).trans rfl), ((Reg.kept ho 60 (by kernel_rfl)).trans rfl), ((Reg.kept ho 61 (by kernel_rfl)).trans rfl), ((Reg.kept ho 62 (by kernel_rfl)).trans rfl), ((Reg.kept ho 63 (by kernel_rfl)).trans rfl), ((Reg.kept ho 64 (by kernel_rfl)).trans rfl), ((Reg.kept ho 65 (by kernel_rfl)).trans rfl), ((Reg.kept ho 66 (by kernel_rfl)).trans rfl), ((Reg.kept ho 67 (by kernel_rfl)).trans rfl), ((Reg.kept ho 68 (by kernel_rfl)).trans rfl), ((Reg.kept ho 69 (by kernel_rfl)).trans rfl), ((Reg.kept ho 70 (by kernel_rfl)).trans rfl), (by obtain ⟨_, g, hx⟩ := hv 0 _ 71 rfl rfl; exact g.trans (congrArg some hx)), (by obtain ⟨_, g, hx⟩ := hv 1 _ 72 rfl rfl; exact g.trans (congrArg some hx)), (by obtain ⟨_, g, hx⟩ := hv 2 _ 73 rfl rfl; exact g.trans (congrArg some hx)), (by obtain ⟨_, g, hx⟩ := hv 3 _ 74 rfl rfl; exact g.trans (congrArg some hx)), (by obtain ⟨_, g, hx⟩ := hv 4 _ 75 rfl rfl; exact g.trans (congrArg some hx)), (by obtain ⟨_, g, hx⟩ := hv 5 _ 76 rfl rfl; exact g.trans (congrArg some hx)), (by obtain ⟨_, g, hx⟩ := hv 6 _ 77 rfl rfl; exact g.trans (congrArg some hx)), (by obtain ⟨_, g, hx⟩ := hv 7 _ 78 rfl rfl; exact g.trans (congrArg some hx)), (by obtain ⟨_, g, hx⟩ := hv 8 _ 79 rfl rfl; exact g.trans (congrArg some hx)), (by obtain ⟨_, g, hx⟩ := hv 9 _ 80 rfl rfl; exact g.trans (congrArg some hx)), (by obtain ⟨_, g, hx⟩ := hv 10 _ 81 rfl rfl; exact g.trans (congrArg some hx)), (by obtain ⟨_, g, hx⟩ := hv 11 _ 82 rfl rfl; exact g.trans (congrArg some hx)), (by obtain ⟨_, g, hx⟩ := hv 12 _ 83 rfl rfl; exact g.trans (congrArg some hx)), (by obtain ⟨_, g, hx⟩ := hv 13 _ 84 rfl rfl; exact g.trans (congrArg some hx)), (by obtain ⟨_, g, hx⟩ := hv 14 _ 85 rfl rfl; exact g.trans (congrArg some hx)), (by obtain ⟨_, g, hx⟩ := hv 15 _ 86 rfl rfl; exact g.trans (congrArg some hx)), (by obtain ⟨_, g, hx⟩ := hv 16 _ 87 rfl rfl; exact g.trans (congrArg some hx)), (by obtain ⟨_, g, hx⟩ := hv 17 _ 88 rfl rfl; exact g.trans (congrArg some hx)), (by obtain ⟨_, g, hx⟩ := hv 18 _ 89 rfl rfl; exact g.trans (congrArg some hx)), (by obtain ⟨_, g, hx⟩ := hv 19 _ 90 rfl rfl; exact g.trans (congrArg some hx)), ((Reg.kept ho 91 (by kernel_rfl)).trans rfl), ((Reg.kept ho 92 (by kernel_rfl)).trans rfl), ((Reg.kept ho 93 (by kernel_rfl)).trans rfl), ((Reg.kept ho 94 (by kernel_rfl)).trans rfl), ((Reg.kept ho 95 (by kernel_rfl)).trans rfl), ((Reg.kept ho 96 (by kernel_rfl)).trans rfl), ((Reg.kept ho 97 (by kernel_rfl)).trans rfl), ((Reg.kept ho 98 (by kernel_rfl)).trans rfl), ((Reg.kept ho 99 (by kernel_rfl)).trans rfl), ((Reg.kept ho 100 (by kernel_rfl)).trans rfl), ((Reg.kept ho 101 (by kernel_rfl)).trans rfl), ((Reg.kept ho 102 (by kernel_rfl)).trans rfl), ((Reg.kept ho 103 (by kernel_rfl)).trans rfl), ((Reg.kept ho 104 (by kernel_rfl)).trans rfl), ((Reg.kept ho 105 (by kernel_rfl)).trans rfl), ((Reg.kept ho 106 (by kernel_rfl)).trans rfl), ((Reg.kept ho 107 (by kernel_rfl)).trans rfl), ((Reg.kept ho 108 (by kernel_rfl)).trans rfl), ((Reg.kept ho 109 (by kernel_rfl)).trans rfl), ((Reg.kept ho 110 (by kernel_rfl)).trans rfl), ((Reg.kept ho 111 (by kernel_rfl)).trans rfl), ((Reg.kept ho 112 (by kernel_rfl)).trans rfl), ((Reg.kept ho 113 (by kernel_rfl)).trans rfl), ((Reg.kept ho 114 (by kernel_rfl)).trans rfl), ((Reg.kept ho 115 (by kernel_rfl)).trans rfl), ((Reg.kept ho 116 (by kernel_rfl)).trans rfl), ((Reg.kept ho 117 (by kernel_rfl)).trans rfl), ((Reg.kept ho 118 (by kernel_rfl)).trans rfl), ((Reg.kept ho 119 (by kernel_rfl)).trans rfl), ((Reg.kept ho 120 (by kernel_rfl)).trans rfl), ((Reg.kept ho 121 (by kernel_rfl)).trans rfl), ((Reg.kept ho 122 (by kernel_rfl)).trans rfl), ((Reg.kept ho 123 (by kernel_rfl)).trans rfl), ((Reg.kept ho 124 (by kernel_rfl)).trans rfl), ((Reg.kept ho 125 (by kernel_rfl)).trans rfl), ((Reg.kept ho 126 (by kernel_rfl)).trans rfl), trivial⟩
              subst hfr
              have HRC := Lib.hid (HR1.out.below hB HVN.out.symm)
              have HXC := Lib.hid (And.intro ((Below.cell (p := ⟨C, off + k * 19 + 3, none⟩) hB HCA.out).trans HX3.out) ((Below.cell (p := ⟨C, off + k * 19 + 4, none⟩) hB HCA.out).trans HX4.out))
              have HCC : Hid (C < wc.heap.size) := Lib.hid (Nat.lt_of_lt_of_le HCA.out hB.size)
              have hclc : Calls Tryz.prog 28 #[.pointer (some ⟨a.B, 0, none⟩)] wc fun e w' => e = .returned (.bool false) ∧ wc = w' := by
                have h9 := closed_any HRC.out.q
                rwa [show s'.cl = false from (HC1.out.trans (by rw [HLE.out]; rfl))] at h9
              clear hv ho hsz hdf hB HR1 HCL HMA HPA HX3 HX4
              have q3 := HXC.out.1
              have q4 := HXC.out.2
              have ql := HCC.out
              have i0 : (0 : Int) ≤ (k : Int) := by omega
              have i1 : (k : Int) < (n : Int) := by omega
              have HCLC := Lib.hid hclc
              clear hclc
              cases kn with
              | true =>
                have hf0 : f = 0 := HFV.out
                subst hf0
                have hse : Tq.seen s'.l = A := by have h9 := HSE.out; simpa using h9
                obtain ⟨A2, hA2⟩ : ∃ x, A = x := ⟨_, rfl⟩
                rw [hA2] at hse
                have hA2i : (A2 : Int) = (A : Int) := by omega
                have hA3 : A = A2 := hA2
                subst hA3
                obtain ⟨sn, hsn⟩ : ∃ v, Hl.tx s'.now = v := ⟨_, rfl⟩
                obtain ⟨so, hso⟩ : ∃ v, Hl.tx s'.old = v := ⟨_, rfl⟩
                obtain ⟨sw, hsw⟩ : ∃ v, s'.win = v := ⟨_, rfl⟩
                obtain ⟨sc, hsc⟩ : ∃ v, s'.cl = v := ⟨_, rfl⟩
                have hst : Calls Tryz.prog 20 #[.pointer (some ⟨a.B, 0, none⟩)] wc fun e w' => ∃ v, e = .returned (.agg #[.int .i64 sw, .bool sc, .string sn, .string so, .int .u64 (A : Int), v]) ∧ (∃ p l c, v = .slice p l c) ∧ Below wc.heap.size wc w' := by
                  have h9 := state_any HRC.out.q
                  rw [hse, hsw, hsc, hsn, hso] at h9
                  refine h9.mono ?_
                  rintro e w' ⟨v, he, ⟨its, hI, hp, -⟩, hB⟩
                  obtain ⟨p9, c9, rfl, _, _⟩ := hI.cap
                  exact ⟨_, he, ⟨_, _, _, rfl⟩, hB⟩
                have HST := Lib.hid hst
                have HSE2 := Lib.hid hse
                clear hst hse hsn hso hsw hsc hA2i
                have hst := HST.out
                go_wp2_with fail
                refine hst.mono ?_
                rintro e W9 ⟨_, rfl, ⟨vi, li, ci, rfl⟩, hb⟩
                clear hst
                have HR9 := Lib.hid (HRC.out.below hb HVN.out.symm)
                clear hb
                go_wp2
                go_roundg g
                case measure => omega
                case rel => exact ⟨k + 1, A, s', v', by omega, by omega, by go_num, by go_num, HSE2, HR9⟩
              | false =>
                cases fu with
                | true =>
                  have hf0 : f = 4 := HFV.out
                  subst hf0
                  have hse : Tq.seen s'.l = (A + 1) := by have h9 := HSE.out; simpa using h9
                  obtain ⟨A2, hA2⟩ : ∃ x, (A + 1) = x := ⟨_, rfl⟩
                  rw [hA2] at hse
                  have hA2i : (A2 : Int) = (A : Int) + 1 := by omega
                  have hA3 : (A : Int) + 1 = (A2 : Int) := by omega
                  have r1 : IntKind.u64.wrap (A2 : Int) = (A2 : Int) := IntWalk.u64_in _ (by omega)
                  obtain ⟨sn, hsn⟩ : ∃ v, Hl.tx s'.now = v := ⟨_, rfl⟩
                  obtain ⟨so, hso⟩ : ∃ v, Hl.tx s'.old = v := ⟨_, rfl⟩
                  obtain ⟨sw, hsw⟩ : ∃ v, s'.win = v := ⟨_, rfl⟩
                  obtain ⟨sc, hsc⟩ : ∃ v, s'.cl = v := ⟨_, rfl⟩
                  have hst : Calls Tryz.prog 20 #[.pointer (some ⟨a.B, 0, none⟩)] wc fun e w' => ∃ v, e = .returned (.agg #[.int .i64 sw, .bool sc, .string sn, .string so, .int .u64 (A2 : Int), v]) ∧ (∃ p l c, v = .slice p l c) ∧ Below wc.heap.size wc w' := by
                    have h9 := state_any HRC.out.q
                    rw [hse, hsw, hsc, hsn, hso] at h9
                    refine h9.mono ?_
                    rintro e w' ⟨v, he, ⟨its, hI, hp, -⟩, hB⟩
                    obtain ⟨p9, c9, rfl, _, _⟩ := hI.cap
                    exact ⟨_, he, ⟨_, _, _, rfl⟩, hB⟩
                  have HST := Lib.hid hst
                  have HSE2 := Lib.hid hse
                  clear hst hse hsn hso hsw hsc hA2i
                  have hclc := HCLC.out
                  go_wp2_with fail
                  refine hclc.mono ?_
                  rintro e _ ⟨rfl, rfl⟩
                  clear hclc
                  have hst := HST.out
                  go_wp2_with fail
                  refine hst.mono ?_
                  rintro e W9 ⟨_, rfl, ⟨vi, li, ci, rfl⟩, hb⟩
                  clear hst
                  have HR9 := Lib.hid (HRC.out.below hb HVN.out.symm)
                  clear hb
                  go_wp2
                  go_roundg g
                  case measure => omega
                  case rel => exact ⟨k + 1, A2, s', v', by omega, by omega, by go_num, by go_num, HSE2, HR9⟩
                | false =>
                  have hf0 : f = 0 := HFV.out
                  subst hf0
                  have hse : Tq.seen s'.l = A := by have h9 := HSE.out; simpa using h9
                  obtain ⟨A2, hA2⟩ : ∃ x, A = x := ⟨_, rfl⟩
                  rw [hA2] at hse
                  have hA2i : (A2 : Int) = (A : Int) := by omega
                  have hA3 : A = A2 := hA2
                  subst hA3
                  obtain ⟨sn, hsn⟩ : ∃ v, Hl.tx s'.now = v := ⟨_, rfl⟩
                  obtain ⟨so, hso⟩ : ∃ v, Hl.tx s'.old = v := ⟨_, rfl⟩
                  obtain ⟨sw, hsw⟩ : ∃ v, s'.win = v := ⟨_, rfl⟩
                  obtain ⟨sc, hsc⟩ : ∃ v, s'.cl = v := ⟨_, rfl⟩
                  have hst : Calls Tryz.prog 20 #[.pointer (some ⟨a.B, 0, none⟩)] wc fun e w' => ∃ v, e = .returned (.agg #[.int .i64 sw, .bool sc, .string sn, .string so, .int .u64 (A : Int), v]) ∧ (∃ p l c, v = .slice p l c) ∧ Below wc.heap.size wc w' := by
                    have h9 := state_any HRC.out.q
                    rw [hse, hsw, hsc, hsn, hso] at h9
                    refine h9.mono ?_
                    rintro e w' ⟨v, he, ⟨its, hI, hp, -⟩, hB⟩
                    obtain ⟨p9, c9, rfl, _, _⟩ := hI.cap
                    exact ⟨_, he, ⟨_, _, _, rfl⟩, hB⟩
                  have HST := Lib.hid hst
                  have HSE2 := Lib.hid hse
                  clear hst hse hsn hso hsw hsc hA2i
                  have hclc := HCLC.out
                  go_wp2_with fail
                  refine hclc.mono ?_
                  rintro e _ ⟨rfl, rfl⟩
                  clear hclc
                  have hst := HST.out
                  go_wp2_with fail
                  refine hst.mono ?_
                  rintro e W9 ⟨_, rfl, ⟨vi, li, ci, rfl⟩, hb⟩
                  clear hst
                  have HR9 := Lib.hid (HRC.out.below hb HVN.out.symm)
                  clear hb
                  go_wp2
                  go_roundg g
                  case measure => omega
                  case rel => exact ⟨k + 1, A, s', v', by omega, by omega, by go_num, by go_num, HSE2, HR9⟩
theorem QuotaKnown_walk (x : Po.WishV) (p1 : Option Addr) (n c1 : Nat) (hn : n ≤ 9223372036854775807) (w : World) (hT : Hl.Tab w) (hx : x.fits w) (hO : Dds p1 n w) :
    Calls Tryz.prog 5 #[.agg x.vals, .slice p1 n c1] w fun e w' => e = .returned (.bool true) ∧ Below w.heap.size w w' := by
  obtain ⟨nx, q0, t0, d0, ow, p, hs, c⟩ := x
  obtain ⟨a0, a1, a2, a3, a4, a5, a6, a7, a8, a9, rfl⟩ := Po.ten_of hx.len
  obtain ⟨x0, x1, x2, x5, x6, x7, x8, x9, r, b, l, t, hlit⟩ := lit_of hs
  exact known_in a0 a1 a2 a3 a4 a5 a6 a7 a8 a9 q0 t0.length d0 ow p hs c hx.hl x0 x1 x2 x5 x6 x7 x8 x9 r b l t hlit p1 n c1 hn w hT hx.nums hO
end Go.Proofs.YtcgkgdhbipbnfaaGreatDoor.Qu
