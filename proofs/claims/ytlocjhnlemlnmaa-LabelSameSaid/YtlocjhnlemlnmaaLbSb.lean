/- LabelSame's lists walked. -/
import Derived.Test.YtlocjhnlemlnmaaLbSa
import Derived.Test.YtlocjhnlemlnmaaReg4
namespace Go.Proofs.Ytlocjhnlemlnmaa.Lx
open Go Go.RowKit

/-- A row of one byte that lies somewhere. -/
def RowAt (z : Int) (v : Value) (w : World) : Prop := ∃ g, v = .slice (some ⟨g, 0, none⟩) 1 1 ∧ g < w.heap.size ∧ w.cell? ⟨g, 0, none⟩ = some (.int .u8 z)
theorem RowAt.stays {z : Int} {v : Value} {w w' : World} (h : RowAt z v w) (hB : Below w.heap.size w w') : RowAt z v w' := by
  obtain ⟨g, h1, h2, h3⟩ := h
  exact ⟨g, h1, Nat.lt_of_lt_of_le h2 hB.size, (hB.cell (p := ⟨g, 0, none⟩) h2).trans h3⟩
/-- A label that is made. -/
def NewAt (N : Nat) (v : Value) (w : World) : Prop := ∃ g, v = .pointer (some ⟨g, 0, none⟩) ∧ N ≤ g ∧ CellsAt g #[.string ⟨#[]⟩, .string ⟨#[]⟩] w
/-- What each operation yields. -/
def LetPhi (N C off k n c x y a b : Nat) (TA TB : ByteArray) : Nat → Value → World → Prop
  | 6, v, w => RowAt (97 + (a : Int)) v w
  | 15, v, w => RowAt (97 + (b : Int)) v w
  | 18, v, w => NewAt N v w
  | i, v, _ => v = ([.slice (some ⟨C, off, none⟩) n c, .int .i64 ((k : Int)), .pointer (some ⟨C, off + k, none⟩), .int .u8 ((x : Int)), .int .u8 ((a : Int)), .int .u8 (97 + (a : Int)), undef, .string TA, .slice (some ⟨C, off, none⟩) n c, .int .i64 ((k : Int)), .pointer (some ⟨C, off + k, none⟩), .int .u8 ((x : Int)), .int .u8 ((y : Int)), .int .u8 ((b : Int)), .int .u8 (97 + (b : Int)), undef, .string TB, .agg #[.string TA, .string TB], undef, undef] : List Value).getD i undef
theorem LetPhi.stays {N C off k n c x y a b : Nat} {TA TB : ByteArray} : ∀ i v w w', LetPhi N C off k n c x y a b TA TB i v w → Reg.Old w w' → LetPhi N C off k n c x y a b TA TB i v w' := by
  intro i v w w' hv hB
  unfold LetPhi at *
  split at hv
  · exact hv.stays hB
  · exact hv.stays hB
  · obtain ⟨g, rfl, hn, hc⟩ := hv
    exact ⟨g, rfl, hn, hc.below hB⟩
  · exact hv

theorem listG_step (A : List LabB) (x : Nat) : listG A [x] = if (getK A (letB x).1).isSome then A else A ++ [letB x] := rfl
set_option maxRecDepth 100000 in
set_option maxHeartbeats 8000000 in
theorem list_any (p : Option Addr) (hs : List Nat) (c : Nat) (hl : hs.length ≤ maxLen) (w : World) (hO : Octs p hs w) :
    Calls Try.prog 26 #[.slice p hs.length c] w fun e w' => ∃ v, e = .returned v ∧ OwnL w.heap.size v (listS hs) w' ∧ Below w.heap.size w w' := by
  unfold maxLen at hl
  have HO := Lib.hid hO
  have HR0 := Lib.hid (OwnL.nil w.heap.size w)
  have HB0 := Lib.hid (Below.refl w.heap.size w)
  obtain ⟨n, hn⟩ : ∃ n, hs.length = n := ⟨_, rfl⟩
  have HN := Lib.hid hn
  rw [hn] at hl ⊢
  clear hO hn
  go_enter Try.func26, Try.ntmps26
  go_wp2
  go_loopg [3, 4, 5, 6, 7] 6 (fun g s3 s4 s5 s6 s7 wx => ∃ (k : Nat) (A : List LabB), s4 = .int .i64 (k : Int) ∧ g + k = 6 ∧ k ≤ n ∧ A.length ≤ k ∧ Hid (A = listG [] (hs.take k)) ∧ Hid (OwnL w.heap.size s3 A wx) ∧ Hid (Below w.heap.size w wx))
  case atStart => exact ⟨0, [], rfl, rfl, Nat.zero_le _, Nat.le_refl _, Lib.hid rfl, HR0, HB0⟩
  case round =>
    clear HR0 HB0
    obtain ⟨k, A, rfl, hgk, hkn, hAl, HA, HR, HB⟩ := hrel
    by_cases hgo : k < n ∧ k < 6
    · obtain ⟨hk1, hk2⟩ := hgo
      have hkl : k < hs.length := by rw [HN.out]; exact hk1
      obtain ⟨q0, d0, rfl⟩ := HR.out.len
      obtain ⟨C, off, rfl, hC, hcell, hxb⟩ := HO.out k hkl
      have hcell2 := (HB.out.cell (p := ⟨C, off + k, none⟩) hC).trans hcell
      have hCr : C < wr.heap.size := Nat.lt_of_lt_of_le hC HB.out.size
      have htk : hs.take (k + 1) = hs.take k ++ [hs[k]] := List.take_succ_eq_append_getElem hkl
      have HTK := Lib.hid htk
      clear htk hcell
      obtain ⟨x, hxe⟩ : ∃ x, hs[k]'hkl = x := ⟨_, rfl⟩
      rw [hxe] at hcell2 hxb HTK
      obtain ⟨m, hm⟩ : ∃ m, A.length = m := ⟨_, rfl⟩
      have HM := Lib.hid hm
      rw [hm] at hAl ⊢
      clear hm hkl hC hxe
      obtain ⟨a, ha, ha5⟩ : ∃ a, x % 5 = a ∧ a < 5 := ⟨_, rfl, by omega⟩
      obtain ⟨y, hy⟩ : ∃ y, x / 5 = y := ⟨_, rfl⟩
      obtain ⟨b, hb, hb3⟩ : ∃ b, y % 3 = b ∧ b < 3 := ⟨_, rfl, by omega⟩
      have HA1 : Hid ((x : Int) % 5 = (a : Int)) := Lib.hid (by omega)
      have HA2 : Hid ((x : Int).tmod 5 = (a : Int)) := Lib.hid (by rw [Int.tmod_eq_emod_of_nonneg (by omega)]; omega)
      have HA3 : Hid (IntKind.u8.wrap (97 + (a : Int)) = 97 + (a : Int)) := Lib.hid (by simp [IntKind.wrap, IntKind.signed, IntKind.bits]; omega)
      have HY1 : Hid ((x : Int) / 5 = (y : Int)) := Lib.hid (by omega)
      have HY2 : Hid ((x : Int).tdiv 5 = (y : Int)) := Lib.hid (by rw [Int.tdiv_eq_ediv_of_nonneg (by omega)]; omega)
      have HY3 : Hid (IntKind.u8.wrap (y : Int) = (y : Int)) := Lib.hid (by simp [IntKind.wrap, IntKind.signed, IntKind.bits]; omega)
      have HB1 : Hid ((y : Int) % 3 = (b : Int)) := Lib.hid (by omega)
      have HB2 : Hid ((y : Int).tmod 3 = (b : Int)) := Lib.hid (by rw [Int.tmod_eq_emod_of_nonneg (by omega)]; omega)
      have HB3 : Hid (IntKind.u8.wrap (97 + (b : Int)) = 97 + (b : Int)) := Lib.hid (by simp [IntKind.wrap, IntKind.signed, IntKind.bits]; omega)
      have one1 := fun W g => byte_in (UInt8.ofNat (97 + a)) W g
      have one2 := fun W g => byte_in (UInt8.ofNat (97 + b)) W g
      have ea : ((UInt8.ofNat (97 + a)).toNat : Int) = 97 + (a : Int) := by rw [ofNat_small (by omega)]; omega
      have eb : ((UInt8.ofNat (97 + b)).toNat : Int) = 97 + (b : Int) := by rw [ofNat_small (by omega)]; omega
      rw [ea] at one1
      rw [eb] at one2
      have hlet : letB x = ([UInt8.ofNat (97 + a)], [UInt8.ofNat (97 + b)]) := by unfold letB; rw [ha, hy, hb]
      obtain ⟨nm, hnm⟩ : ∃ nm, [UInt8.ofNat (97 + a)] = nm := ⟨_, rfl⟩
      obtain ⟨vl, hvl⟩ : ∃ vl, [UInt8.ofNat (97 + b)] = vl := ⟨_, rfl⟩
      rw [hnm, hvl] at hlet
      rw [hnm] at one1
      rw [hvl] at one2
      obtain ⟨TA, hTA⟩ : ∃ T, tx nm = T := ⟨_, rfl⟩
      obtain ⟨TB, hTB⟩ : ∃ T, tx vl = T := ⟨_, rfl⟩
      rw [hTA] at one1
      rw [hTB] at one2
      have ONE1 := Lib.hid one1
      have ONE2 := Lib.hid one2
      have HLET := Lib.hid hlet
      have HTA := Lib.hid hTA
      have HTB := Lib.hid hTB
      clear ea eb one1 one2 hlet hnm hvl hTA hTB ha hy hb
      have hx : wr.drew.cell? ⟨C, off + k, none⟩ = some (.int .u8 (x : Int)) := hcell2
      have hCL : C < wr.drew.heap.size := hCr
      clear hcell2 hCr
      go_wp2
      refine Reg.wp_region_last2 (n := 50) 19 (LetPhi wr.heap.size C off k n c x y a b TA TB) (by kernel_rfl) rfl (by kernel_rfl) (by kernel_rfl) rfl LetPhi.stays ?_ ?_
      · refine ⟨?_, ?_, ?_, ?_, ?_, ?_, ?_, ?_, ?_, ?_, ?_, ?_, ?_, ?_, ?_, ?_, ?_, ?_, ?_, ?_, trivial⟩
        · intro _ cx wc hB hp hs
          have g0 : cx.tmps[0]? = some (.slice (some ⟨C, off, none⟩) n c) := (hs 0 (by kernel_rfl)).trans rfl
          refine Reg.ok_value Reg.Old.refl (v := .slice (some ⟨C, off, none⟩) n c) (Reg.wanted_none rfl) ?_ rfl
          go_simp
        · intro _ cx wc hB hp hs
          have g4 : cx.tmps[4]? = some (.int .i64 ((k : Int))) := (hs 4 (by kernel_rfl)).trans rfl
          refine Reg.ok_value Reg.Old.refl (v := .int .i64 ((k : Int))) (Reg.wanted_none rfl) ?_ rfl
          go_simp
        · intro _ cx wc hB hp hs
          have g18 : cx.tmps[18]? = some (.slice (some ⟨C, off, none⟩) n c) := by obtain ⟨_, g, hv⟩ := Reg.pred hp 0 18 (by kernel_rfl) rfl rfl; exact g.trans (congrArg some hv)
          have g19 : cx.tmps[19]? = some (.int .i64 ((k : Int))) := by obtain ⟨_, g, hv⟩ := Reg.pred hp 1 19 (by kernel_rfl) rfl rfl; exact g.trans (congrArg some hv)
          have i0 : (0 : Int) ≤ (k : Int) := by omega
          have i1 : (k : Int) < (n : Int) := by omega
          refine Reg.ok_value Reg.Old.refl (v := .pointer (some ⟨C, off + k, none⟩)) (Reg.wanted_none rfl) ?_ rfl
          go_simp
        · intro _ cx wc hB hp hs
          have g20 : cx.tmps[20]? = some (.pointer (some ⟨C, off + k, none⟩)) := by obtain ⟨_, g, hv⟩ := Reg.pred hp 2 20 (by kernel_rfl) rfl rfl; exact g.trans (congrArg some hv)
          have kx : wc.cell? ⟨C, off + k, none⟩ = some (.int .u8 (x : Int)) := (Below.cell (p := ⟨C, off + k, none⟩) hB hCL).trans hx
          refine Reg.ok_value Reg.Old.refl (v := .int .u8 ((x : Int))) (Reg.wanted_none rfl) ?_ rfl
          go_simp
        · intro _ cx wc hB hp hs
          have g21 : cx.tmps[21]? = some (.int .u8 ((x : Int))) := by obtain ⟨_, g, hv⟩ := Reg.pred hp 3 21 (by kernel_rfl) rfl rfl; exact g.trans (congrArg some hv)
          have e1 := HA1.out
          have e2 := HA2.out
          refine Reg.ok_value Reg.Old.refl (v := .int .u8 ((a : Int))) (Reg.wanted_none rfl) ?_ rfl
          go_simp
        · intro _ cx wc hB hp hs
          have g22 : cx.tmps[22]? = some (.int .u8 ((a : Int))) := by obtain ⟨_, g, hv⟩ := Reg.pred hp 4 22 (by kernel_rfl) rfl rfl; exact g.trans (congrArg some hv)
          have e1 := HA3.out
          refine Reg.ok_value Reg.Old.refl (v := .int .u8 (97 + (a : Int))) (Reg.wanted_none rfl) ?_ rfl
          go_simp
        · intro _ cx wc hB hp hs
          have g23 : cx.tmps[23]? = some (.int .u8 (97 + (a : Int))) := by obtain ⟨_, g, hv⟩ := Reg.pred hp 5 23 (by kernel_rfl) rfl rfl; exact g.trans (congrArg some hv)
          exact Reg.ok_made (w2 := wc.alloc (.cells #[.int .u8 (97 + (a : Int))] 5)) (v := .slice (some ⟨wc.heap.size, 0, none⟩) 1 1) (Reg.wanted_none rfl) (by go_simp) ((Below.refl _ _).alloc (Nat.le_refl _) _) ⟨wc.heap.size, rfl, by simp, (CellsAt.new #[.int .u8 (97 + (a : Int))] 5 wc).cell 0 _ rfl⟩
        · intro _ cx wc hB hp hs
          obtain ⟨v24, g24, hv⟩ := Reg.pred hp 6 24 (by kernel_rfl) rfl rfl
          obtain ⟨gg, rfl, hg, hcell⟩ := hv
          have hrun := ONE1.out wc gg hcell
          refine Reg.ok_value Reg.Old.refl (v := .string TA) (Reg.wanted_none rfl) ?_ rfl
          go_simp
        · intro _ cx wc hB hp hs
          have g0 : cx.tmps[0]? = some (.slice (some ⟨C, off, none⟩) n c) := (hs 0 (by kernel_rfl)).trans rfl
          refine Reg.ok_value Reg.Old.refl (v := .slice (some ⟨C, off, none⟩) n c) (Reg.wanted_none rfl) ?_ rfl
          go_simp
        · intro _ cx wc hB hp hs
          have g4 : cx.tmps[4]? = some (.int .i64 ((k : Int))) := (hs 4 (by kernel_rfl)).trans rfl
          refine Reg.ok_value Reg.Old.refl (v := .int .i64 ((k : Int))) (Reg.wanted_none rfl) ?_ rfl
          go_simp
        · intro _ cx wc hB hp hs
          have g26 : cx.tmps[26]? = some (.slice (some ⟨C, off, none⟩) n c) := by obtain ⟨_, g, hv⟩ := Reg.pred hp 8 26 (by kernel_rfl) rfl rfl; exact g.trans (congrArg some hv)
          have g27 : cx.tmps[27]? = some (.int .i64 ((k : Int))) := by obtain ⟨_, g, hv⟩ := Reg.pred hp 9 27 (by kernel_rfl) rfl rfl; exact g.trans (congrArg some hv)
          have i0 : (0 : Int) ≤ (k : Int) := by omega
          have i1 : (k : Int) < (n : Int) := by omega
          refine Reg.ok_value Reg.Old.refl (v := .pointer (some ⟨C, off + k, none⟩)) (Reg.wanted_none rfl) ?_ rfl
          go_simp
        · intro _ cx wc hB hp hs
          have g28 : cx.tmps[28]? = some (.pointer (some ⟨C, off + k, none⟩)) := by obtain ⟨_, g, hv⟩ := Reg.pred hp 10 28 (by kernel_rfl) rfl rfl; exact g.trans (congrArg some hv)
          have kx : wc.cell? ⟨C, off + k, none⟩ = some (.int .u8 (x : Int)) := (Below.cell (p := ⟨C, off + k, none⟩) hB hCL).trans hx
          refine Reg.ok_value Reg.Old.refl (v := .int .u8 ((x : Int))) (Reg.wanted_none rfl) ?_ rfl
          go_simp
        · intro _ cx wc hB hp hs
          have g29 : cx.tmps[29]? = some (.int .u8 ((x : Int))) := by obtain ⟨_, g, hv⟩ := Reg.pred hp 11 29 (by kernel_rfl) rfl rfl; exact g.trans (congrArg some hv)
          have e1 := HY1.out
          have e2 := HY2.out
          have e3 := HY3.out
          refine Reg.ok_value Reg.Old.refl (v := .int .u8 ((y : Int))) (Reg.wanted_none rfl) ?_ rfl
          go_simp
        · intro _ cx wc hB hp hs
          have g30 : cx.tmps[30]? = some (.int .u8 ((y : Int))) := by obtain ⟨_, g, hv⟩ := Reg.pred hp 12 30 (by kernel_rfl) rfl rfl; exact g.trans (congrArg some hv)
          have e1 := HB1.out
          have e2 := HB2.out
          refine Reg.ok_value Reg.Old.refl (v := .int .u8 ((b : Int))) (Reg.wanted_none rfl) ?_ rfl
          go_simp
        · intro _ cx wc hB hp hs
          have g31 : cx.tmps[31]? = some (.int .u8 ((b : Int))) := by obtain ⟨_, g, hv⟩ := Reg.pred hp 13 31 (by kernel_rfl) rfl rfl; exact g.trans (congrArg some hv)
          have e1 := HB3.out
          refine Reg.ok_value Reg.Old.refl (v := .int .u8 (97 + (b : Int))) (Reg.wanted_none rfl) ?_ rfl
          go_simp
        · intro _ cx wc hB hp hs
          have g32 : cx.tmps[32]? = some (.int .u8 (97 + (b : Int))) := by obtain ⟨_, g, hv⟩ := Reg.pred hp 14 32 (by kernel_rfl) rfl rfl; exact g.trans (congrArg some hv)
          exact Reg.ok_made (w2 := wc.alloc (.cells #[.int .u8 (97 + (b : Int))] 5)) (v := .slice (some ⟨wc.heap.size, 0, none⟩) 1 1) (Reg.wanted_none rfl) (by go_simp) ((Below.refl _ _).alloc (Nat.le_refl _) _) ⟨wc.heap.size, rfl, by simp, (CellsAt.new #[.int .u8 (97 + (b : Int))] 5 wc).cell 0 _ rfl⟩
        · intro _ cx wc hB hp hs
          obtain ⟨v33, g33, hv⟩ := Reg.pred hp 15 33 (by kernel_rfl) rfl rfl
          obtain ⟨gg, rfl, hg, hcell⟩ := hv
          have hrun := ONE2.out wc gg hcell
          refine Reg.ok_value Reg.Old.refl (v := .string TB) (Reg.wanted_none rfl) ?_ rfl
          go_simp
        · intro _ cx wc hB hp hs
          have g25 : cx.tmps[25]? = some (.string TA) := by obtain ⟨_, g, hv⟩ := Reg.pred hp 7 25 (by kernel_rfl) rfl rfl; exact g.trans (congrArg some hv)
          have g34 : cx.tmps[34]? = some (.string TB) := by obtain ⟨_, g, hv⟩ := Reg.pred hp 16 34 (by kernel_rfl) rfl rfl; exact g.trans (congrArg some hv)
          refine Reg.ok_value Reg.Old.refl (v := .agg #[.string TA, .string TB]) (Reg.wanted_none rfl) ?_ rfl
          go_simp
        · intro _ cx wc hB hp hs
          exact Reg.ok_made (w2 := wc.alloc (.cells #[.string ⟨#[]⟩, .string ⟨#[]⟩] 47)) (v := .pointer (some ⟨wc.heap.size, 0, none⟩)) (Reg.wanted_none rfl) (by go_simp) ((Below.refl _ _).alloc (Nat.le_refl _) _) ⟨wc.heap.size, rfl, (show wr.heap.size ≤ wc.heap.size from Below.size (w := wr.drew) hB), CellsAt.new #[.string ⟨#[]⟩, .string ⟨#[]⟩] 47 wc⟩
        · exact fun h => absurd rfl h
      · intro cc wc hB hsz hdf hv ho
        obtain ⟨R24, h24, _⟩ := hv 6 _ 24 (by decide) rfl rfl
        obtain ⟨R33, h33, _⟩ := hv 15 _ 33 (by decide) rfl rfl
        obtain ⟨R5, h5, hN⟩ := hv 18 _ 5 (by decide) rfl rfl
        obtain ⟨G, rfl, hGN, hG⟩ := hN
        have hfr := Reg.frame_eq [_, _, _, _, _, .pointer (some ⟨G, 0, none⟩), _, _, _, _, _, _, _, _, _, _, _, _, .slice (some ⟨C, off, none⟩) n c, .int .i64 ((k : Int)), .pointer (some ⟨C, off + k, none⟩), .int .u8 ((x : Int)), .int .u8 ((a : Int)), .int .u8 (97 + (a : Int)), R24, .string TA, .slice (some ⟨C, off, none⟩) n c, .int .i64 ((k : Int)), .pointer (some ⟨C, off + k, none⟩), .int .u8 ((x : Int)), .int .u8 ((y : Int)), .int .u8 ((b : Int)), .int .u8 (97 + (b : Int)), R33, .string TB, .agg #[.string TA, .string TB], _, _, _, _, _, _, _, _, _, _, _, _, _, _] (by simpa using hsz) hdf ⟨((Reg.kept_but ho 0 (by kernel_rfl)).trans rfl), ((Reg.kept_but ho 1 (by kernel_rfl)).trans rfl), ((Reg.kept_but ho 2 (by kernel_rfl)).trans rfl), ((Reg.kept_but ho 3 (by kernel_rfl)).trans rfl), ((Reg.kept_but ho 4 (by kernel_rfl)).trans rfl), h5, ((Reg.kept_but ho 6 (by kernel_rfl)).trans rfl), ((Reg.kept_but ho 7 (by kernel_rfl)).trans rfl), ((Reg.kept_but ho 8 (by kernel_rfl)).trans rfl), ((Reg.kept_but ho 9 (by kernel_rfl)).trans rfl), ((Reg.kept_but ho 10 (by kernel_rfl)).trans rfl), ((Reg.kept_but ho 11 (by kernel_rfl)).trans rfl), ((Reg.kept_but ho 12 (by kernel_rfl)).trans rfl), ((Reg.kept_but ho 13 (by kernel_rfl)).trans rfl), ((Reg.kept_but ho 14 (by kernel_rfl)).trans rfl), ((Reg.kept_but ho 15 (by kernel_rfl)).trans rfl), ((Reg.kept_but ho 16 (by kernel_rfl)).trans rfl), ((Reg.kept_but ho 17 (by kernel_rfl)).trans rfl), (by obtain ⟨_, g, hx⟩ := hv 0 _ 18 (by decide) rfl rfl; exact g.trans (congrArg some hx)), (by obtain ⟨_, g, hx⟩ := hv 1 _ 19 (by decide) rfl rfl; exact g.trans (congrArg some hx)), (by obtain ⟨_, g, hx⟩ := hv 2 _ 20 (by decide) rfl rfl; exact g.trans (congrArg some hx)), (by obtain ⟨_, g, hx⟩ := hv 3 _ 21 (by decide) rfl rfl; exact g.trans (congrArg some hx)), (by obtain ⟨_, g, hx⟩ := hv 4 _ 22 (by decide) rfl rfl; exact g.trans (congrArg some hx)), (by obtain ⟨_, g, hx⟩ := hv 5 _ 23 (by decide) rfl rfl; exact g.trans (congrArg some hx)), h24, (by obtain ⟨_, g, hx⟩ := hv 7 _ 25 (by decide) rfl rfl; exact g.trans (congrArg some hx)), (by obtain ⟨_, g, hx⟩ := hv 8 _ 26 (by decide) rfl rfl; exact g.trans (congrArg some hx)), (by obtain ⟨_, g, hx⟩ := hv 9 _ 27 (by decide) rfl rfl; exact g.trans (congrArg some hx)), (by obtain ⟨_, g, hx⟩ := hv 10 _ 28 (by decide) rfl rfl; exact g.trans (congrArg some hx)), (by obtain ⟨_, g, hx⟩ := hv 11 _ 29 (by decide) rfl rfl; exact g.trans (congrArg some hx)), (by obtain ⟨_, g, hx⟩ := hv 12 _ 30 (by decide) rfl rfl; exact g.trans (congrArg some hx)), (by obtain ⟨_, g, hx⟩ := hv 13 _ 31 (by decide) rfl rfl; exact g.trans (congrArg some hx)), (by obtain ⟨_, g, hx⟩ := hv 14 _ 32 (by decide) rfl rfl; exact g.trans (congrArg some hx)), h33, (by obtain ⟨_, g, hx⟩ := hv 16 _ 34 (by decide) rfl rfl; exact g.trans (congrArg some hx)), (by obtain ⟨_, g, hx⟩ := hv 17 _ 35 (by decide) rfl rfl; exact g.trans (congrArg some hx)), ((Reg.kept_but ho 36 (by kernel_rfl)).trans rfl), ((Reg.kept_but ho 37 (by kernel_rfl)).trans rfl), ((Reg.kept_but ho 38 (by kernel_rfl)).trans rfl), ((Reg.kept_but ho 39 (by kernel_rfl)).trans rfl), ((Reg.kept_but ho 40 (by kernel_rfl)).trans rfl), ((Reg.kept_but ho 41 (by kernel_rfl)).trans rfl), ((Reg.kept_but ho 42 (by kernel_rfl)).trans rfl), ((Reg.kept_but ho 43 (by kernel_rfl)).trans rfl), ((Reg.kept_but ho 44 (by kernel_rfl)).trans rfl), ((Reg.kept_but ho 45 (by kernel_rfl)).trans rfl), ((Reg.kept_but ho 46 (by kernel_rfl)).trans rfl), ((Reg.kept_but ho 47 (by kernel_rfl)).trans rfl), ((Reg.kept_but ho 48 (by kernel_rfl)).trans rfl), ((Reg.kept_but ho 49 (by kernel_rfl)).trans rfl), trivial⟩
        subst hfr
        have hBw : Below wr.heap.size wr wc := (Below.refl _ _).drew.trans hB
        have M : Mov (fun _ => False) wr ((wc.setCell ⟨G, 0, none⟩ (.string TA)).setCell ⟨G, 1, none⟩ (.string TB)) := ((Mov.ofB hBw).setNew hGN 0 _).setNew hGN 1 _
        have HR2 := Lib.hid (HR.out.mov M (fun _ _ h => h))
        have HBx := Lib.hid (HB.out.trans (M.below (N := w.heap.size) (fun _ h => h.elim) HB.out.size))
        have hG2 : CellsAt G #[.string TA, .string TB] ((wc.setCell ⟨G, 0, none⟩ (.string TA)).setCell ⟨G, 1, none⟩ (.string TB)) := (hG.set 0 (.string TA) (by simp)).set 1 (.string TB) (by simp)
        have HG2 := Lib.hid hG2
        have k0 : wc.cell? ⟨G, 0, none⟩ = some (.string ⟨#[]⟩) := hG.cell 0 _ rfl
        have k1 : wc.cell? ⟨G, 1, none⟩ = some (.string ⟨#[]⟩) := hG.cell 1 _ rfl
        have f0 : wc.frozen? ⟨G, 0, none⟩ = false := hG.fro 0 _ rfl
        have f1 : wc.frozen? ⟨G, 1, none⟩ = false := hG.fro 1 _ rfl
        have zG := hG.lt
        refine Reg.store_then (w2 := (wc.setCell ⟨G, 0, none⟩ (.string TA)).setCell ⟨G, 1, none⟩ (.string TB)) ?_ rfl ?_
        · clear hBw M HR2 HBx hG2 HG2 hv ho hB HR HB
          go_simp
        clear hBw M hG2 hv ho hB k0 k1 f0 f1 zG hG HR HB h24 h33 h5
        generalize (wc.setCell ⟨G, 0, none⟩ (.string TA)).setCell ⟨G, 1, none⟩ (.string TB) = W at *
        have hsh : Short A := by
          have := (listG_lets (hs.take k) [] Lets.nil).1.fit
          rw [← HA.out] at this
          exact fun z hz => by have := this z hz; unfold maxLen; omega
        have hget := get_any q0 d0 A (by rw [HM.out]; unfold maxLab; omega) nm W (by
          have := HR2.out
          rw [HM.out] at this
          rw [← HM.out] at this
          exact this.lies hsh)
        rw [HM.out, HTA.out] at hget
        have e0 : W.cell? ⟨G, 0, none⟩ = some (.string TA) := HG2.out.cell 0 _ rfl
        have e1 : W.cell? ⟨G, 1, none⟩ = some (.string TB) := HG2.out.cell 1 _ rfl
        have zG := HG2.out.lt
        have hstep := listG_step A x
        rw [HLET.out] at hstep
        have hnext : listG [] (hs.take (k + 1)) = listG A [x] := by rw [HTK.out, listG_append, ← HA.out]
        rw [hstep] at hnext
        have HNX := Lib.hid hnext
        clear hsh hstep hnext
        cases hgk2 : getK A nm with
        | some v =>
          rw [hgk2] at hget
          rw [show getV (some v) = .tuple #[.string (tx v), .bool true] from rfl] at hget
          have HA2' : Hid (A = listG [] (hs.take (k + 1))) := Lib.hid (by rw [HNX.out, hgk2]; rfl)
          clear hgk2
          go_wp2_with fail
          refine hget.mono ?_
          rintro e w5 ⟨rfl, hB5⟩
          have HR5 : Hid (OwnL w.heap.size (.slice q0 m d0) A w5) := Lib.hid (by rw [← HM.out]; exact HR2.out.below hB5)
          have HB5 := Lib.hid (HBx.out.trans (hB5.mono HBx.out.size))
          clear hB5 hget HR2 HBx HG2
          go_wp2
          go_roundg (5 - k)
          case measure => omega
          case rel => exact ⟨k + 1, A, by go_num, by omega, by omega, by rw [HM.out]; omega, HA2', HR5, HB5⟩
        | none =>
          rw [hgk2] at hget
          rw [show getV none = .tuple #[.string ⟨#[]⟩, .bool false] from rfl] at hget
          have HA2' : Hid (A ++ [(nm, vl)] = listG [] (hs.take (k + 1))) := Lib.hid (by rw [HNX.out, hgk2]; rfl)
          clear hgk2
          go_wp2_with fail
          refine hget.mono ?_
          rintro e w5 ⟨rfl, hB5⟩
          have hR5 := HR2.out.below hB5
          have HB5 := Lib.hid (HBx.out.trans (hB5.mono HBx.out.size))
          have d0 := (hB5.cell (p := ⟨G, 0, none⟩) zG).trans e0
          have d1 := (hB5.cell (p := ⟨G, 1, none⟩) zG).trans e1
          have z5 : G < w5.heap.size := Nat.lt_of_lt_of_le zG hB5.size
          obtain ⟨v', w', hr1, hGr⟩ := append_label 23 hR5 (nm, vl) (by rw [HM.out]; unfold maxLab; omega) HB5.out.size
          have HB6 := Lib.hid (HB5.out.trans (hGr.low (N := w.heap.size) (fun g hg => (hR5.lt hg).1) HB5.out.size))
          have HO6 := Lib.hid hGr.1
          rw [HM.out, HTA.out, HTB.out] at hr1
          have HR1 := Lib.hid hr1
          clear hR5 hr1 hGr hB5 hget HR2 HBx HG2 e0 e1 zG
          go_wp2_with (first | (at_builtin; refine Lib.wpList_append_run _ rfl _ _ _ _ rfl _ _ rfl rfl _ _ HR1.out ?_))
          go_roundg (5 - k)
          case measure => omega
          case rel => exact ⟨k + 1, A ++ [(nm, vl)], by go_num, by omega, by omega, by rw [List.length_append, HM.out]; simp; omega, HA2', HO6, HB6⟩
    · obtain ⟨q0, d0, rfl⟩ := HR.out.len
      have hE : Hid (listS hs = A) := Lib.hid (by
        unfold listS
        rw [HA.out]
        congr 1
        rcases (show (k = n ∧ n ≤ 6) ∨ k = 6 by omega) with ⟨h1, h2⟩ | h1
        · rw [h1, List.take_of_length_le (by rw [HN.out]; exact h2), List.take_of_length_le (by rw [HN.out]; omega)]
        · rw [h1])
      rcases (show (k = n) ∨ (k = 6 ∧ k < n) by omega) with h1 | ⟨h1, h2⟩
      · subst h1
        clear hgo
        go_wp2
        go_ret
        exact ⟨_, rfl, by rw [hE.out]; exact HR.out, HB.out⟩
      · subst h1
        clear hgo
        go_wp2
        go_ret
        exact ⟨_, rfl, by rw [hE.out]; exact HR.out, HB.out⟩
end Go.Proofs.Ytlocjhnlemlnmaa.Lx
