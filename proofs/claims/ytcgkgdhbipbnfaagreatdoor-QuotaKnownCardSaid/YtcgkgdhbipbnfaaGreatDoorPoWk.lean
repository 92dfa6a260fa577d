/- The law's wish: what follows its first numbers. -/
import Derived.Test.YtcgkgdhbipbnfaaGreatDoorPoWm
import Derived.Test.YtcgkgdhbipbnfaaGreatDoorPoBe
import Derived.Test.YtcgkgdhbipbnfaaGreatDoorReg4
import Derived.Test.YtcgkgdhbipbnfaaGreatDoorReg3
import Derived.Deep.Cut
namespace Go.Proofs.YtcgkgdhbipbnfaaGreatDoor.Po
open Go Go.RowKit

/-- The first region of a piece of code. -/
def leftR : Code → Option Nat
  | .region i _ _ => some i
  | .seq a _ => leftR a
  | _ => none
/-- The outermost sequence that begins with region n. -/
def findR (n : Nat) : Code → Option Code
  | .seq a b => match leftR a == some n with
    | true => some (.seq a b)
    | false => match findR n a with
      | some c => some c
      | none => findR n b
  | .cond _ a b => match findR n a with
      | some c => some c
      | none => findR n b
  | .block _ a => findR n a
  | .loop a => findR n a
  | .scope a => findR n a
  | _ => none

theorem hA_lt {p : Option Addr} {hs : List Nat} {w : World} (h : Shorts p hs w) (i : Nat) : (hA hs i : Int) < 65536 := by
  unfold hA
  by_cases hi : i < hs.length
  · obtain ⟨_, _, _, _, _, h4⟩ := h i hi
    rw [List.getD_eq_getElem?_getD, List.getElem?_eq_getElem hi]
    simpa using Int.ofNat_lt.2 h4
  · rw [List.getD_eq_getElem?_getD, List.getElem?_eq_none (by omega)]
    simp
/-- The wish's box, its numbers. -/
structure WB (C : Nat) (p : Option Addr) (hs : List Nat) (c : Nat) (w : World) : Prop where
  lt : C < w.heap.size
  cell : w.cell? ⟨C, 12, none⟩ = some (.slice p hs.length c)
  nums : Shorts p hs w
theorem WB.below {C : Nat} {p : Option Addr} {hs : List Nat} {c : Nat} {w w' : World} (h : WB C p hs c w) (hB : Below w.heap.size w w') : WB C p hs c w' :=
  ⟨Nat.lt_of_lt_of_le h.lt hB.size, (hB.cell (p := ⟨C, 12, none⟩) h.lt).trans h.cell, h.nums.below hB⟩
theorem Shorts.mov {S : Nat → Prop} {p : Option Addr} {hs : List Nat} {w w' : World} (h : Shorts p hs w) (hM : Mov S w w') (hn : ∀ a, p = some a → 0 < hs.length → ¬ S a.block) : Shorts p hs w' := fun k hk => by
  obtain ⟨C, off, rfl, h2, h3, h4⟩ := h k hk
  exact ⟨C, off, rfl, Nat.lt_of_lt_of_le h2 hM.size, (hM.cell (k := C) h2 (hn _ rfl (Nat.lt_of_le_of_lt (Nat.zero_le k) hk))).trans h3, h4⟩
theorem Shorts.blk {p : Option Addr} {hs : List Nat} {w : World} (h : Shorts p hs w) : ∀ a, p = some a → 0 < hs.length → a.block < w.heap.size := fun a ha h0 => by
  obtain ⟨C, off, e, h2, _⟩ := h 0 h0
  rw [ha] at e
  cases e
  exact h2
theorem WB.mov {S : Nat → Prop} {C : Nat} {p : Option Addr} {hs : List Nat} {c : Nat} {w w' : World} (h : WB C p hs c w) (hM : Mov S w w') (hC : ¬ S C) (hn : ∀ a, p = some a → 0 < hs.length → ¬ S a.block) : WB C p hs c w' :=
  ⟨Nat.lt_of_lt_of_le h.lt hM.size, (hM.cell (k := C) h.lt hC).trans h.cell, h.nums.mov hM hn⟩
theorem WB.drew {C : Nat} {p : Option Addr} {hs : List Nat} {c : Nat} {w : World} (h : WB C p hs c w) : WB C p hs c w.drew := ⟨h.lt, h.cell, h.nums⟩
theorem wish1_of {C : Nat} {p : Option Addr} {hs : List Nat} {c : Nat} {w : World} (i : Nat) (hl : hs.length ≤ 9223372036854775807) (h : WB C p hs c w) : Calls Tryz.prog 31 #[.int .i64 (i : Int), .pointer (some ⟨C, 0, none⟩)] w fun e w' => e = .returned (.int .i64 (hA hs i : Int)) ∧ w' = w :=
  wish1_any C p hs c i w hl h.lt h.cell h.nums
/-- What each operation yields. -/
def WishPhi (vs : List Value) : Nat → Value → World → Prop := fun i v _ => v = vs.getD i undef
theorem WishPhi.stays {vs : List Value} : ∀ i v w w', WishPhi vs i v w → Reg.Old w w' → WishPhi vs i v w' := fun _ _ _ _ h _ => h

/-- The region n alone. -/
def findG (n : Nat) : Code → Option Code
  | .region i o b => match i == n with
    | true => some (.region i o b)
    | false => none
  | .seq a b => match findG n a with
    | some c => some c
    | none => findG n b
  | .cond _ a b => match findG n a with
    | some c => some c
    | none => findG n b
  | .block _ a => findG n a
  | .loop a => findG n a
  | .scope a => findG n a
  | _ => none

/-- What each operation of the loop's round yields. -/
def TenPhi (N : Nat) (y : Int) (vs : List Value) : Nat → Value → World → Prop
  | 14, v, w => ∃ g, v = .slice (some ⟨g, 0, none⟩) 1 1 ∧ N ≤ g ∧ CellsAt g #[.int .i64 y] w
  | i, v, _ => v = vs.getD i undef
theorem TenPhi.stays {N : Nat} {y : Int} {vs : List Value} : ∀ i v w w', TenPhi N y vs i v w → Reg.Old w w' → TenPhi N y vs i v w' := by
  intro i v w w' h hB
  unfold TenPhi at *
  split at h
  · obtain ⟨g, h1, h2, h3⟩ := h
    exact ⟨g, h1, h2, h3.below hB⟩
  · exact h
set_option maxRecDepth 100000 in
set_option maxHeartbeats 16000000 in
theorem wish_ten (C0 : Code) (hC0 : Tryz.f10.body.bind (findG 10) = some C0) (Q : Exit → Act → World → Prop) (w W : World) (C i l vc G : Nat) (p : Option Addr) (hs : List Nat) (c : Nat) (x0 r m x3 x4 x5 x6 x7 x8 x9 a b : Int) (t : List Int) (hl : hs.length ≤ 9223372036854775807) (hi : i < 2) (htl : t.length = l) (hil : i + 1 = l)
    (hb : (hA hs (12 + i) : Int) % 4 = b) (ha : t.getD i 0 = a) (ha0 : 1 ≤ a ∧ a ≤ 60)
    (hpB : ∀ a, p = some a → 0 < hs.length → a.block < C) (hWB : WB C p hs c W) (hP : PolAt (C + 2) [x0, r, m, x3, x4, x5, x6, x7, x8, x9] (.slice (some ⟨G, 0, none⟩) l vc) W) (hO : OwnI (C + 3) (.slice (some ⟨G, 0, none⟩) l vc) t W) (hZ : PolAt (C + 1) zeroN (.slice none 0 0) W) (hBe : Below C w W) (hCw : C ≤ w.heap.size) (s0 s6 s7 s8 s9 s10 s11 s12 s13 s14 s15 s16 s17 s18 s19 s20 s21 s22 s23 s24 s25 s26 s27 s28 s29 s30 s31 s32 s33 s34 s35 s36 s37 s38 s39 s40 s41 s42 s43 s44 s45 s46 s47 s48 s49 s50 s51 s52 s53 s54 s55 s56 s57 s58 s59 s60 s61 s62 s63 s64 s65 s66 s67 s68 s69 s70 s71 s72 s73 s74 s75 s76 s77 s78 s79 s80 s81 s82 : Value)
    (hQ : ∀ (v' : Value) (W' : World) (z65 z66 z67 z68 z69 z70 z71 z72 z73 z74 z75 z76 z77 z78 z79 z80 z81 : Value), WB C p hs c W' → PolAt (C + 2) [x0, r, m, x3, x4, x5, x6, x7, x8, x9] v' W' → OwnI (C + 3) v' (t ++ [a * (2 + b)]) W' → PolAt (C + 1) zeroN (.slice none 0 0) W' → Below C w W' → Q .normal { tmps := (s0 :: .pointer (some ⟨C, 0, none⟩) :: .pointer (some ⟨C + 1, 0, none⟩) :: .func (Fn.func 31) #[] #[.pointer (some ⟨C, 0, none⟩)] :: .pointer (some ⟨C + 2, 0, none⟩) :: .int .i64 (i : Int) :: s6 :: s7 :: s8 :: s9 :: s10 :: s11 :: s12 :: s13 :: s14 :: s15 :: s16 :: s17 :: s18 :: s19 :: s20 :: s21 :: s22 :: s23 :: s24 :: s25 :: s26 :: s27 :: s28 :: s29 :: s30 :: s31 :: s32 :: s33 :: s34 :: s35 :: s36 :: s37 :: s38 :: s39 :: s40 :: s41 :: s42 :: s43 :: s44 :: s45 :: s46 :: s47 :: s48 :: s49 :: s50 :: s51 :: s52 :: s53 :: s54 :: s55 :: s56 :: s57 :: s58 :: s59 :: s60 :: s61 :: s62 :: s63 :: s64 :: z65 :: z66 :: z67 :: z68 :: z69 :: z70 :: z71 :: z72 :: z73 :: z74 :: z75 :: z76 :: z77 :: z78 :: z79 :: z80 :: z81 :: s82 :: []).toArray, defers := [] } W') :
    Code.wp Tryz.prog C0 Q { tmps := (s0 :: .pointer (some ⟨C, 0, none⟩) :: .pointer (some ⟨C + 1, 0, none⟩) :: .func (Fn.func 31) #[] #[.pointer (some ⟨C, 0, none⟩)] :: .pointer (some ⟨C + 2, 0, none⟩) :: .int .i64 (i : Int) :: s6 :: s7 :: s8 :: s9 :: s10 :: s11 :: s12 :: s13 :: s14 :: s15 :: s16 :: s17 :: s18 :: s19 :: s20 :: s21 :: s22 :: s23 :: s24 :: s25 :: s26 :: s27 :: s28 :: s29 :: s30 :: s31 :: s32 :: s33 :: s34 :: s35 :: s36 :: s37 :: s38 :: s39 :: s40 :: s41 :: s42 :: s43 :: s44 :: s45 :: s46 :: s47 :: s48 :: s49 :: s50 :: s51 :: s52 :: s53 :: s54 :: s55 :: s56 :: s57 :: s58 :: s59 :: s60 :: s61 :: s62 :: s63 :: s64 :: s65 :: s66 :: s67 :: s68 :: s69 :: s70 :: s71 :: s72 :: s73 :: s74 :: s75 :: s76 :: s77 :: s78 :: s79 :: s80 :: s81 :: s82 :: []).toArray, defers := [] } W := by
  cases hC0
  have HW : Hid (∀ (W : World), WB C p hs c W → Calls Tryz.prog 31 #[.int .i64 (12 + (i : Int)), .pointer (some ⟨C, 0, none⟩)] W fun e w' => e = .returned (.int .i64 (hA hs (12 + i) : Int)) ∧ w' = W) := Lib.hid (fun W h => by
    have := wish1_of (12 + i) hl h
    rwa [show ((12 + i : Nat) : Int) = 12 + (i : Int) by omega] at this)
  have hLi := Lib.hid (hA_lt hWB.nums (12 + i))
  have HB1 := Lib.hid hb
  have HB2 : Hid ((hA hs (12 + i) : Int).tmod 4 = b) := Lib.hid (by rw [Int.tmod_eq_emod_of_nonneg (by omega)]; exact hb)
  have hb0 : 0 ≤ b ∧ b < 4 := by omega
  have HB3 := Lib.hid hb0
  have hy1 : a ≤ a * (2 + b) := by
    have := Int.mul_le_mul_of_nonneg_left (show (1 : Int) ≤ 2 + b by omega) (show 0 ≤ a by omega)
    omega
  have hy2 : a * (2 + b) ≤ a * 5 := Int.mul_le_mul_of_nonneg_left (show 2 + b ≤ 5 by omega) (show 0 ≤ a by omega)
  have HY : Hid (IntKind.i64.wrap (a * (2 + b)) = a * (2 + b)) := Lib.hid (IntWalk.i64_in _ (by omega))
  have HI : Hid (i < 2 ∧ i < l) := Lib.hid ⟨hi, by omega⟩
  have HC3 : Hid (∀ (k : Nat) (hk : k < t.length), W.cell? ⟨G, k, none⟩ = some (.int .i64 t[k])) ∧ G < W.heap.size ∧ C + 3 ≤ G := by
    rcases hO.form with ⟨e, _⟩ | ⟨g, cap, e, h1, h2, h3, h4, h5⟩
    · cases e
    · cases e
      exact ⟨Lib.hid h5, h2, h1⟩
  obtain ⟨HC3, hG0, hG3⟩ := HC3
  have hcell : W.drew.cell? ⟨G, i, none⟩ = some (.int .i64 a) := by
    have h := HC3.out i (by omega)
    rw [List.getD_eq_getElem?_getD, List.getElem?_eq_getElem (show i < t.length by omega)] at ha
    simp only [Option.getD_some] at ha
    rw [ha] at h
    exact h
  have hG : G < W.drew.heap.size := hG0
  replace hWB : WB C p hs c W.drew := hWB.drew
  have hPd : PolAt (C + 2) [x0, r, m, x3, x4, x5, x6, x7, x8, x9] (.slice (some ⟨G, 0, none⟩) l vc) W.drew := CellsAt.drew hP
  have hZd : PolAt (C + 1) zeroN (.slice none 0 0) W.drew := CellsAt.drew hZ
  have hOd : OwnI (C + 3) (.slice (some ⟨G, 0, none⟩) l vc) t W.drew := hO.mov (Mov.refl _ _).drew (fun _ _ h => h)
  have hBd : Below C w W.drew := hBe.drew
  obtain ⟨i0, hi0, hz0, hz1, hz2⟩ := info_parts info_I
  clear hP hZ hO hBe hb ha hb0
  refine Reg.wp_region_tail (n := 83) 15 (TenPhi W.heap.size (a * (2 + b)) [.pointer (some ⟨C + 2, 10, none⟩), .slice (some ⟨G, 0, none⟩) l vc, .pointer (some ⟨C + 2, 10, none⟩), .slice (some ⟨G, 0, none⟩) l vc, .int .i64 (i : Int), .pointer (some ⟨G, i, none⟩), .int .i64 a, .func (Fn.func 31) #[] #[.pointer (some ⟨C, 0, none⟩)], .int .i64 (i : Int), .int .i64 (12 + (i : Int)), .int .i64 (hA hs (12 + i) : Int), .int .i64 b, .int .i64 (2 + b), .int .i64 (a * (2 + b))]) (by kernel_rfl) (by decide) (by kernel_rfl) (by kernel_rfl) (by kernel_rfl) rfl TenPhi.stays ?_ ?_
  · refine ⟨?_, ?_, ?_, ?_, ?_, ?_, ?_, ?_, ?_, ?_, ?_, ?_, ?_, ?_, ?_, trivial⟩
    · intro cx wc hB hp hq
      have g4 : cx.tmps[4]? = some (.pointer (some ⟨C + 2, 0, none⟩)) := (hq 4 (by kernel_rfl)).trans rfl
      refine Reg.ok_value Reg.Old.refl (v := .pointer (some ⟨C + 2, 10, none⟩)) (Reg.wanted_none rfl) ?_ rfl
      go_simp
    · intro cx wc hB hp hq
      have g65 : cx.tmps[65]? = some (.pointer (some ⟨C + 2, 10, none⟩)) := by obtain ⟨_, g, hv⟩ := Reg.pred hp 0 65 (by kernel_rfl) rfl rfl; exact g.trans (congrArg some hv)
      have c2 := (CellsAt.below hPd hB).cell 10 (.slice (some ⟨G, 0, none⟩) l vc) rfl
      refine Reg.ok_value Reg.Old.refl (v := .slice (some ⟨G, 0, none⟩) l vc) (Reg.wanted_none rfl) ?_ rfl
      go_simp
    · intro cx wc hB hp hq
      have g4 : cx.tmps[4]? = some (.pointer (some ⟨C + 2, 0, none⟩)) := (hq 4 (by kernel_rfl)).trans rfl
      refine Reg.ok_value Reg.Old.refl (v := .pointer (some ⟨C + 2, 10, none⟩)) (Reg.wanted_none rfl) ?_ rfl
      go_simp
    · intro cx wc hB hp hq
      have g67 : cx.tmps[67]? = some (.pointer (some ⟨C + 2, 10, none⟩)) := by obtain ⟨_, g, hv⟩ := Reg.pred hp 2 67 (by kernel_rfl) rfl rfl; exact g.trans (congrArg some hv)
      have c2 := (CellsAt.below hPd hB).cell 10 (.slice (some ⟨G, 0, none⟩) l vc) rfl
      refine Reg.ok_value Reg.Old.refl (v := .slice (some ⟨G, 0, none⟩) l vc) (Reg.wanted_none rfl) ?_ rfl
      go_simp
    · intro cx wc hB hp hq
      have g5 : cx.tmps[5]? = some (.int .i64 (i : Int)) := (hq 5 (by kernel_rfl)).trans rfl
      refine Reg.ok_value Reg.Old.refl (v := .int .i64 (i : Int)) (Reg.wanted_none rfl) ?_ rfl
      go_simp
    · intro cx wc hB hp hq
      have g68 : cx.tmps[68]? = some (.slice (some ⟨G, 0, none⟩) l vc) := by obtain ⟨_, g, hv⟩ := Reg.pred hp 3 68 (by kernel_rfl) rfl rfl; exact g.trans (congrArg some hv)
      have g69 : cx.tmps[69]? = some (.int .i64 (i : Int)) := by obtain ⟨_, g, hv⟩ := Reg.pred hp 4 69 (by kernel_rfl) rfl rfl; exact g.trans (congrArg some hv)
      have e1 := HI.out
      refine Reg.ok_value Reg.Old.refl (v := .pointer (some ⟨G, i, none⟩)) (Reg.wanted_none rfl) ?_ rfl
      go_simp
    · intro cx wc hB hp hq
      have g70 : cx.tmps[70]? = some (.pointer (some ⟨G, i, none⟩)) := by obtain ⟨_, g, hv⟩ := Reg.pred hp 5 70 (by kernel_rfl) rfl rfl; exact g.trans (congrArg some hv)
      have c2 := (Below.cell (p := ⟨G, i, none⟩) hB hG).trans hcell
      refine Reg.ok_value Reg.Old.refl (v := .int .i64 a) (Reg.wanted_none rfl) ?_ rfl
      go_simp
    · intro cx wc hB hp hq
      have g3 : cx.tmps[3]? = some (.func (Fn.func 31) #[] #[.pointer (some ⟨C, 0, none⟩)]) := (hq 3 (by kernel_rfl)).trans rfl
      refine Reg.ok_value Reg.Old.refl (v := .func (Fn.func 31) #[] #[.pointer (some ⟨C, 0, none⟩)]) (Reg.wanted_none rfl) ?_ rfl
      go_simp
    · intro cx wc hB hp hq
      have g5 : cx.tmps[5]? = some (.int .i64 (i : Int)) := (hq 5 (by kernel_rfl)).trans rfl
      refine Reg.ok_value Reg.Old.refl (v := .int .i64 (i : Int)) (Reg.wanted_none rfl) ?_ rfl
      go_simp
    · intro cx wc hB hp hq
      have g73 : cx.tmps[73]? = some (.int .i64 (i : Int)) := by obtain ⟨_, g, hv⟩ := Reg.pred hp 8 73 (by kernel_rfl) rfl rfl; exact g.trans (congrArg some hv)
      have e1 := HI.out
      refine Reg.ok_value Reg.Old.refl (v := .int .i64 (12 + (i : Int))) (Reg.wanted_none rfl) ?_ rfl
      go_simp
      exact IntWalk.i64_in _ (by omega)
    · intro cx wc hB hp hq
      have g72 : cx.tmps[72]? = some (.func (Fn.func 31) #[] #[.pointer (some ⟨C, 0, none⟩)]) := by obtain ⟨_, g, hv⟩ := Reg.pred hp 7 72 (by kernel_rfl) rfl rfl; exact g.trans (congrArg some hv)
      have g74 : cx.tmps[74]? = some (.int .i64 (12 + (i : Int))) := by obtain ⟨_, g, hv⟩ := Reg.pred hp 9 74 (by kernel_rfl) rfl rfl; exact g.trans (congrArg some hv)
      refine Reg.ok_call (f := 31) (args := #[.int .i64 (12 + (i : Int)), .pointer (some ⟨C, 0, none⟩)]) (Reg.wanted_none rfl) (by go_simp) ((HW.out wc (hWB.below hB)).mono ?_)
      rintro e w' ⟨rfl, rfl⟩
      exact ⟨_, rfl, Reg.Old.refl _, rfl⟩
    · intro cx wc hB hp hq
      have g75 : cx.tmps[75]? = some (.int .i64 (hA hs (12 + i) : Int)) := by obtain ⟨_, g, hv⟩ := Reg.pred hp 10 75 (by kernel_rfl) rfl rfl; exact g.trans (congrArg some hv)
      have e1 := HB1.out
      have e2 := HB2.out
      have e3 := hLi.out
      refine Reg.ok_value Reg.Old.refl (v := .int .i64 b) (Reg.wanted_none rfl) ?_ rfl
      go_simp
    · intro cx wc hB hp hq
      have g76 : cx.tmps[76]? = some (.int .i64 b) := by obtain ⟨_, g, hv⟩ := Reg.pred hp 11 76 (by kernel_rfl) rfl rfl; exact g.trans (congrArg some hv)
      have e1 := HB3.out
      refine Reg.ok_value Reg.Old.refl (v := .int .i64 (2 + b)) (Reg.wanted_none rfl) ?_ rfl
      go_simp
      exact IntWalk.i64_in _ (by omega)
    · intro cx wc hB hp hq
      have g71 : cx.tmps[71]? = some (.int .i64 a) := by obtain ⟨_, g, hv⟩ := Reg.pred hp 6 71 (by kernel_rfl) rfl rfl; exact g.trans (congrArg some hv)
      have g77 : cx.tmps[77]? = some (.int .i64 (2 + b)) := by obtain ⟨_, g, hv⟩ := Reg.pred hp 12 77 (by kernel_rfl) rfl rfl; exact g.trans (congrArg some hv)
      have e1 := HY.out
      refine Reg.ok_value Reg.Old.refl (v := .int .i64 (a * (2 + b))) (Reg.wanted_none rfl) ?_ rfl
      go_simp
    · intro cx wc hB hp hq
      have g78 : cx.tmps[78]? = some (.int .i64 (a * (2 + b))) := by obtain ⟨_, g, hv⟩ := Reg.pred hp 13 78 (by kernel_rfl) rfl rfl; exact g.trans (congrArg some hv)
      refine Reg.ok_made (v := .slice (some ⟨wc.heap.size, 0, none⟩) 1 1) (w2 := wc.alloc (.cells #[.int .i64 (a * (2 + b))] 2)) (Reg.wanted_none rfl) ?_ ((Below.refl _ _).alloc (Nat.le_refl _) _) ⟨wc.heap.size, rfl, (show Below W.drew.heap.size W.drew wc from hB).size, CellsAt.new _ _ _⟩
      go_simp
  · intro cx w1 hB hsz hdf hv ho
    obtain ⟨_, g79, g, rfl, hgl, hcg⟩ := hv 14 _ 79 (by decide) rfl rfl
    have hcx := Reg.frame_eq [s0, .pointer (some ⟨C, 0, none⟩), .pointer (some ⟨C + 1, 0, none⟩), .func (Fn.func 31) #[] #[.pointer (some ⟨C, 0, none⟩)], .pointer (some ⟨C + 2, 0, none⟩), .int .i64 (i : Int), s6, s7, s8, s9, s10, s11, s12, s13, s14, s15, s16, s17, s18, s19, s20, s21, s22, s23, s24, s25, s26, s27, s28, s29, s30, s31, s32, s33, s34, s35, s36, s37, s38, s39, s40, s41, s42, s43, s44, s45, s46, s47, s48, s49, s50, s51, s52, s53, s54, s55, s56, s57, s58, s59, s60, s61, s62, s63, s64, .pointer (some ⟨C + 2, 10, none⟩), .slice (some ⟨G, 0, none⟩) l vc, .pointer (some ⟨C + 2, 10, none⟩), .slice (some ⟨G, 0, none⟩) l vc, .int .i64 (i : Int), .pointer (some ⟨G, i, none⟩), .int .i64 a, .func (Fn.func 31) #[] #[.pointer (some ⟨C, 0, none⟩)], .int .i64 (i : Int), .int .i64 (12 + (i : Int)), .int .i64 (hA hs (12 + i) : Int), .int .i64 b, .int .i64 (2 + b), .int .i64 (a * (2 + b)), .slice (some ⟨g, 0, none⟩) 1 1, s80, s81, s82] (by simpa using hsz) hdf ⟨((Reg.kept_past ho 0 (by kernel_rfl)).trans rfl), ((Reg.kept_past ho 1 (by kernel_rfl)).trans rfl), ((Reg.kept_past ho 2 (by kernel_rfl)).trans rfl), ((Reg.kept_past ho 3 (by kernel_rfl)).trans rfl), ((Reg.kept_past ho 4 (by kernel_rfl)).trans rfl), ((Reg.kept_past ho 5 (by kernel_rfl)).trans rfl), ((Reg.kept_past ho 6 (by kernel_rfl)).trans rfl), ((Reg.kept_past ho 7 (by kernel_rfl)).trans rfl), ((Reg.kept_past ho 8 (by kernel_rfl)).trans rfl), ((Reg.kept_past ho 9 (by kernel_rfl)).trans rfl), ((Reg.kept_past ho 10 (by kernel_rfl)).trans rfl), ((Reg.kept_past ho 11 (by kernel_rfl)).trans rfl), ((Reg.kept_past ho 12 (by kernel_rfl)).trans rfl), ((Reg.kept_past ho 13 (by kernel_rfl)).trans rfl), ((Reg.kept_past ho 14 (by kernel_rfl)).trans rfl), ((Reg.kept_past ho 15 (by kernel_rfl)).trans rfl), ((Reg.kept_past ho 16 (by kernel_rfl)).trans rfl), ((Reg.kept_past ho 17 (by kernel_rfl)).trans rfl), ((Reg.kept_past ho 18 (by kernel_rfl)).trans rfl), ((Reg.kept_past ho 19 (by kernel_rfl)).trans rfl), ((Reg.kept_past ho 20 (by kernel_rfl)).trans rfl), ((Reg.kept_past ho 21 (by kernel_rfl)).trans rfl), ((Reg.kept_past ho 22 (by kernel_rfl)).trans rfl), ((Reg.kept_past ho 23 (by kernel_rfl)).trans rfl), ((Reg.kept_past ho 24 (by kernel_rfl)).trans rfl), ((Reg.kept_past ho 25 (by kernel_rfl)).trans rfl), ((Reg.kept_past ho 26 (by kernel_rfl)).trans rfl), ((Reg.kept_past ho 27 (by kernel_rfl)).trans rfl), ((Reg.kept_past ho 28 (by kernel_rfl)).trans rfl), ((Reg.kept_past ho 29 (by kernel_rfl)).trans rfl), ((Reg.kept_past ho 30 (by kernel_rfl)).trans rfl), ((Reg.kept_past ho 31 (by kernel_rfl)).trans rfl), ((Reg.kept_past ho 32 (by kernel_rfl)).trans rfl), ((Reg.kept_past ho 33 (by kernel_rfl)).trans rfl), ((Reg.kept_past ho 34 (by kernel_rfl)).trans rfl), ((Reg.kept_past ho 35 (by kernel_rfl)).trans rfl), ((Reg.kept_past ho 36 (by kernel_rfl)).trans rfl), ((Reg.kept_past ho 37 (by kernel_rfl)).trans rfl), ((Reg.kept_past ho 38 (by kernel_rfl)).trans rfl), ((Reg.kept_past ho 39 (by kernel_rfl)).trans rfl), ((Reg.kept_past ho 40 (by kernel_rfl)).trans rfl), ((Reg.kept_past ho 41 (by kernel_rfl)).trans rfl), ((Reg.kept_past ho 42 (by kernel_rfl)).trans rfl), ((Reg.kept_past ho 43 (by kernel_rfl)).trans rfl), ((Reg.kept_past ho 44 (by kernel_rfl)).trans rfl), ((Reg.kept_past ho 45 (by kernel_rfl)).trans rfl), ((Reg.kept_past ho 46 (by kernel_rfl)).trans rfl), ((Reg.kept_past ho 47 (by kernel_rfl)).trans rfl), ((Reg.kept_past ho 48 (by kernel_rfl)).trans rfl), ((Reg.kept_past ho 49 (by kernel_rfl)).trans rfl), ((Reg.kept_past ho 50 (by kernel_rfl)).trans rfl), ((Reg.kept_past ho 51 (by kernel_rfl)).trans rfl), ((Reg.kept_past ho 52 (by kernel_rfl)).trans rfl), ((Reg.kept_past ho 53 (by kernel_rfl)).trans rfl), ((Reg.kept_past ho 54 (by kernel_rfl)).trans rfl), ((Reg.kept_past ho 55 (by kernel_rfl)).trans rfl), ((Reg.kept_past ho 56 (by kernel_rfl)).trans rfl), ((Reg.kept_past ho 57 (by kernel_rfl)).trans rfl), ((Reg.kept_past ho 58 (by kernel_rfl)).trans rfl), ((Reg.kept_past ho 59 (by kernel_rfl)).trans rfl), ((Reg.kept_past ho 60 (by kernel_rfl)).trans rfl), ((Reg.kept_past ho 61 (by kernel_rfl)).trans rfl), ((Reg.kept_past ho 62 (by kernel_rfl)).trans rfl), ((Reg.kept_past ho 63 (by kernel_rfl)).trans rfl), ((Reg.kept_past ho 64 (by kernel_rfl)).trans rfl), (by obtain ⟨_, g, hx⟩ := hv 0 _ 65 (by decide) rfl rfl; exact g.trans (congrArg some hx)), (by obtain ⟨_, g, hx⟩ := hv 1 _ 66 (by decide) rfl rfl; exact g.trans (congrArg some hx)), (by obtain ⟨_, g, hx⟩ := hv 2 _ 67 (by decide) rfl rfl; exact g.trans (congrArg some hx)), (by obtain ⟨_, g, hx⟩ := hv 3 _ 68 (by decide) rfl rfl; exact g.trans (congrArg some hx)), (by obtain ⟨_, g, hx⟩ := hv 4 _ 69 (by decide) rfl rfl; exact g.trans (congrArg some hx)), (by obtain ⟨_, g, hx⟩ := hv 5 _ 70 (by decide) rfl rfl; exact g.trans (congrArg some hx)), (by obtain ⟨_, g, hx⟩ := hv 6 _ 71 (by decide) rfl rfl; exact g.trans (congrArg some hx)), (by obtain ⟨_, g, hx⟩ := hv 7 _ 72 (by decide) rfl rfl; exact g.trans (congrArg some hx)), (by obtain ⟨_, g, hx⟩ := hv 8 _ 73 (by decide) rfl rfl; exact g.trans (congrArg some hx)), (by obtain ⟨_, g, hx⟩ := hv 9 _ 74 (by decide) rfl rfl; exact g.trans (congrArg some hx)), (by obtain ⟨_, g, hx⟩ := hv 10 _ 75 (by decide) rfl rfl; exact g.trans (congrArg some hx)), (by obtain ⟨_, g, hx⟩ := hv 11 _ 76 (by decide) rfl rfl; exact g.trans (congrArg some hx)), (by obtain ⟨_, g, hx⟩ := hv 12 _ 77 (by decide) rfl rfl; exact g.trans (congrArg some hx)), (by obtain ⟨_, g, hx⟩ := hv 13 _ 78 (by decide) rfl rfl; exact g.trans (congrArg some hx)), g79, ((Reg.kept_past ho 80 (by kernel_rfl)).trans rfl), ((Reg.kept_past ho 81 (by kernel_rfl)).trans rfl), ((Reg.kept_past ho 82 (by kernel_rfl)).trans rfl), trivial⟩
    rw [hcx]
    have hO1 := hOd.below hB
    have hW1 := hWB.below hB
    have hP1 := CellsAt.below hPd hB
    have hZ1 := CellsAt.below hZd hB
    have hw1 : W.heap.size ≤ w1.heap.size := (show Below W.drew.heap.size W.drew w1 from hB).size
    have hB1 := hBd.trans (Below.mono hB (Nat.le_trans hCw hBd.size))
    simp only [List.drop_succ_cons, List.drop_zero]
    clear hv ho hsz hdf hcx
    obtain ⟨v2, w3, hr3, hown, hgrow, hat⟩ := run_append_at (P := Tryz.prog) w1 (C + 3) 22 22 2 i0 (.int .i64 0) 1 8 Tryz.underlying22 hi0 hz0 hz1 hz2 rfl (by decide) (.slice (some ⟨G, 0, none⟩) l vc) t.length (valsI t) hO1 ⟨g, 0, none⟩ 1 1 (valsI [a * (2 + b)]) rfl (fun j u hj => by rw [Addr.add_lit, Nat.zero_add]; exact hcg.cell j u (by rw [← hj]; simp [valsI])) (fun u hu => by obtain ⟨y, _, rfl⟩ := List.mem_map.1 hu; rfl) (by unfold maxLen; omega) (by omega) (by omega)
    have hOw : OwnI (C + 3) v2 (t ++ [a * (2 + b)]) w3 := by
      unfold OwnI
      rw [List.length_append, valsI_append]
      exact hown
    have hM : Mov (fun k => k = G) w1 w3 := (Mov.refl _ _).trans (Mov.grown hgrow) (fun k _ hk => by injection hk with hk; first | exact hk | exact hk.symm | omega)
    have hW3 := hW1.mov hM (by omega) (fun a ha h0 e => by have := hpB a ha h0; omega)
    have hP3 := cells_mov hP1 hM (by omega)
    have hZ3 := cells_mov hZ1 hM (by omega)
    have hB3 := hB1.trans (hM.below (N := C) (fun k hk => by omega) (by omega))
    obtain ⟨q, d, rfl⟩ : ∃ q d, v2 = .slice q (l + 1) d := by
      obtain ⟨q, d, e⟩ := hOw.len
      exact ⟨q, d, by rw [e]; simp [htl]⟩
    have hM2 : Mov (fun k => k = C + 2) w3 (w3.setCell ⟨C + 2, 10, none⟩ (.slice q (l + 1) d)) := Mov.set (S := fun k => k = C + 2) (Mov.refl _ _) rfl 10 _
    have HW4 := Lib.hid (hW3.mov hM2 (by omega) (fun a ha h0 e => by have := hpB a ha h0; omega))
    have HP4 : Hid (PolAt (C + 2) [x0, r, m, x3, x4, x5, x6, x7, x8, x9] (.slice q (l + 1) d) (w3.setCell ⟨C + 2, 10, none⟩ (.slice q (l + 1) d))) := Lib.hid (hP3.set 10 (.slice q (l + 1) d) (by simp [valsP]))
    have HO4 := Lib.hid (hOw.mov hM2 (fun g hg e => by have := (hOw.lt hg).1; omega))
    have HZ4 := Lib.hid (cells_mov hZ3 hM2 (by omega))
    have HB4 := Lib.hid (hB3.trans (hM2.below (N := C) (fun k hk => by omega) (by have := hZ3.lt; omega)))
    have nA := hP3.cell 10 (.slice (some ⟨G, 0, none⟩) l vc) rfl
    have fA := hP3.fro 10 (.slice (some ⟨G, 0, none⟩) l vc) rfl
    have lA := hP3.lt
    clear hW1 hP1 hZ1 hO1 hB1 hW3 hP3 hZ3 hB3 hM hM2 hOw hown hgrow hat hcg hB hw1 hPd hZd hOd hBd hWB HC3
    go_wp2_with (at_builtin; refine Lib.wpList_append_run _ rfl _ _ _ _ rfl _ _ rfl rfl _ _ hr3 ?_)
    exact hQ _ _ _ _ _ _ _ _ _ _ _ _ _ _ _ _ _ _ _  HW4.out HP4.out HO4.out HZ4.out HB4.out
set_option maxRecDepth 100000 in
set_option maxHeartbeats 16000000 in
theorem wish_six (C0 : Code) (hC0 : Tryz.f10.body.bind (findR 6) = some C0) (w W : World) (C : Nat) (p : Option Addr) (hs : List Nat) (c : Nat) (x0 r m x3 x4 x5 x6 x7 x8 x9 : Int) (hl : hs.length ≤ 9223372036854775807)
    (hpB : ∀ a, p = some a → 0 < hs.length → a.block < C) (hWB : WB C p hs c W) (hP : PolAt (C + 2) [x0, r, m, x3, x4, x5, x6, x7, x8, x9] (.slice none 0 0) W) (hZ : PolAt (C + 1) zeroN (.slice none 0 0) W) (hBe : Below C w W) (hCw : C ≤ w.heap.size) (s0 s5 s6 s7 s8 s9 s10 s11 s12 s13 s14 s15 s16 s17 s18 s19 s20 s21 s22 s23 s24 s25 s26 s27 s28 s29 s30 s31 s32 s33 s34 s35 s36 s37 s38 s39 s40 s41 s42 s43 s44 s45 s46 s47 s48 s49 s50 s51 s52 s53 s54 s55 s56 s57 s58 s59 s60 s61 s62 s63 s64 s65 s66 s67 s68 s69 s70 s71 s72 s73 s74 s75 s76 s77 s78 s79 s80 s81 s82 : Value) :
    Code.wp Tryz.prog C0 (bodyPost Tryz.prog Tryz.f10 fun e w' => ∃ v, e = .returned (.agg (valsP [x0, r, m, x3, x4, x5, x6, x7, x8, x9] v)) ∧ Tr (fun _ => False) v (wishT hs (hA hs 11 % 3)) w' ∧ Below C w w') { tmps := (s0 :: .pointer (some ⟨C, 0, none⟩) :: .pointer (some ⟨C + 1, 0, none⟩) :: .func (Fn.func 31) #[] #[.pointer (some ⟨C, 0, none⟩)] :: .pointer (some ⟨C + 2, 0, none⟩) :: s5 :: s6 :: s7 :: s8 :: s9 :: s10 :: s11 :: s12 :: s13 :: s14 :: s15 :: s16 :: s17 :: s18 :: s19 :: s20 :: s21 :: s22 :: s23 :: s24 :: s25 :: s26 :: s27 :: s28 :: s29 :: s30 :: s31 :: s32 :: s33 :: s34 :: s35 :: s36 :: s37 :: s38 :: s39 :: s40 :: s41 :: s42 :: s43 :: s44 :: s45 :: s46 :: s47 :: s48 :: s49 :: s50 :: s51 :: s52 :: s53 :: s54 :: s55 :: s56 :: s57 :: s58 :: s59 :: s60 :: s61 :: s62 :: s63 :: s64 :: s65 :: s66 :: s67 :: s68 :: s69 :: s70 :: s71 :: s72 :: s73 :: s74 :: s75 :: s76 :: s77 :: s78 :: s79 :: s80 :: s81 :: s82 :: []).toArray, defers := [] } W := by
  cases hC0
  have HW : Hid (∀ (i : Nat) (W : World), WB C p hs c W → Calls Tryz.prog 31 #[.int .i64 (i : Int), .pointer (some ⟨C, 0, none⟩)] W fun e w' => e = .returned (.int .i64 (hA hs i : Int)) ∧ w' = W) := Lib.hid (fun i W h => wish1_of i hl h)
  have HLT : Hid (∀ i, (hA hs i : Int) < 65536) := Lib.hid (fun i => hA_lt hWB.nums i)
  have h10 := HLT.out 10
  have h11 := HLT.out 11
  have h1 := HW.out 10 W hWB
  obtain ⟨q, hq⟩ : ∃ q, (hA hs 10 : Int) % 12 = q := ⟨_, rfl⟩
  have hq0 : 0 ≤ q ∧ q < 12 := by omega
  obtain ⟨K, hK⟩ : ∃ K, hA hs 11 % 3 = K := ⟨_, rfl⟩
  have hK2 : K ≤ 2 := by omega
  have hKi : (hA hs 11 : Int) % 3 = (K : Int) := by omega
  rw [hK]
  have nA := hP.cell 10 (.slice none 0 0) rfl
  have fA := hP.fro 10 (.slice none 0 0) rfl
  have lA := hP.lt
  obtain ⟨D, hD⟩ : ∃ D, W.heap.size = D := ⟨_, rfl⟩
  have hT0 : Hid (wishT hs 0 = [1 + q]) := Lib.hid (by show [1 + (hA hs 10 : Int) % 12] = _; rw [hq])
  have hM1 : Mov (fun k => k = C + 2) W (W.setCell ⟨C + 2, 10, none⟩ (.slice (some ⟨D, 0, none⟩) 1 1)) := Mov.set (S := fun k => k = C + 2) (Mov.refl _ _) rfl 10 _
  have hD2 : (W.setCell ⟨C + 2, 10, none⟩ (.slice (some ⟨D, 0, none⟩) 1 1)).heap.size = D := by rw [← hD]; simp [World.setCell]
  have hB1 : Below (W.setCell ⟨C + 2, 10, none⟩ (.slice (some ⟨D, 0, none⟩) 1 1)).heap.size (W.setCell ⟨C + 2, 10, none⟩ (.slice (some ⟨D, 0, none⟩) 1 1)) ((W.setCell ⟨C + 2, 10, none⟩ (.slice (some ⟨D, 0, none⟩) 1 1)).alloc (.cells #[.int .i64 (1 + q)] 2)) := (Below.refl _ _).alloc (Nat.le_refl _) _
  have HO1 : Hid (OwnI (C + 3) (.slice (some ⟨D, 0, none⟩) 1 1) [1 + q] ((W.setCell ⟨C + 2, 10, none⟩ (.slice (some ⟨D, 0, none⟩) 1 1)).alloc (.cells #[.int .i64 (1 + q)] 2))) := Lib.hid (row_of (l := [1 + q]) (by omega) (by have h := heap_alloc_new (W.setCell ⟨C + 2, 10, none⟩ (.slice (some ⟨D, 0, none⟩) 1 1)) (.cells #[.int .i64 (1 + q)] 2); rw [hD2] at h; exact h) (by simp [maxLen]))
  have HP1 : Hid (PolAt (C + 2) [x0, r, m, x3, x4, x5, x6, x7, x8, x9] (.slice (some ⟨D, 0, none⟩) 1 1) ((W.setCell ⟨C + 2, 10, none⟩ (.slice (some ⟨D, 0, none⟩) 1 1)).alloc (.cells #[.int .i64 (1 + q)] 2))) := Lib.hid (CellsAt.below (CellsAt.set hP 10 (.slice (some ⟨D, 0, none⟩) 1 1) (by simp [valsP])) hB1)
  have HZ1 := Lib.hid (CellsAt.below (cells_mov hZ hM1 (by omega)) hB1)
  have HW1 := Lib.hid ((hWB.mov hM1 (by omega) (fun a ha h0 e => by have := hpB a ha h0; omega)).below hB1)
  have HB1 := Lib.hid ((hBe.trans (hM1.below (N := C) (fun k hk => by omega) (by omega))).trans (hB1.mono (by omega)))
  rw [← hT0.out] at HO1
  rw [hD] at lA
  have HPB := Lib.hid hpB
  clear hP hZ hWB hBe hB1 hM1 hD2 hpB hK
  go_wp2_with fail
  refine h1.mono ?_
  rintro e w3 ⟨rfl, rfl⟩
  clear h1
  go_wp2
  clear hD nA fA lA h10 hq hq0
  generalize (w3.setCell ⟨C + 2, 10, none⟩ (.slice (some ⟨D, 0, none⟩) 1 1)).alloc (.cells #[.int .i64 (1 + q)] 2) = W1 at *
  go_loopg [5] K (fun g s5 wx => ∃ (i : Nat) (v : Value), s5 = .int .i64 (i : Int) ∧ g + i = K ∧ Hid (WB C p hs c wx) ∧ Hid (PolAt (C + 2) [x0, r, m, x3, x4, x5, x6, x7, x8, x9] v wx) ∧ Hid (OwnI (C + 3) v (wishT hs i) wx) ∧ Hid (PolAt (C + 1) zeroN (.slice none 0 0) wx) ∧ Hid (Below C w wx))
  case atStart => exact ⟨0, _, rfl, rfl, HW1, HP1, HO1, HZ1, HB1⟩
  case round =>
    clear HW1 HP1 HO1 HZ1 HB1
    obtain ⟨i, v, rfl, hgi, HWx, HP, HO, HZ, HB⟩ := hrel
    have h2 := HW.out 11 wr HWx.out
    cases gk with
    | zero =>
      obtain rfl : i = K := by omega
      go_wp2_with fail
      refine h2.mono ?_
      rintro e w4 ⟨rfl, rfl⟩
      clear h2
      obtain ⟨q, d, rfl⟩ := HO.out.len
      have HL1 : Hid ((loadVar 24 ⟨C + 2, 0, none⟩).run Tryz.prog w4 = .ok (.agg (valsP [x0, r, m, x3, x4, x5, x6, x7, x8, x9] (.slice q (wishT hs i).length d))) w4) := Lib.hid (load_pol HP.out rfl)
      have hle := HZ.out.lt
      clear HW HLT h11 hT0 HPB
      go_upto_region 11 with fail
      go_wp2_with (refine wpList_load_run rfl 24 (.tmp 4) rfl ⟨C + 2, 0, none⟩ (.agg (valsP [x0, r, m, x3, x4, x5, x6, x7, x8, x9] (.slice q (wishT hs i).length d))) ?_ ?_ ?_; exact rfl; exact HL1.out; refine wpList_store_cells rfl 24 (.tmp 2) (.tmp 82) rfl (C + 1) (valsP [x0, r, m, x3, x4, x5, x6, x7, x8, x9] (.slice q (wishT hs i).length d)) (valsP zeroN (.slice none 0 0)) ?_ ?_ ?_ ?_ ?_ ?_ ?_; exact rfl; exact rfl; exact HZ.out; exact (show _ = some 11 by kernel_rfl); exact rfl; simp [valsP, Value.oneCell'])
      refine bodyPost_ret (result_cell rfl rfl (load_pol (pol_put (n := [x0, r, m, x3, x4, x5, x6, x7, x8, x9]) (v := .slice q (wishT hs i).length d) HZ.out rfl rfl) rfl)) rfl ?_
      have hin : ∀ x ∈ wishT hs i, In64 x := fun x hx => in64_of (by have := tiers_in (wish_tiers hs i).1 x hx; omega)
      refine ⟨_, rfl, ?_, below_sets (by omega) _ 0 w _ HB.out⟩
      exact ((HO.out.tr (S := fun j => j = C + 1) (fun g hg e => by omega) hin).mov (Mov.sets (S := fun j => j = C + 1) rfl _ 0 _ (Mov.refl _ _)) (fun j h _ => h)).weak (fun j h _ => h.elim)
    | succ g =>
      have hiK : i < K := by omega
      go_wp2_with fail
      refine h2.mono ?_
      rintro e w4 ⟨rfl, rfl⟩
      clear h2
      obtain ⟨q, d, rfl⟩ := HO.out.len
      obtain ⟨G, hG⟩ : ∃ G, q = some ⟨G, 0, none⟩ := by
        rcases HO.out.form with ⟨e, e2⟩ | ⟨g, cap, e, _⟩
        · have := (wish_tiers hs i).2.1
          rw [e2] at this
          simp at this
        · cases e
          exact ⟨g, rfl⟩
      subst hG
      obtain ⟨l, hlt⟩ : ∃ l, (wishT hs i).length = l := ⟨_, rfl⟩
      have hle : i + 1 = l := by
        rw [← hlt]
        rcases (show i = 0 ∨ i = 1 by omega) with rfl | rfl <;> rfl
      have hgd : 1 ≤ (wishT hs i).getD i 0 ∧ (wishT hs i).getD i 0 ≤ 60 := by
        have f0 := fact_in hs 0
        have s0 := step_in (a := 1 + (hA hs 10 : Int) % 12) (by omega) f0
        rcases (show i = 0 ∨ i = 1 by omega) with rfl | rfl
        · show 1 ≤ 1 + (hA hs 10 : Int) % 12 ∧ 1 + (hA hs 10 : Int) % 12 ≤ 60
          omega
        · show 1 ≤ (1 + (hA hs 10 : Int) % 12) * factW hs 0 ∧ (1 + (hA hs 10 : Int) % 12) * factW hs 0 ≤ 60
          omega
      have hnx : wishT hs i ++ [(wishT hs i).getD i 0 * (2 + (hA hs (12 + i) : Int) % 4)] = wishT hs (i + 1) := by
        rcases (show i = 0 ∨ i = 1 by omega) with rfl | rfl <;> rfl
      have HNX := Lib.hid hnx
      have HGD := Lib.hid hgd
      have HLE := Lib.hid hlt
      rw [hlt] at HP HO
      clear hnx hgd HLT h11 hT0 hlt
      go_upto_region 10 with fail
      refine wish_ten _ (by kernel_rfl) _ w _ C i l d G p hs c x0 r m x3 x4 x5 x6 x7 x8 x9 ((wishT hs i).getD i 0) ((hA hs (12 + i) : Int) % 4) (wishT hs i) hl (by omega) HLE.out hle rfl rfl HGD.out HPB.out HWx.out HP.out HO.out HZ.out HB.out hCw _ _ _ _ _ _ _ _ _ _ _ _ _ _ _ _ _ _ _ _ _ _ _ _ _ _ _ _ _ _ _ _ _ _ _ _ _ _ _ _ _ _ _ _ _ _ _ _ _ _ _ _ _ _ _ _ _ _ _ _ _ _ _ _ _ _ _ _ _ _ _ _ _ _ _ _ _ _ ?_
      intro v' W' z65 z66 z67 z68 z69 z70 z71 z72 z73 z74 z75 z76 z77 z78 z79 z80 z81 hW' hP' hO' hZ' hB'
      rw [HNX.out] at hO'
      have HW5 := Lib.hid hW'
      have HP5 := Lib.hid hP'
      have HO5 := Lib.hid hO'
      have HZ5 := Lib.hid hZ'
      have HB5 := Lib.hid hB'
      clear hW' hP' hO' hZ' hB' HWx HP HO HZ HB HNX HGD HLE hle
      go_wp2
      go_roundg g
      case measure => omega
      case rel => exact ⟨i + 1, v', by go_num, by omega, HW5, HP5, HO5, HZ5, HB5⟩
end Go.Proofs.YtcgkgdhbipbnfaaGreatDoor.Po

