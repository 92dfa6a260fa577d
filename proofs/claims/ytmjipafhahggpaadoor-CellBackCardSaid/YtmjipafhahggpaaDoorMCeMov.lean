/- CellMoves, walked. -/
import Derived.Test.YtmjipafhahggpaaDoorMCeE
import Derived.Test.YtmjipafhahggpaaDoorMcO
namespace Go.Proofs.YtmjipafhahggpaaDoor.Ce
open Go Go.RowKit Hi

def MovPhi (Cc Bc Cd Bd Cb Bb : Nat) (q : Cel) (g _ : Int) (N M1 M2 : Nat) (Z : Int) (P : ByteArray) : Nat → Value → World → Prop
  | i, v, _ => v = ([.bool true, .bool true, .pointer (some ⟨Cb, 0, none⟩), .string P, .string P, .bool true, .bool true, .bool true, .pointer (some ⟨Cd, 0, none⟩), .int .i64 g, .int .i64 g, .bool true, .bool true, .bool true, .pointer (some ⟨Cd, 0, none⟩), .pointer (some ⟨Cd, 0, none⟩), .pointer (some ⟨Cd, 0, none⟩), .pointer (some ⟨Bd, 0, none⟩), .int .u64 ((M1 : Int)), .pointer (some ⟨Cb, 0, none⟩), .pointer (some ⟨Cb, 0, none⟩), .pointer (some ⟨Cb, 0, none⟩), .pointer (some ⟨Bb, 0, none⟩), .int .u64 ((N : Int)), .int .u64 ((N : Int) + 1), .bool true, .bool true, .bool true, .int .i64 0, .bool true, .bool true, .bool true, .pointer (some ⟨Cc, 0, none⟩), .pointer (some ⟨Cc, 0, none⟩), .pointer (some ⟨Cc, 0, none⟩), .pointer (some ⟨Bc, 0, none⟩), .int .u64 ((M2 : Int)), .pointer (some ⟨Cb, 0, none⟩), .pointer (some ⟨Cb, 0, none⟩), .pointer (some ⟨Cb, 0, none⟩), .pointer (some ⟨Bb, 0, none⟩), .int .u64 ((N : Int)), .int .u64 (2 * (N : Int)), .bool true, .bool true, .bool true, .pointer (some ⟨Cc, 0, none⟩), Wi.sv Z, .pointer (some ⟨Cb, 0, none⟩), Wi.sv q.sum, .pointer (some ⟨Cb, 0, none⟩), Wi.sv q.sum, Wi.sv Z, .bool true, .bool true, .bool true] : List Value).getD i undef
theorem MovPhi.stays {Cc Bc Cd Bd Cb Bb : Nat} {q : Cel} {g y : Int} {N M1 M2 : Nat} {Z : Int} {P : ByteArray} : ∀ i v wx wy, MovPhi Cc Bc Cd Bd Cb Bb q g y N M1 M2 Z P i v wx → Reg.Old wx wy → MovPhi Cc Bc Cd Bd Cb Bb q g y N M1 M2 Z P i v wy := fun _ _ _ _ h _ => h
set_option maxRecDepth 100000 in
set_option maxHeartbeats 16000000 in
theorem CellMoves_core (f : Int) (hf : In64 f) (g : Int) (hg : In64 g) (x : Nat) (hx : x < 256) (p : Option Addr) (xs : List Int) (cap : Nat) (hc : xs.length ≤ cap) (_ : cap ≤ 9223372036854775807) (y : Int) (hy : In64 y)
    (w : World) (hT : Wi.Tens w) (hN : Ints p xs w) :
    Calls Tryd.prog 6 #[.int .i64 f, .int .i64 g, .int .u8 x, .slice p xs.length cap, .int .i64 y] w fun e w' => e = .returned (.bool true) ∧ Below w.heap.size w w' := by
  have HT := Lib.hid hT
  have HN := Lib.hid (hN.take 20)
  obtain ⟨k, hk⟩ : ∃ k, x % 5 = k := ⟨_, rfl⟩
  have hk4 : k ≤ 4 := by omega
  have hki : (x : Int) % 5 = (k : Int) := by omega
  have hlL : (xs.take 20).length = min xs.length 20 := by rw [List.length_take]; omega
  have H64 : Hid (∀ y ∈ xs.take 20, In64 y) := Lib.hid (hN.take 20).in64
  generalize xs.take 20 = L at *
  generalize xs.length = n at *
  have hm1i : min (n : Int) 20 = L.length := by omega
  have hL100 : L.length ≤ 20 := by omega
  have hLn : L.length ≤ cap := by omega
  have HOF : Hid (∀ W, Ints p L W → Calls Tryd.prog 10 #[.int .i64 f, .int .i64 k, .slice p L.length cap] W fun e w' => ∃ C S, e = .returned (.pointer (some ⟨C, 0, none⟩)) ∧ At.Made (celN k f L) W C S w') := Lib.hid fun W hW => of_any f hf k hk4 p L cap (by omega) W hW
  have HOK : Hid ((celN k f L).Fit) := Lib.hid (celN_fit hk4 hf (by omega) H64.out)
  have HCN : Hid (countH (celN k f L).its = L.length) := Lib.hid (celN_many k f L)
  have HFR : Hid ((celN k f L).frm = f) := Lib.hid (by rw [celN_eq])
  have HMV : Hid (∀ g, ((celN k f L).move g).move f = celN k f L) := Lib.hid fun g => by rw [celN_move, celN_move]
  have HFN := Lib.hid (And.intro hf hg)
  clear hN hk hT hf hg hlL
  go_enter Tryd.func6, Tryd.ntmps6
  have HB0 : Hid (Below w.heap.size w w) := Lib.hid (Below.refl _ _)
  go_wp2_with fail
  refine (examples_any _ HT.out).mono ?_
  rintro e w1 ⟨rfl, hB⟩
  have HB1 : Hid (Below w.heap.size w w1) := Lib.hid (HB0.out.trans (hB.mono HB0.out.size))
  clear hB HB0 HT
  have ho := HOF.out _ (HN.out.below HB1.out)
  generalize celN k f L = q at *
  go_wp2_with fail
  refine (ho).mono ?_
  rintro e w2 ⟨Cc, Sc, rfl, hA, hlo, hB⟩
  have HA := Lib.hid hA
  have HSc : Hid (∀ i, Sc i → w.heap.size ≤ i) := Lib.hid fun i hi => Nat.le_trans HB1.out.size (hlo i hi)
  clear hA hlo
  have HB2 : Hid (Below w.heap.size w w2) := Lib.hid (HB1.out.trans (hB.mono HB1.out.size))
  clear hB HB1 ho HOF HN
  have Hc2 : Hid (At Sc Cc q w2) := HA
  clear HA
  have h1 := move_any Hc2.out g HFN.out.2
  go_wp2_with fail
  refine (h1).mono ?_
  rintro e w3 ⟨Cd, Sd, rfl, hA, hlo, hB⟩
  have HA := Lib.hid hA
  have HSd : Hid (∀ i, Sd i → w.heap.size ≤ i) := Lib.hid fun i hi => Nat.le_trans HB2.out.size (hlo i hi)
  have HDcd : Hid (∀ i, Sc i → ¬ Sd i) := Lib.hid fun i hi hj => by
    have h1 := Hc2.out.own i hi
    have h2 := hlo i hj
    omega
  clear hA hlo
  have HB3 : Hid (Below w.heap.size w w3) := Lib.hid (HB2.out.trans (hB.mono HB2.out.size))
  have Hc3 := Lib.hid (Hc2.out.below hB)
  clear hB HB2 Hc2 h1
  have Hd3 : Hid (At Sd Cd (q.move g) w3) := HA
  clear HA
  have h1 := move_any Hd3.out f HFN.out.1
  rw [HMV.out g] at h1
  go_wp2_with fail
  refine (h1).mono ?_
  rintro e w4 ⟨Cb, Sb, rfl, hA, hlo, hB⟩
  have HA := Lib.hid hA
  have HSb : Hid (∀ i, Sb i → w.heap.size ≤ i) := Lib.hid fun i hi => Nat.le_trans HB3.out.size (hlo i hi)
  have HDcb : Hid (∀ i, Sc i → ¬ Sb i) := Lib.hid fun i hi hj => by
    have h1 := Hc3.out.own i hi
    have h2 := hlo i hj
    omega
  have HDdb : Hid (∀ i, Sd i → ¬ Sb i) := Lib.hid fun i hi hj => by
    have h1 := Hd3.out.own i hi
    have h2 := hlo i hj
    omega
  clear hA hlo
  have HB4 : Hid (Below w.heap.size w w4) := Lib.hid (HB3.out.trans (hB.mono HB3.out.size))
  have Hc4 := Lib.hid (Hc3.out.below hB)
  have Hd4 := Lib.hid (Hd3.out.below hB)
  clear hB HB3 Hc3 Hd3 h1
  have Hb4 : Hid (At Sb Cb q w4) := HA
  clear HA
  have h1 := put_any Hc4.out
  go_wp2_with fail
  refine (h1).mono ?_
  rintro e w5 ⟨rfl, hB⟩
  have HB5 : Hid (Below w.heap.size w w5) := Lib.hid (HB4.out.trans (hB.mono HB4.out.size))
  have Hc5 := Lib.hid (Hc4.out.below hB)
  have Hd5 := Lib.hid (Hd4.out.below hB)
  have Hb5 := Lib.hid (Hb4.out.below hB)
  clear hB HB4 Hc4 Hd4 Hb4 h1
  obtain ⟨P, hP⟩ : ∃ P, tx q.put = P := ⟨_, rfl⟩
  rw [hP]
  have HP := Lib.hid hP
  clear hP
  have h1 := add_any Hd5.out y hy (by show countH q.its < _; rw [HCN.out]; omega)
  go_wp2_with fail
  refine (h1).mono ?_
  rintro e w6 ⟨rfl, Sdx1, hA, hM, hat⟩
  have HSSdx1 : Hid (∀ i, Sdx1 i → w.heap.size ≤ i) := Lib.hid fun i hi => (hat i hi).elim (fun h => HSd.out i h) (fun h => Nat.le_trans HB5.out.size h)
  have HDSdx1c : Hid (∀ i, Sdx1 i → ¬ Sc i) := Lib.hid fun i hi hj => (hat i hi).elim (fun h => (fun i hi hj => HDcd.out i hj hi) i h hj) (fun h => by have := Hc5.out.own i hj; omega)
  have Hc6 := Lib.hid (Hc5.out.mov hM (fun i hi hj => (fun i hi hj => HDcd.out i hj hi) i hj hi))
  have HDSdx1b : Hid (∀ i, Sdx1 i → ¬ Sb i) := Lib.hid fun i hi hj => (hat i hi).elim (fun h => HDdb.out i h hj) (fun h => by have := Hb5.out.own i hj; omega)
  have Hb6 := Lib.hid (Hb5.out.mov hM (fun i hi hj => HDdb.out i hj hi))
  have HB6 : Hid (Below w.heap.size w w6) := Lib.hid (HB5.out.trans (hM.below (fun i hi => HSd.out i hi) HB5.out.size))
  have Hd6 : Hid (At Sdx1 Cd ((q.move g).add y) w6) := Lib.hid hA
  clear hA hM hat HB5 Hc5 Hd5 Hb5 HSd HDcd HDdb h1
  have HSdx1 := HSSdx1
  clear HSSdx1
  have h1 := copy_any Hc6.out
  go_wp2_with fail
  refine (h1).mono ?_
  rintro e w7 ⟨Ce, Se, rfl, hA, hlo, hB⟩
  have HA := Lib.hid hA
  have HSe : Hid (∀ i, Se i → w.heap.size ≤ i) := Lib.hid fun i hi => Nat.le_trans HB6.out.size (hlo i hi)
  have HDce : Hid (∀ i, Sc i → ¬ Se i) := Lib.hid fun i hi hj => by
    have h1 := Hc6.out.own i hi
    have h2 := hlo i hj
    omega
  have HDde : Hid (∀ i, Sdx1 i → ¬ Se i) := Lib.hid fun i hi hj => by
    have h1 := Hd6.out.own i hi
    have h2 := hlo i hj
    omega
  have HDbe : Hid (∀ i, Sb i → ¬ Se i) := Lib.hid fun i hi hj => by
    have h1 := Hb6.out.own i hi
    have h2 := hlo i hj
    omega
  clear hA hlo
  have HB7 : Hid (Below w.heap.size w w7) := Lib.hid (HB6.out.trans (hB.mono HB6.out.size))
  have Hc7 := Lib.hid (Hc6.out.below hB)
  have Hd7 := Lib.hid (Hd6.out.below hB)
  have Hb7 := Lib.hid (Hb6.out.below hB)
  clear hB HB6 Hc6 Hd6 Hb6 h1
  have He7 : Hid (At Se Ce q w7) := HA
  clear HA
  have h1 := merge_any Hc7.out He7.out HDce.out rfl (by rw [HCN.out]; omega)
  go_wp2_with fail
  refine (h1).mono ?_
  rintro e w8 ⟨rfl, Scx2, hA, hM, hat⟩
  have HSScx2 : Hid (∀ i, Scx2 i → w.heap.size ≤ i) := Lib.hid fun i hi => (hat i hi).elim (fun h => HSc.out i h) (fun h => Nat.le_trans HB7.out.size h)
  have HDScx2d : Hid (∀ i, Scx2 i → ¬ Sdx1 i) := Lib.hid fun i hi hj => (hat i hi).elim (fun h => (fun i hi hj => HDSdx1c.out i hj hi) i h hj) (fun h => by have := Hd7.out.own i hj; omega)
  have Hd8 := Lib.hid (Hd7.out.mov hM (fun i hi hj => (fun i hi hj => HDSdx1c.out i hj hi) i hj hi))
  have HDScx2b : Hid (∀ i, Scx2 i → ¬ Sb i) := Lib.hid fun i hi hj => (hat i hi).elim (fun h => HDcb.out i h hj) (fun h => by have := Hb7.out.own i hj; omega)
  have Hb8 := Lib.hid (Hb7.out.mov hM (fun i hi hj => HDcb.out i hj hi))
  have HDScx2e : Hid (∀ i, Scx2 i → ¬ Se i) := Lib.hid fun i hi hj => (hat i hi).elim (fun h => HDce.out i h hj) (fun h => by have := He7.out.own i hj; omega)
  have He8 := Lib.hid (He7.out.mov hM (fun i hi hj => HDce.out i hj hi))
  have HB8 : Hid (Below w.heap.size w w8) := Lib.hid (HB7.out.trans (hM.below (fun i hi => HSc.out i hi) HB7.out.size))
  have Hc8 : Hid (At Scx2 Cc (q.merge q) w8) := Lib.hid hA
  clear hA hM hat HB7 Hc7 Hd7 Hb7 He7 HSc HDcb HDSdx1c HDce h1
  have HScx2 := HSScx2
  clear HSScx2
  obtain ⟨Bc, vc, hSc, hCc⟩ := Hc8.out
  have HKc := Lib.hid hCc.cells
  have HCc := Lib.hid hCc
  clear hCc hSc
  obtain ⟨Bd, vd, hSd, hCd⟩ := Hd8.out
  have HKd := Lib.hid hCd.cells
  have HCd := Lib.hid hCd
  clear hCd hSd
  obtain ⟨Bb, vb, hSb, hCb⟩ := Hb8.out
  have HKb := Lib.hid hCb.cells
  have HCb := Lib.hid hCb
  clear hCb hSb
  obtain ⟨N, hNN⟩ : ∃ N, L.length = N := ⟨_, rfl⟩
  obtain ⟨M1, hM1⟩ : ∃ M, N + 1 = M := ⟨_, rfl⟩
  obtain ⟨M2, hM2⟩ : ∃ M, N + N = M := ⟨_, rfl⟩
  obtain ⟨Z, hZ⟩ : ∃ Z, q.sum + q.sum = Z := ⟨_, rfl⟩
  have HCc1 : Hid (∀ wc, Below w8.drew.heap.size w8.drew wc → Calls Tryd.prog 15 #[.pointer (some ⟨Bc, 0, none⟩)] wc fun e w' => e = .returned (.int .u64 (M2 : Int)) ∧ Below wc.heap.size wc w') := Lib.hid fun wc hB => by
    have := Hi.count_any (HCc.out.below ((Below.refl _ _).drew.trans hB)).hs
    rwa [show countH (q.merge q).its = M2 by show countH (mergeH q.its q.its) = M2; rw [countH_mergeH, HCN.out, hNN, hM2]] at this
  have HCd1 : Hid (∀ wc, Below w8.drew.heap.size w8.drew wc → Calls Tryd.prog 15 #[.pointer (some ⟨Bd, 0, none⟩)] wc fun e w' => e = .returned (.int .u64 (M1 : Int)) ∧ Below wc.heap.size wc w') := Lib.hid fun wc hB => by
    have := Hi.count_any (HCd.out.below ((Below.refl _ _).drew.trans hB)).hs
    rwa [show countH ((q.move g).add y).its = M1 by show countH (more ⟨ofI q.k y, 1⟩ q.its) = M1; rw [countH_more, HCN.out, hNN, ← hM1]] at this
  have HCb1 : Hid (∀ wc, Below w8.drew.heap.size w8.drew wc → Calls Tryd.prog 15 #[.pointer (some ⟨Bb, 0, none⟩)] wc fun e w' => e = .returned (.int .u64 (N : Int)) ∧ Below wc.heap.size wc w') := Lib.hid fun wc hB => by
    have := Hi.count_any (HCb.out.below ((Below.refl _ _).drew.trans hB)).hs
    rwa [HCN.out, hNN] at this
  have HSc : Hid (∀ wc, Below w8.drew.heap.size w8.drew wc → Calls Tryd.prog 14 #[.pointer (some ⟨Cc, 0, none⟩)] wc fun e w' => e = .returned (Wi.sv Z) ∧ Below wc.heap.size wc w') := Lib.hid fun wc hB => by
    have := sum_any (Hc8.out.below ((Below.refl _ _).drew.trans hB))
    rwa [show (q.merge q).sum = Z from hZ] at this
  have HSb : Hid (∀ wc, Below w8.drew.heap.size w8.drew wc → Calls Tryd.prog 14 #[.pointer (some ⟨Cb, 0, none⟩)] wc fun e w' => e = .returned (Wi.sv q.sum) ∧ Below wc.heap.size wc w') := Lib.hid fun wc hB => sum_any (Hb8.out.below ((Below.refl _ _).drew.trans hB))
  have HAD : Hid (∀ wc, Calls Tryd.prog 8 #[Wi.sv q.sum, Wi.sv q.sum] wc fun e w' => e = .returned (Wi.sv Z) ∧ Below wc.heap.size wc w') := Lib.hid fun wc => by
    have := Wi.add_any q.sum q.sum HOK.out.ok.insum HOK.out.ok.insum wc
    rwa [hZ, Wi.w128_of (show Wi.InS Z from hZ ▸ Hc8.out.ok.insum)] at this
  have HPb : Hid (∀ wc, Below w8.drew.heap.size w8.drew wc → Calls Tryd.prog 17 #[.pointer (some ⟨Cb, 0, none⟩)] wc fun e w' => e = .returned (.string P) ∧ Below wc.heap.size wc w') := Lib.hid fun wc hB => by
    have := put_any (Hb8.out.below ((Below.refl _ _).drew.trans hB))
    rwa [HP.out] at this
  have HFd : Hid (∀ wc, Below w8.drew.heap.size w8.drew wc → Calls Tryd.prog 16 #[.pointer (some ⟨Cd, 0, none⟩)] wc fun e w' => e = .returned (.int .i64 g) ∧ Below wc.heap.size wc w') := Lib.hid fun wc hB => from_any (Hd8.out.below ((Below.refl _ _).drew.trans hB))
  have hMM1 : (M1 : Int) = (N : Int) + 1 := by omega
  have hMM2 : (M2 : Int) = 2 * (N : Int) := by omega
  have HM1 := Lib.hid hMM1
  have HM2 := Lib.hid hMM2
  have hN20 : (N : Int) ≤ 20 := by omega
  clear hMM1 hMM2 hM1 hM2 hZ hNN hm1i hLn hL100 hki hk4
  go_wp2_with fail
  refine Reg.wp_region_inv (n := 102) (MovPhi Cc Bc Cd Bd Cb Bb q g y N M1 M2 Z P) (by kernel_rfl) (by kernel_rfl) rfl MovPhi.stays ?_ ?_
  · refine ⟨?_, ?_, ?_, ?_, ?_, ?_, ?_, ?_, ?_, ?_, ?_, ?_, ?_, ?_, ?_, ?_, ?_, ?_, ?_, ?_, ?_, ?_, ?_, ?_, ?_, ?_, ?_, ?_, ?_, ?_, ?_, ?_, ?_, ?_, ?_, ?_, ?_, ?_, ?_, ?_, ?_, ?_, ?_, ?_, ?_, ?_, ?_, ?_, ?_, ?_, ?_, ?_, ?_, ?_, ?_, ?_, trivial⟩
    · intro cx wc hB hp hs
      have g11 : cx.tmps[11]? = some (.bool true) := (hs 11 (by kernel_rfl)).trans rfl
      refine Reg.ok_value Reg.Old.refl (v := .bool true) (Reg.wanted_none rfl) ?_ rfl
      go_simp
    · intro cx wc hB hp hs
      have g47 : cx.tmps[47]? = some (.bool true) := by obtain ⟨_, g, hv⟩ := Reg.pred hp 0 47 (by kernel_rfl) rfl rfl; exact g.trans (congrArg some hv)
      refine Reg.ok_value Reg.Old.refl (v := .bool true) (Reg.wanted_none rfl) ?_ rfl
      go_simp
    · intro cx wc hB hp hs
      have g14 : cx.tmps[14]? = some (.pointer (some ⟨Cb, 0, none⟩)) := (hs 14 (by kernel_rfl)).trans rfl
      have g48 : cx.tmps[48]? = some (.bool true) := by obtain ⟨_, g, hv⟩ := Reg.pred hp 1 48 (by kernel_rfl) rfl rfl; exact g.trans (congrArg some hv)
      refine Reg.ok_value Reg.Old.refl (v := .pointer (some ⟨Cb, 0, none⟩)) (Reg.wanted_at (j := 1) (d := 48) rfl rfl rfl g48) ?_ rfl
      go_simp
    · intro cx wc hB hp hs
      have g49 : cx.tmps[49]? = some (.pointer (some ⟨Cb, 0, none⟩)) := by obtain ⟨_, g, hv⟩ := Reg.pred hp 2 49 (by kernel_rfl) rfl rfl; exact g.trans (congrArg some hv)
      have g48 : cx.tmps[48]? = some (.bool true) := by obtain ⟨_, g, hv⟩ := Reg.pred hp 1 48 (by kernel_rfl) rfl rfl; exact g.trans (congrArg some hv)
      refine Reg.ok_call (f := 17) (args := #[.pointer (some ⟨Cb, 0, none⟩)]) (Reg.wanted_at (j := 1) (d := 48) rfl rfl rfl g48) (by go_simp) ((HPb.out wc hB).mono ?_)
      rintro e w' ⟨rfl, hB2⟩
      exact ⟨_, rfl, hB2, rfl⟩
    · intro cx wc hB hp hs
      have g15 : cx.tmps[15]? = some (.string P) := (hs 15 (by kernel_rfl)).trans rfl
      have g48 : cx.tmps[48]? = some (.bool true) := by obtain ⟨_, g, hv⟩ := Reg.pred hp 1 48 (by kernel_rfl) rfl rfl; exact g.trans (congrArg some hv)
      refine Reg.ok_value Reg.Old.refl (v := .string P) (Reg.wanted_at (j := 1) (d := 48) rfl rfl rfl g48) ?_ rfl
      go_simp
    · intro cx wc hB hp hs
      have g50 : cx.tmps[50]? = some (.string P) := by obtain ⟨_, g, hv⟩ := Reg.pred hp 3 50 (by kernel_rfl) rfl rfl; exact g.trans (congrArg some hv)
      have g51 : cx.tmps[51]? = some (.string P) := by obtain ⟨_, g, hv⟩ := Reg.pred hp 4 51 (by kernel_rfl) rfl rfl; exact g.trans (congrArg some hv)
      have g48 : cx.tmps[48]? = some (.bool true) := by obtain ⟨_, g, hv⟩ := Reg.pred hp 1 48 (by kernel_rfl) rfl rfl; exact g.trans (congrArg some hv)
      refine Reg.ok_value Reg.Old.refl (v := .bool true) (Reg.wanted_at (j := 1) (d := 48) rfl rfl rfl g48) ?_ rfl
      go_simp
    · intro cx wc hB hp hs
      have g48 : cx.tmps[48]? = some (.bool true) := by obtain ⟨_, g, hv⟩ := Reg.pred hp 1 48 (by kernel_rfl) rfl rfl; exact g.trans (congrArg some hv)
      have g52 : cx.tmps[52]? = some (.bool true) := by obtain ⟨_, g, hv⟩ := Reg.pred hp 5 52 (by kernel_rfl) rfl rfl; exact g.trans (congrArg some hv)
      refine Reg.ok_value Reg.Old.refl (v := .bool true) (Reg.wanted_none rfl) ?_ rfl
      go_simp
    · intro cx wc hB hp hs
      have g53 : cx.tmps[53]? = some (.bool true) := by obtain ⟨_, g, hv⟩ := Reg.pred hp 6 53 (by kernel_rfl) rfl rfl; exact g.trans (congrArg some hv)
      refine Reg.ok_value Reg.Old.refl (v := .bool true) (Reg.wanted_none rfl) ?_ rfl
      go_simp
    · intro cx wc hB hp hs
      have g13 : cx.tmps[13]? = some (.pointer (some ⟨Cd, 0, none⟩)) := (hs 13 (by kernel_rfl)).trans rfl
      have g54 : cx.tmps[54]? = some (.bool true) := by obtain ⟨_, g, hv⟩ := Reg.pred hp 7 54 (by kernel_rfl) rfl rfl; exact g.trans (congrArg some hv)
      refine Reg.ok_value Reg.Old.refl (v := .pointer (some ⟨Cd, 0, none⟩)) (Reg.wanted_at (j := 7) (d := 54) rfl rfl rfl g54) ?_ rfl
      go_simp
    · intro cx wc hB hp hs
      have g55 : cx.tmps[55]? = some (.pointer (some ⟨Cd, 0, none⟩)) := by obtain ⟨_, g, hv⟩ := Reg.pred hp 8 55 (by kernel_rfl) rfl rfl; exact g.trans (congrArg some hv)
      have g54 : cx.tmps[54]? = some (.bool true) := by obtain ⟨_, g, hv⟩ := Reg.pred hp 7 54 (by kernel_rfl) rfl rfl; exact g.trans (congrArg some hv)
      refine Reg.ok_call (f := 16) (args := #[.pointer (some ⟨Cd, 0, none⟩)]) (Reg.wanted_at (j := 7) (d := 54) rfl rfl rfl g54) (by go_simp) ((HFd.out wc hB).mono ?_)
      rintro e w' ⟨rfl, hB2⟩
      exact ⟨_, rfl, hB2, rfl⟩
    · intro cx wc hB hp hs
      have g1 : cx.tmps[1]? = some (.int .i64 g) := (hs 1 (by kernel_rfl)).trans rfl
      have g54 : cx.tmps[54]? = some (.bool true) := by obtain ⟨_, g, hv⟩ := Reg.pred hp 7 54 (by kernel_rfl) rfl rfl; exact g.trans (congrArg some hv)
      refine Reg.ok_value Reg.Old.refl (v := .int .i64 g) (Reg.wanted_at (j := 7) (d := 54) rfl rfl rfl g54) ?_ rfl
      go_simp
    · intro cx wc hB hp hs
      have g56 : cx.tmps[56]? = some (.int .i64 g) := by obtain ⟨_, g, hv⟩ := Reg.pred hp 9 56 (by kernel_rfl) rfl rfl; exact g.trans (congrArg some hv)
      have g57 : cx.tmps[57]? = some (.int .i64 g) := by obtain ⟨_, g, hv⟩ := Reg.pred hp 10 57 (by kernel_rfl) rfl rfl; exact g.trans (congrArg some hv)
      have g54 : cx.tmps[54]? = some (.bool true) := by obtain ⟨_, g, hv⟩ := Reg.pred hp 7 54 (by kernel_rfl) rfl rfl; exact g.trans (congrArg some hv)
      refine Reg.ok_value Reg.Old.refl (v := .bool true) (Reg.wanted_at (j := 7) (d := 54) rfl rfl rfl g54) ?_ rfl
      go_simp
    · intro cx wc hB hp hs
      have g54 : cx.tmps[54]? = some (.bool true) := by obtain ⟨_, g, hv⟩ := Reg.pred hp 7 54 (by kernel_rfl) rfl rfl; exact g.trans (congrArg some hv)
      have g58 : cx.tmps[58]? = some (.bool true) := by obtain ⟨_, g, hv⟩ := Reg.pred hp 11 58 (by kernel_rfl) rfl rfl; exact g.trans (congrArg some hv)
      refine Reg.ok_value Reg.Old.refl (v := .bool true) (Reg.wanted_none rfl) ?_ rfl
      go_simp
    · intro cx wc hB hp hs
      have g59 : cx.tmps[59]? = some (.bool true) := by obtain ⟨_, g, hv⟩ := Reg.pred hp 12 59 (by kernel_rfl) rfl rfl; exact g.trans (congrArg some hv)
      refine Reg.ok_value Reg.Old.refl (v := .bool true) (Reg.wanted_none rfl) ?_ rfl
      go_simp
    · intro cx wc hB hp hs
      have g13 : cx.tmps[13]? = some (.pointer (some ⟨Cd, 0, none⟩)) := (hs 13 (by kernel_rfl)).trans rfl
      have g60 : cx.tmps[60]? = some (.bool true) := by obtain ⟨_, g, hv⟩ := Reg.pred hp 13 60 (by kernel_rfl) rfl rfl; exact g.trans (congrArg some hv)
      refine Reg.ok_value Reg.Old.refl (v := .pointer (some ⟨Cd, 0, none⟩)) (Reg.wanted_at (j := 13) (d := 60) rfl rfl rfl g60) ?_ rfl
      go_simp
    · intro cx wc hB hp hs
      have g61 : cx.tmps[61]? = some (.pointer (some ⟨Cd, 0, none⟩)) := by obtain ⟨_, g, hv⟩ := Reg.pred hp 14 61 (by kernel_rfl) rfl rfl; exact g.trans (congrArg some hv)
      have g60 : cx.tmps[60]? = some (.bool true) := by obtain ⟨_, g, hv⟩ := Reg.pred hp 13 60 (by kernel_rfl) rfl rfl; exact g.trans (congrArg some hv)
      refine Reg.ok_value Reg.Old.refl (v := .pointer (some ⟨Cd, 0, none⟩)) (Reg.wanted_at (j := 13) (d := 60) rfl rfl rfl g60) ?_ rfl
      go_simp
    · intro cx wc hB hp hs
      have g62 : cx.tmps[62]? = some (.pointer (some ⟨Cd, 0, none⟩)) := by obtain ⟨_, g, hv⟩ := Reg.pred hp 15 62 (by kernel_rfl) rfl rfl; exact g.trans (congrArg some hv)
      have g60 : cx.tmps[60]? = some (.bool true) := by obtain ⟨_, g, hv⟩ := Reg.pred hp 13 60 (by kernel_rfl) rfl rfl; exact g.trans (congrArg some hv)
      refine Reg.ok_value Reg.Old.refl (v := .pointer (some ⟨Cd, 0, none⟩)) (Reg.wanted_at (j := 13) (d := 60) rfl rfl rfl g60) ?_ rfl
      go_simp
    · intro cx wc hB hp hs
      have g63 : cx.tmps[63]? = some (.pointer (some ⟨Cd, 0, none⟩)) := by obtain ⟨_, g, hv⟩ := Reg.pred hp 16 63 (by kernel_rfl) rfl rfl; exact g.trans (congrArg some hv)
      have g60 : cx.tmps[60]? = some (.bool true) := by obtain ⟨_, g, hv⟩ := Reg.pred hp 13 60 (by kernel_rfl) rfl rfl; exact g.trans (congrArg some hv)
      have hc := HKd.out.drew.below hB
      have k0 := hc.cell 0 (.pointer (some ⟨Bd, 0, none⟩)) rfl
      refine Reg.ok_value Reg.Old.refl (v := .pointer (some ⟨Bd, 0, none⟩)) (Reg.wanted_at (j := 13) (d := 60) rfl rfl rfl g60) ?_ rfl
      go_simp
    · intro cx wc hB hp hs
      have g64 : cx.tmps[64]? = some (.pointer (some ⟨Bd, 0, none⟩)) := by obtain ⟨_, g, hv⟩ := Reg.pred hp 17 64 (by kernel_rfl) rfl rfl; exact g.trans (congrArg some hv)
      have g60 : cx.tmps[60]? = some (.bool true) := by obtain ⟨_, g, hv⟩ := Reg.pred hp 13 60 (by kernel_rfl) rfl rfl; exact g.trans (congrArg some hv)
      refine Reg.ok_call (f := 15) (args := #[.pointer (some ⟨Bd, 0, none⟩)]) (Reg.wanted_at (j := 13) (d := 60) rfl rfl rfl g60) (by go_simp) ((HCd1.out wc hB).mono ?_)
      rintro e w' ⟨rfl, hB2⟩
      exact ⟨_, rfl, hB2, rfl⟩
    · intro cx wc hB hp hs
      have g14 : cx.tmps[14]? = some (.pointer (some ⟨Cb, 0, none⟩)) := (hs 14 (by kernel_rfl)).trans rfl
      have g60 : cx.tmps[60]? = some (.bool true) := by obtain ⟨_, g, hv⟩ := Reg.pred hp 13 60 (by kernel_rfl) rfl rfl; exact g.trans (congrArg some hv)
      refine Reg.ok_value Reg.Old.refl (v := .pointer (some ⟨Cb, 0, none⟩)) (Reg.wanted_at (j := 13) (d := 60) rfl rfl rfl g60) ?_ rfl
      go_simp
    · intro cx wc hB hp hs
      have g66 : cx.tmps[66]? = some (.pointer (some ⟨Cb, 0, none⟩)) := by obtain ⟨_, g, hv⟩ := Reg.pred hp 19 66 (by kernel_rfl) rfl rfl; exact g.trans (congrArg some hv)
      have g60 : cx.tmps[60]? = some (.bool true) := by obtain ⟨_, g, hv⟩ := Reg.pred hp 13 60 (by kernel_rfl) rfl rfl; exact g.trans (congrArg some hv)
      refine Reg.ok_value Reg.Old.refl (v := .pointer (some ⟨Cb, 0, none⟩)) (Reg.wanted_at (j := 13) (d := 60) rfl rfl rfl g60) ?_ rfl
      go_simp
    · intro cx wc hB hp hs
      have g67 : cx.tmps[67]? = some (.pointer (some ⟨Cb, 0, none⟩)) := by obtain ⟨_, g, hv⟩ := Reg.pred hp 20 67 (by kernel_rfl) rfl rfl; exact g.trans (congrArg some hv)
      have g60 : cx.tmps[60]? = some (.bool true) := by obtain ⟨_, g, hv⟩ := Reg.pred hp 13 60 (by kernel_rfl) rfl rfl; exact g.trans (congrArg some hv)
      refine Reg.ok_value Reg.Old.refl (v := .pointer (some ⟨Cb, 0, none⟩)) (Reg.wanted_at (j := 13) (d := 60) rfl rfl rfl g60) ?_ rfl
      go_simp
    · intro cx wc hB hp hs
      have g68 : cx.tmps[68]? = some (.pointer (some ⟨Cb, 0, none⟩)) := by obtain ⟨_, g, hv⟩ := Reg.pred hp 21 68 (by kernel_rfl) rfl rfl; exact g.trans (congrArg some hv)
      have g60 : cx.tmps[60]? = some (.bool true) := by obtain ⟨_, g, hv⟩ := Reg.pred hp 13 60 (by kernel_rfl) rfl rfl; exact g.trans (congrArg some hv)
      have hc := HKb.out.drew.below hB
      have k0 := hc.cell 0 (.pointer (some ⟨Bb, 0, none⟩)) rfl
      refine Reg.ok_value Reg.Old.refl (v := .pointer (some ⟨Bb, 0, none⟩)) (Reg.wanted_at (j := 13) (d := 60) rfl rfl rfl g60) ?_ rfl
      go_simp
    · intro cx wc hB hp hs
      have g69 : cx.tmps[69]? = some (.pointer (some ⟨Bb, 0, none⟩)) := by obtain ⟨_, g, hv⟩ := Reg.pred hp 22 69 (by kernel_rfl) rfl rfl; exact g.trans (congrArg some hv)
      have g60 : cx.tmps[60]? = some (.bool true) := by obtain ⟨_, g, hv⟩ := Reg.pred hp 13 60 (by kernel_rfl) rfl rfl; exact g.trans (congrArg some hv)
      refine Reg.ok_call (f := 15) (args := #[.pointer (some ⟨Bb, 0, none⟩)]) (Reg.wanted_at (j := 13) (d := 60) rfl rfl rfl g60) (by go_simp) ((HCb1.out wc hB).mono ?_)
      rintro e w' ⟨rfl, hB2⟩
      exact ⟨_, rfl, hB2, rfl⟩
    · intro cx wc hB hp hs
      have g70 : cx.tmps[70]? = some (.int .u64 ((N : Int))) := by obtain ⟨_, g, hv⟩ := Reg.pred hp 23 70 (by kernel_rfl) rfl rfl; exact g.trans (congrArg some hv)
      have g60 : cx.tmps[60]? = some (.bool true) := by obtain ⟨_, g, hv⟩ := Reg.pred hp 13 60 (by kernel_rfl) rfl rfl; exact g.trans (congrArg some hv)
      refine Reg.ok_value Reg.Old.refl (v := .int .u64 ((N : Int) + 1)) (Reg.wanted_at (j := 13) (d := 60) rfl rfl rfl g60) ?_ rfl
      go_simp
      rw [IntKind.wrap_u64]
      omega
    · intro cx wc hB hp hs
      have g65 : cx.tmps[65]? = some (.int .u64 ((M1 : Int))) := by obtain ⟨_, g, hv⟩ := Reg.pred hp 18 65 (by kernel_rfl) rfl rfl; exact g.trans (congrArg some hv)
      have g71 : cx.tmps[71]? = some (.int .u64 ((N : Int) + 1)) := by obtain ⟨_, g, hv⟩ := Reg.pred hp 24 71 (by kernel_rfl) rfl rfl; exact g.trans (congrArg some hv)
      have g60 : cx.tmps[60]? = some (.bool true) := by obtain ⟨_, g, hv⟩ := Reg.pred hp 13 60 (by kernel_rfl) rfl rfl; exact g.trans (congrArg some hv)
      have e1 := HM1.out
      refine Reg.ok_value Reg.Old.refl (v := .bool true) (Reg.wanted_at (j := 13) (d := 60) rfl rfl rfl g60) ?_ rfl
      go_simp
    · intro cx wc hB hp hs
      have g60 : cx.tmps[60]? = some (.bool true) := by obtain ⟨_, g, hv⟩ := Reg.pred hp 13 60 (by kernel_rfl) rfl rfl; exact g.trans (congrArg some hv)
      have g72 : cx.tmps[72]? = some (.bool true) := by obtain ⟨_, g, hv⟩ := Reg.pred hp 25 72 (by kernel_rfl) rfl rfl; exact g.trans (congrArg some hv)
      refine Reg.ok_value Reg.Old.refl (v := .bool true) (Reg.wanted_none rfl) ?_ rfl
      go_simp
    · intro cx wc hB hp hs
      have g73 : cx.tmps[73]? = some (.bool true) := by obtain ⟨_, g, hv⟩ := Reg.pred hp 26 73 (by kernel_rfl) rfl rfl; exact g.trans (congrArg some hv)
      refine Reg.ok_value Reg.Old.refl (v := .bool true) (Reg.wanted_none rfl) ?_ rfl
      go_simp
    · intro cx wc hB hp hs
      have g16 : cx.tmps[16]? = some (.int .i64 0) := (hs 16 (by kernel_rfl)).trans rfl
      have g74 : cx.tmps[74]? = some (.bool true) := by obtain ⟨_, g, hv⟩ := Reg.pred hp 27 74 (by kernel_rfl) rfl rfl; exact g.trans (congrArg some hv)
      refine Reg.ok_value Reg.Old.refl (v := .int .i64 0) (Reg.wanted_at (j := 27) (d := 74) rfl rfl rfl g74) ?_ rfl
      go_simp
    · intro cx wc hB hp hs
      have g75 : cx.tmps[75]? = some (.int .i64 0) := by obtain ⟨_, g, hv⟩ := Reg.pred hp 28 75 (by kernel_rfl) rfl rfl; exact g.trans (congrArg some hv)
      have g74 : cx.tmps[74]? = some (.bool true) := by obtain ⟨_, g, hv⟩ := Reg.pred hp 27 74 (by kernel_rfl) rfl rfl; exact g.trans (congrArg some hv)
      refine Reg.ok_value Reg.Old.refl (v := .bool true) (Reg.wanted_at (j := 27) (d := 74) rfl rfl rfl g74) ?_ rfl
      go_simp
    · intro cx wc hB hp hs
      have g74 : cx.tmps[74]? = some (.bool true) := by obtain ⟨_, g, hv⟩ := Reg.pred hp 27 74 (by kernel_rfl) rfl rfl; exact g.trans (congrArg some hv)
      have g76 : cx.tmps[76]? = some (.bool true) := by obtain ⟨_, g, hv⟩ := Reg.pred hp 29 76 (by kernel_rfl) rfl rfl; exact g.trans (congrArg some hv)
      refine Reg.ok_value Reg.Old.refl (v := .bool true) (Reg.wanted_none rfl) ?_ rfl
      go_simp
    · intro cx wc hB hp hs
      have g77 : cx.tmps[77]? = some (.bool true) := by obtain ⟨_, g, hv⟩ := Reg.pred hp 30 77 (by kernel_rfl) rfl rfl; exact g.trans (congrArg some hv)
      refine Reg.ok_value Reg.Old.refl (v := .bool true) (Reg.wanted_none rfl) ?_ rfl
      go_simp
    · intro cx wc hB hp hs
      have g12 : cx.tmps[12]? = some (.pointer (some ⟨Cc, 0, none⟩)) := (hs 12 (by kernel_rfl)).trans rfl
      have g78 : cx.tmps[78]? = some (.bool true) := by obtain ⟨_, g, hv⟩ := Reg.pred hp 31 78 (by kernel_rfl) rfl rfl; exact g.trans (congrArg some hv)
      refine Reg.ok_value Reg.Old.refl (v := .pointer (some ⟨Cc, 0, none⟩)) (Reg.wanted_at (j := 31) (d := 78) rfl rfl rfl g78) ?_ rfl
      go_simp
    · intro cx wc hB hp hs
      have g79 : cx.tmps[79]? = some (.pointer (some ⟨Cc, 0, none⟩)) := by obtain ⟨_, g, hv⟩ := Reg.pred hp 32 79 (by kernel_rfl) rfl rfl; exact g.trans (congrArg some hv)
      have g78 : cx.tmps[78]? = some (.bool true) := by obtain ⟨_, g, hv⟩ := Reg.pred hp 31 78 (by kernel_rfl) rfl rfl; exact g.trans (congrArg some hv)
      refine Reg.ok_value Reg.Old.refl (v := .pointer (some ⟨Cc, 0, none⟩)) (Reg.wanted_at (j := 31) (d := 78) rfl rfl rfl g78) ?_ rfl
      go_simp
    · intro cx wc hB hp hs
      have g80 : cx.tmps[80]? = some (.pointer (some ⟨Cc, 0, none⟩)) := by obtain ⟨_, g, hv⟩ := Reg.pred hp 33 80 (by kernel_rfl) rfl rfl; exact g.trans (congrArg some hv)
      have g78 : cx.tmps[78]? = some (.bool true) := by obtain ⟨_, g, hv⟩ := Reg.pred hp 31 78 (by kernel_rfl) rfl rfl; exact g.trans (congrArg some hv)
      refine Reg.ok_value Reg.Old.refl (v := .pointer (some ⟨Cc, 0, none⟩)) (Reg.wanted_at (j := 31) (d := 78) rfl rfl rfl g78) ?_ rfl
      go_simp
    · intro cx wc hB hp hs
      have g81 : cx.tmps[81]? = some (.pointer (some ⟨Cc, 0, none⟩)) := by obtain ⟨_, g, hv⟩ := Reg.pred hp 34 81 (by kernel_rfl) rfl rfl; exact g.trans (congrArg some hv)
      have g78 : cx.tmps[78]? = some (.bool true) := by obtain ⟨_, g, hv⟩ := Reg.pred hp 31 78 (by kernel_rfl) rfl rfl; exact g.trans (congrArg some hv)
      have hc := HKc.out.drew.below hB
      have k0 := hc.cell 0 (.pointer (some ⟨Bc, 0, none⟩)) rfl
      refine Reg.ok_value Reg.Old.refl (v := .pointer (some ⟨Bc, 0, none⟩)) (Reg.wanted_at (j := 31) (d := 78) rfl rfl rfl g78) ?_ rfl
      go_simp
    · intro cx wc hB hp hs
      have g82 : cx.tmps[82]? = some (.pointer (some ⟨Bc, 0, none⟩)) := by obtain ⟨_, g, hv⟩ := Reg.pred hp 35 82 (by kernel_rfl) rfl rfl; exact g.trans (congrArg some hv)
      have g78 : cx.tmps[78]? = some (.bool true) := by obtain ⟨_, g, hv⟩ := Reg.pred hp 31 78 (by kernel_rfl) rfl rfl; exact g.trans (congrArg some hv)
      refine Reg.ok_call (f := 15) (args := #[.pointer (some ⟨Bc, 0, none⟩)]) (Reg.wanted_at (j := 31) (d := 78) rfl rfl rfl g78) (by go_simp) ((HCc1.out wc hB).mono ?_)
      rintro e w' ⟨rfl, hB2⟩
      exact ⟨_, rfl, hB2, rfl⟩
    · intro cx wc hB hp hs
      have g14 : cx.tmps[14]? = some (.pointer (some ⟨Cb, 0, none⟩)) := (hs 14 (by kernel_rfl)).trans rfl
      have g78 : cx.tmps[78]? = some (.bool true) := by obtain ⟨_, g, hv⟩ := Reg.pred hp 31 78 (by kernel_rfl) rfl rfl; exact g.trans (congrArg some hv)
      refine Reg.ok_value Reg.Old.refl (v := .pointer (some ⟨Cb, 0, none⟩)) (Reg.wanted_at (j := 31) (d := 78) rfl rfl rfl g78) ?_ rfl
      go_simp
    · intro cx wc hB hp hs
      have g84 : cx.tmps[84]? = some (.pointer (some ⟨Cb, 0, none⟩)) := by obtain ⟨_, g, hv⟩ := Reg.pred hp 37 84 (by kernel_rfl) rfl rfl; exact g.trans (congrArg some hv)
      have g78 : cx.tmps[78]? = some (.bool true) := by obtain ⟨_, g, hv⟩ := Reg.pred hp 31 78 (by kernel_rfl) rfl rfl; exact g.trans (congrArg some hv)
      refine Reg.ok_value Reg.Old.refl (v := .pointer (some ⟨Cb, 0, none⟩)) (Reg.wanted_at (j := 31) (d := 78) rfl rfl rfl g78) ?_ rfl
      go_simp
    · intro cx wc hB hp hs
      have g85 : cx.tmps[85]? = some (.pointer (some ⟨Cb, 0, none⟩)) := by obtain ⟨_, g, hv⟩ := Reg.pred hp 38 85 (by kernel_rfl) rfl rfl; exact g.trans (congrArg some hv)
      have g78 : cx.tmps[78]? = some (.bool true) := by obtain ⟨_, g, hv⟩ := Reg.pred hp 31 78 (by kernel_rfl) rfl rfl; exact g.trans (congrArg some hv)
      refine Reg.ok_value Reg.Old.refl (v := .pointer (some ⟨Cb, 0, none⟩)) (Reg.wanted_at (j := 31) (d := 78) rfl rfl rfl g78) ?_ rfl
      go_simp
    · intro cx wc hB hp hs
      have g86 : cx.tmps[86]? = some (.pointer (some ⟨Cb, 0, none⟩)) := by obtain ⟨_, g, hv⟩ := Reg.pred hp 39 86 (by kernel_rfl) rfl rfl; exact g.trans (congrArg some hv)
      have g78 : cx.tmps[78]? = some (.bool true) := by obtain ⟨_, g, hv⟩ := Reg.pred hp 31 78 (by kernel_rfl) rfl rfl; exact g.trans (congrArg some hv)
      have hc := HKb.out.drew.below hB
      have k0 := hc.cell 0 (.pointer (some ⟨Bb, 0, none⟩)) rfl
      refine Reg.ok_value Reg.Old.refl (v := .pointer (some ⟨Bb, 0, none⟩)) (Reg.wanted_at (j := 31) (d := 78) rfl rfl rfl g78) ?_ rfl
      go_simp
    · intro cx wc hB hp hs
      have g87 : cx.tmps[87]? = some (.pointer (some ⟨Bb, 0, none⟩)) := by obtain ⟨_, g, hv⟩ := Reg.pred hp 40 87 (by kernel_rfl) rfl rfl; exact g.trans (congrArg some hv)
      have g78 : cx.tmps[78]? = some (.bool true) := by obtain ⟨_, g, hv⟩ := Reg.pred hp 31 78 (by kernel_rfl) rfl rfl; exact g.trans (congrArg some hv)
      refine Reg.ok_call (f := 15) (args := #[.pointer (some ⟨Bb, 0, none⟩)]) (Reg.wanted_at (j := 31) (d := 78) rfl rfl rfl g78) (by go_simp) ((HCb1.out wc hB).mono ?_)
      rintro e w' ⟨rfl, hB2⟩
      exact ⟨_, rfl, hB2, rfl⟩
    · intro cx wc hB hp hs
      have g88 : cx.tmps[88]? = some (.int .u64 ((N : Int))) := by obtain ⟨_, g, hv⟩ := Reg.pred hp 41 88 (by kernel_rfl) rfl rfl; exact g.trans (congrArg some hv)
      have g78 : cx.tmps[78]? = some (.bool true) := by obtain ⟨_, g, hv⟩ := Reg.pred hp 31 78 (by kernel_rfl) rfl rfl; exact g.trans (congrArg some hv)
      refine Reg.ok_value Reg.Old.refl (v := .int .u64 (2 * (N : Int))) (Reg.wanted_at (j := 31) (d := 78) rfl rfl rfl g78) ?_ rfl
      go_simp
      rw [IntKind.wrap_u64]
      omega
    · intro cx wc hB hp hs
      have g83 : cx.tmps[83]? = some (.int .u64 ((M2 : Int))) := by obtain ⟨_, g, hv⟩ := Reg.pred hp 36 83 (by kernel_rfl) rfl rfl; exact g.trans (congrArg some hv)
      have g89 : cx.tmps[89]? = some (.int .u64 (2 * (N : Int))) := by obtain ⟨_, g, hv⟩ := Reg.pred hp 42 89 (by kernel_rfl) rfl rfl; exact g.trans (congrArg some hv)
      have g78 : cx.tmps[78]? = some (.bool true) := by obtain ⟨_, g, hv⟩ := Reg.pred hp 31 78 (by kernel_rfl) rfl rfl; exact g.trans (congrArg some hv)
      have e1 := HM2.out
      refine Reg.ok_value Reg.Old.refl (v := .bool true) (Reg.wanted_at (j := 31) (d := 78) rfl rfl rfl g78) ?_ rfl
      go_simp
    · intro cx wc hB hp hs
      have g78 : cx.tmps[78]? = some (.bool true) := by obtain ⟨_, g, hv⟩ := Reg.pred hp 31 78 (by kernel_rfl) rfl rfl; exact g.trans (congrArg some hv)
      have g90 : cx.tmps[90]? = some (.bool true) := by obtain ⟨_, g, hv⟩ := Reg.pred hp 43 90 (by kernel_rfl) rfl rfl; exact g.trans (congrArg some hv)
      refine Reg.ok_value Reg.Old.refl (v := .bool true) (Reg.wanted_none rfl) ?_ rfl
      go_simp
    · intro cx wc hB hp hs
      have g91 : cx.tmps[91]? = some (.bool true) := by obtain ⟨_, g, hv⟩ := Reg.pred hp 44 91 (by kernel_rfl) rfl rfl; exact g.trans (congrArg some hv)
      refine Reg.ok_value Reg.Old.refl (v := .bool true) (Reg.wanted_none rfl) ?_ rfl
      go_simp
    · intro cx wc hB hp hs
      have g12 : cx.tmps[12]? = some (.pointer (some ⟨Cc, 0, none⟩)) := (hs 12 (by kernel_rfl)).trans rfl
      have g92 : cx.tmps[92]? = some (.bool true) := by obtain ⟨_, g, hv⟩ := Reg.pred hp 45 92 (by kernel_rfl) rfl rfl; exact g.trans (congrArg some hv)
      refine Reg.ok_value Reg.Old.refl (v := .pointer (some ⟨Cc, 0, none⟩)) (Reg.wanted_at (j := 45) (d := 92) rfl rfl rfl g92) ?_ rfl
      go_simp
    · intro cx wc hB hp hs
      have g93 : cx.tmps[93]? = some (.pointer (some ⟨Cc, 0, none⟩)) := by obtain ⟨_, g, hv⟩ := Reg.pred hp 46 93 (by kernel_rfl) rfl rfl; exact g.trans (congrArg some hv)
      have g92 : cx.tmps[92]? = some (.bool true) := by obtain ⟨_, g, hv⟩ := Reg.pred hp 45 92 (by kernel_rfl) rfl rfl; exact g.trans (congrArg some hv)
      refine Reg.ok_call (f := 14) (args := #[.pointer (some ⟨Cc, 0, none⟩)]) (Reg.wanted_at (j := 45) (d := 92) rfl rfl rfl g92) (by go_simp) ((HSc.out wc hB).mono ?_)
      rintro e w' ⟨rfl, hB2⟩
      exact ⟨_, rfl, hB2, rfl⟩
    · intro cx wc hB hp hs
      have g14 : cx.tmps[14]? = some (.pointer (some ⟨Cb, 0, none⟩)) := (hs 14 (by kernel_rfl)).trans rfl
      have g92 : cx.tmps[92]? = some (.bool true) := by obtain ⟨_, g, hv⟩ := Reg.pred hp 45 92 (by kernel_rfl) rfl rfl; exact g.trans (congrArg some hv)
      refine Reg.ok_value Reg.Old.refl (v := .pointer (some ⟨Cb, 0, none⟩)) (Reg.wanted_at (j := 45) (d := 92) rfl rfl rfl g92) ?_ rfl
      go_simp
    · intro cx wc hB hp hs
      have g95 : cx.tmps[95]? = some (.pointer (some ⟨Cb, 0, none⟩)) := by obtain ⟨_, g, hv⟩ := Reg.pred hp 48 95 (by kernel_rfl) rfl rfl; exact g.trans (congrArg some hv)
      have g92 : cx.tmps[92]? = some (.bool true) := by obtain ⟨_, g, hv⟩ := Reg.pred hp 45 92 (by kernel_rfl) rfl rfl; exact g.trans (congrArg some hv)
      refine Reg.ok_call (f := 14) (args := #[.pointer (some ⟨Cb, 0, none⟩)]) (Reg.wanted_at (j := 45) (d := 92) rfl rfl rfl g92) (by go_simp) ((HSb.out wc hB).mono ?_)
      rintro e w' ⟨rfl, hB2⟩
      exact ⟨_, rfl, hB2, rfl⟩
    · intro cx wc hB hp hs
      have g14 : cx.tmps[14]? = some (.pointer (some ⟨Cb, 0, none⟩)) := (hs 14 (by kernel_rfl)).trans rfl
      have g92 : cx.tmps[92]? = some (.bool true) := by obtain ⟨_, g, hv⟩ := Reg.pred hp 45 92 (by kernel_rfl) rfl rfl; exact g.trans (congrArg some hv)
      refine Reg.ok_value Reg.Old.refl (v := .pointer (some ⟨Cb, 0, none⟩)) (Reg.wanted_at (j := 45) (d := 92) rfl rfl rfl g92) ?_ rfl
      go_simp
    · intro cx wc hB hp hs
      have g97 : cx.tmps[97]? = some (.pointer (some ⟨Cb, 0, none⟩)) := by obtain ⟨_, g, hv⟩ := Reg.pred hp 50 97 (by kernel_rfl) rfl rfl; exact g.trans (congrArg some hv)
      have g92 : cx.tmps[92]? = some (.bool true) := by obtain ⟨_, g, hv⟩ := Reg.pred hp 45 92 (by kernel_rfl) rfl rfl; exact g.trans (congrArg some hv)
      refine Reg.ok_call (f := 14) (args := #[.pointer (some ⟨Cb, 0, none⟩)]) (Reg.wanted_at (j := 45) (d := 92) rfl rfl rfl g92) (by go_simp) ((HSb.out wc hB).mono ?_)
      rintro e w' ⟨rfl, hB2⟩
      exact ⟨_, rfl, hB2, rfl⟩
    · intro cx wc hB hp hs
      have g96 : cx.tmps[96]? = some (Wi.sv q.sum) := by obtain ⟨_, g, hv⟩ := Reg.pred hp 49 96 (by kernel_rfl) rfl rfl; exact g.trans (congrArg some hv)
      have g98 : cx.tmps[98]? = some (Wi.sv q.sum) := by obtain ⟨_, g, hv⟩ := Reg.pred hp 51 98 (by kernel_rfl) rfl rfl; exact g.trans (congrArg some hv)
      have g92 : cx.tmps[92]? = some (.bool true) := by obtain ⟨_, g, hv⟩ := Reg.pred hp 45 92 (by kernel_rfl) rfl rfl; exact g.trans (congrArg some hv)
      refine Reg.ok_call (f := 8) (args := #[Wi.sv q.sum, Wi.sv q.sum]) (Reg.wanted_at (j := 45) (d := 92) rfl rfl rfl g92) (by go_simp) ((HAD.out wc).mono ?_)
      rintro e w' ⟨rfl, hB2⟩
      exact ⟨_, rfl, hB2, rfl⟩
    · intro cx wc hB hp hs
      have g94 : cx.tmps[94]? = some (Wi.sv Z) := by obtain ⟨_, g, hv⟩ := Reg.pred hp 47 94 (by kernel_rfl) rfl rfl; exact g.trans (congrArg some hv)
      have g99 : cx.tmps[99]? = some (Wi.sv Z) := by obtain ⟨_, g, hv⟩ := Reg.pred hp 52 99 (by kernel_rfl) rfl rfl; exact g.trans (congrArg some hv)
      have g92 : cx.tmps[92]? = some (.bool true) := by obtain ⟨_, g, hv⟩ := Reg.pred hp 45 92 (by kernel_rfl) rfl rfl; exact g.trans (congrArg some hv)
      have e1 := sum_eql (Wi.shi Z) (Wi.shi Z) (Wi.slo Z) (Wi.slo Z) wc
      have e2 := sum_guard (.tmp 94) (.tmp 99) #[.int .i64 (Wi.shi Z), .int .u64 (Wi.slo Z)] #[.int .i64 (Wi.shi Z), .int .u64 (Wi.slo Z)] wc
      refine Reg.ok_value Reg.Old.refl (v := .bool true) (Reg.wanted_at (j := 45) (d := 92) rfl rfl rfl g92) ?_ rfl
      go_simp
    · intro cx wc hB hp hs
      have g92 : cx.tmps[92]? = some (.bool true) := by obtain ⟨_, g, hv⟩ := Reg.pred hp 45 92 (by kernel_rfl) rfl rfl; exact g.trans (congrArg some hv)
      have g100 : cx.tmps[100]? = some (.bool true) := by obtain ⟨_, g, hv⟩ := Reg.pred hp 53 100 (by kernel_rfl) rfl rfl; exact g.trans (congrArg some hv)
      refine Reg.ok_value Reg.Old.refl (v := .bool true) (Reg.wanted_none rfl) ?_ rfl
      go_simp
    · intro cx wc hB hp hs
      have g101 : cx.tmps[101]? = some (.bool true) := by obtain ⟨_, g, hv⟩ := Reg.pred hp 54 101 (by kernel_rfl) rfl rfl; exact g.trans (congrArg some hv)
      refine Reg.ok_value Reg.Old.refl (v := .bool true) (Reg.wanted_none rfl) ?_ rfl
      go_simp
  · intro d wc hB hsz hdf hv ho
    have gr : d.tmps[10]? = some (.bool true) := by obtain ⟨_, g, hv⟩ := hv 55 _ 10 rfl rfl; exact g.trans (congrArg some hv)
    have hF : Below w.heap.size w wc := HB8.out.trans (hB.mono HB8.out.size)
    clear hv ho hB
    go_wp2
    refine bodyPost_ret (v := .bool true) ?_ hdf ⟨rfl, hF⟩
    simp [results, Tryd.results6, go_sem, gr]
theorem CellMoves_walk (a0 : Int) (h0 : (Lit.int .i64 a0).wf = true) (a1 : Int) (h1 : (Lit.int .i64 a1).wf = true) (a2 : Int) (h2 : (Lit.int .u8 a2).wf = true) (p3 : Option Addr) (xs3 : List Int) (cap3 : Nat) (hl3 : xs3.length ≤ cap3) (hm3 : cap3 ≤ maxLen) (a4 : Int) (h4 : (Lit.int .i64 a4).wf = true) (W : World) (hn3 : Ints p3 xs3 W) (hT : Wi.Tens W) :
    Calls Tryd.prog 6 #[.int .i64 a0, .int .i64 a1, .int .u8 a2, .slice p3 xs3.length cap3, .int .i64 a4] W fun e W' => e = .returned (.bool true) ∧ Below W.heap.size W W' := by
  obtain ⟨x, rfl, hx⟩ := wf_u8 h2
  exact CellMoves_core a0 (wf_i64 h0) a1 (wf_i64 h1) x hx p3 xs3 cap3 hl3 (by unfold maxLen at hm3; omega) a4 (wf_i64 h4) W hT hn3
end Go.Proofs.YtmjipafhahggpaaDoor.Ce

