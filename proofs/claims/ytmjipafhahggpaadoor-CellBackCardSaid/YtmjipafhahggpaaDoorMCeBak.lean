/- CellBack, walked. -/
import Derived.Test.YtmjipafhahggpaaDoorMCeMov
namespace Go.Proofs.YtmjipafhahggpaaDoor.Ce
open Go Go.RowKit Hi

theorem cut_list (t : ByteArray) (q : Nat) : (t.extract 0 q).data.toList = t.data.toList.take q := by rw [extract_toList]; rfl
theorem loop_len (bs : ByteArray) : ∀ (n i : Nat) (r : List UInt8), bs.size - i = n → (ByteArray.toList.loop bs i r).length = r.length + n
  | 0, i, r, h => by
    unfold ByteArray.toList.loop
    rw [if_neg (by omega), List.length_reverse]
    rfl
  | n + 1, i, r, h => by
    unfold ByteArray.toList.loop
    rw [if_pos (by omega), loop_len bs n (i + 1) _ (by omega), List.length_cons]
    omega
theorem not_empty {t : ByteArray} (h : 0 < t.size) : t.toList.isEmpty = false := by
  have h1 := loop_len t t.size 0 [] rfl
  have h2 : t.toList.length = t.size := by unfold ByteArray.toList; rw [h1]; simp
  cases h3 : t.toList with
  | nil => rw [h3] at h2; simp at h2; omega
  | cons a l => rfl
def BackPhi (Cc Bc Cd _ Cy By : Nat) (_ : Cel) (N M1 : Nat) (P s : ByteArray) : Nat → Value → World → Prop
  | i, v, _ => v = ([.bool true, .bool true, .int .i64 0, .bool true, .bool true, .bool true, .pointer (some ⟨Cd, 0, none⟩), .bool true, .bool true, .bool true, .pointer (some ⟨Cc, 0, none⟩), .pointer (some ⟨Cd, 0, none⟩), .bool true, .bool true, .bool true, .string s, .string s, .bool true, .bool true, .bool true, .pointer none, .bool true, .bool true, .bool true, .int .i64 2, .bool true, .bool true, .bool true, .pointer (some ⟨Cc, 0, none⟩), .string P, .string P, .bool true, .bool true, .bool true, .pointer (some ⟨Cy, 0, none⟩), .pointer (some ⟨Cy, 0, none⟩), .pointer (some ⟨Cy, 0, none⟩), .pointer (some ⟨By, 0, none⟩), .int .u64 ((M1 : Int)), .pointer (some ⟨Cc, 0, none⟩), .pointer (some ⟨Cc, 0, none⟩), .pointer (some ⟨Cc, 0, none⟩), .pointer (some ⟨Bc, 0, none⟩), .int .u64 ((N : Int)), .int .u64 ((N : Int) + 1), .bool true, .bool true, .bool true] : List Value).getD i undef
theorem BackPhi.stays {Cc Bc Cd Bd Cy By : Nat} {q : Cel} {N M1 : Nat} {P s : ByteArray} : ∀ i v wx wy, BackPhi Cc Bc Cd Bd Cy By q N M1 P s i v wx → Reg.Old wx wy → BackPhi Cc Bc Cd Bd Cy By q N M1 P s i v wy := fun _ _ _ _ h _ => h
set_option maxRecDepth 100000 in
set_option maxHeartbeats 16000000 in
theorem CellBack_core (f : Int) (hf : In64 f) (x : Nat) (hx : x < 256) (p : Option Addr) (xs : List Int) (cap : Nat) (hc : xs.length ≤ cap) (_ : cap ≤ 9223372036854775807) (s : ByteArray) (hs : s.size ≤ 140737488355328) (c : Nat) (hcut : c < 65536)
    (w : World) (hT : Wi.Tens w) (hN : Ints p xs w) :
    Calls Tryd.prog 4 #[.int .i64 f, .int .u8 x, .slice p xs.length cap, .string s, .int .u16 c] w fun e w' => e = .returned (.bool true) ∧ Below w.heap.size w w' := by
  have HT := Lib.hid hT
  have HN := Lib.hid (hN.take 30)
  obtain ⟨k, hk⟩ : ∃ k, x % 5 = k := ⟨_, rfl⟩
  have hk4 : k ≤ 4 := by omega
  have hki : (x : Int) % 5 = (k : Int) := by omega
  have hlL : (xs.take 30).length = min xs.length 30 := by rw [List.length_take]; omega
  have H64 : Hid (∀ y ∈ xs.take 30, In64 y) := Lib.hid (hN.take 30).in64
  generalize xs.take 30 = L at *
  generalize xs.length = n at *
  have hm1i : min (n : Int) 30 = L.length := by omega
  have hL100 : L.length ≤ 30 := by omega
  have hLn : L.length ≤ cap := by omega
  have HOF : Hid (∀ W, Ints p L W → Calls Tryd.prog 10 #[.int .i64 f, .int .i64 k, .slice p L.length cap] W fun e w' => ∃ C S, e = .returned (.pointer (some ⟨C, 0, none⟩)) ∧ At.Made (celN k f L) W C S w') := Lib.hid fun W hW => of_any f hf k hk4 p L cap (by omega) W hW
  have HOK : Hid ((celN k f L).Fit) := Lib.hid (celN_fit hk4 hf (by omega) H64.out)
  have HCN : Hid (countH (celN k f L).its = L.length) := Lib.hid (celN_many k f L)
  clear hN hk hT hf hlL
  go_enter Tryd.func4, Tryd.ntmps4
  have HB0 : Hid (Below w.heap.size w w) := Lib.hid (Below.refl _ _)
  go_wp2_with fail
  refine (examples_any _ HT.out).mono ?_
  rintro e w1 ⟨rfl, hB⟩
  have HB1 : Hid (Below w.heap.size w w1) := Lib.hid (HB0.out.trans (hB.mono HB0.out.size))
  clear hB HB0 HT
  have ho := HOF.out _ (HN.out.below HB1.out)
  generalize celN k f L = q at *
  go_wp2_with fail
  refine (ho).mono ?_
  rintro e w2 ⟨Cc, Sc, rfl, hA, hlo, hB⟩
  have HA := Lib.hid hA
  have HSc : Hid (∀ i, Sc i → w.heap.size ≤ i) := Lib.hid fun i hi => Nat.le_trans HB1.out.size (hlo i hi)
  clear hA hlo
  have HB2 : Hid (Below w.heap.size w w2) := Lib.hid (HB1.out.trans (hB.mono HB1.out.size))
  clear hB HB1 ho HOF HN
  have Hc2 : Hid (At Sc Cc q w2) := HA
  clear HA
  obtain ⟨P, hP⟩ : ∃ P, tx q.put = P := ⟨_, rfl⟩
  have hlen : q.put.length ≤ 20100 := HOK.out.ok.len
  have hPl : P.data.toList = q.put := by rw [← hP]; rfl
  have hPs : P.size = q.put.length := by rw [← hP, tx_size]
  have h43 : 43 ≤ q.put.length := by rw [Cel.put_len]; omega
  obtain ⟨T, hT⟩ : ∃ T, P.size = T := ⟨_, rfl⟩
  obtain ⟨r, hr⟩ : ∃ r, c % T = r := ⟨_, rfl⟩
  have hT1 : 43 ≤ T := by omega
  have hT2 : T ≤ 20100 := by omega
  have hrT : r < T := by rw [← hr]; exact Nat.mod_lt _ (by omega)
  have hri : (c : Int) % (T : Int) = (r : Int) := by rw [← hr]; rfl
  have HG1 : Hid (∀ W, Calls Tryd.prog 18 #[.string (P ++ s)] W fun e w' => (∃ C S, e = .returned (.tuple #[.pointer (some ⟨C, 0, none⟩), .string s, .int .i64 0]) ∧ At S C q w' ∧ ∀ i, S i → W.heap.size ≤ i) ∧ Below W.heap.size W w') := Lib.hid fun W => by
    have := get_any (P ++ s) (by rw [ByteArray.size_append]; unfold maxLen; omega) W
    rw [show (P ++ s).data.toList = q.put ++ s.data.toList by rw [← hPl]; simp, getC_put HOK.out] at this
    rw [← tx_list s]
    exact this
  have HG2 : Hid (∀ W, Calls Tryd.prog 18 #[.string (P.extract 0 r)] W fun e w' => e = .returned (.tuple #[.pointer none, .string ⟨#[]⟩, .int .i64 2]) ∧ Below W.heap.size W w') := Lib.hid fun W => by
    have := get_any (P.extract 0 r) (by unfold maxLen; simp [ByteArray.size_extract]; omega) W
    rw [cut_list, hPl, getC_cut HOK.out.ok r (by omega)] at this
    exact this
  have hne := not_empty (t := P) (by omega)
  have z1 : (9223372036854775807 < T + s.size) = False := eq_false (by omega)
  have HP := Lib.hid hP
  clear hP hlen hPl hPs h43 hr
  have h1 := put_any Hc2.out
  rw [HP.out] at h1
  go_wp2_with fail
  refine (h1).mono ?_
  rintro e w3 ⟨rfl, hB⟩
  have HB3 : Hid (Below w.heap.size w w3) := Lib.hid (HB2.out.trans (hB.mono HB2.out.size))
  have Hc3 := Lib.hid (Hc2.out.below hB)
  clear hB HB2 Hc2 h1
  have h1 := put_any Hc3.out
  rw [HP.out] at h1
  go_wp2_with fail
  refine (h1).mono ?_
  rintro e w4 ⟨rfl, hB⟩
  have HB4 : Hid (Below w.heap.size w w4) := Lib.hid (HB3.out.trans (hB.mono HB3.out.size))
  have Hc4 := Lib.hid (Hc3.out.below hB)
  clear hB HB3 Hc3 h1 hne
  go_wp2_with fail
  refine (HG1.out _).mono ?_
  rintro e w5 ⟨⟨Cd, Sd, rfl, hA, hlo⟩, hB⟩
  have HA := Lib.hid hA
  have HSd : Hid (∀ i, Sd i → w.heap.size ≤ i) := Lib.hid fun i hi => Nat.le_trans HB4.out.size (hlo i hi)
  have HDcd : Hid (∀ i, Sc i → ¬ Sd i) := Lib.hid fun i hi hj => by
    have h1 := Hc4.out.own i hi
    have h2 := hlo i hj
    omega
  clear hA hlo
  have HB5 : Hid (Below w.heap.size w w5) := Lib.hid (HB4.out.trans (hB.mono HB4.out.size))
  have Hc5 := Lib.hid (Hc4.out.below hB)
  clear hB HB4 Hc4 HG1
  have Hd5 : Hid (At Sd Cd q w5) := HA
  clear HA
  go_wp2_with fail
  refine (HG2.out _).mono ?_
  rintro e w6 ⟨rfl, hB⟩
  have HB6 : Hid (Below w.heap.size w w6) := Lib.hid (HB5.out.trans (hB.mono HB5.out.size))
  have Hc6 := Lib.hid (Hc5.out.below hB)
  have Hd6 := Lib.hid (Hd5.out.below hB)
  clear hB HB5 Hc5 Hd5 HG2
  have h1 := copy_any Hc6.out
  go_wp2_with fail
  refine (h1).mono ?_
  rintro e w7 ⟨Cy, Sy, rfl, hA, hlo, hB⟩
  have HA := Lib.hid hA
  have HSy : Hid (∀ i, Sy i → w.heap.size ≤ i) := Lib.hid fun i hi => Nat.le_trans HB6.out.size (hlo i hi)
  have HDcy : Hid (∀ i, Sc i → ¬ Sy i) := Lib.hid fun i hi hj => by
    have h1 := Hc6.out.own i hi
    have h2 := hlo i hj
    omega
  have HDdy : Hid (∀ i, Sd i → ¬ Sy i) := Lib.hid fun i hi hj => by
    have h1 := Hd6.out.own i hi
    have h2 := hlo i hj
    omega
  clear hA hlo
  have HB7 : Hid (Below w.heap.size w w7) := Lib.hid (HB6.out.trans (hB.mono HB6.out.size))
  have Hc7 := Lib.hid (Hc6.out.below hB)
  have Hd7 := Lib.hid (Hd6.out.below hB)
  clear hB HB6 Hc6 Hd6 h1
  have Hy7 : Hid (At Sy Cy q w7) := HA
  clear HA
  have h1 := add_any Hy7.out 1 (by unfold In64; omega) (by rw [HCN.out]; omega)
  go_wp2_with fail
  refine (h1).mono ?_
  rintro e w8 ⟨rfl, Syx1, hA, hM, hat⟩
  have HSSyx1 : Hid (∀ i, Syx1 i → w.heap.size ≤ i) := Lib.hid fun i hi => (hat i hi).elim (fun h => HSy.out i h) (fun h => Nat.le_trans HB7.out.size h)
  have HDSyx1c : Hid (∀ i, Syx1 i → ¬ Sc i) := Lib.hid fun i hi hj => (hat i hi).elim (fun h => (fun i hi hj => HDcy.out i hj hi) i h hj) (fun h => by have := Hc7.out.own i hj; omega)
  have Hc8 := Lib.hid (Hc7.out.mov hM (fun i hi hj => (fun i hi hj => HDcy.out i hj hi) i hj hi))
  have HDSyx1d : Hid (∀ i, Syx1 i → ¬ Sd i) := Lib.hid fun i hi hj => (hat i hi).elim (fun h => (fun i hi hj => HDdy.out i hj hi) i h hj) (fun h => by have := Hd7.out.own i hj; omega)
  have Hd8 := Lib.hid (Hd7.out.mov hM (fun i hi hj => (fun i hi hj => HDdy.out i hj hi) i hj hi))
  have HB8 : Hid (Below w.heap.size w w8) := Lib.hid (HB7.out.trans (hM.below (fun i hi => HSy.out i hi) HB7.out.size))
  have Hy8 : Hid (At Syx1 Cy (q.add 1) w8) := Lib.hid hA
  clear hA hM hat HB7 Hc7 Hd7 Hy7 HSy HDcy HDdy h1
  have HSyx1 := HSSyx1
  clear HSSyx1
  have h1 := spread_any Hc8.out
  go_wp2_with fail
  refine h1.mono ?_
  rintro e wS ⟨B9, v9, rfl, hH, hBs⟩
  have h2 := Hi.add_any hBs.size hH 7 (by unfold In64; omega) (by rw [HCN.out]; omega)
  have HH := Lib.hid hH
  have HBs := Lib.hid hBs
  clear h1 hH hBs
  go_wp2_with fail
  refine h2.mono ?_
  rintro e w9 ⟨rfl, v10, hH2, hM, hat⟩
  have hB : Below w8.heap.size w8 w9 := HBs.out.trans (hM.below (by
    rintro j (rfl | hj)
    · exact HH.out.lo
    · exact (HH.out.row.lt hj).1) HBs.out.size)
  clear h2 hH2 hM hat HH HBs
  have HB9 : Hid (Below w.heap.size w w9) := Lib.hid (HB8.out.trans (hB.mono HB8.out.size))
  have Hc9 := Lib.hid (Hc8.out.below hB)
  have Hd9 := Lib.hid (Hd8.out.below hB)
  have Hy9 := Lib.hid (Hy8.out.below hB)
  clear hB HB8 Hc8 Hd8 Hy8
  obtain ⟨Bc, vc, hSc, hCc⟩ := Hc9.out
  have HKc := Lib.hid hCc.cells
  have HCc := Lib.hid hCc
  clear hCc hSc
  obtain ⟨By, vy, hSy, hCy⟩ := Hy9.out
  have HKy := Lib.hid hCy.cells
  have HCy := Lib.hid hCy
  clear hCy hSy
  obtain ⟨Bd, vd, hSd, hCd⟩ := Hd9.out
  have HKd := Lib.hid hCd.cells
  have HCd := Lib.hid hCd
  clear hCd hSd
  obtain ⟨N, hNN⟩ : ∃ N, L.length = N := ⟨_, rfl⟩
  obtain ⟨M1, hM1⟩ : ∃ M, N + 1 = M := ⟨_, rfl⟩
  have HCc1 : Hid (∀ wc, Below w9.drew.heap.size w9.drew wc → Calls Tryd.prog 15 #[.pointer (some ⟨Bc, 0, none⟩)] wc fun e w' => e = .returned (.int .u64 (N : Int)) ∧ Below wc.heap.size wc w') := Lib.hid fun wc hB => by
    have := Hi.count_any (HCc.out.below ((Below.refl _ _).drew.trans hB)).hs
    rwa [HCN.out, hNN] at this
  have HCy1 : Hid (∀ wc, Below w9.drew.heap.size w9.drew wc → Calls Tryd.prog 15 #[.pointer (some ⟨By, 0, none⟩)] wc fun e w' => e = .returned (.int .u64 (M1 : Int)) ∧ Below wc.heap.size wc w') := Lib.hid fun wc hB => by
    have := Hi.count_any (HCy.out.below ((Below.refl _ _).drew.trans hB)).hs
    rwa [show countH (q.add 1).its = M1 by show countH (more ⟨ofI q.k 1, 1⟩ q.its) = M1; rw [countH_more, HCN.out, hNN, ← hM1]] at this
  have HPc : Hid (∀ wc, Below w9.drew.heap.size w9.drew wc → Calls Tryd.prog 17 #[.pointer (some ⟨Cc, 0, none⟩)] wc fun e w' => e = .returned (.string P) ∧ Below wc.heap.size wc w') := Lib.hid fun wc hB => by
    have := put_any (Hc9.out.below ((Below.refl _ _).drew.trans hB))
    rwa [HP.out] at this
  have HSm : Hid (∀ wc, Below w9.drew.heap.size w9.drew wc → Calls Tryd.prog 13 #[.pointer (some ⟨Cc, 0, none⟩), .pointer (some ⟨Cd, 0, none⟩)] wc fun e w' => e = .returned (.bool true) ∧ Below wc.heap.size wc w') := Lib.hid fun wc hB => by
    have := same_any (Hc9.out.below ((Below.refl _ _).drew.trans hB)) (Hd9.out.below ((Below.refl _ _).drew.trans hB))
    rwa [show decide (q.put = q.put) = true from decide_eq_true rfl] at this
  have hMM1 : (M1 : Int) = (N : Int) + 1 := by omega
  have HM1 := Lib.hid hMM1
  have hN20 : (N : Int) ≤ 30 := by omega
  clear hMM1 hM1 hNN hm1i hLn hL100 hki hk4 z1 hri hrT hT
  go_wp2_with fail
  refine Reg.wp_region_inv (n := 117) (BackPhi Cc Bc Cd Bd Cy By q N M1 P s) (by kernel_rfl) (by kernel_rfl) rfl BackPhi.stays ?_ ?_
  · refine ⟨?_, ?_, ?_, ?_, ?_, ?_, ?_, ?_, ?_, ?_, ?_, ?_, ?_, ?_, ?_, ?_, ?_, ?_, ?_, ?_, ?_, ?_, ?_, ?_, ?_, ?_, ?_, ?_, ?_, ?_, ?_, ?_, ?_, ?_, ?_, ?_, ?_, ?_, ?_, ?_, ?_, ?_, ?_, ?_, ?_, ?_, ?_, ?_, trivial⟩
    · intro cx wc hB hp hs
      have g11 : cx.tmps[11]? = some (.bool true) := (hs 11 (by kernel_rfl)).trans rfl
      refine Reg.ok_value Reg.Old.refl (v := .bool true) (Reg.wanted_none rfl) ?_ rfl
      go_simp
    · intro cx wc hB hp hs
      have g70 : cx.tmps[70]? = some (.bool true) := by obtain ⟨_, g, hv⟩ := Reg.pred hp 0 70 (by kernel_rfl) rfl rfl; exact g.trans (congrArg some hv)
      refine Reg.ok_value Reg.Old.refl (v := .bool true) (Reg.wanted_none rfl) ?_ rfl
      go_simp
    · intro cx wc hB hp hs
      have g16 : cx.tmps[16]? = some (.int .i64 0) := (hs 16 (by kernel_rfl)).trans rfl
      have g71 : cx.tmps[71]? = some (.bool true) := by obtain ⟨_, g, hv⟩ := Reg.pred hp 1 71 (by kernel_rfl) rfl rfl; exact g.trans (congrArg some hv)
      refine Reg.ok_value Reg.Old.refl (v := .int .i64 0) (Reg.wanted_at (j := 1) (d := 71) rfl rfl rfl g71) ?_ rfl
      go_simp
    · intro cx wc hB hp hs
      have g72 : cx.tmps[72]? = some (.int .i64 0) := by obtain ⟨_, g, hv⟩ := Reg.pred hp 2 72 (by kernel_rfl) rfl rfl; exact g.trans (congrArg some hv)
      have g71 : cx.tmps[71]? = some (.bool true) := by obtain ⟨_, g, hv⟩ := Reg.pred hp 1 71 (by kernel_rfl) rfl rfl; exact g.trans (congrArg some hv)
      refine Reg.ok_value Reg.Old.refl (v := .bool true) (Reg.wanted_at (j := 1) (d := 71) rfl rfl rfl g71) ?_ rfl
      go_simp
    · intro cx wc hB hp hs
      have g71 : cx.tmps[71]? = some (.bool true) := by obtain ⟨_, g, hv⟩ := Reg.pred hp 1 71 (by kernel_rfl) rfl rfl; exact g.trans (congrArg some hv)
      have g73 : cx.tmps[73]? = some (.bool true) := by obtain ⟨_, g, hv⟩ := Reg.pred hp 3 73 (by kernel_rfl) rfl rfl; exact g.trans (congrArg some hv)
      refine Reg.ok_value Reg.Old.refl (v := .bool true) (Reg.wanted_none rfl) ?_ rfl
      go_simp
    · intro cx wc hB hp hs
      have g74 : cx.tmps[74]? = some (.bool true) := by obtain ⟨_, g, hv⟩ := Reg.pred hp 4 74 (by kernel_rfl) rfl rfl; exact g.trans (congrArg some hv)
      refine Reg.ok_value Reg.Old.refl (v := .bool true) (Reg.wanted_none rfl) ?_ rfl
      go_simp
    · intro cx wc hB hp hs
      have g14 : cx.tmps[14]? = some (.pointer (some ⟨Cd, 0, none⟩)) := (hs 14 (by kernel_rfl)).trans rfl
      have g75 : cx.tmps[75]? = some (.bool true) := by obtain ⟨_, g, hv⟩ := Reg.pred hp 5 75 (by kernel_rfl) rfl rfl; exact g.trans (congrArg some hv)
      refine Reg.ok_value Reg.Old.refl (v := .pointer (some ⟨Cd, 0, none⟩)) (Reg.wanted_at (j := 5) (d := 75) rfl rfl rfl g75) ?_ rfl
      go_simp
    · intro cx wc hB hp hs
      have g76 : cx.tmps[76]? = some (.pointer (some ⟨Cd, 0, none⟩)) := by obtain ⟨_, g, hv⟩ := Reg.pred hp 6 76 (by kernel_rfl) rfl rfl; exact g.trans (congrArg some hv)
      have g75 : cx.tmps[75]? = some (.bool true) := by obtain ⟨_, g, hv⟩ := Reg.pred hp 5 75 (by kernel_rfl) rfl rfl; exact g.trans (congrArg some hv)
      refine Reg.ok_value Reg.Old.refl (v := .bool true) (Reg.wanted_at (j := 5) (d := 75) rfl rfl rfl g75) ?_ rfl
      go_simp
    · intro cx wc hB hp hs
      have g75 : cx.tmps[75]? = some (.bool true) := by obtain ⟨_, g, hv⟩ := Reg.pred hp 5 75 (by kernel_rfl) rfl rfl; exact g.trans (congrArg some hv)
      have g77 : cx.tmps[77]? = some (.bool true) := by obtain ⟨_, g, hv⟩ := Reg.pred hp 7 77 (by kernel_rfl) rfl rfl; exact g.trans (congrArg some hv)
      refine Reg.ok_value Reg.Old.refl (v := .bool true) (Reg.wanted_none rfl) ?_ rfl
      go_simp
    · intro cx wc hB hp hs
      have g78 : cx.tmps[78]? = some (.bool true) := by obtain ⟨_, g, hv⟩ := Reg.pred hp 8 78 (by kernel_rfl) rfl rfl; exact g.trans (congrArg some hv)
      refine Reg.ok_value Reg.Old.refl (v := .bool true) (Reg.wanted_none rfl) ?_ rfl
      go_simp
    · intro cx wc hB hp hs
      have g12 : cx.tmps[12]? = some (.pointer (some ⟨Cc, 0, none⟩)) := (hs 12 (by kernel_rfl)).trans rfl
      have g79 : cx.tmps[79]? = some (.bool true) := by obtain ⟨_, g, hv⟩ := Reg.pred hp 9 79 (by kernel_rfl) rfl rfl; exact g.trans (congrArg some hv)
      refine Reg.ok_value Reg.Old.refl (v := .pointer (some ⟨Cc, 0, none⟩)) (Reg.wanted_at (j := 9) (d := 79) rfl rfl rfl g79) ?_ rfl
      go_simp
    · intro cx wc hB hp hs
      have g14 : cx.tmps[14]? = some (.pointer (some ⟨Cd, 0, none⟩)) := (hs 14 (by kernel_rfl)).trans rfl
      have g79 : cx.tmps[79]? = some (.bool true) := by obtain ⟨_, g, hv⟩ := Reg.pred hp 9 79 (by kernel_rfl) rfl rfl; exact g.trans (congrArg some hv)
      refine Reg.ok_value Reg.Old.refl (v := .pointer (some ⟨Cd, 0, none⟩)) (Reg.wanted_at (j := 9) (d := 79) rfl rfl rfl g79) ?_ rfl
      go_simp
    · intro cx wc hB hp hs
      have g80 : cx.tmps[80]? = some (.pointer (some ⟨Cc, 0, none⟩)) := by obtain ⟨_, g, hv⟩ := Reg.pred hp 10 80 (by kernel_rfl) rfl rfl; exact g.trans (congrArg some hv)
      have g81 : cx.tmps[81]? = some (.pointer (some ⟨Cd, 0, none⟩)) := by obtain ⟨_, g, hv⟩ := Reg.pred hp 11 81 (by kernel_rfl) rfl rfl; exact g.trans (congrArg some hv)
      have g79 : cx.tmps[79]? = some (.bool true) := by obtain ⟨_, g, hv⟩ := Reg.pred hp 9 79 (by kernel_rfl) rfl rfl; exact g.trans (congrArg some hv)
      refine Reg.ok_call (f := 13) (args := #[.pointer (some ⟨Cc, 0, none⟩), .pointer (some ⟨Cd, 0, none⟩)]) (Reg.wanted_at (j := 9) (d := 79) rfl rfl rfl g79) (by go_simp) ((HSm.out wc hB).mono ?_)
      rintro e w' ⟨rfl, hB2⟩
      exact ⟨_, rfl, hB2, rfl⟩
    · intro cx wc hB hp hs
      have g79 : cx.tmps[79]? = some (.bool true) := by obtain ⟨_, g, hv⟩ := Reg.pred hp 9 79 (by kernel_rfl) rfl rfl; exact g.trans (congrArg some hv)
      have g82 : cx.tmps[82]? = some (.bool true) := by obtain ⟨_, g, hv⟩ := Reg.pred hp 12 82 (by kernel_rfl) rfl rfl; exact g.trans (congrArg some hv)
      refine Reg.ok_value Reg.Old.refl (v := .bool true) (Reg.wanted_none rfl) ?_ rfl
      go_simp
    · intro cx wc hB hp hs
      have g83 : cx.tmps[83]? = some (.bool true) := by obtain ⟨_, g, hv⟩ := Reg.pred hp 13 83 (by kernel_rfl) rfl rfl; exact g.trans (congrArg some hv)
      refine Reg.ok_value Reg.Old.refl (v := .bool true) (Reg.wanted_none rfl) ?_ rfl
      go_simp
    · intro cx wc hB hp hs
      have g15 : cx.tmps[15]? = some (.string s) := (hs 15 (by kernel_rfl)).trans rfl
      have g84 : cx.tmps[84]? = some (.bool true) := by obtain ⟨_, g, hv⟩ := Reg.pred hp 14 84 (by kernel_rfl) rfl rfl; exact g.trans (congrArg some hv)
      refine Reg.ok_value Reg.Old.refl (v := .string s) (Reg.wanted_at (j := 14) (d := 84) rfl rfl rfl g84) ?_ rfl
      go_simp
    · intro cx wc hB hp hs
      have g3 : cx.tmps[3]? = some (.string s) := (hs 3 (by kernel_rfl)).trans rfl
      have g84 : cx.tmps[84]? = some (.bool true) := by obtain ⟨_, g, hv⟩ := Reg.pred hp 14 84 (by kernel_rfl) rfl rfl; exact g.trans (congrArg some hv)
      refine Reg.ok_value Reg.Old.refl (v := .string s) (Reg.wanted_at (j := 14) (d := 84) rfl rfl rfl g84) ?_ rfl
      go_simp
    · intro cx wc hB hp hs
      have g85 : cx.tmps[85]? = some (.string s) := by obtain ⟨_, g, hv⟩ := Reg.pred hp 15 85 (by kernel_rfl) rfl rfl; exact g.trans (congrArg some hv)
      have g86 : cx.tmps[86]? = some (.string s) := by obtain ⟨_, g, hv⟩ := Reg.pred hp 16 86 (by kernel_rfl) rfl rfl; exact g.trans (congrArg some hv)
      have g84 : cx.tmps[84]? = some (.bool true) := by obtain ⟨_, g, hv⟩ := Reg.pred hp 14 84 (by kernel_rfl) rfl rfl; exact g.trans (congrArg some hv)
      refine Reg.ok_value Reg.Old.refl (v := .bool true) (Reg.wanted_at (j := 14) (d := 84) rfl rfl rfl g84) ?_ rfl
      go_simp
    · intro cx wc hB hp hs
      have g84 : cx.tmps[84]? = some (.bool true) := by obtain ⟨_, g, hv⟩ := Reg.pred hp 14 84 (by kernel_rfl) rfl rfl; exact g.trans (congrArg some hv)
      have g87 : cx.tmps[87]? = some (.bool true) := by obtain ⟨_, g, hv⟩ := Reg.pred hp 17 87 (by kernel_rfl) rfl rfl; exact g.trans (congrArg some hv)
      refine Reg.ok_value Reg.Old.refl (v := .bool true) (Reg.wanted_none rfl) ?_ rfl
      go_simp
    · intro cx wc hB hp hs
      have g88 : cx.tmps[88]? = some (.bool true) := by obtain ⟨_, g, hv⟩ := Reg.pred hp 18 88 (by kernel_rfl) rfl rfl; exact g.trans (congrArg some hv)
      refine Reg.ok_value Reg.Old.refl (v := .bool true) (Reg.wanted_none rfl) ?_ rfl
      go_simp
    · intro cx wc hB hp hs
      have g17 : cx.tmps[17]? = some (.pointer none) := (hs 17 (by kernel_rfl)).trans rfl
      have g89 : cx.tmps[89]? = some (.bool true) := by obtain ⟨_, g, hv⟩ := Reg.pred hp 19 89 (by kernel_rfl) rfl rfl; exact g.trans (congrArg some hv)
      refine Reg.ok_value Reg.Old.refl (v := .pointer none) (Reg.wanted_at (j := 19) (d := 89) rfl rfl rfl g89) ?_ rfl
      go_simp
    · intro cx wc hB hp hs
      have g90 : cx.tmps[90]? = some (.pointer none) := by obtain ⟨_, g, hv⟩ := Reg.pred hp 20 90 (by kernel_rfl) rfl rfl; exact g.trans (congrArg some hv)
      have g89 : cx.tmps[89]? = some (.bool true) := by obtain ⟨_, g, hv⟩ := Reg.pred hp 19 89 (by kernel_rfl) rfl rfl; exact g.trans (congrArg some hv)
      refine Reg.ok_value Reg.Old.refl (v := .bool true) (Reg.wanted_at (j := 19) (d := 89) rfl rfl rfl g89) ?_ rfl
      go_simp
    · intro cx wc hB hp hs
      have g89 : cx.tmps[89]? = some (.bool true) := by obtain ⟨_, g, hv⟩ := Reg.pred hp 19 89 (by kernel_rfl) rfl rfl; exact g.trans (congrArg some hv)
      have g91 : cx.tmps[91]? = some (.bool true) := by obtain ⟨_, g, hv⟩ := Reg.pred hp 21 91 (by kernel_rfl) rfl rfl; exact g.trans (congrArg some hv)
      refine Reg.ok_value Reg.Old.refl (v := .bool true) (Reg.wanted_none rfl) ?_ rfl
      go_simp
    · intro cx wc hB hp hs
      have g92 : cx.tmps[92]? = some (.bool true) := by obtain ⟨_, g, hv⟩ := Reg.pred hp 22 92 (by kernel_rfl) rfl rfl; exact g.trans (congrArg some hv)
      refine Reg.ok_value Reg.Old.refl (v := .bool true) (Reg.wanted_none rfl) ?_ rfl
      go_simp
    · intro cx wc hB hp hs
      have g19 : cx.tmps[19]? = some (.int .i64 2) := (hs 19 (by kernel_rfl)).trans rfl
      have g93 : cx.tmps[93]? = some (.bool true) := by obtain ⟨_, g, hv⟩ := Reg.pred hp 23 93 (by kernel_rfl) rfl rfl; exact g.trans (congrArg some hv)
      refine Reg.ok_value Reg.Old.refl (v := .int .i64 2) (Reg.wanted_at (j := 23) (d := 93) rfl rfl rfl g93) ?_ rfl
      go_simp
    · intro cx wc hB hp hs
      have g94 : cx.tmps[94]? = some (.int .i64 2) := by obtain ⟨_, g, hv⟩ := Reg.pred hp 24 94 (by kernel_rfl) rfl rfl; exact g.trans (congrArg some hv)
      have g93 : cx.tmps[93]? = some (.bool true) := by obtain ⟨_, g, hv⟩ := Reg.pred hp 23 93 (by kernel_rfl) rfl rfl; exact g.trans (congrArg some hv)
      refine Reg.ok_value Reg.Old.refl (v := .bool true) (Reg.wanted_at (j := 23) (d := 93) rfl rfl rfl g93) ?_ rfl
      go_simp
    · intro cx wc hB hp hs
      have g93 : cx.tmps[93]? = some (.bool true) := by obtain ⟨_, g, hv⟩ := Reg.pred hp 23 93 (by kernel_rfl) rfl rfl; exact g.trans (congrArg some hv)
      have g95 : cx.tmps[95]? = some (.bool true) := by obtain ⟨_, g, hv⟩ := Reg.pred hp 25 95 (by kernel_rfl) rfl rfl; exact g.trans (congrArg some hv)
      refine Reg.ok_value Reg.Old.refl (v := .bool true) (Reg.wanted_none rfl) ?_ rfl
      go_simp
    · intro cx wc hB hp hs
      have g96 : cx.tmps[96]? = some (.bool true) := by obtain ⟨_, g, hv⟩ := Reg.pred hp 26 96 (by kernel_rfl) rfl rfl; exact g.trans (congrArg some hv)
      refine Reg.ok_value Reg.Old.refl (v := .bool true) (Reg.wanted_none rfl) ?_ rfl
      go_simp
    · intro cx wc hB hp hs
      have g12 : cx.tmps[12]? = some (.pointer (some ⟨Cc, 0, none⟩)) := (hs 12 (by kernel_rfl)).trans rfl
      have g97 : cx.tmps[97]? = some (.bool true) := by obtain ⟨_, g, hv⟩ := Reg.pred hp 27 97 (by kernel_rfl) rfl rfl; exact g.trans (congrArg some hv)
      refine Reg.ok_value Reg.Old.refl (v := .pointer (some ⟨Cc, 0, none⟩)) (Reg.wanted_at (j := 27) (d := 97) rfl rfl rfl g97) ?_ rfl
      go_simp
    · intro cx wc hB hp hs
      have g98 : cx.tmps[98]? = some (.pointer (some ⟨Cc, 0, none⟩)) := by obtain ⟨_, g, hv⟩ := Reg.pred hp 28 98 (by kernel_rfl) rfl rfl; exact g.trans (congrArg some hv)
      have g97 : cx.tmps[97]? = some (.bool true) := by obtain ⟨_, g, hv⟩ := Reg.pred hp 27 97 (by kernel_rfl) rfl rfl; exact g.trans (congrArg some hv)
      refine Reg.ok_call (f := 17) (args := #[.pointer (some ⟨Cc, 0, none⟩)]) (Reg.wanted_at (j := 27) (d := 97) rfl rfl rfl g97) (by go_simp) ((HPc.out wc hB).mono ?_)
      rintro e w' ⟨rfl, hB2⟩
      exact ⟨_, rfl, hB2, rfl⟩
    · intro cx wc hB hp hs
      have g13 : cx.tmps[13]? = some (.string P) := (hs 13 (by kernel_rfl)).trans rfl
      have g97 : cx.tmps[97]? = some (.bool true) := by obtain ⟨_, g, hv⟩ := Reg.pred hp 27 97 (by kernel_rfl) rfl rfl; exact g.trans (congrArg some hv)
      refine Reg.ok_value Reg.Old.refl (v := .string P) (Reg.wanted_at (j := 27) (d := 97) rfl rfl rfl g97) ?_ rfl
      go_simp
    · intro cx wc hB hp hs
      have g99 : cx.tmps[99]? = some (.string P) := by obtain ⟨_, g, hv⟩ := Reg.pred hp 29 99 (by kernel_rfl) rfl rfl; exact g.trans (congrArg some hv)
      have g100 : cx.tmps[100]? = some (.string P) := by obtain ⟨_, g, hv⟩ := Reg.pred hp 30 100 (by kernel_rfl) rfl rfl; exact g.trans (congrArg some hv)
      have g97 : cx.tmps[97]? = some (.bool true) := by obtain ⟨_, g, hv⟩ := Reg.pred hp 27 97 (by kernel_rfl) rfl rfl; exact g.trans (congrArg some hv)
      refine Reg.ok_value Reg.Old.refl (v := .bool true) (Reg.wanted_at (j := 27) (d := 97) rfl rfl rfl g97) ?_ rfl
      go_simp
    · intro cx wc hB hp hs
      have g97 : cx.tmps[97]? = some (.bool true) := by obtain ⟨_, g, hv⟩ := Reg.pred hp 27 97 (by kernel_rfl) rfl rfl; exact g.trans (congrArg some hv)
      have g101 : cx.tmps[101]? = some (.bool true) := by obtain ⟨_, g, hv⟩ := Reg.pred hp 31 101 (by kernel_rfl) rfl rfl; exact g.trans (congrArg some hv)
      refine Reg.ok_value Reg.Old.refl (v := .bool true) (Reg.wanted_none rfl) ?_ rfl
      go_simp
    · intro cx wc hB hp hs
      have g102 : cx.tmps[102]? = some (.bool true) := by obtain ⟨_, g, hv⟩ := Reg.pred hp 32 102 (by kernel_rfl) rfl rfl; exact g.trans (congrArg some hv)
      refine Reg.ok_value Reg.Old.refl (v := .bool true) (Reg.wanted_none rfl) ?_ rfl
      go_simp
    · intro cx wc hB hp hs
      have g20 : cx.tmps[20]? = some (.pointer (some ⟨Cy, 0, none⟩)) := (hs 20 (by kernel_rfl)).trans rfl
      have g103 : cx.tmps[103]? = some (.bool true) := by obtain ⟨_, g, hv⟩ := Reg.pred hp 33 103 (by kernel_rfl) rfl rfl; exact g.trans (congrArg some hv)
      refine Reg.ok_value Reg.Old.refl (v := .pointer (some ⟨Cy, 0, none⟩)) (Reg.wanted_at (j := 33) (d := 103) rfl rfl rfl g103) ?_ rfl
      go_simp
    · intro cx wc hB hp hs
      have g104 : cx.tmps[104]? = some (.pointer (some ⟨Cy, 0, none⟩)) := by obtain ⟨_, g, hv⟩ := Reg.pred hp 34 104 (by kernel_rfl) rfl rfl; exact g.trans (congrArg some hv)
      have g103 : cx.tmps[103]? = some (.bool true) := by obtain ⟨_, g, hv⟩ := Reg.pred hp 33 103 (by kernel_rfl) rfl rfl; exact g.trans (congrArg some hv)
      refine Reg.ok_value Reg.Old.refl (v := .pointer (some ⟨Cy, 0, none⟩)) (Reg.wanted_at (j := 33) (d := 103) rfl rfl rfl g103) ?_ rfl
      go_simp
    · intro cx wc hB hp hs
      have g105 : cx.tmps[105]? = some (.pointer (some ⟨Cy, 0, none⟩)) := by obtain ⟨_, g, hv⟩ := Reg.pred hp 35 105 (by kernel_rfl) rfl rfl; exact g.trans (congrArg some hv)
      have g103 : cx.tmps[103]? = some (.bool true) := by obtain ⟨_, g, hv⟩ := Reg.pred hp 33 103 (by kernel_rfl) rfl rfl; exact g.trans (congrArg some hv)
      refine Reg.ok_value Reg.Old.refl (v := .pointer (some ⟨Cy, 0, none⟩)) (Reg.wanted_at (j := 33) (d := 103) rfl rfl rfl g103) ?_ rfl
      go_simp
    · intro cx wc hB hp hs
      have g106 : cx.tmps[106]? = some (.pointer (some ⟨Cy, 0, none⟩)) := by obtain ⟨_, g, hv⟩ := Reg.pred hp 36 106 (by kernel_rfl) rfl rfl; exact g.trans (congrArg some hv)
      have g103 : cx.tmps[103]? = some (.bool true) := by obtain ⟨_, g, hv⟩ := Reg.pred hp 33 103 (by kernel_rfl) rfl rfl; exact g.trans (congrArg some hv)
      have hc := HKy.out.drew.below hB
      have k0 := hc.cell 0 (.pointer (some ⟨By, 0, none⟩)) rfl
      refine Reg.ok_value Reg.Old.refl (v := .pointer (some ⟨By, 0, none⟩)) (Reg.wanted_at (j := 33) (d := 103) rfl rfl rfl g103) ?_ rfl
      go_simp
    · intro cx wc hB hp hs
      have g107 : cx.tmps[107]? = some (.pointer (some ⟨By, 0, none⟩)) := by obtain ⟨_, g, hv⟩ := Reg.pred hp 37 107 (by kernel_rfl) rfl rfl; exact g.trans (congrArg some hv)
      have g103 : cx.tmps[103]? = some (.bool true) := by obtain ⟨_, g, hv⟩ := Reg.pred hp 33 103 (by kernel_rfl) rfl rfl; exact g.trans (congrArg some hv)
      refine Reg.ok_call (f := 15) (args := #[.pointer (some ⟨By, 0, none⟩)]) (Reg.wanted_at (j := 33) (d := 103) rfl rfl rfl g103) (by go_simp) ((HCy1.out wc hB).mono ?_)
      rintro e w' ⟨rfl, hB2⟩
      exact ⟨_, rfl, hB2, rfl⟩
    · intro cx wc hB hp hs
      have g12 : cx.tmps[12]? = some (.pointer (some ⟨Cc, 0, none⟩)) := (hs 12 (by kernel_rfl)).trans rfl
      have g103 : cx.tmps[103]? = some (.bool true) := by obtain ⟨_, g, hv⟩ := Reg.pred hp 33 103 (by kernel_rfl) rfl rfl; exact g.trans (congrArg some hv)
      refine Reg.ok_value Reg.Old.refl (v := .pointer (some ⟨Cc, 0, none⟩)) (Reg.wanted_at (j := 33) (d := 103) rfl rfl rfl g103) ?_ rfl
      go_simp
    · intro cx wc hB hp hs
      have g109 : cx.tmps[109]? = some (.pointer (some ⟨Cc, 0, none⟩)) := by obtain ⟨_, g, hv⟩ := Reg.pred hp 39 109 (by kernel_rfl) rfl rfl; exact g.trans (congrArg some hv)
      have g103 : cx.tmps[103]? = some (.bool true) := by obtain ⟨_, g, hv⟩ := Reg.pred hp 33 103 (by kernel_rfl) rfl rfl; exact g.trans (congrArg some hv)
      refine Reg.ok_value Reg.Old.refl (v := .pointer (some ⟨Cc, 0, none⟩)) (Reg.wanted_at (j := 33) (d := 103) rfl rfl rfl g103) ?_ rfl
      go_simp
    · intro cx wc hB hp hs
      have g110 : cx.tmps[110]? = some (.pointer (some ⟨Cc, 0, none⟩)) := by obtain ⟨_, g, hv⟩ := Reg.pred hp 40 110 (by kernel_rfl) rfl rfl; exact g.trans (congrArg some hv)
      have g103 : cx.tmps[103]? = some (.bool true) := by obtain ⟨_, g, hv⟩ := Reg.pred hp 33 103 (by kernel_rfl) rfl rfl; exact g.trans (congrArg some hv)
      refine Reg.ok_value Reg.Old.refl (v := .pointer (some ⟨Cc, 0, none⟩)) (Reg.wanted_at (j := 33) (d := 103) rfl rfl rfl g103) ?_ rfl
      go_simp
    · intro cx wc hB hp hs
      have g111 : cx.tmps[111]? = some (.pointer (some ⟨Cc, 0, none⟩)) := by obtain ⟨_, g, hv⟩ := Reg.pred hp 41 111 (by kernel_rfl) rfl rfl; exact g.trans (congrArg some hv)
      have g103 : cx.tmps[103]? = some (.bool true) := by obtain ⟨_, g, hv⟩ := Reg.pred hp 33 103 (by kernel_rfl) rfl rfl; exact g.trans (congrArg some hv)
      have hc := HKc.out.drew.below hB
      have k0 := hc.cell 0 (.pointer (some ⟨Bc, 0, none⟩)) rfl
      refine Reg.ok_value Reg.Old.refl (v := .pointer (some ⟨Bc, 0, none⟩)) (Reg.wanted_at (j := 33) (d := 103) rfl rfl rfl g103) ?_ rfl
      go_simp
    · intro cx wc hB hp hs
      have g112 : cx.tmps[112]? = some (.pointer (some ⟨Bc, 0, none⟩)) := by obtain ⟨_, g, hv⟩ := Reg.pred hp 42 112 (by kernel_rfl) rfl rfl; exact g.trans (congrArg some hv)
      have g103 : cx.tmps[103]? = some (.bool true) := by obtain ⟨_, g, hv⟩ := Reg.pred hp 33 103 (by kernel_rfl) rfl rfl; exact g.trans (congrArg some hv)
      refine Reg.ok_call (f := 15) (args := #[.pointer (some ⟨Bc, 0, none⟩)]) (Reg.wanted_at (j := 33) (d := 103) rfl rfl rfl g103) (by go_simp) ((HCc1.out wc hB).mono ?_)
      rintro e w' ⟨rfl, hB2⟩
      exact ⟨_, rfl, hB2, rfl⟩
    · intro cx wc hB hp hs
      have g113 : cx.tmps[113]? = some (.int .u64 ((N : Int))) := by obtain ⟨_, g, hv⟩ := Reg.pred hp 43 113 (by kernel_rfl) rfl rfl; exact g.trans (congrArg some hv)
      have g103 : cx.tmps[103]? = some (.bool true) := by obtain ⟨_, g, hv⟩ := Reg.pred hp 33 103 (by kernel_rfl) rfl rfl; exact g.trans (congrArg some hv)
      refine Reg.ok_value Reg.Old.refl (v := .int .u64 ((N : Int) + 1)) (Reg.wanted_at (j := 33) (d := 103) rfl rfl rfl g103) ?_ rfl
      go_simp
      rw [IntKind.wrap_u64]
      omega
    · intro cx wc hB hp hs
      have g108 : cx.tmps[108]? = some (.int .u64 ((M1 : Int))) := by obtain ⟨_, g, hv⟩ := Reg.pred hp 38 108 (by kernel_rfl) rfl rfl; exact g.trans (congrArg some hv)
      have g114 : cx.tmps[114]? = some (.int .u64 ((N : Int) + 1)) := by obtain ⟨_, g, hv⟩ := Reg.pred hp 44 114 (by kernel_rfl) rfl rfl; exact g.trans (congrArg some hv)
      have g103 : cx.tmps[103]? = some (.bool true) := by obtain ⟨_, g, hv⟩ := Reg.pred hp 33 103 (by kernel_rfl) rfl rfl; exact g.trans (congrArg some hv)
      have e1 := HM1.out
      refine Reg.ok_value Reg.Old.refl (v := .bool true) (Reg.wanted_at (j := 33) (d := 103) rfl rfl rfl g103) ?_ rfl
      go_simp
    · intro cx wc hB hp hs
      have g103 : cx.tmps[103]? = some (.bool true) := by obtain ⟨_, g, hv⟩ := Reg.pred hp 33 103 (by kernel_rfl) rfl rfl; exact g.trans (congrArg some hv)
      have g115 : cx.tmps[115]? = some (.bool true) := by obtain ⟨_, g, hv⟩ := Reg.pred hp 45 115 (by kernel_rfl) rfl rfl; exact g.trans (congrArg some hv)
      refine Reg.ok_value Reg.Old.refl (v := .bool true) (Reg.wanted_none rfl) ?_ rfl
      go_simp
    · intro cx wc hB hp hs
      have g116 : cx.tmps[116]? = some (.bool true) := by obtain ⟨_, g, hv⟩ := Reg.pred hp 46 116 (by kernel_rfl) rfl rfl; exact g.trans (congrArg some hv)
      refine Reg.ok_value Reg.Old.refl (v := .bool true) (Reg.wanted_none rfl) ?_ rfl
      go_simp
  · intro d wc hB hsz hdf hv ho
    have gr : d.tmps[10]? = some (.bool true) := by obtain ⟨_, g, hv⟩ := hv 47 _ 10 rfl rfl; exact g.trans (congrArg some hv)
    have hF : Below w.heap.size w wc := HB9.out.trans (hB.mono HB9.out.size)
    clear hv ho hB
    go_wp2
    refine bodyPost_ret (v := .bool true) ?_ hdf ⟨rfl, hF⟩
    simp [results, Tryd.results4, go_sem, gr]
theorem CellBack_walk (a0 : Int) (h0 : (Lit.int .i64 a0).wf = true) (a1 : Int) (h1 : (Lit.int .u8 a1).wf = true) (p2 : Option Addr) (xs2 : List Int) (cap2 : Nat) (hl2 : xs2.length ≤ cap2) (hm2 : cap2 ≤ maxLen) (a3 : ByteArray) (_h3 : a3.size ≤ maxLen) (hz3 : a3.size ≤ 140737488355328) (a4 : Int) (h4 : (Lit.int .u16 a4).wf = true) (W : World) (hn2 : Ints p2 xs2 W) (hT : Wi.Tens W) :
    Calls Tryd.prog 4 #[.int .i64 a0, .int .u8 a1, .slice p2 xs2.length cap2, .string a3, .int .u16 a4] W fun e W' => e = .returned (.bool true) ∧ Below W.heap.size W W' := by
  obtain ⟨x, rfl, hx⟩ := wf_u8 h1
  obtain ⟨c, rfl, hcut⟩ := wf_u16 h4
  exact CellBack_core a0 (wf_i64 h0) x hx p2 xs2 cap2 hl2 (by unfold maxLen at hm2; omega) a3 hz3 c hcut W hT hn2
end Go.Proofs.YtmjipafhahggpaaDoor.Ce

