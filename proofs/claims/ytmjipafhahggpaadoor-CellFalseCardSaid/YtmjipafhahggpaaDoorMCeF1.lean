/- CellFalse, walked: one way to be false. -/
import Derived.Test.YtmjipafhahggpaaDoorMCeFb
namespace Go.Proofs.YtmjipafhahggpaaDoor.Ce
open Go Go.RowKit Hi

def SumPhi1 (P E1 E2 E3 : ByteArray) (_ : Nat) (zs : Int) : Nat → Value → World → Prop
  | i, v, _ => v = ([.string P, .string E1, Wi.sv zs, .string E2, .string (E1 ++ E2), .string P, .string E3, .string (E1 ++ E2 ++ E3), .tuple #[.pointer none, .string (⟨#[]⟩), .int .i64 2], .tuple #[.pointer none, .string (⟨#[]⟩), .int .i64 2], .pointer none, .string (⟨#[]⟩), .int .i64 2, .pointer none, .string (⟨#[]⟩), .int .i64 2] : List Value).getD i undef
theorem SumPhi1.stays {P E1 E2 E3 : ByteArray} {K : Nat} {zs : Int} : ∀ i v wx wy, SumPhi1 P E1 E2 E3 K zs i v wx → Reg.Old wx wy → SumPhi1 P E1 E2 E3 K zs i v wy := fun _ _ _ _ h _ => h
set_option maxRecDepth 100000 in
set_option maxHeartbeats 16000000 in
theorem false_1a (x : Nat) (hx : x < 256) (n0 : Int) (hn0 : In32 n0) (p : Option Addr) (xs : List Int) (cap : Nat) (hxl : xs.length ≤ 9223372036854775807) (hnx : xs.length ≤ 19) (how : Nat) (hhow : how < 256) (hj : how % 3 = 1) (b : Nat) (hby : b < 256)
    (w : World) (hT : Wi.Tens w) (hN : Ints32 p xs w) :
    Calls Tryd.prog 5 #[.int .u8 x, .int .i32 n0, .slice p xs.length cap, .int .u8 how, .int .u8 b] w fun e w' => e = .returned (.bool true) ∧ Below w.heap.size w w' := by
  have HT := Lib.hid hT
  have HN := Lib.hid hN
  obtain ⟨k, hk⟩ : ∃ k, x % 5 = k := ⟨_, rfl⟩
  have hki : (x : Int) % 5 = (k : Int) := by omega
  have HK : Hid (k ≤ 4) := Lib.hid (by omega)
  have hji : (how : Int) % 3 = 1 := by omega
  have HN0 := Lib.hid hn0
  obtain ⟨n1, n2⟩ := hn0
  have hn64 : wrap64 n0 = n0 := by unfold wrap64; omega
  obtain ⟨nx, hnxl⟩ : ∃ n, xs.length = n := ⟨_, rfl⟩
  have HNX := Lib.hid hnxl
  rw [hnxl] at hnx hxl ⊢
  clear hnxl hT hN hk hj
  obtain ⟨m, hm⟩ : ∃ m, m = nx := ⟨_, rfl⟩
  have hm19 : m ≤ 19 := by omega
  have hmn : m ≤ nx := by omega
  have HMM := Lib.hid hm
  clear hm
  go_enter Tryd.func5, Tryd.ntmps5
  go_wp2_with fail
  refine (examples_any _ HT.out).mono ?_
  rintro e w1 ⟨rfl, hB⟩
  have HO0 : Hid (OwnL w.heap.size (.slice (some ⟨w1.heap.size, 0, none⟩) 1 1) (n0 :: xs.take 0) (w1.alloc (.cells #[.int .i64 n0] 2))) := Lib.hid ((OwnL.one n0 w1).mono hB.size)
  have HB0 : Hid (Below w.heap.size w (w1.alloc (.cells #[.int .i64 n0] 2))) := Lib.hid (hB.alloc hB.size _)
  clear hB HT
  go_wp2
  go_loopg [12, 13] m (fun g s12 s13 wx => ∃ i : Nat, i + g = m ∧ s13 = .int .i64 i ∧ Hid (OwnL w.heap.size s12 (n0 :: xs.take i) wx) ∧ Hid (Below w.heap.size w wx))
  case atStart => exact ⟨0, by omega, rfl, HO0, HB0⟩
  case round =>
    clear HO0 HB0
    obtain ⟨i, hig, rfl, HO, HB⟩ := hrel
    cases gk with
    | succ g =>
      have hi1 : i < nx := by omega
      have hi2 : i < 19 := by omega
      have hix : i < xs.length := by rw [HNX.out]; exact hi1
      obtain ⟨C, off, rfl, hC, hcell, hlt⟩ := HN.out i hix
      have hc0 := (HB.out.cell (p := ⟨C, off + i, none⟩) hC).trans hcell
      obtain ⟨v', w', hr, hO', hM', _⟩ := append_long 22 HO.out xs[i] (by rw [List.length_cons, List.length_take]; omega) HB.out.size
      have hsn : (n0 :: xs.take i) ++ [xs[i]] = n0 :: xs.take (i + 1) := by
        rw [List.take_add_one, List.getElem?_eq_getElem hix]
        rfl
      rw [hsn] at hO'
      have HO' := Lib.hid hO'
      have HB' := Lib.hid (below_mov HB.out hM' (fun j hj => (HO.out.lt hj).1) (Nat.le_refl _))
      obtain ⟨y, hy⟩ : ∃ y, xs[i] = y := ⟨_, rfl⟩
      rw [hy] at hc0 hr hlt
      have hy64 : wrap64 y = y := by have := hlt; unfold In32 at this; unfold wrap64; omega
      obtain ⟨y1, y2⟩ := hlt
      clear hcell hO' hM' HO HB hy hsn
      go_wp2_with (at_builtin; refine Lib.wpList_append_run _ rfl _ _ _ _ rfl _ _ rfl rfl _ _ hr ?_)
      go_roundg g
      case measure => omega
      case rel => exact ⟨i + 1, by omega, by go_num, HO', HB'⟩
    | zero =>
      obtain rfl : i = m := by omega
      have he1 : ¬ (i < nx) := by have := HMM.out; omega
      obtain ⟨A, hA⟩ : ∃ A, n0 :: xs.take i = A := ⟨_, rfl⟩
      have hAl : A.length = i + 1 := by rw [← hA, List.length_cons, List.length_take, HNX.out]; omega
      have h32 : ∀ y ∈ A, In32 y := by
        intro y hy
        rw [← hA] at hy
        rcases List.mem_cons.1 hy with rfl | hy
        · exact HN0.out
        · obtain ⟨q, hq, rfl⟩ := List.mem_iff_getElem.1 (List.mem_of_mem_take hy)
          obtain ⟨_, _, _, _, _, h⟩ := HN.out q hq
          exact h
      have h64 : ∀ y ∈ A, In64 y := fun y hy => (h32 y hy).big
      rw [hA] at HO
      obtain ⟨pL, capL, rfl, hcL, hmL, hI⟩ := HO.out.ints h64
      obtain ⟨M, hM⟩ : ∃ M, A.length = M := ⟨_, rfl⟩
      have HML := Lib.hid hM
      have hM1 : 1 ≤ M := by omega
      have hM20 : M ≤ 20 := by omega
      have HOF : Hid (∀ W, Ints pL A W → Calls Tryd.prog 10 #[.int .i64 0, .int .i64 k, .slice pL M capL] W fun e w' => ∃ C S, e = .returned (.pointer (some ⟨C, 0, none⟩)) ∧ At.Made (celN k 0 A) W C S w') := Lib.hid fun W hW => by
        rw [← hM]
        exact of_any 0 (by unfold In64; omega) k HK.out pL A capL (by omega) W hW
      rw [hM] at hcL ⊢
      have hfit : (celN k 0 A).Fit := celN_fit HK.out (by unfold In64; omega) (by have := HML.out; omega) h64
      have hmany : countH (celN k 0 A).its = M := by rw [celN_many]; exact HML.out
      have hlow : (celN k 0 A).lowT = lowN A ∧ (celN k 0 A).low = lowN A := by
        refine ⟨?_, by rw [celN_eq]⟩
        unfold Cel.lowT
        rw [hmany, if_neg (by omega), celN_eq]
      have htop : (celN k 0 A).topT = topN A ∧ (celN k 0 A).top = topN A := by
        refine ⟨?_, by rw [celN_eq]⟩
        unfold Cel.topT
        rw [hmany, if_neg (by omega), celN_eq]
      have hlo32 : In32 (lowN A) := h32 _ (lowN_mem h64 (by have := HML.out; omega))
      have hhi32 : In32 (topN A) := h32 _ (topN_mem h64 (by have := HML.out; omega))
      obtain ⟨lo, hlo⟩ : ∃ lo, lowN A = lo := ⟨_, rfl⟩
      obtain ⟨hi, hhi⟩ : ∃ hi, topN A = hi := ⟨_, rfl⟩
      rw [hlo] at hlow hlo32
      rw [hhi] at htop hhi32
      obtain ⟨q, hq⟩ : ∃ q, celN k 0 A = q := ⟨_, rfl⟩
      rw [hq] at hfit hmany hlow htop HOF
      have HFIT := Lib.hid hfit
      have HMANY := Lib.hid hmany
      have HLOW := Lib.hid hlow
      have HTOP := Lib.hid htop
      have HL32 := Lib.hid hlo32
      have HH32 := Lib.hid hhi32
      have HII := Lib.hid hI
      obtain ⟨P, hP⟩ : ∃ P, tx q.put = P := ⟨_, rfl⟩
      have hPs : 43 ≤ P.size ∧ P.size ≤ 20100 := by rw [← hP, tx_size]; exact ⟨by rw [Cel.put_len]; omega, hfit.ok.len⟩
      have HPP := Lib.hid hP
      obtain ⟨hP1, hP2⟩ := hPs
      clear hA hAl h32 h64 hM hfit hmany hlow htop hlo32 hhi32 hlo hhi hq hI hP HO HN HN0 HNX HMM hig
      have HB5 := HB
      clear HB
      have ho := HOF.out _ HII.out
      go_wp2_with fail
      refine (ho).mono ?_
      rintro e w6 ⟨Cc, Sc, rfl, hA, hlo, hB⟩
      have HA := Lib.hid hA
      have HSc : Hid (∀ i, Sc i → w.heap.size ≤ i) := Lib.hid fun i hi => Nat.le_trans HB5.out.size (hlo i hi)
      clear hA hlo
      have HB6 : Hid (Below w.heap.size w w6) := Lib.hid (HB5.out.trans (hB.mono HB5.out.size))
      clear hB HB5 ho HOF HII
      have Hc6 : Hid (At Sc Cc q w6) := HA
      clear HA
      have hb := bounds_any Hc6.out
      rw [HLOW.out.1, HTOP.out.1, HMANY.out, show decide (M ≠ 0) = true from decide_eq_true (by omega)] at hb
      go_wp2_with fail
      refine (hb).mono ?_
      rintro e w7 ⟨rfl, hB⟩
      have HB7 : Hid (Below w.heap.size w w7) := Lib.hid (HB6.out.trans (hB.mono HB6.out.size))
      have Hc7 := Lib.hid (Hc6.out.below hB)
      clear hB HB6 Hc6 hb
      have hp := put_any Hc7.out
      rw [HPP.out] at hp
      go_wp2_with fail
      refine (hp).mono ?_
      rintro e w8 ⟨rfl, hB⟩
      have HB8 : Hid (Below w.heap.size w w8) := Lib.hid (HB7.out.trans (hB.mono HB7.out.size))
      have Hc8 := Lib.hid (Hc7.out.below hB)
      clear hB HB7 Hc7 hp
      obtain ⟨dz, hdz⟩ : ∃ d : Int, -1 - (b : Int) = d := ⟨_, rfl⟩
      have hdb : -300 ≤ dz ∧ dz ≤ 300 := by omega
      have hw1 : IntKind.i64.wrap (b : Int) = (b : Int) := by rw [IntKind.wrap_i64]; omega
      have hw2 : IntKind.i64.wrap dz = dz := by rw [IntKind.wrap_i64]; omega
      have HOFm : Hid (∀ W, Calls Tryd.prog 9 #[.int .i64 lo] W fun e w' => e = .returned (Wi.sv lo) ∧ Below W.heap.size W w') := Lib.hid fun W => Wi.of_any lo HL32.out.big.1 HL32.out.big.2 W
      have HOFd : Hid (∀ W, Calls Tryd.prog 9 #[.int .i64 dz] W fun e w' => e = .returned (Wi.sv dz) ∧ Below W.heap.size W w') := Lib.hid fun W => Wi.of_any dz (by omega) (by omega) W
      have HIN : Hid (∀ i : Nat, i ≤ 20 → Wi.InS ((i : Int) * lo)) := Lib.hid fun i hi => times_in (by omega) HL32.out.big
      have HAD : Hid (∀ (i : Nat) (z z2 : Int), i < 20 → (i : Int) * lo = z → ((i + 1 : Nat) : Int) * lo = z2 → ∀ W, Calls Tryd.prog 8 #[Wi.sv z, Wi.sv lo] W fun e w' => e = .returned (Wi.sv z2) ∧ Below W.heap.size W w') := Lib.hid fun i z z2 hii hz hz2 W => by
        have h := Wi.add_any z lo (hz ▸ HIN.out i (by omega)) (Wi.InS.small HL32.out.big.1 HL32.out.big.2) W
        rwa [show z + lo = z2 by rw [← hz, ← hz2, Int.natCast_add, Int.add_mul]; simp, Wi.w128_of (hz2 ▸ HIN.out (i + 1) (by omega))] at h
      obtain ⟨zm, hzm⟩ : ∃ z, (M : Int) * lo = z := ⟨_, rfl⟩
      have hzb : -42949672960 ≤ zm ∧ zm ≤ 42949672960 := by
        have h := HL32.out
        unfold In32 at h
        have a1 : (M : Int) * lo ≤ (M : Int) * 2147483647 := Int.mul_le_mul_of_nonneg_left h.2 (by omega)
        have a2 : (M : Int) * (-2147483648) ≤ (M : Int) * lo := Int.mul_le_mul_of_nonneg_left h.1 (by omega)
        omega
      obtain ⟨zs, hzs⟩ : ∃ z, zm + dz = z := ⟨_, rfl⟩
      have HADd : Hid (∀ W, Calls Tryd.prog 8 #[Wi.sv zm, Wi.sv dz] W fun e w' => e = .returned (Wi.sv zs) ∧ Below W.heap.size W w') := Lib.hid fun W => by
        have h := Wi.add_any zm dz (Wi.InS.small (by omega) (by omega)) (Wi.InS.small (by omega) (by omega)) W
        rwa [hzs, Wi.w128_of (Wi.InS.small (by omega) (by omega))] at h
      have HPUT : Hid (∀ W, Calls Tryd.prog 23 #[Wi.sv zs] W fun e w' => e = .returned (.string (tx (Wi.sput zs))) ∧ Below W.heap.size W w') := Lib.hid fun W => Wi.put_any zs (Wi.InS.small (by omega) (by omega)) W
      have hbad : ¬ okC q.k q.its zs q.lowT q.topT := by
        unfold okC
        rw [HMANY.out, if_neg (by omega), HLOW.out.1, HTOP.out.1]
        intro h
        have h2 := h.2.2.1
        rw [hzm] at h2
        omega
      have hget := false_sum HFIT.out.ok (Wi.InS.small (by omega) (by omega)) hbad
      obtain ⟨E1, hE1⟩ : ∃ E, P.extract 0 8 = E := ⟨_, rfl⟩
      obtain ⟨E2, hE2⟩ : ∃ E, tx (Wi.sput zs) = E := ⟨_, rfl⟩
      obtain ⟨E3, hE3⟩ : ∃ E, P.extract 24 P.size = E := ⟨_, rfl⟩
      have hsz : E1.size ≤ 20100 ∧ E2.size ≤ 20100 ∧ E3.size ≤ 20100 := by rw [← hE1, ← hE2, ← hE3, tx_size, Wi.sput_length]; simp only [ByteArray.size_extract]; omega
      obtain ⟨g1, g2, g3⟩ := hsz
      have z1 : (9223372036854775807 < E1.size + E2.size) = False := eq_false (by omega)
      have z2 : (9223372036854775807 < E1.size + E2.size + E3.size) = False := eq_false (by omega)
      have hEE : (E1 ++ E2 ++ E3).data.toList = n8 q.frm ++ Wi.sput zs ++ (n8 q.lowT ++ (n8 q.topT ++ putH q.k q.its)) := by
        obtain ⟨p1, p2, p3, p4, p5, p6⟩ := put_pieces q
        have hPl : P.data.toList.drop 24 = q.put.drop 24 := by rw [← HPP.out]; rfl
        have f1 : E1.data.toList = n8 q.frm := by rw [← hE1, ← HPP.out, extract_toList, list_tx]; exact p2
        have f2 : E2.data.toList = Wi.sput zs := by rw [← hE2]; rfl
        have f3 : E3.data.toList = n8 q.lowT ++ (n8 q.topT ++ putH q.k q.its) := by rw [← hE3, drop_toList, hPl]; exact p6
        simp only [ByteArray.data_append, Array.toList_append, f1, f2, f3]
      have HG : Hid (∀ W, Calls Tryd.prog 18 #[.string (E1 ++ E2 ++ E3)] W fun e w' => e = .returned (.tuple #[.pointer none, .string ⟨#[]⟩, .int .i64 2]) ∧ Below W.heap.size W w') := Lib.hid fun W => by
        have := get_any (E1 ++ E2 ++ E3) (by simp only [ByteArray.size_append]; unfold maxLen; omega) W
        rw [hEE, hget] at this
        exact this
      rw [hE2] at HPUT
      have HE1 := Lib.hid hE1
      have HE3 := Lib.hid hE3
      have h24 : 24 ≤ P.size := by omega
      have h8 : 8 ≤ P.size := by omega
      have HZM := Lib.hid hzm
      obtain ⟨hz1, hz2⟩ := hzb
      obtain ⟨hd1, hd2⟩ := hdb
      clear hE1 hE2 hE3 hEE HFIT HLOW HTOP HMANY HPP hbad hget hzs hzm g1 g2 g3
      have HBz : Hid (Below w.heap.size w (w8.alloc (.cells #[.int .i64 0, .int .u64 0] 26))) := Lib.hid (HB8.out.alloc HB8.out.size _)
      have HXz : Hid (CellsAt w8.heap.size #[.int .i64 (Wi.shi 0), .int .u64 (Wi.slo 0)] (w8.alloc (.cells #[.int .i64 0, .int .u64 0] 26))) := Lib.hid (CellsAt.new #[.int .i64 0, .int .u64 0] 26 w8)
      have HKz := Lib.hid HB8.out.size
      clear HB8 Hc8 HSc
      go_wp2
      generalize w8.alloc (.cells #[.int .i64 0, .int .u64 0] 26) = wz at *
      generalize w8.heap.size = K at *
      clear hki hji hn64
      go_loopg [21] M (fun g s wx => ∃ (i : Nat) (z : Int), i + g = M ∧ s = .int .i64 i ∧ Hid ((i : Int) * lo = z) ∧ Hid (CellsAt K #[.int .i64 (Wi.shi z), .int .u64 (Wi.slo z)] wx) ∧ Hid (Below w.heap.size w wx))
      case atStart => exact ⟨0, 0, by omega, rfl, Lib.hid (by simp), HXz, HBz⟩
      case round =>
        clear HXz HBz
        obtain ⟨i, z, hig, rfl, HZ, HX, HB⟩ := hrel
        cases gk with
        | succ g =>
          obtain ⟨z2, hz2x⟩ : ∃ z2, ((i + 1 : Nat) : Int) * lo = z2 := ⟨_, rfl⟩
          have hiM : i < M := by omega
          have hadd := HAD.out i z z2 (by omega) HZ.out hz2x
          have HADD := Lib.hid hadd
          have HZ2 := Lib.hid hz2x
          have c0 := HX.out.cell 0 _ rfl
          have c1 := HX.out.cell 1 _ rfl
          clear hadd hz2x hdz hw1 hw2
          go_wp2
          go_region_with (first | (refine (HOFm.out _).mono ?_; rintro e Wa ⟨rfl, hBa⟩; have hXa := HX.out.drew.below hBa; have y0 := hXa.cell 0 _ rfl; have y1 := hXa.cell 1 _ rfl) | (refine (HADD.out _).mono ?_; rintro e Wb ⟨rfl, hBb⟩; have hXb := hXa.below hBb; have v0 := hXb.cell 0 _ rfl; have v1 := hXb.cell 1 _ rfl; have f0 := hXb.fro 0 _ rfl; have f1 := hXb.fro 1 _ rfl))
          all_goals
            have HX2 : Hid (CellsAt K #[.int .i64 (Wi.shi z2), .int .u64 (Wi.slo z2)] ((Wb.setCell ⟨K, 0, none⟩ (.int .i64 (Wi.shi z2))).setCell ⟨K, 1, none⟩ (.int .u64 (Wi.slo z2)))) := Lib.hid ((hXb.set 0 _ (by simp)).set 1 _ (by simp))
            have HBb := (HB.out.drew.trans (hBa.mono HB.out.size))
            have HB2 : Hid (Below w.heap.size w ((Wb.setCell ⟨K, 0, none⟩ (.int .i64 (Wi.shi z2))).setCell ⟨K, 1, none⟩ (.int .u64 (Wi.slo z2)))) := Lib.hid (((HBb.trans (hBb.mono HBb.size)).setCell (p := ⟨K, 0, none⟩) HKz.out _).setCell (p := ⟨K, 1, none⟩) HKz.out _)
            clear c0 c1 HX HB HBb hBa hBb hXa hXb y0 y1 v0 v1 f0 f1
            go_wp2
            go_roundg g
            case measure => omega
            case rel => exact ⟨i + 1, z2, by omega, by go_num, HZ2, HX2, HB2⟩
        | zero =>
          obtain rfl : i = M := by omega
          have hzz : z = zm := HZ.out.symm.trans HZM.out
          subst hzz
          have c0 := HX.out.cell 0 _ rfl
          have c1 := HX.out.cell 1 _ rfl
          clear HZ HZM HAD HIN HOFm
          go_wp2
          go_region_with (first | (refine (HOFd.out _).mono ?_; rintro e Wa ⟨rfl, hBa⟩; have hXa := HX.out.drew.below hBa; have y0 := hXa.cell 0 _ rfl; have y1 := hXa.cell 1 _ rfl) | (refine (HADd.out _).mono ?_; rintro e Wb ⟨rfl, hBb⟩; have hXb := hXa.below hBb; have v0 := hXb.cell 0 _ rfl; have v1 := hXb.cell 1 _ rfl; have f0 := hXb.fro 0 _ rfl; have f1 := hXb.fro 1 _ rfl))
          all_goals
            have HX2 : Hid (CellsAt K #[.int .i64 (Wi.shi zs), .int .u64 (Wi.slo zs)] ((Wb.setCell ⟨K, 0, none⟩ (.int .i64 (Wi.shi zs))).setCell ⟨K, 1, none⟩ (.int .u64 (Wi.slo zs)))) := Lib.hid ((hXb.set 0 _ (by simp)).set 1 _ (by simp))
            have HBb := (HB.out.drew.trans (hBa.mono HB.out.size))
            have HB2 : Hid (Below w.heap.size w ((Wb.setCell ⟨K, 0, none⟩ (.int .i64 (Wi.shi zs))).setCell ⟨K, 1, none⟩ (.int .u64 (Wi.slo zs)))) := Lib.hid (((HBb.trans (hBb.mono HBb.size)).setCell (p := ⟨K, 0, none⟩) HKz.out _).setCell (p := ⟨K, 1, none⟩) HKz.out _)
            clear c0 c1 HX HB HBb hBa hBb hXa hXb y0 y1 v0 v1 f0 f1
            generalize ((Wb.setCell ⟨K, 0, none⟩ (.int .i64 (Wi.shi zs))).setCell ⟨K, 1, none⟩ (.int .u64 (Wi.slo zs))) = wz2 at *
            go_wp2_with fail
            refine Reg.wp_region_inv (n := 154) (SumPhi1 P E1 E2 E3 K zs) (by kernel_rfl) (by kernel_rfl) rfl SumPhi1.stays ?_ ?_
            · refine ⟨?_, ?_, ?_, ?_, ?_, ?_, ?_, ?_, ?_, ?_, ?_, ?_, ?_, ?_, ?_, ?_, trivial⟩
              · intro cx wc hB hp hs
                have g18 : cx.tmps[18]? = some (.string P) := (hs 18 (by kernel_rfl)).trans rfl
                refine Reg.ok_value Reg.Old.refl (v := .string P) (Reg.wanted_none rfl) ?_ rfl
                go_simp
              · intro cx wc hB hp hs
                have g137 : cx.tmps[137]? = some (.string P) := by obtain ⟨_, g, hv⟩ := Reg.pred hp 0 137 (by kernel_rfl) rfl rfl; exact g.trans (congrArg some hv)
                have e1 := HE1.out
                refine Reg.ok_value Reg.Old.refl (v := .string E1) (Reg.wanted_none rfl) ?_ rfl
                go_simp
                intro hh
                exact absurd hh (by omega)
              · intro cx wc hB hp hs
                have g19 : cx.tmps[19]? = some (.pointer (some ⟨K, 0, none⟩)) := (hs 19 (by kernel_rfl)).trans rfl
                have hc := HX2.out.drew.below hB
                have k0 := hc.cell 0 (.int .i64 (Wi.shi zs)) rfl
                have k1 := hc.cell 1 (.int .u64 (Wi.slo zs)) rfl
                refine Reg.ok_value Reg.Old.refl (v := Wi.sv zs) (Reg.wanted_none rfl) ?_ rfl
                go_simp
              · intro cx wc hB hp hs
                have g139 : cx.tmps[139]? = some (Wi.sv zs) := by obtain ⟨_, g, hv⟩ := Reg.pred hp 2 139 (by kernel_rfl) rfl rfl; exact g.trans (congrArg some hv)
                refine Reg.ok_call (f := 23) (args := #[Wi.sv zs]) (Reg.wanted_none rfl) (by go_simp) ((HPUT.out wc).mono ?_)
                rintro e w' ⟨rfl, hB2⟩
                exact ⟨_, rfl, hB2, rfl⟩
              · intro cx wc hB hp hs
                have g138 : cx.tmps[138]? = some (.string E1) := by obtain ⟨_, g, hv⟩ := Reg.pred hp 1 138 (by kernel_rfl) rfl rfl; exact g.trans (congrArg some hv)
                have g140 : cx.tmps[140]? = some (.string E2) := by obtain ⟨_, g, hv⟩ := Reg.pred hp 3 140 (by kernel_rfl) rfl rfl; exact g.trans (congrArg some hv)
                refine Reg.ok_value Reg.Old.refl (v := .string (E1 ++ E2)) (Reg.wanted_none rfl) ?_ rfl
                go_simp
              · intro cx wc hB hp hs
                have g18 : cx.tmps[18]? = some (.string P) := (hs 18 (by kernel_rfl)).trans rfl
                refine Reg.ok_value Reg.Old.refl (v := .string P) (Reg.wanted_none rfl) ?_ rfl
                go_simp
              · intro cx wc hB hp hs
                have g142 : cx.tmps[142]? = some (.string P) := by obtain ⟨_, g, hv⟩ := Reg.pred hp 5 142 (by kernel_rfl) rfl rfl; exact g.trans (congrArg some hv)
                have e1 := HE3.out
                refine Reg.ok_value Reg.Old.refl (v := .string E3) (Reg.wanted_none rfl) ?_ rfl
                go_simp
                intro hh
                exact absurd hh (by omega)
              · intro cx wc hB hp hs
                have g141 : cx.tmps[141]? = some (.string (E1 ++ E2)) := by obtain ⟨_, g, hv⟩ := Reg.pred hp 4 141 (by kernel_rfl) rfl rfl; exact g.trans (congrArg some hv)
                have g143 : cx.tmps[143]? = some (.string E3) := by obtain ⟨_, g, hv⟩ := Reg.pred hp 6 143 (by kernel_rfl) rfl rfl; exact g.trans (congrArg some hv)
                refine Reg.ok_value Reg.Old.refl (v := .string (E1 ++ E2 ++ E3)) (Reg.wanted_none rfl) ?_ rfl
                go_simp
              · intro cx wc hB hp hs
                have g144 : cx.tmps[144]? = some (.string (E1 ++ E2 ++ E3)) := by obtain ⟨_, g, hv⟩ := Reg.pred hp 7 144 (by kernel_rfl) rfl rfl; exact g.trans (congrArg some hv)
                refine Reg.ok_call (f := 18) (args := #[.string (E1 ++ E2 ++ E3)]) (Reg.wanted_none rfl) (by go_simp) ((HG.out wc).mono ?_)
                rintro e w' ⟨rfl, hB2⟩
                exact ⟨_, rfl, hB2, rfl⟩
              · intro cx wc hB hp hs
                have g145 : cx.tmps[145]? = some (.tuple #[.pointer none, .string (⟨#[]⟩), .int .i64 2]) := by obtain ⟨_, g, hv⟩ := Reg.pred hp 8 145 (by kernel_rfl) rfl rfl; exact g.trans (congrArg some hv)
                refine Reg.ok_value Reg.Old.refl (v := .tuple #[.pointer none, .string (⟨#[]⟩), .int .i64 2]) (Reg.wanted_none rfl) ?_ rfl
                go_simp
              · intro cx wc hB hp hs
                have g136 : cx.tmps[136]? = some (.tuple #[.pointer none, .string (⟨#[]⟩), .int .i64 2]) := by obtain ⟨_, g, hv⟩ := Reg.pred hp 9 136 (by kernel_rfl) rfl rfl; exact g.trans (congrArg some hv)
                refine Reg.ok_value Reg.Old.refl (v := .pointer none) (Reg.wanted_none rfl) ?_ rfl
                go_simp
              · intro cx wc hB hp hs
                have g136 : cx.tmps[136]? = some (.tuple #[.pointer none, .string (⟨#[]⟩), .int .i64 2]) := by obtain ⟨_, g, hv⟩ := Reg.pred hp 9 136 (by kernel_rfl) rfl rfl; exact g.trans (congrArg some hv)
                refine Reg.ok_value Reg.Old.refl (v := .string (⟨#[]⟩)) (Reg.wanted_none rfl) ?_ rfl
                go_simp
              · intro cx wc hB hp hs
                have g136 : cx.tmps[136]? = some (.tuple #[.pointer none, .string (⟨#[]⟩), .int .i64 2]) := by obtain ⟨_, g, hv⟩ := Reg.pred hp 9 136 (by kernel_rfl) rfl rfl; exact g.trans (congrArg some hv)
                refine Reg.ok_value Reg.Old.refl (v := .int .i64 2) (Reg.wanted_none rfl) ?_ rfl
                go_simp
              · intro cx wc hB hp hs
                have g146 : cx.tmps[146]? = some (.pointer none) := by obtain ⟨_, g, hv⟩ := Reg.pred hp 10 146 (by kernel_rfl) rfl rfl; exact g.trans (congrArg some hv)
                refine Reg.ok_value Reg.Old.refl (v := .pointer none) (Reg.wanted_none rfl) ?_ rfl
                go_simp
              · intro cx wc hB hp hs
                have g147 : cx.tmps[147]? = some (.string (⟨#[]⟩)) := by obtain ⟨_, g, hv⟩ := Reg.pred hp 11 147 (by kernel_rfl) rfl rfl; exact g.trans (congrArg some hv)
                refine Reg.ok_value Reg.Old.refl (v := .string (⟨#[]⟩)) (Reg.wanted_none rfl) ?_ rfl
                go_simp
              · intro cx wc hB hp hs
                have g148 : cx.tmps[148]? = some (.int .i64 2) := by obtain ⟨_, g, hv⟩ := Reg.pred hp 12 148 (by kernel_rfl) rfl rfl; exact g.trans (congrArg some hv)
                refine Reg.ok_value Reg.Old.refl (v := .int .i64 2) (Reg.wanted_none rfl) ?_ rfl
                go_simp
            · intro cx wx hB hsz hdf hv ho
              have hcx := Reg.frame_eq [_, _, _, _, _, _, _, _, _, _, _, _, _, _, _, _, _, _, _, _, _, _, _, _, _, .pointer none, .string (⟨#[]⟩), .int .i64 2, _, _, _, _, _, _, _, _, _, _, _, _, _, _, _, _, _, _, _, _, _, _, _, _, _, _, _, _, _, _, _, _, _, _, _, _, _, _, _, _, _, _, _, _, _, _, _, _, _, _, _, _, _, _, _, _, _, _, _, _, _, _, _, _, _, _, _, _, _, _, _, _, _, _, _, _, _, _, _, _, _, _, _, _, _, _, _, _, _, _, _, _, _, _, _, _, _, _, _, _, _, _, _, _, _, _, _, _, .tuple #[.pointer none, .string (⟨#[]⟩), .int .i64 2], .string P, .string E1, Wi.sv zs, .string E2, .string (E1 ++ E2), .string P, .string E3, .string (E1 ++ E2 ++ E3), .tuple #[.pointer none, .string (⟨#[]⟩), .int .i64 2], .pointer none, .string (⟨#[]⟩), .int .i64 2, _, _, _, _, _] (by simpa using hsz) hdf ⟨((Reg.kept ho 0 (by kernel_rfl)).trans rfl), ((Reg.kept ho 1 (by kernel_rfl)).trans rfl), ((Reg.kept ho 2 (by kernel_rfl)).trans rfl), ((Reg.kept ho 3 (by kernel_rfl)).trans rfl), ((Reg.kept ho 4 (by kernel_rfl)).trans rfl), ((Reg.kept ho 5 (by kernel_rfl)).trans rfl), ((Reg.kept ho 6 (by kernel_rfl)).trans rfl), ((Reg.kept ho 7 (by kernel_rfl)).trans rfl), ((Reg.kept ho 8 (by kernel_rfl)).trans rfl), ((Reg.kept ho 9 (by kernel_rfl)).trans rfl), ((Reg.kept ho 10 (by kernel_rfl)).trans rfl), ((Reg.kept ho 11 (by kernel_rfl)).trans rfl), ((Reg.kept ho 12 (by kernel_rfl)).trans rfl), ((Reg.kept ho 13 (by kernel_rfl)).trans rfl), ((Reg.kept ho 14 (by kernel_rfl)).trans rfl), ((Reg.kept ho 15 (by kernel_rfl)).trans rfl), ((Reg.kept ho 16 (by kernel_rfl)).trans rfl), ((Reg.kept ho 17 (by kernel_rfl)).trans rfl), ((Reg.kept ho 18 (by kernel_rfl)).trans rfl), ((Reg.kept ho 19 (by kernel_rfl)).trans rfl), ((Reg.kept ho 20 (by kernel_rfl)).trans rfl), ((Reg.kept ho 21 (by kernel_rfl)).trans rfl), ((Reg.kept ho 22 (by kernel_rfl)).trans rfl), ((Reg.kept ho 23 (by kernel_rfl)).trans rfl), ((Reg.kept ho 24 (by kernel_rfl)).trans rfl), (by obtain ⟨_, g, hx⟩ := hv 13 _ 25 rfl rfl; exact g.trans (congrArg some hx)), (by obtain ⟨_, g, hx⟩ := hv 14 _ 26 rfl rfl; exact g.trans (congrArg some hx)), (by obtain ⟨_, g, hx⟩ := hv 15 _ 27 rfl rfl; exact g.trans (congrArg some hx)), ((Reg.kept ho 28 (by kernel_rfl)).trans rfl), ((Reg.kept ho 29 (by kernel_rfl)).trans rfl), ((Reg.kept ho 30 (by kernel_rfl)).trans rfl), ((Reg.kept ho 31 (by kernel_rfl)).trans rfl), ((Reg.kept ho 32 (by kernel_rfl)).trans rfl), ((Reg.kept ho 33 (by kernel_rfl)).trans rfl), ((Reg.kept ho 34 (by kernel_rfl)).trans rfl), ((Reg.kept ho 35 (by kernel_rfl)).trans rfl), ((Reg.kept ho 36 (by kernel_rfl)).trans rfl), ((Reg.kept ho 37 (by kernel_rfl)).trans rfl), ((Reg.kept ho 38 (by kernel_rfl)).trans rfl), ((Reg.kept ho 39 (by kernel_rfl)).trans rfl), ((Reg.kept ho 40 (by kernel_rfl)).trans rfl), ((Reg.kept ho 41 (by kernel_rfl)).trans rfl), ((Reg.kept ho 42 (by kernel_rfl)).trans rfl), ((Reg.kept ho 43 (by kernel_rfl)).trans rfl), ((Reg.kept ho 44 (by kernel_rfl)).trans rfl), ((Reg.kept ho 45 (by kernel_rfl)).trans rfl), ((Reg.kept ho 46 (by kernel_rfl)).trans rfl), ((Reg.kept ho 47 (by kernel_rfl)).trans rfl), ((Reg.kept ho 48 (by kernel_rfl)).trans rfl), ((Reg.kept ho 49 (by kernel_rfl)).trans rfl), ((Reg.kept ho 50 (by kernel_rfl)).trans rfl), ((Reg.kept ho 51 (by kernel_rfl)).trans rfl), ((Reg.kept ho 52 (by kernel_rfl)).trans rfl), ((Reg.kept ho 53 (by kernel_rfl)).trans rfl), ((Reg.kept ho 54 (by kernel_rfl)).trans rfl), ((Reg.kept ho 55 (by kernel_rfl)).trans rfl), ((Reg.kept ho 56 (by kernel_rfl)).trans rfl), ((Reg.kept ho 57 (by kernel_rfl)).trans rfl), ((Reg.kept ho 58 (by kernel_rfl)).trans rfl), ((Reg.kept ho 59 (by kernel_rfl)).trans rfl), ((Reg.kept ho 60 (by kernel_rfl)).trans rfl), ((Reg.kept ho 61 (by kernel_rfl)).trans rfl), ((Reg.kept ho 62 (by kernel_rfl)).trans rfl), ((Reg.kept ho 63 (by kernel_rfl)).trans rfl), ((Reg.kept ho 64 (by kernel_rfl)).trans rfl), ((Reg.kept ho 65 (by kernel_rfl)).trans rfl), ((Reg.kept ho 66 (by kernel_rfl)).trans rfl), ((Reg.kept ho 67 (by kernel_rfl)).trans rfl), ((Reg.kept ho 68 (by kernel_rfl)).trans rfl), ((Reg.kept ho 69 (by kernel_rfl)).trans rfl), ((Reg.kept ho 70 (by kernel_rfl)).trans rfl), ((Reg.kept ho 71 (by kernel_rfl)).trans rfl), ((Reg.kept ho 72 (by kernel_rfl)).trans rfl), ((Reg.kept ho 73 (by kernel_rfl)).trans rfl), ((Reg.kept ho 74 (by kernel_rfl)).trans rfl), ((Reg.kept ho 75 (by kernel_rfl)).trans rfl), ((Reg.kept ho 76 (by kernel_rfl)).trans rfl), ((Reg.kept ho 77 (by kernel_rfl)).trans rfl), ((Reg.kept ho 78 (by kernel_rfl)).trans rfl), ((Reg.kept ho 79 (by kernel_rfl)).trans rfl), ((Reg.kept ho 80 (by kernel_rfl)).trans rfl), ((Reg.kept ho 81 (by kernel_rfl)).trans rfl), ((Reg.kept ho 82 (by kernel_rfl)).trans rfl), ((Reg.kept ho 83 (by kernel_rfl)).trans rfl), ((Reg.kept ho 84 (by kernel_rfl)).trans rfl), ((Reg.kept ho 85 (by kernel_rfl)).trans rfl), ((Reg.kept ho 86 (by kernel_rfl)).trans rfl), ((Reg.kept ho 87 (by kernel_rfl)).trans rfl), ((Reg.kept ho 88 (by kernel_rfl)).trans rfl), ((Reg.kept ho 89 (by kernel_rfl)).trans rfl), ((Reg.kept ho 90 (by kernel_rfl)).trans rfl), ((Reg.kept ho 91 (by kernel_rfl)).trans rfl), ((Reg.kept ho 92 (by kernel_rfl)).trans rfl), ((Reg.kept ho 93 (by kernel_rfl)).trans rfl), ((Reg.kept ho 94 (by kernel_rfl)).trans rfl), ((Reg.kept ho 95 (by kernel_rfl)).trans rfl), ((Reg.kept ho 96 (by kernel_rfl)).trans rfl), ((Reg.kept ho 97 (by kernel_rfl)).trans rfl), ((Reg.kept ho 98 (by kernel_rfl)).trans rfl), ((Reg.kept ho 99 (by kernel_rfl)).trans rfl), ((Reg.kept ho 100 (by kernel_rfl)).trans rfl), ((Reg.kept ho 101 (by kernel_rfl)).trans rfl), ((Reg.kept ho 102 (by kernel_rfl)).trans rfl), ((Reg.kept ho 103 (by kernel_rfl)).trans rfl), ((Reg.kept ho 104 (by kernel_rfl)).trans rfl), ((Reg.kept ho 105 (by kernel_rfl)).trans rfl), ((Reg.kept ho 106 (by kernel_rfl)).trans rfl), ((Reg.kept ho 107 (by kernel_rfl)).trans rfl), ((Reg.kept ho 108 (by kernel_rfl)).trans rfl), ((Reg.kept ho 109 (by kernel_rfl)).trans rfl), ((Reg.kept ho 110 (by kernel_rfl)).trans rfl), ((Reg.kept ho 111 (by kernel_rfl)).trans rfl), ((Reg.kept ho 112 (by kernel_rfl)).trans rfl), ((Reg.kept ho 113 (by kernel_rfl)).trans rfl), ((Reg.kept ho 114 (by kernel_rfl)).trans rfl), ((Reg.kept ho 115 (by kernel_rfl)).trans rfl), ((Reg.kept ho 116 (by kernel_rfl)).trans rfl), ((Reg.kept ho 117 (by kernel_rfl)).trans rfl), ((Reg.kept ho 118 (by kernel_rfl)).trans rfl), ((Reg.kept ho 119 (by kernel_rfl)).trans rfl), ((Reg.kept ho 120 (by kernel_rfl)).trans rfl), ((Reg.kept ho 121 (by kernel_rfl)).trans rfl), ((Reg.kept ho 122 (by kernel_rfl)).trans rfl), ((Reg.kept ho 123 (by kernel_rfl)).trans rfl), ((Reg.kept ho 124 (by kernel_rfl)).trans rfl), ((Reg.kept ho 125 (by kernel_rfl)).trans rfl), ((Reg.kept ho 126 (by kernel_rfl)).trans rfl), ((Reg.kept ho 127 (by kernel_rfl)).trans rfl), ((Reg.kept ho 128 (by kernel_rfl)).trans rfl), ((Reg.kept ho 129 (by kernel_rfl)).trans rfl), ((Reg.kept ho 130 (by kernel_rfl)).trans rfl), ((Reg.kept ho 131 (by kernel_rfl)).trans rfl), ((Reg.kept ho 132 (by kernel_rfl)).trans rfl), ((Reg.kept ho 133 (by kernel_rfl)).trans rfl), ((Reg.kept ho 134 (by kernel_rfl)).trans rfl), ((Reg.kept ho 135 (by kernel_rfl)).trans rfl), (by obtain ⟨_, g, hx⟩ := hv 9 _ 136 rfl rfl; exact g.trans (congrArg some hx)), (by obtain ⟨_, g, hx⟩ := hv 0 _ 137 rfl rfl; exact g.trans (congrArg some hx)), (by obtain ⟨_, g, hx⟩ := hv 1 _ 138 rfl rfl; exact g.trans (congrArg some hx)), (by obtain ⟨_, g, hx⟩ := hv 2 _ 139 rfl rfl; exact g.trans (congrArg some hx)), (by obtain ⟨_, g, hx⟩ := hv 3 _ 140 rfl rfl; exact g.trans (congrArg some hx)), (by obtain ⟨_, g, hx⟩ := hv 4 _ 141 rfl rfl; exact g.trans (congrArg some hx)), (by obtain ⟨_, g, hx⟩ := hv 5 _ 142 rfl rfl; exact g.trans (congrArg some hx)), (by obtain ⟨_, g, hx⟩ := hv 6 _ 143 rfl rfl; exact g.trans (congrArg some hx)), (by obtain ⟨_, g, hx⟩ := hv 7 _ 144 rfl rfl; exact g.trans (congrArg some hx)), (by obtain ⟨_, g, hx⟩ := hv 8 _ 145 rfl rfl; exact g.trans (congrArg some hx)), (by obtain ⟨_, g, hx⟩ := hv 10 _ 146 rfl rfl; exact g.trans (congrArg some hx)), (by obtain ⟨_, g, hx⟩ := hv 11 _ 147 rfl rfl; exact g.trans (congrArg some hx)), (by obtain ⟨_, g, hx⟩ := hv 12 _ 148 rfl rfl; exact g.trans (congrArg some hx)), ((Reg.kept ho 149 (by kernel_rfl)).trans rfl), ((Reg.kept ho 150 (by kernel_rfl)).trans rfl), ((Reg.kept ho 151 (by kernel_rfl)).trans rfl), ((Reg.kept ho 152 (by kernel_rfl)).trans rfl), ((Reg.kept ho 153 (by kernel_rfl)).trans rfl), trivial⟩
              subst hcx
              have HEx : Hid (Below w.heap.size w wx) := Lib.hid (HB2.out.trans (hB.mono HB2.out.size))
              clear hv ho hB hsz hdf
              go_wp2
              go_ret
              exact ⟨rfl, HEx.out⟩
set_option maxRecDepth 100000 in
set_option maxHeartbeats 16000000 in
theorem false_1b (x : Nat) (hx : x < 256) (n0 : Int) (hn0 : In32 n0) (p : Option Addr) (xs : List Int) (cap : Nat) (hxl : xs.length ≤ 9223372036854775807) (hnx : 19 < xs.length) (how : Nat) (hhow : how < 256) (hj : how % 3 = 1) (b : Nat) (hby : b < 256)
    (w : World) (hT : Wi.Tens w) (hN : Ints32 p xs w) :
    Calls Tryd.prog 5 #[.int .u8 x, .int .i32 n0, .slice p xs.length cap, .int .u8 how, .int .u8 b] w fun e w' => e = .returned (.bool true) ∧ Below w.heap.size w w' := by
  have HT := Lib.hid hT
  have HN := Lib.hid hN
  obtain ⟨k, hk⟩ : ∃ k, x % 5 = k := ⟨_, rfl⟩
  have hki : (x : Int) % 5 = (k : Int) := by omega
  have HK : Hid (k ≤ 4) := Lib.hid (by omega)
  have hji : (how : Int) % 3 = 1 := by omega
  have HN0 := Lib.hid hn0
  obtain ⟨n1, n2⟩ := hn0
  have hn64 : wrap64 n0 = n0 := by unfold wrap64; omega
  obtain ⟨nx, hnxl⟩ : ∃ n, xs.length = n := ⟨_, rfl⟩
  have HNX := Lib.hid hnxl
  rw [hnxl] at hnx hxl ⊢
  clear hnxl hT hN hk hj
  obtain ⟨m, hm⟩ : ∃ m, m = 19 := ⟨_, rfl⟩
  have hm19 : m ≤ 19 := by omega
  have hmn : m ≤ nx := by omega
  have HMM := Lib.hid hm
  clear hm
  go_enter Tryd.func5, Tryd.ntmps5
  go_wp2_with fail
  refine (examples_any _ HT.out).mono ?_
  rintro e w1 ⟨rfl, hB⟩
  have HO0 : Hid (OwnL w.heap.size (.slice (some ⟨w1.heap.size, 0, none⟩) 1 1) (n0 :: xs.take 0) (w1.alloc (.cells #[.int .i64 n0] 2))) := Lib.hid ((OwnL.one n0 w1).mono hB.size)
  have HB0 : Hid (Below w.heap.size w (w1.alloc (.cells #[.int .i64 n0] 2))) := Lib.hid (hB.alloc hB.size _)
  clear hB HT
  go_wp2
  go_loopg [12, 13] m (fun g s12 s13 wx => ∃ i : Nat, i + g = m ∧ s13 = .int .i64 i ∧ Hid (OwnL w.heap.size s12 (n0 :: xs.take i) wx) ∧ Hid (Below w.heap.size w wx))
  case atStart => exact ⟨0, by omega, rfl, HO0, HB0⟩
  case round =>
    clear HO0 HB0
    obtain ⟨i, hig, rfl, HO, HB⟩ := hrel
    cases gk with
    | succ g =>
      have hi1 : i < nx := by omega
      have hi2 : i < 19 := by omega
      have hix : i < xs.length := by rw [HNX.out]; exact hi1
      obtain ⟨C, off, rfl, hC, hcell, hlt⟩ := HN.out i hix
      have hc0 := (HB.out.cell (p := ⟨C, off + i, none⟩) hC).trans hcell
      obtain ⟨v', w', hr, hO', hM', _⟩ := append_long 22 HO.out xs[i] (by rw [List.length_cons, List.length_take]; omega) HB.out.size
      have hsn : (n0 :: xs.take i) ++ [xs[i]] = n0 :: xs.take (i + 1) := by
        rw [List.take_add_one, List.getElem?_eq_getElem hix]
        rfl
      rw [hsn] at hO'
      have HO' := Lib.hid hO'
      have HB' := Lib.hid (below_mov HB.out hM' (fun j hj => (HO.out.lt hj).1) (Nat.le_refl _))
      obtain ⟨y, hy⟩ : ∃ y, xs[i] = y := ⟨_, rfl⟩
      rw [hy] at hc0 hr hlt
      have hy64 : wrap64 y = y := by have := hlt; unfold In32 at this; unfold wrap64; omega
      obtain ⟨y1, y2⟩ := hlt
      clear hcell hO' hM' HO HB hy hsn
      go_wp2_with (at_builtin; refine Lib.wpList_append_run _ rfl _ _ _ _ rfl _ _ rfl rfl _ _ hr ?_)
      go_roundg g
      case measure => omega
      case rel => exact ⟨i + 1, by omega, by go_num, HO', HB'⟩
    | zero =>
      obtain rfl : i = m := by omega
      have he1 : i < nx := by have := HMM.out; omega
      have he2 : ¬ (i < 19) := by have := HMM.out; omega
      obtain ⟨A, hA⟩ : ∃ A, n0 :: xs.take i = A := ⟨_, rfl⟩
      have hAl : A.length = i + 1 := by rw [← hA, List.length_cons, List.length_take, HNX.out]; omega
      have h32 : ∀ y ∈ A, In32 y := by
        intro y hy
        rw [← hA] at hy
        rcases List.mem_cons.1 hy with rfl | hy
        · exact HN0.out
        · obtain ⟨q, hq, rfl⟩ := List.mem_iff_getElem.1 (List.mem_of_mem_take hy)
          obtain ⟨_, _, _, _, _, h⟩ := HN.out q hq
          exact h
      have h64 : ∀ y ∈ A, In64 y := fun y hy => (h32 y hy).big
      rw [hA] at HO
      obtain ⟨pL, capL, rfl, hcL, hmL, hI⟩ := HO.out.ints h64
      obtain ⟨M, hM⟩ : ∃ M, A.length = M := ⟨_, rfl⟩
      have HML := Lib.hid hM
      have hM1 : 1 ≤ M := by omega
      have hM20 : M ≤ 20 := by omega
      have HOF : Hid (∀ W, Ints pL A W → Calls Tryd.prog 10 #[.int .i64 0, .int .i64 k, .slice pL M capL] W fun e w' => ∃ C S, e = .returned (.pointer (some ⟨C, 0, none⟩)) ∧ At.Made (celN k 0 A) W C S w') := Lib.hid fun W hW => by
        rw [← hM]
        exact of_any 0 (by unfold In64; omega) k HK.out pL A capL (by omega) W hW
      rw [hM] at hcL ⊢
      have hfit : (celN k 0 A).Fit := celN_fit HK.out (by unfold In64; omega) (by have := HML.out; omega) h64
      have hmany : countH (celN k 0 A).its = M := by rw [celN_many]; exact HML.out
      have hlow : (celN k 0 A).lowT = lowN A ∧ (celN k 0 A).low = lowN A := by
        refine ⟨?_, by rw [celN_eq]⟩
        unfold Cel.lowT
        rw [hmany, if_neg (by omega), celN_eq]
      have htop : (celN k 0 A).topT = topN A ∧ (celN k 0 A).top = topN A := by
        refine ⟨?_, by rw [celN_eq]⟩
        unfold Cel.topT
        rw [hmany, if_neg (by omega), celN_eq]
      have hlo32 : In32 (lowN A) := h32 _ (lowN_mem h64 (by have := HML.out; omega))
      have hhi32 : In32 (topN A) := h32 _ (topN_mem h64 (by have := HML.out; omega))
      obtain ⟨lo, hlo⟩ : ∃ lo, lowN A = lo := ⟨_, rfl⟩
      obtain ⟨hi, hhi⟩ : ∃ hi, topN A = hi := ⟨_, rfl⟩
      rw [hlo] at hlow hlo32
      rw [hhi] at htop hhi32
      obtain ⟨q, hq⟩ : ∃ q, celN k 0 A = q := ⟨_, rfl⟩
      rw [hq] at hfit hmany hlow htop HOF
      have HFIT := Lib.hid hfit
      have HMANY := Lib.hid hmany
      have HLOW := Lib.hid hlow
      have HTOP := Lib.hid htop
      have HL32 := Lib.hid hlo32
      have HH32 := Lib.hid hhi32
      have HII := Lib.hid hI
      obtain ⟨P, hP⟩ : ∃ P, tx q.put = P := ⟨_, rfl⟩
      have hPs : 43 ≤ P.size ∧ P.size ≤ 20100 := by rw [← hP, tx_size]; exact ⟨by rw [Cel.put_len]; omega, hfit.ok.len⟩
      have HPP := Lib.hid hP
      obtain ⟨hP1, hP2⟩ := hPs
      clear hA hAl h32 h64 hM hfit hmany hlow htop hlo32 hhi32 hlo hhi hq hI hP HO HN HN0 HNX HMM hig
      have HB5 := HB
      clear HB
      have ho := HOF.out _ HII.out
      go_wp2_with fail
      refine (ho).mono ?_
      rintro e w6 ⟨Cc, Sc, rfl, hA, hlo, hB⟩
      have HA := Lib.hid hA
      have HSc : Hid (∀ i, Sc i → w.heap.size ≤ i) := Lib.hid fun i hi => Nat.le_trans HB5.out.size (hlo i hi)
      clear hA hlo
      have HB6 : Hid (Below w.heap.size w w6) := Lib.hid (HB5.out.trans (hB.mono HB5.out.size))
      clear hB HB5 ho HOF HII
      have Hc6 : Hid (At Sc Cc q w6) := HA
      clear HA
      have hb := bounds_any Hc6.out
      rw [HLOW.out.1, HTOP.out.1, HMANY.out, show decide (M ≠ 0) = true from decide_eq_true (by omega)] at hb
      go_wp2_with fail
      refine (hb).mono ?_
      rintro e w7 ⟨rfl, hB⟩
      have HB7 : Hid (Below w.heap.size w w7) := Lib.hid (HB6.out.trans (hB.mono HB6.out.size))
      have Hc7 := Lib.hid (Hc6.out.below hB)
      clear hB HB6 Hc6 hb
      have hp := put_any Hc7.out
      rw [HPP.out] at hp
      go_wp2_with fail
      refine (hp).mono ?_
      rintro e w8 ⟨rfl, hB⟩
      have HB8 : Hid (Below w.heap.size w w8) := Lib.hid (HB7.out.trans (hB.mono HB7.out.size))
      have Hc8 := Lib.hid (Hc7.out.below hB)
      clear hB HB7 Hc7 hp
      obtain ⟨dz, hdz⟩ : ∃ d : Int, -1 - (b : Int) = d := ⟨_, rfl⟩
      have hdb : -300 ≤ dz ∧ dz ≤ 300 := by omega
      have hw1 : IntKind.i64.wrap (b : Int) = (b : Int) := by rw [IntKind.wrap_i64]; omega
      have hw2 : IntKind.i64.wrap dz = dz := by rw [IntKind.wrap_i64]; omega
      have HOFm : Hid (∀ W, Calls Tryd.prog 9 #[.int .i64 lo] W fun e w' => e = .returned (Wi.sv lo) ∧ Below W.heap.size W w') := Lib.hid fun W => Wi.of_any lo HL32.out.big.1 HL32.out.big.2 W
      have HOFd : Hid (∀ W, Calls Tryd.prog 9 #[.int .i64 dz] W fun e w' => e = .returned (Wi.sv dz) ∧ Below W.heap.size W w') := Lib.hid fun W => Wi.of_any dz (by omega) (by omega) W
      have HIN : Hid (∀ i : Nat, i ≤ 20 → Wi.InS ((i : Int) * lo)) := Lib.hid fun i hi => times_in (by omega) HL32.out.big
      have HAD : Hid (∀ (i : Nat) (z z2 : Int), i < 20 → (i : Int) * lo = z → ((i + 1 : Nat) : Int) * lo = z2 → ∀ W, Calls Tryd.prog 8 #[Wi.sv z, Wi.sv lo] W fun e w' => e = .returned (Wi.sv z2) ∧ Below W.heap.size W w') := Lib.hid fun i z z2 hii hz hz2 W => by
        have h := Wi.add_any z lo (hz ▸ HIN.out i (by omega)) (Wi.InS.small HL32.out.big.1 HL32.out.big.2) W
        rwa [show z + lo = z2 by rw [← hz, ← hz2, Int.natCast_add, Int.add_mul]; simp, Wi.w128_of (hz2 ▸ HIN.out (i + 1) (by omega))] at h
      obtain ⟨zm, hzm⟩ : ∃ z, (M : Int) * lo = z := ⟨_, rfl⟩
      have hzb : -42949672960 ≤ zm ∧ zm ≤ 42949672960 := by
        have h := HL32.out
        unfold In32 at h
        have a1 : (M : Int) * lo ≤ (M : Int) * 2147483647 := Int.mul_le_mul_of_nonneg_left h.2 (by omega)
        have a2 : (M : Int) * (-2147483648) ≤ (M : Int) * lo := Int.mul_le_mul_of_nonneg_left h.1 (by omega)
        omega
      obtain ⟨zs, hzs⟩ : ∃ z, zm + dz = z := ⟨_, rfl⟩
      have HADd : Hid (∀ W, Calls Tryd.prog 8 #[Wi.sv zm, Wi.sv dz] W fun e w' => e = .returned (Wi.sv zs) ∧ Below W.heap.size W w') := Lib.hid fun W => by
        have h := Wi.add_any zm dz (Wi.InS.small (by omega) (by omega)) (Wi.InS.small (by omega) (by omega)) W
        rwa [hzs, Wi.w128_of (Wi.InS.small (by omega) (by omega))] at h
      have HPUT : Hid (∀ W, Calls Tryd.prog 23 #[Wi.sv zs] W fun e w' => e = .returned (.string (tx (Wi.sput zs))) ∧ Below W.heap.size W w') := Lib.hid fun W => Wi.put_any zs (Wi.InS.small (by omega) (by omega)) W
      have hbad : ¬ okC q.k q.its zs q.lowT q.topT := by
        unfold okC
        rw [HMANY.out, if_neg (by omega), HLOW.out.1, HTOP.out.1]
        intro h
        have h2 := h.2.2.1
        rw [hzm] at h2
        omega
      have hget := false_sum HFIT.out.ok (Wi.InS.small (by omega) (by omega)) hbad
      obtain ⟨E1, hE1⟩ : ∃ E, P.extract 0 8 = E := ⟨_, rfl⟩
      obtain ⟨E2, hE2⟩ : ∃ E, tx (Wi.sput zs) = E := ⟨_, rfl⟩
      obtain ⟨E3, hE3⟩ : ∃ E, P.extract 24 P.size = E := ⟨_, rfl⟩
      have hsz : E1.size ≤ 20100 ∧ E2.size ≤ 20100 ∧ E3.size ≤ 20100 := by rw [← hE1, ← hE2, ← hE3, tx_size, Wi.sput_length]; simp only [ByteArray.size_extract]; omega
      obtain ⟨g1, g2, g3⟩ := hsz
      have z1 : (9223372036854775807 < E1.size + E2.size) = False := eq_false (by omega)
      have z2 : (9223372036854775807 < E1.size + E2.size + E3.size) = False := eq_false (by omega)
      have hEE : (E1 ++ E2 ++ E3).data.toList = n8 q.frm ++ Wi.sput zs ++ (n8 q.lowT ++ (n8 q.topT ++ putH q.k q.its)) := by
        obtain ⟨p1, p2, p3, p4, p5, p6⟩ := put_pieces q
        have hPl : P.data.toList.drop 24 = q.put.drop 24 := by rw [← HPP.out]; rfl
        have f1 : E1.data.toList = n8 q.frm := by rw [← hE1, ← HPP.out, extract_toList, list_tx]; exact p2
        have f2 : E2.data.toList = Wi.sput zs := by rw [← hE2]; rfl
        have f3 : E3.data.toList = n8 q.lowT ++ (n8 q.topT ++ putH q.k q.its) := by rw [← hE3, drop_toList, hPl]; exact p6
        simp only [ByteArray.data_append, Array.toList_append, f1, f2, f3]
      have HG : Hid (∀ W, Calls Tryd.prog 18 #[.string (E1 ++ E2 ++ E3)] W fun e w' => e = .returned (.tuple #[.pointer none, .string ⟨#[]⟩, .int .i64 2]) ∧ Below W.heap.size W w') := Lib.hid fun W => by
        have := get_any (E1 ++ E2 ++ E3) (by simp only [ByteArray.size_append]; unfold maxLen; omega) W
        rw [hEE, hget] at this
        exact this
      rw [hE2] at HPUT
      have HE1 := Lib.hid hE1
      have HE3 := Lib.hid hE3
      have h24 : 24 ≤ P.size := by omega
      have h8 : 8 ≤ P.size := by omega
      have HZM := Lib.hid hzm
      obtain ⟨hz1, hz2⟩ := hzb
      obtain ⟨hd1, hd2⟩ := hdb
      clear hE1 hE2 hE3 hEE HFIT HLOW HTOP HMANY HPP hbad hget hzs hzm g1 g2 g3
      have HBz : Hid (Below w.heap.size w (w8.alloc (.cells #[.int .i64 0, .int .u64 0] 26))) := Lib.hid (HB8.out.alloc HB8.out.size _)
      have HXz : Hid (CellsAt w8.heap.size #[.int .i64 (Wi.shi 0), .int .u64 (Wi.slo 0)] (w8.alloc (.cells #[.int .i64 0, .int .u64 0] 26))) := Lib.hid (CellsAt.new #[.int .i64 0, .int .u64 0] 26 w8)
      have HKz := Lib.hid HB8.out.size
      clear HB8 Hc8 HSc
      go_wp2
      generalize w8.alloc (.cells #[.int .i64 0, .int .u64 0] 26) = wz at *
      generalize w8.heap.size = K at *
      clear hki hji hn64
      go_loopg [21] M (fun g s wx => ∃ (i : Nat) (z : Int), i + g = M ∧ s = .int .i64 i ∧ Hid ((i : Int) * lo = z) ∧ Hid (CellsAt K #[.int .i64 (Wi.shi z), .int .u64 (Wi.slo z)] wx) ∧ Hid (Below w.heap.size w wx))
      case atStart => exact ⟨0, 0, by omega, rfl, Lib.hid (by simp), HXz, HBz⟩
      case round =>
        clear HXz HBz
        obtain ⟨i, z, hig, rfl, HZ, HX, HB⟩ := hrel
        cases gk with
        | succ g =>
          obtain ⟨z2, hz2x⟩ : ∃ z2, ((i + 1 : Nat) : Int) * lo = z2 := ⟨_, rfl⟩
          have hiM : i < M := by omega
          have hadd := HAD.out i z z2 (by omega) HZ.out hz2x
          have HADD := Lib.hid hadd
          have HZ2 := Lib.hid hz2x
          have c0 := HX.out.cell 0 _ rfl
          have c1 := HX.out.cell 1 _ rfl
          clear hadd hz2x hdz hw1 hw2
          go_wp2
          go_region_with (first | (refine (HOFm.out _).mono ?_; rintro e Wa ⟨rfl, hBa⟩; have hXa := HX.out.drew.below hBa; have y0 := hXa.cell 0 _ rfl; have y1 := hXa.cell 1 _ rfl) | (refine (HADD.out _).mono ?_; rintro e Wb ⟨rfl, hBb⟩; have hXb := hXa.below hBb; have v0 := hXb.cell 0 _ rfl; have v1 := hXb.cell 1 _ rfl; have f0 := hXb.fro 0 _ rfl; have f1 := hXb.fro 1 _ rfl))
          all_goals
            have HX2 : Hid (CellsAt K #[.int .i64 (Wi.shi z2), .int .u64 (Wi.slo z2)] ((Wb.setCell ⟨K, 0, none⟩ (.int .i64 (Wi.shi z2))).setCell ⟨K, 1, none⟩ (.int .u64 (Wi.slo z2)))) := Lib.hid ((hXb.set 0 _ (by simp)).set 1 _ (by simp))
            have HBb := (HB.out.drew.trans (hBa.mono HB.out.size))
            have HB2 : Hid (Below w.heap.size w ((Wb.setCell ⟨K, 0, none⟩ (.int .i64 (Wi.shi z2))).setCell ⟨K, 1, none⟩ (.int .u64 (Wi.slo z2)))) := Lib.hid (((HBb.trans (hBb.mono HBb.size)).setCell (p := ⟨K, 0, none⟩) HKz.out _).setCell (p := ⟨K, 1, none⟩) HKz.out _)
            clear c0 c1 HX HB HBb hBa hBb hXa hXb y0 y1 v0 v1 f0 f1
            go_wp2
            go_roundg g
            case measure => omega
            case rel => exact ⟨i + 1, z2, by omega, by go_num, HZ2, HX2, HB2⟩
        | zero =>
          obtain rfl : i = M := by omega
          have hzz : z = zm := HZ.out.symm.trans HZM.out
          subst hzz
          have c0 := HX.out.cell 0 _ rfl
          have c1 := HX.out.cell 1 _ rfl
          clear HZ HZM HAD HIN HOFm
          go_wp2
          go_region_with (first | (refine (HOFd.out _).mono ?_; rintro e Wa ⟨rfl, hBa⟩; have hXa := HX.out.drew.below hBa; have y0 := hXa.cell 0 _ rfl; have y1 := hXa.cell 1 _ rfl) | (refine (HADd.out _).mono ?_; rintro e Wb ⟨rfl, hBb⟩; have hXb := hXa.below hBb; have v0 := hXb.cell 0 _ rfl; have v1 := hXb.cell 1 _ rfl; have f0 := hXb.fro 0 _ rfl; have f1 := hXb.fro 1 _ rfl))
          all_goals
            have HX2 : Hid (CellsAt K #[.int .i64 (Wi.shi zs), .int .u64 (Wi.slo zs)] ((Wb.setCell ⟨K, 0, none⟩ (.int .i64 (Wi.shi zs))).setCell ⟨K, 1, none⟩ (.int .u64 (Wi.slo zs)))) := Lib.hid ((hXb.set 0 _ (by simp)).set 1 _ (by simp))
            have HBb := (HB.out.drew.trans (hBa.mono HB.out.size))
            have HB2 : Hid (Below w.heap.size w ((Wb.setCell ⟨K, 0, none⟩ (.int .i64 (Wi.shi zs))).setCell ⟨K, 1, none⟩ (.int .u64 (Wi.slo zs)))) := Lib.hid (((HBb.trans (hBb.mono HBb.size)).setCell (p := ⟨K, 0, none⟩) HKz.out _).setCell (p := ⟨K, 1, none⟩) HKz.out _)
            clear c0 c1 HX HB HBb hBa hBb hXa hXb y0 y1 v0 v1 f0 f1
            generalize ((Wb.setCell ⟨K, 0, none⟩ (.int .i64 (Wi.shi zs))).setCell ⟨K, 1, none⟩ (.int .u64 (Wi.slo zs))) = wz2 at *
            go_wp2_with fail
            refine Reg.wp_region_inv (n := 154) (SumPhi1 P E1 E2 E3 K zs) (by kernel_rfl) (by kernel_rfl) rfl SumPhi1.stays ?_ ?_
            · refine ⟨?_, ?_, ?_, ?_, ?_, ?_, ?_, ?_, ?_, ?_, ?_, ?_, ?_, ?_, ?_, ?_, trivial⟩
              · intro cx wc hB hp hs
                have g18 : cx.tmps[18]? = some (.string P) := (hs 18 (by kernel_rfl)).trans rfl
                refine Reg.ok_value Reg.Old.refl (v := .string P) (Reg.wanted_none rfl) ?_ rfl
                go_simp
              · intro cx wc hB hp hs
                have g137 : cx.tmps[137]? = some (.string P) := by obtain ⟨_, g, hv⟩ := Reg.pred hp 0 137 (by kernel_rfl) rfl rfl; exact g.trans (congrArg some hv)
                have e1 := HE1.out
                refine Reg.ok_value Reg.Old.refl (v := .string E1) (Reg.wanted_none rfl) ?_ rfl
                go_simp
                intro hh
                exact absurd hh (by omega)
              · intro cx wc hB hp hs
                have g19 : cx.tmps[19]? = some (.pointer (some ⟨K, 0, none⟩)) := (hs 19 (by kernel_rfl)).trans rfl
                have hc := HX2.out.drew.below hB
                have k0 := hc.cell 0 (.int .i64 (Wi.shi zs)) rfl
                have k1 := hc.cell 1 (.int .u64 (Wi.slo zs)) rfl
                refine Reg.ok_value Reg.Old.refl (v := Wi.sv zs) (Reg.wanted_none rfl) ?_ rfl
                go_simp
              · intro cx wc hB hp hs
                have g139 : cx.tmps[139]? = some (Wi.sv zs) := by obtain ⟨_, g, hv⟩ := Reg.pred hp 2 139 (by kernel_rfl) rfl rfl; exact g.trans (congrArg some hv)
                refine Reg.ok_call (f := 23) (args := #[Wi.sv zs]) (Reg.wanted_none rfl) (by go_simp) ((HPUT.out wc).mono ?_)
                rintro e w' ⟨rfl, hB2⟩
                exact ⟨_, rfl, hB2, rfl⟩
              · intro cx wc hB hp hs
                have g138 : cx.tmps[138]? = some (.string E1) := by obtain ⟨_, g, hv⟩ := Reg.pred hp 1 138 (by kernel_rfl) rfl rfl; exact g.trans (congrArg some hv)
                have g140 : cx.tmps[140]? = some (.string E2) := by obtain ⟨_, g, hv⟩ := Reg.pred hp 3 140 (by kernel_rfl) rfl rfl; exact g.trans (congrArg some hv)
                refine Reg.ok_value Reg.Old.refl (v := .string (E1 ++ E2)) (Reg.wanted_none rfl) ?_ rfl
                go_simp
              · intro cx wc hB hp hs
                have g18 : cx.tmps[18]? = some (.string P) := (hs 18 (by kernel_rfl)).trans rfl
                refine Reg.ok_value Reg.Old.refl (v := .string P) (Reg.wanted_none rfl) ?_ rfl
                go_simp
              · intro cx wc hB hp hs
                have g142 : cx.tmps[142]? = some (.string P) := by obtain ⟨_, g, hv⟩ := Reg.pred hp 5 142 (by kernel_rfl) rfl rfl; exact g.trans (congrArg some hv)
                have e1 := HE3.out
                refine Reg.ok_value Reg.Old.refl (v := .string E3) (Reg.wanted_none rfl) ?_ rfl
                go_simp
                intro hh
                exact absurd hh (by omega)
              · intro cx wc hB hp hs
                have g141 : cx.tmps[141]? = some (.string (E1 ++ E2)) := by obtain ⟨_, g, hv⟩ := Reg.pred hp 4 141 (by kernel_rfl) rfl rfl; exact g.trans (congrArg some hv)
                have g143 : cx.tmps[143]? = some (.string E3) := by obtain ⟨_, g, hv⟩ := Reg.pred hp 6 143 (by kernel_rfl) rfl rfl; exact g.trans (congrArg some hv)
                refine Reg.ok_value Reg.Old.refl (v := .string (E1 ++ E2 ++ E3)) (Reg.wanted_none rfl) ?_ rfl
                go_simp
              · intro cx wc hB hp hs
                have g144 : cx.tmps[144]? = some (.string (E1 ++ E2 ++ E3)) := by obtain ⟨_, g, hv⟩ := Reg.pred hp 7 144 (by kernel_rfl) rfl rfl; exact g.trans (congrArg some hv)
                refine Reg.ok_call (f := 18) (args := #[.string (E1 ++ E2 ++ E3)]) (Reg.wanted_none rfl) (by go_simp) ((HG.out wc).mono ?_)
                rintro e w' ⟨rfl, hB2⟩
                exact ⟨_, rfl, hB2, rfl⟩
              · intro cx wc hB hp hs
                have g145 : cx.tmps[145]? = some (.tuple #[.pointer none, .string (⟨#[]⟩), .int .i64 2]) := by obtain ⟨_, g, hv⟩ := Reg.pred hp 8 145 (by kernel_rfl) rfl rfl; exact g.trans (congrArg some hv)
                refine Reg.ok_value Reg.Old.refl (v := .tuple #[.pointer none, .string (⟨#[]⟩), .int .i64 2]) (Reg.wanted_none rfl) ?_ rfl
                go_simp
              · intro cx wc hB hp hs
                have g136 : cx.tmps[136]? = some (.tuple #[.pointer none, .string (⟨#[]⟩), .int .i64 2]) := by obtain ⟨_, g, hv⟩ := Reg.pred hp 9 136 (by kernel_rfl) rfl rfl; exact g.trans (congrArg some hv)
                refine Reg.ok_value Reg.Old.refl (v := .pointer none) (Reg.wanted_none rfl) ?_ rfl
                go_simp
              · intro cx wc hB hp hs
                have g136 : cx.tmps[136]? = some (.tuple #[.pointer none, .string (⟨#[]⟩), .int .i64 2]) := by obtain ⟨_, g, hv⟩ := Reg.pred hp 9 136 (by kernel_rfl) rfl rfl; exact g.trans (congrArg some hv)
                refine Reg.ok_value Reg.Old.refl (v := .string (⟨#[]⟩)) (Reg.wanted_none rfl) ?_ rfl
                go_simp
              · intro cx wc hB hp hs
                have g136 : cx.tmps[136]? = some (.tuple #[.pointer none, .string (⟨#[]⟩), .int .i64 2]) := by obtain ⟨_, g, hv⟩ := Reg.pred hp 9 136 (by kernel_rfl) rfl rfl; exact g.trans (congrArg some hv)
                refine Reg.ok_value Reg.Old.refl (v := .int .i64 2) (Reg.wanted_none rfl) ?_ rfl
                go_simp
              · intro cx wc hB hp hs
                have g146 : cx.tmps[146]? = some (.pointer none) := by obtain ⟨_, g, hv⟩ := Reg.pred hp 10 146 (by kernel_rfl) rfl rfl; exact g.trans (congrArg some hv)
                refine Reg.ok_value Reg.Old.refl (v := .pointer none) (Reg.wanted_none rfl) ?_ rfl
                go_simp
              · intro cx wc hB hp hs
                have g147 : cx.tmps[147]? = some (.string (⟨#[]⟩)) := by obtain ⟨_, g, hv⟩ := Reg.pred hp 11 147 (by kernel_rfl) rfl rfl; exact g.trans (congrArg some hv)
                refine Reg.ok_value Reg.Old.refl (v := .string (⟨#[]⟩)) (Reg.wanted_none rfl) ?_ rfl
                go_simp
              · intro cx wc hB hp hs
                have g148 : cx.tmps[148]? = some (.int .i64 2) := by obtain ⟨_, g, hv⟩ := Reg.pred hp 12 148 (by kernel_rfl) rfl rfl; exact g.trans (congrArg some hv)
                refine Reg.ok_value Reg.Old.refl (v := .int .i64 2) (Reg.wanted_none rfl) ?_ rfl
                go_simp
            · intro cx wx hB hsz hdf hv ho
              have hcx := Reg.frame_eq [_, _, _, _, _, _, _, _, _, _, _, _, _, _, _, _, _, _, _, _, _, _, _, _, _, .pointer none, .string (⟨#[]⟩), .int .i64 2, _, _, _, _, _, _, _, _, _, _, _, _, _, _, _, _, _, _, _, _, _, _, _, _, _, _, _, _, _, _, _, _, _, _, _, _, _, _, _, _, _, _, _, _, _, _, _, _, _, _, _, _, _, _, _, _, _, _, _, _, _, _, _, _, _, _, _, _, _, _, _, _, _, _, _, _, _, _, _, _, _, _, _, _, _, _, _, _, _, _, _, _, _, _, _, _, _, _, _, _, _, _, _, _, _, _, _, _, .tuple #[.pointer none, .string (⟨#[]⟩), .int .i64 2], .string P, .string E1, Wi.sv zs, .string E2, .string (E1 ++ E2), .string P, .string E3, .string (E1 ++ E2 ++ E3), .tuple #[.pointer none, .string (⟨#[]⟩), .int .i64 2], .pointer none, .string (⟨#[]⟩), .int .i64 2, _, _, _, _, _] (by simpa using hsz) hdf ⟨((Reg.kept ho 0 (by kernel_rfl)).trans rfl), ((Reg.kept ho 1 (by kernel_rfl)).trans rfl), ((Reg.kept ho 2 (by kernel_rfl)).trans rfl), ((Reg.kept ho 3 (by kernel_rfl)).trans rfl), ((Reg.kept ho 4 (by kernel_rfl)).trans rfl), ((Reg.kept ho 5 (by kernel_rfl)).trans rfl), ((Reg.kept ho 6 (by kernel_rfl)).trans rfl), ((Reg.kept ho 7 (by kernel_rfl)).trans rfl), ((Reg.kept ho 8 (by kernel_rfl)).trans rfl), ((Reg.kept ho 9 (by kernel_rfl)).trans rfl), ((Reg.kept ho 10 (by kernel_rfl)).trans rfl), ((Reg.kept ho 11 (by kernel_rfl)).trans rfl), ((Reg.kept ho 12 (by kernel_rfl)).trans rfl), ((Reg.kept ho 13 (by kernel_rfl)).trans rfl), ((Reg.kept ho 14 (by kernel_rfl)).trans rfl), ((Reg.kept ho 15 (by kernel_rfl)).trans rfl), ((Reg.kept ho 16 (by kernel_rfl)).trans rfl), ((Reg.kept ho 17 (by kernel_rfl)).trans rfl), ((Reg.kept ho 18 (by kernel_rfl)).trans rfl), ((Reg.kept ho 19 (by kernel_rfl)).trans rfl), ((Reg.kept ho 20 (by kernel_rfl)).trans rfl), ((Reg.kept ho 21 (by kernel_rfl)).trans rfl), ((Reg.kept ho 22 (by kernel_rfl)).trans rfl), ((Reg.kept ho 23 (by kernel_rfl)).trans rfl), ((Reg.kept ho 24 (by kernel_rfl)).trans rfl), (by obtain ⟨_, g, hx⟩ := hv 13 _ 25 rfl rfl; exact g.trans (congrArg some hx)), (by obtain ⟨_, g, hx⟩ := hv 14 _ 26 rfl rfl; exact g.trans (congrArg some hx)), (by obtain ⟨_, g, hx⟩ := hv 15 _ 27 rfl rfl; exact g.trans (congrArg some hx)), ((Reg.kept ho 28 (by kernel_rfl)).trans rfl), ((Reg.kept ho 29 (by kernel_rfl)).trans rfl), ((Reg.kept ho 30 (by kernel_rfl)).trans rfl), ((Reg.kept ho 31 (by kernel_rfl)).trans rfl), ((Reg.kept ho 32 (by kernel_rfl)).trans rfl), ((Reg.kept ho 33 (by kernel_rfl)).trans rfl), ((Reg.kept ho 34 (by kernel_rfl)).trans rfl), ((Reg.kept ho 35 (by kernel_rfl)).trans rfl), ((Reg.kept ho 36 (by kernel_rfl)).trans rfl), ((Reg.kept ho 37 (by kernel_rfl)).trans rfl), ((Reg.kept ho 38 (by kernel_rfl)).trans rfl), ((Reg.kept ho 39 (by kernel_rfl)).trans rfl), ((Reg.kept ho 40 (by kernel_rfl)).trans rfl), ((Reg.kept ho 41 (by kernel_rfl)).trans rfl), ((Reg.kept ho 42 (by kernel_rfl)).trans rfl), ((Reg.kept ho 43 (by kernel_rfl)).trans rfl), ((Reg.kept ho 44 (by kernel_rfl)).trans rfl), ((Reg.kept ho 45 (by kernel_rfl)).trans rfl), ((Reg.kept ho 46 (by kernel_rfl)).trans rfl), ((Reg.kept ho 47 (by kernel_rfl)).trans rfl), ((Reg.kept ho 48 (by kernel_rfl)).trans rfl), ((Reg.kept ho 49 (by kernel_rfl)).trans rfl), ((Reg.kept ho 50 (by kernel_rfl)).trans rfl), ((Reg.kept ho 51 (by kernel_rfl)).trans rfl), ((Reg.kept ho 52 (by kernel_rfl)).trans rfl), ((Reg.kept ho 53 (by kernel_rfl)).trans rfl), ((Reg.kept ho 54 (by kernel_rfl)).trans rfl), ((Reg.kept ho 55 (by kernel_rfl)).trans rfl), ((Reg.kept ho 56 (by kernel_rfl)).trans rfl), ((Reg.kept ho 57 (by kernel_rfl)).trans rfl), ((Reg.kept ho 58 (by kernel_rfl)).trans rfl), ((Reg.kept ho 59 (by kernel_rfl)).trans rfl), ((Reg.kept ho 60 (by kernel_rfl)).trans rfl), ((Reg.kept ho 61 (by kernel_rfl)).trans rfl), ((Reg.kept ho 62 (by kernel_rfl)).trans rfl), ((Reg.kept ho 63 (by kernel_rfl)).trans rfl), ((Reg.kept ho 64 (by kernel_rfl)).trans rfl), ((Reg.kept ho 65 (by kernel_rfl)).trans rfl), ((Reg.kept ho 66 (by kernel_rfl)).trans rfl), ((Reg.kept ho 67 (by kernel_rfl)).trans rfl), ((Reg.kept ho 68 (by kernel_rfl)).trans rfl), ((Reg.kept ho 69 (by kernel_rfl)).trans rfl), ((Reg.kept ho 70 (by kernel_rfl)).trans rfl), ((Reg.kept ho 71 (by kernel_rfl)).trans rfl), ((Reg.kept ho 72 (by kernel_rfl)).trans rfl), ((Reg.kept ho 73 (by kernel_rfl)).trans rfl), ((Reg.kept ho 74 (by kernel_rfl)).trans rfl), ((Reg.kept ho 75 (by kernel_rfl)).trans rfl), ((Reg.kept ho 76 (by kernel_rfl)).trans rfl), ((Reg.kept ho 77 (by kernel_rfl)).trans rfl), ((Reg.kept ho 78 (by kernel_rfl)).trans rfl), ((Reg.kept ho 79 (by kernel_rfl)).trans rfl), ((Reg.kept ho 80 (by kernel_rfl)).trans rfl), ((Reg.kept ho 81 (by kernel_rfl)).trans rfl), ((Reg.kept ho 82 (by kernel_rfl)).trans rfl), ((Reg.kept ho 83 (by kernel_rfl)).trans rfl), ((Reg.kept ho 84 (by kernel_rfl)).trans rfl), ((Reg.kept ho 85 (by kernel_rfl)).trans rfl), ((Reg.kept ho 86 (by kernel_rfl)).trans rfl), ((Reg.kept ho 87 (by kernel_rfl)).trans rfl), ((Reg.kept ho 88 (by kernel_rfl)).trans rfl), ((Reg.kept ho 89 (by kernel_rfl)).trans rfl), ((Reg.kept ho 90 (by kernel_rfl)).trans rfl), ((Reg.kept ho 91 (by kernel_rfl)).trans rfl), ((Reg.kept ho 92 (by kernel_rfl)).trans rfl), ((Reg.kept ho 93 (by kernel_rfl)).trans rfl), ((Reg.kept ho 94 (by kernel_rfl)).trans rfl), ((Reg.kept ho 95 (by kernel_rfl)).trans rfl), ((Reg.kept ho 96 (by kernel_rfl)).trans rfl), ((Reg.kept ho 97 (by kernel_rfl)).trans rfl), ((Reg.kept ho 98 (by kernel_rfl)).trans rfl), ((Reg.kept ho 99 (by kernel_rfl)).trans rfl), ((Reg.kept ho 100 (by kernel_rfl)).trans rfl), ((Reg.kept ho 101 (by kernel_rfl)).trans rfl), ((Reg.kept ho 102 (by kernel_rfl)).trans rfl), ((Reg.kept ho 103 (by kernel_rfl)).trans rfl), ((Reg.kept ho 104 (by kernel_rfl)).trans rfl), ((Reg.kept ho 105 (by kernel_rfl)).trans rfl), ((Reg.kept ho 106 (by kernel_rfl)).trans rfl), ((Reg.kept ho 107 (by kernel_rfl)).trans rfl), ((Reg.kept ho 108 (by kernel_rfl)).trans rfl), ((Reg.kept ho 109 (by kernel_rfl)).trans rfl), ((Reg.kept ho 110 (by kernel_rfl)).trans rfl), ((Reg.kept ho 111 (by kernel_rfl)).trans rfl), ((Reg.kept ho 112 (by kernel_rfl)).trans rfl), ((Reg.kept ho 113 (by kernel_rfl)).trans rfl), ((Reg.kept ho 114 (by kernel_rfl)).trans rfl), ((Reg.kept ho 115 (by kernel_rfl)).trans rfl), ((Reg.kept ho 116 (by kernel_rfl)).trans rfl), ((Reg.kept ho 117 (by kernel_rfl)).trans rfl), ((Reg.kept ho 118 (by kernel_rfl)).trans rfl), ((Reg.kept ho 119 (by kernel_rfl)).trans rfl), ((Reg.kept ho 120 (by kernel_rfl)).trans rfl), ((Reg.kept ho 121 (by kernel_rfl)).trans rfl), ((Reg.kept ho 122 (by kernel_rfl)).trans rfl), ((Reg.kept ho 123 (by kernel_rfl)).trans rfl), ((Reg.kept ho 124 (by kernel_rfl)).trans rfl), ((Reg.kept ho 125 (by kernel_rfl)).trans rfl), ((Reg.kept ho 126 (by kernel_rfl)).trans rfl), ((Reg.kept ho 127 (by kernel_rfl)).trans rfl), ((Reg.kept ho 128 (by kernel_rfl)).trans rfl), ((Reg.kept ho 129 (by kernel_rfl)).trans rfl), ((Reg.kept ho 130 (by kernel_rfl)).trans rfl), ((Reg.kept ho 131 (by kernel_rfl)).trans rfl), ((Reg.kept ho 132 (by kernel_rfl)).trans rfl), ((Reg.kept ho 133 (by kernel_rfl)).trans rfl), ((Reg.kept ho 134 (by kernel_rfl)).trans rfl), ((Reg.kept ho 135 (by kernel_rfl)).trans rfl), (by obtain ⟨_, g, hx⟩ := hv 9 _ 136 rfl rfl; exact g.trans (congrArg some hx)), (by obtain ⟨_, g, hx⟩ := hv 0 _ 137 rfl rfl; exact g.trans (congrArg some hx)), (by obtain ⟨_, g, hx⟩ := hv 1 _ 138 rfl rfl; exact g.trans (congrArg some hx)), (by obtain ⟨_, g, hx⟩ := hv 2 _ 139 rfl rfl; exact g.trans (congrArg some hx)), (by obtain ⟨_, g, hx⟩ := hv 3 _ 140 rfl rfl; exact g.trans (congrArg some hx)), (by obtain ⟨_, g, hx⟩ := hv 4 _ 141 rfl rfl; exact g.trans (congrArg some hx)), (by obtain ⟨_, g, hx⟩ := hv 5 _ 142 rfl rfl; exact g.trans (congrArg some hx)), (by obtain ⟨_, g, hx⟩ := hv 6 _ 143 rfl rfl; exact g.trans (congrArg some hx)), (by obtain ⟨_, g, hx⟩ := hv 7 _ 144 rfl rfl; exact g.trans (congrArg some hx)), (by obtain ⟨_, g, hx⟩ := hv 8 _ 145 rfl rfl; exact g.trans (congrArg some hx)), (by obtain ⟨_, g, hx⟩ := hv 10 _ 146 rfl rfl; exact g.trans (congrArg some hx)), (by obtain ⟨_, g, hx⟩ := hv 11 _ 147 rfl rfl; exact g.trans (congrArg some hx)), (by obtain ⟨_, g, hx⟩ := hv 12 _ 148 rfl rfl; exact g.trans (congrArg some hx)), ((Reg.kept ho 149 (by kernel_rfl)).trans rfl), ((Reg.kept ho 150 (by kernel_rfl)).trans rfl), ((Reg.kept ho 151 (by kernel_rfl)).trans rfl), ((Reg.kept ho 152 (by kernel_rfl)).trans rfl), ((Reg.kept ho 153 (by kernel_rfl)).trans rfl), trivial⟩
              subst hcx
              have HEx : Hid (Below w.heap.size w wx) := Lib.hid (HB2.out.trans (hB.mono HB2.out.size))
              clear hv ho hB hsz hdf
              go_wp2
              go_ret
              exact ⟨rfl, HEx.out⟩
end Go.Proofs.YtmjipafhahggpaaDoor.Ce

