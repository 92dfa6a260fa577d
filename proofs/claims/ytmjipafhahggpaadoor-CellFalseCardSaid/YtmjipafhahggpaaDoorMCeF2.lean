/- CellFalse, walked: one way to be false. -/
import Derived.Test.YtmjipafhahggpaaDoorMCeFb
namespace Go.Proofs.YtmjipafhahggpaaDoor.Ce
open Go Go.RowKit Hi

def TurnPhi (P E1 E2 E3 E4 : ByteArray) : Nat → Value → World → Prop
  | i, v, _ => v = ([.string P, .string E1, .string P, .string E2, .string (E1 ++ E2), .string P, .string E3, .string (E1 ++ E2 ++ E3), .string P, .string E4, .string (E1 ++ E2 ++ E3 ++ E4), .tuple #[.pointer none, .string (⟨#[]⟩), .int .i64 2], .tuple #[.pointer none, .string (⟨#[]⟩), .int .i64 2], .pointer none, .string (⟨#[]⟩), .int .i64 2, .pointer none, .string (⟨#[]⟩), .int .i64 2] : List Value).getD i undef
theorem TurnPhi.stays {P E1 E2 E3 E4 : ByteArray} : ∀ i v wx wy, TurnPhi P E1 E2 E3 E4 i v wx → Reg.Old wx wy → TurnPhi P E1 E2 E3 E4 i v wy := fun _ _ _ _ h _ => h
def SamePhi (P E1 E2 E3 E4 : ByteArray) : Nat → Value → World → Prop
  | 11, v, _ => ∃ C, v = .tuple #[.pointer (some ⟨C, 0, none⟩), .string (tx []), .int .i64 0]
  | 12, v, _ => ∃ C, v = .tuple #[.pointer (some ⟨C, 0, none⟩), .string (tx []), .int .i64 0]
  | 13, v, _ => ∃ C, v = .pointer (some ⟨C, 0, none⟩)
  | 16, v, _ => ∃ C, v = .pointer (some ⟨C, 0, none⟩)
  | i, v, _ => v = ([.string P, .string E1, .string P, .string E2, .string (E1 ++ E2), .string P, .string E3, .string (E1 ++ E2 ++ E3), .string P, .string E4, .string (E1 ++ E2 ++ E3 ++ E4), .tuple #[undef, .string (tx []), .int .i64 0], .tuple #[undef, .string (tx []), .int .i64 0], undef, .string (tx []), .int .i64 0, undef, .string (tx []), .int .i64 0] : List Value).getD i undef
theorem SamePhi.stays {P E1 E2 E3 E4 : ByteArray} : ∀ i v wx wy, SamePhi P E1 E2 E3 E4 i v wx → Reg.Old wx wy → SamePhi P E1 E2 E3 E4 i v wy := by
  intro i v wx wy h _
  unfold SamePhi at *
  split at h <;> exact h
set_option maxRecDepth 100000 in
set_option maxHeartbeats 16000000 in
theorem false_2a (x : Nat) (hx : x < 256) (n0 : Int) (hn0 : In32 n0) (p : Option Addr) (xs : List Int) (cap : Nat) (hxl : xs.length ≤ 9223372036854775807) (hnx : xs.length ≤ 19) (how : Nat) (hhow : how < 256) (hj : how % 3 = 2) (b : Nat) (_ : b < 256)
    (w : World) (hT : Wi.Tens w) (hN : Ints32 p xs w) :
    Calls Tryd.prog 5 #[.int .u8 x, .int .i32 n0, .slice p xs.length cap, .int .u8 how, .int .u8 b] w fun e w' => e = .returned (.bool true) ∧ Below w.heap.size w w' := by
  have HT := Lib.hid hT
  have HN := Lib.hid hN
  obtain ⟨k, hk⟩ : ∃ k, x % 5 = k := ⟨_, rfl⟩
  have hki : (x : Int) % 5 = (k : Int) := by omega
  have HK : Hid (k ≤ 4) := Lib.hid (by omega)
  have hji : (how : Int) % 3 = 2 := by omega
  have HN0 := Lib.hid hn0
  obtain ⟨n1, n2⟩ := hn0
  have hn64 : wrap64 n0 = n0 := by unfold wrap64; omega
  obtain ⟨nx, hnxl⟩ : ∃ n, xs.length = n := ⟨_, rfl⟩
  have HNX := Lib.hid hnxl
  rw [hnxl] at hnx hxl ⊢
  clear hnxl hT hN hk hj
  obtain ⟨m, hm⟩ : ∃ m, m = nx := ⟨_, rfl⟩
  have hm19 : m ≤ 19 := by omega
  have hmn : m ≤ nx := by omega
  have HMM := Lib.hid hm
  clear hm
  go_enter Tryd.func5, Tryd.ntmps5
  go_wp2_with fail
  refine (examples_any _ HT.out).mono ?_
  rintro e w1 ⟨rfl, hB⟩
  have HO0 : Hid (OwnL w.heap.size (.slice (some ⟨w1.heap.size, 0, none⟩) 1 1) (n0 :: xs.take 0) (w1.alloc (.cells #[.int .i64 n0] 2))) := Lib.hid ((OwnL.one n0 w1).mono hB.size)
  have HB0 : Hid (Below w.heap.size w (w1.alloc (.cells #[.int .i64 n0] 2))) := Lib.hid (hB.alloc hB.size _)
  clear hB HT
  go_wp2
  go_loopg [12, 13] m (fun g s12 s13 wx => ∃ i : Nat, i + g = m ∧ s13 = .int .i64 i ∧ Hid (OwnL w.heap.size s12 (n0 :: xs.take i) wx) ∧ Hid (Below w.heap.size w wx))
  case atStart => exact ⟨0, by omega, rfl, HO0, HB0⟩
  case round =>
    clear HO0 HB0
    obtain ⟨i, hig, rfl, HO, HB⟩ := hrel
    cases gk with
    | succ g =>
      have hi1 : i < nx := by omega
      have hi2 : i < 19 := by omega
      have hix : i < xs.length := by rw [HNX.out]; exact hi1
      obtain ⟨C, off, rfl, hC, hcell, hlt⟩ := HN.out i hix
      have hc0 := (HB.out.cell (p := ⟨C, off + i, none⟩) hC).trans hcell
      obtain ⟨v', w', hr, hO', hM', _⟩ := append_long 22 HO.out xs[i] (by rw [List.length_cons, List.length_take]; omega) HB.out.size
      have hsn : (n0 :: xs.take i) ++ [xs[i]] = n0 :: xs.take (i + 1) := by
        rw [List.take_add_one, List.getElem?_eq_getElem hix]
        rfl
      rw [hsn] at hO'
      have HO' := Lib.hid hO'
      have HB' := Lib.hid (below_mov HB.out hM' (fun j hj => (HO.out.lt hj).1) (Nat.le_refl _))
      obtain ⟨y, hy⟩ : ∃ y, xs[i] = y := ⟨_, rfl⟩
      rw [hy] at hc0 hr hlt
      have hy64 : wrap64 y = y := by have := hlt; unfold In32 at this; unfold wrap64; omega
      obtain ⟨y1, y2⟩ := hlt
      clear hcell hO' hM' HO HB hy hsn
      go_wp2_with (at_builtin; refine Lib.wpList_append_run _ rfl _ _ _ _ rfl _ _ rfl rfl _ _ hr ?_)
      go_roundg g
      case measure => omega
      case rel => exact ⟨i + 1, by omega, by go_num, HO', HB'⟩
    | zero =>
      obtain rfl : i = m := by omega
      have he1 : ¬ (i < nx) := by have := HMM.out; omega
      obtain ⟨A, hA⟩ : ∃ A, n0 :: xs.take i = A := ⟨_, rfl⟩
      have hAl : A.length = i + 1 := by rw [← hA, List.length_cons, List.length_take, HNX.out]; omega
      have h32 : ∀ y ∈ A, In32 y := by
        intro y hy
        rw [← hA] at hy
        rcases List.mem_cons.1 hy with rfl | hy
        · exact HN0.out
        · obtain ⟨q, hq, rfl⟩ := List.mem_iff_getElem.1 (List.mem_of_mem_take hy)
          obtain ⟨_, _, _, _, _, h⟩ := HN.out q hq
          exact h
      have h64 : ∀ y ∈ A, In64 y := fun y hy => (h32 y hy).big
      rw [hA] at HO
      obtain ⟨pL, capL, rfl, hcL, hmL, hI⟩ := HO.out.ints h64
      obtain ⟨M, hM⟩ : ∃ M, A.length = M := ⟨_, rfl⟩
      have HML := Lib.hid hM
      have hM1 : 1 ≤ M := by omega
      have hM20 : M ≤ 20 := by omega
      have HOF : Hid (∀ W, Ints pL A W → Calls Tryd.prog 10 #[.int .i64 0, .int .i64 k, .slice pL M capL] W fun e w' => ∃ C S, e = .returned (.pointer (some ⟨C, 0, none⟩)) ∧ At.Made (celN k 0 A) W C S w') := Lib.hid fun W hW => by
        rw [← hM]
        exact of_any 0 (by unfold In64; omega) k HK.out pL A capL (by omega) W hW
      rw [hM] at hcL ⊢
      have hfit : (celN k 0 A).Fit := celN_fit HK.out (by unfold In64; omega) (by have := HML.out; omega) h64
      have hmany : countH (celN k 0 A).its = M := by rw [celN_many]; exact HML.out
      have hlow : (celN k 0 A).lowT = lowN A ∧ (celN k 0 A).low = lowN A := by
        refine ⟨?_, by rw [celN_eq]⟩
        unfold Cel.lowT
        rw [hmany, if_neg (by omega), celN_eq]
      have htop : (celN k 0 A).topT = topN A ∧ (celN k 0 A).top = topN A := by
        refine ⟨?_, by rw [celN_eq]⟩
        unfold Cel.topT
        rw [hmany, if_neg (by omega), celN_eq]
      have hlo32 : In32 (lowN A) := h32 _ (lowN_mem h64 (by have := HML.out; omega))
      have hhi32 : In32 (topN A) := h32 _ (topN_mem h64 (by have := HML.out; omega))
      obtain ⟨lo, hlo⟩ : ∃ lo, lowN A = lo := ⟨_, rfl⟩
      obtain ⟨hi, hhi⟩ : ∃ hi, topN A = hi := ⟨_, rfl⟩
      rw [hlo] at hlow hlo32
      rw [hhi] at htop hhi32
      obtain ⟨q, hq⟩ : ∃ q, celN k 0 A = q := ⟨_, rfl⟩
      rw [hq] at hfit hmany hlow htop HOF
      have HFIT := Lib.hid hfit
      have HMANY := Lib.hid hmany
      have HLOW := Lib.hid hlow
      have HTOP := Lib.hid htop
      have HL32 := Lib.hid hlo32
      have HH32 := Lib.hid hhi32
      have HII := Lib.hid hI
      obtain ⟨P, hP⟩ : ∃ P, tx q.put = P := ⟨_, rfl⟩
      have hPs : 43 ≤ P.size ∧ P.size ≤ 20100 := by rw [← hP, tx_size]; exact ⟨by rw [Cel.put_len]; omega, hfit.ok.len⟩
      have HPP := Lib.hid hP
      obtain ⟨hP1, hP2⟩ := hPs
      clear hA hAl h32 h64 hM hfit hmany hlow htop hlo32 hhi32 hlo hhi hq hI hP HO HN HN0 HNX HMM hig
      have HB5 := HB
      clear HB
      have ho := HOF.out _ HII.out
      go_wp2_with fail
      refine (ho).mono ?_
      rintro e w6 ⟨Cc, Sc, rfl, hA, hlo, hB⟩
      have HA := Lib.hid hA
      have HSc : Hid (∀ i, Sc i → w.heap.size ≤ i) := Lib.hid fun i hi => Nat.le_trans HB5.out.size (hlo i hi)
      clear hA hlo
      have HB6 : Hid (Below w.heap.size w w6) := Lib.hid (HB5.out.trans (hB.mono HB5.out.size))
      clear hB HB5 ho HOF HII
      have Hc6 : Hid (At Sc Cc q w6) := HA
      clear HA
      have hb := bounds_any Hc6.out
      rw [HLOW.out.1, HTOP.out.1, HMANY.out, show decide (M ≠ 0) = true from decide_eq_true (by omega)] at hb
      go_wp2_with fail
      refine (hb).mono ?_
      rintro e w7 ⟨rfl, hB⟩
      have HB7 : Hid (Below w.heap.size w w7) := Lib.hid (HB6.out.trans (hB.mono HB6.out.size))
      have Hc7 := Lib.hid (Hc6.out.below hB)
      clear hB HB6 Hc6 hb
      have hp := put_any Hc7.out
      rw [HPP.out] at hp
      go_wp2_with fail
      refine (hp).mono ?_
      rintro e w8 ⟨rfl, hB⟩
      have HB8 : Hid (Below w.heap.size w w8) := Lib.hid (HB7.out.trans (hB.mono HB7.out.size))
      have Hc8 := Lib.hid (Hc7.out.below hB)
      clear hB HB7 Hc7 hp
      obtain ⟨E1, hE1⟩ : ∃ E, P.extract 0 24 = E := ⟨_, rfl⟩
      obtain ⟨E2, hE2⟩ : ∃ E, P.extract 32 40 = E := ⟨_, rfl⟩
      obtain ⟨E3, hE3⟩ : ∃ E, P.extract 24 32 = E := ⟨_, rfl⟩
      obtain ⟨E4, hE4⟩ : ∃ E, P.extract 40 P.size = E := ⟨_, rfl⟩
      have hsz : E1.size ≤ 20100 ∧ E2.size ≤ 20100 ∧ E3.size ≤ 20100 ∧ E4.size ≤ 20100 := by rw [← hE1, ← hE2, ← hE3, ← hE4]; simp only [ByteArray.size_extract]; omega
      obtain ⟨g1, g2, g3, g4⟩ := hsz
      have z1 : (9223372036854775807 < E1.size + E2.size) = False := eq_false (by omega)
      have z2 : (9223372036854775807 < E1.size + E2.size + E3.size) = False := eq_false (by omega)
      have z3 : (9223372036854775807 < E1.size + E2.size + E3.size + E4.size) = False := eq_false (by omega)
      have hEE : (E1 ++ E2 ++ E3 ++ E4).data.toList = n8 q.frm ++ Wi.sput q.sum ++ n8 q.topT ++ n8 q.lowT ++ putH q.k q.its := by
        obtain ⟨p1, p2, p3, p4, p5, p6⟩ := put_pieces q
        have hPl : P.data.toList.drop 40 = q.put.drop 40 := by rw [← HPP.out]; rfl
        have f1 : E1.data.toList = n8 q.frm ++ Wi.sput q.sum := by rw [← hE1, ← HPP.out, extract_toList, list_tx]; exact p1
        have f2 : E2.data.toList = n8 q.topT := by rw [← hE2, ← HPP.out, extract_toList, list_tx]; exact p4
        have f3 : E3.data.toList = n8 q.lowT := by rw [← hE3, ← HPP.out, extract_toList, list_tx]; exact p3
        have f4 : E4.data.toList = putH q.k q.its := by rw [← hE4, drop_toList, hPl]; exact p5
        simp only [ByteArray.data_append, Array.toList_append, f1, f2, f3, f4]
      have HG : Hid (∀ W, Calls Tryd.prog 18 #[.string (E1 ++ E2 ++ E3 ++ E4)] W fun e w' => GetV W.heap.size (getC (n8 q.frm ++ Wi.sput q.sum ++ n8 q.topT ++ n8 q.lowT ++ putH q.k q.its)) e w' ∧ Below W.heap.size W w') := Lib.hid fun W => by
        rw [← hEE]
        exact get_any (E1 ++ E2 ++ E3 ++ E4) (by simp only [ByteArray.size_append]; unfold maxLen; omega) W
      have HTURN := Lib.hid (false_turn HFIT.out (by rw [HMANY.out]; omega))
      have HLH : Hid (q.low = lo ∧ q.top = hi) := Lib.hid ⟨HLOW.out.2, HTOP.out.2⟩
      have HE1 := Lib.hid hE1
      have HE2 := Lib.hid hE2
      have HE3 := Lib.hid hE3
      have HE4 := Lib.hid hE4
      have h32 : 32 ≤ P.size := by omega
      have h40 : 40 ≤ P.size := by omega
      clear hE1 hE2 hE3 hE4 hEE HFIT HLOW HTOP HL32 HH32 HMANY HPP
      have HBz : Hid (Below w.heap.size w (w8.alloc (.cells #[.int .i64 0, .int .u64 0] 26))) := Lib.hid (HB8.out.alloc HB8.out.size _)
      clear HB8 Hc8 HSc g1 g2 g3 g4
      go_wp2_with fail
      generalize w8.alloc (.cells #[.int .i64 0, .int .u64 0] 26) = wz at *
      by_cases heq : lo = hi
      · have HGS : Hid (∀ W, Calls Tryd.prog 18 #[.string (E1 ++ E2 ++ E3 ++ E4)] W fun e w' => (∃ C, e = .returned (.tuple #[.pointer (some ⟨C, 0, none⟩), .string (tx []), .int .i64 0])) ∧ Below W.heap.size W w') := Lib.hid fun W => by
          obtain ⟨d, hd⟩ := HTURN.out.1 (HLH.out.1.trans (heq.trans HLH.out.2.symm))
          have hg := HG.out W
          rw [hd] at hg
          exact hg.mono fun e w' h => ⟨⟨h.1.choose, h.1.choose_spec.choose_spec.1⟩, h.2⟩
        subst heq
        clear HTURN HG HLH
        refine Reg.wp_region_inv (n := 154) (SamePhi P E1 E2 E3 E4) (by kernel_rfl) (by kernel_rfl) rfl SamePhi.stays ?_ ?_
        · refine ⟨?_, ?_, ?_, ?_, ?_, ?_, ?_, ?_, ?_, ?_, ?_, ?_, ?_, ?_, ?_, ?_, ?_, ?_, ?_, trivial⟩
          · intro cx wc hB hp hs
            have g18 : cx.tmps[18]? = some (.string P) := (hs 18 (by kernel_rfl)).trans rfl
            refine Reg.ok_value Reg.Old.refl (v := .string P) (Reg.wanted_none rfl) ?_ rfl
            go_simp
          · intro cx wc hB hp hs
            have g112 : cx.tmps[112]? = some (.string P) := by obtain ⟨_, g, hv⟩ := Reg.pred hp 0 112 (by kernel_rfl) rfl rfl; exact g.trans (congrArg some hv)
            have e1 := HE1.out
            refine Reg.ok_value Reg.Old.refl (v := .string E1) (Reg.wanted_none rfl) ?_ rfl
            go_simp
            intro hh
            exact absurd hh (by omega)
          · intro cx wc hB hp hs
            have g18 : cx.tmps[18]? = some (.string P) := (hs 18 (by kernel_rfl)).trans rfl
            refine Reg.ok_value Reg.Old.refl (v := .string P) (Reg.wanted_none rfl) ?_ rfl
            go_simp
          · intro cx wc hB hp hs
            have g114 : cx.tmps[114]? = some (.string P) := by obtain ⟨_, g, hv⟩ := Reg.pred hp 2 114 (by kernel_rfl) rfl rfl; exact g.trans (congrArg some hv)
            have e1 := HE2.out
            refine Reg.ok_value Reg.Old.refl (v := .string E2) (Reg.wanted_none rfl) ?_ rfl
            go_simp
            intro hh
            exact absurd hh (by omega)
          · intro cx wc hB hp hs
            have g113 : cx.tmps[113]? = some (.string E1) := by obtain ⟨_, g, hv⟩ := Reg.pred hp 1 113 (by kernel_rfl) rfl rfl; exact g.trans (congrArg some hv)
            have g115 : cx.tmps[115]? = some (.string E2) := by obtain ⟨_, g, hv⟩ := Reg.pred hp 3 115 (by kernel_rfl) rfl rfl; exact g.trans (congrArg some hv)
            refine Reg.ok_value Reg.Old.refl (v := .string (E1 ++ E2)) (Reg.wanted_none rfl) ?_ rfl
            go_simp
          · intro cx wc hB hp hs
            have g18 : cx.tmps[18]? = some (.string P) := (hs 18 (by kernel_rfl)).trans rfl
            refine Reg.ok_value Reg.Old.refl (v := .string P) (Reg.wanted_none rfl) ?_ rfl
            go_simp
          · intro cx wc hB hp hs
            have g117 : cx.tmps[117]? = some (.string P) := by obtain ⟨_, g, hv⟩ := Reg.pred hp 5 117 (by kernel_rfl) rfl rfl; exact g.trans (congrArg some hv)
            have e1 := HE3.out
            refine Reg.ok_value Reg.Old.refl (v := .string E3) (Reg.wanted_none rfl) ?_ rfl
            go_simp
            intro hh
            exact absurd hh (by omega)
          · intro cx wc hB hp hs
            have g116 : cx.tmps[116]? = some (.string (E1 ++ E2)) := by obtain ⟨_, g, hv⟩ := Reg.pred hp 4 116 (by kernel_rfl) rfl rfl; exact g.trans (congrArg some hv)
            have g118 : cx.tmps[118]? = some (.string E3) := by obtain ⟨_, g, hv⟩ := Reg.pred hp 6 118 (by kernel_rfl) rfl rfl; exact g.trans (congrArg some hv)
            refine Reg.ok_value Reg.Old.refl (v := .string (E1 ++ E2 ++ E3)) (Reg.wanted_none rfl) ?_ rfl
            go_simp
          · intro cx wc hB hp hs
            have g18 : cx.tmps[18]? = some (.string P) := (hs 18 (by kernel_rfl)).trans rfl
            refine Reg.ok_value Reg.Old.refl (v := .string P) (Reg.wanted_none rfl) ?_ rfl
            go_simp
          · intro cx wc hB hp hs
            have g120 : cx.tmps[120]? = some (.string P) := by obtain ⟨_, g, hv⟩ := Reg.pred hp 8 120 (by kernel_rfl) rfl rfl; exact g.trans (congrArg some hv)
            have e1 := HE4.out
            refine Reg.ok_value Reg.Old.refl (v := .string E4) (Reg.wanted_none rfl) ?_ rfl
            go_simp
            intro hh
            exact absurd hh (by omega)
          · intro cx wc hB hp hs
            have g119 : cx.tmps[119]? = some (.string (E1 ++ E2 ++ E3)) := by obtain ⟨_, g, hv⟩ := Reg.pred hp 7 119 (by kernel_rfl) rfl rfl; exact g.trans (congrArg some hv)
            have g121 : cx.tmps[121]? = some (.string E4) := by obtain ⟨_, g, hv⟩ := Reg.pred hp 9 121 (by kernel_rfl) rfl rfl; exact g.trans (congrArg some hv)
            refine Reg.ok_value Reg.Old.refl (v := .string (E1 ++ E2 ++ E3 ++ E4)) (Reg.wanted_none rfl) ?_ rfl
            go_simp
          · intro cx wc hB hp hs
            have g122 : cx.tmps[122]? = some (.string (E1 ++ E2 ++ E3 ++ E4)) := by obtain ⟨_, g, hv⟩ := Reg.pred hp 10 122 (by kernel_rfl) rfl rfl; exact g.trans (congrArg some hv)
            refine Reg.ok_call (f := 18) (args := #[.string (E1 ++ E2 ++ E3 ++ E4)]) (Reg.wanted_none rfl) (by go_simp) ((HGS.out wc).mono ?_)
            rintro e w' ⟨⟨C, rfl⟩, hB2⟩
            exact ⟨_, rfl, hB2, C, rfl⟩
          · intro cx wc hB hp hs
            obtain ⟨_, g123, C, rfl⟩ := Reg.pred hp 11 123 (by kernel_rfl) rfl rfl
            refine Reg.ok_value Reg.Old.refl (v := .tuple #[.pointer (some ⟨C, 0, none⟩), .string (tx []), .int .i64 0]) (Reg.wanted_none rfl) ?_ ⟨C, rfl⟩
            go_simp
          · intro cx wc hB hp hs
            obtain ⟨_, g111, C, rfl⟩ := Reg.pred hp 12 111 (by kernel_rfl) rfl rfl
            refine Reg.ok_value Reg.Old.refl (v := .pointer (some ⟨C, 0, none⟩)) (Reg.wanted_none rfl) ?_ ⟨C, rfl⟩
            go_simp
          · intro cx wc hB hp hs
            obtain ⟨_, g111, C, rfl⟩ := Reg.pred hp 12 111 (by kernel_rfl) rfl rfl
            refine Reg.ok_value Reg.Old.refl (v := .string (tx [])) (Reg.wanted_none rfl) ?_ rfl
            go_simp
          · intro cx wc hB hp hs
            obtain ⟨_, g111, C, rfl⟩ := Reg.pred hp 12 111 (by kernel_rfl) rfl rfl
            refine Reg.ok_value Reg.Old.refl (v := .int .i64 0) (Reg.wanted_none rfl) ?_ rfl
            go_simp
          · intro cx wc hB hp hs
            obtain ⟨_, g124, C, rfl⟩ := Reg.pred hp 13 124 (by kernel_rfl) rfl rfl
            refine Reg.ok_value Reg.Old.refl (v := .pointer (some ⟨C, 0, none⟩)) (Reg.wanted_none rfl) ?_ ⟨C, rfl⟩
            go_simp
          · intro cx wc hB hp hs
            have g125 : cx.tmps[125]? = some (.string (tx [])) := by obtain ⟨_, g, hv⟩ := Reg.pred hp 14 125 (by kernel_rfl) rfl rfl; exact g.trans (congrArg some hv)
            refine Reg.ok_value Reg.Old.refl (v := .string (tx [])) (Reg.wanted_none rfl) ?_ rfl
            go_simp
          · intro cx wc hB hp hs
            have g126 : cx.tmps[126]? = some (.int .i64 0) := by obtain ⟨_, g, hv⟩ := Reg.pred hp 15 126 (by kernel_rfl) rfl rfl; exact g.trans (congrArg some hv)
            refine Reg.ok_value Reg.Old.refl (v := .int .i64 0) (Reg.wanted_none rfl) ?_ rfl
            go_simp
        · intro cx wx hB hsz hdf hv ho
          obtain ⟨X22, h22, E22, rfl⟩ := hv 16 _ 22 rfl rfl
          obtain ⟨X111, h111, E111, rfl⟩ := hv 12 _ 111 rfl rfl
          obtain ⟨X123, h123, E123, rfl⟩ := hv 11 _ 123 rfl rfl
          obtain ⟨X124, h124, E124, rfl⟩ := hv 13 _ 124 rfl rfl
          have hcx := Reg.frame_eq [_, _, _, _, _, _, _, _, _, _, _, _, _, _, _, _, _, _, _, _, _, _, .pointer (some ⟨E22, 0, none⟩), .string (tx []), .int .i64 0, _, _, _, _, _, _, _, _, _, _, _, _, _, _, _, _, _, _, _, _, _, _, _, _, _, _, _, _, _, _, _, _, _, _, _, _, _, _, _, _, _, _, _, _, _, _, _, _, _, _, _, _, _, _, _, _, _, _, _, _, _, _, _, _, _, _, _, _, _, _, _, _, _, _, _, _, _, _, _, _, _, _, _, _, _, _, .tuple #[.pointer (some ⟨E111, 0, none⟩), .string (tx []), .int .i64 0], .string P, .string E1, .string P, .string E2, .string (E1 ++ E2), .string P, .string E3, .string (E1 ++ E2 ++ E3), .string P, .string E4, .string (E1 ++ E2 ++ E3 ++ E4), .tuple #[.pointer (some ⟨E123, 0, none⟩), .string (tx []), .int .i64 0], .pointer (some ⟨E124, 0, none⟩), .string (tx []), .int .i64 0, _, _, _, _, _, _, _, _, _, _, _, _, _, _, _, _, _, _, _, _, _, _, _, _, _, _, _] (by simpa using hsz) hdf ⟨((Reg.kept ho 0 (by kernel_rfl)).trans rfl), ((Reg.kept ho 1 (by kernel_rfl)).trans rfl), ((Reg.kept ho 2 (by kernel_rfl)).trans rfl), ((Reg.kept ho 3 (by kernel_rfl)).trans rfl), ((Reg.kept ho 4 (by kernel_rfl)).trans rfl), ((Reg.kept ho 5 (by kernel_rfl)).trans rfl), ((Reg.kept ho 6 (by kernel_rfl)).trans rfl), ((Reg.kept ho 7 (by kernel_rfl)).trans rfl), ((Reg.kept ho 8 (by kernel_rfl)).trans rfl), ((Reg.kept ho 9 (by kernel_rfl)).trans rfl), ((Reg.kept ho 10 (by kernel_rfl)).trans rfl), ((Reg.kept ho 11 (by kernel_rfl)).trans rfl), ((Reg.kept ho 12 (by kernel_rfl)).trans rfl), ((Reg.kept ho 13 (by kernel_rfl)).trans rfl), ((Reg.kept ho 14 (by kernel_rfl)).trans rfl), ((Reg.kept ho 15 (by kernel_rfl)).trans rfl), ((Reg.kept ho 16 (by kernel_rfl)).trans rfl), ((Reg.kept ho 17 (by kernel_rfl)).trans rfl), ((Reg.kept ho 18 (by kernel_rfl)).trans rfl), ((Reg.kept ho 19 (by kernel_rfl)).trans rfl), ((Reg.kept ho 20 (by kernel_rfl)).trans rfl), ((Reg.kept ho 21 (by kernel_rfl)).trans rfl), h22, (by obtain ⟨_, g, hx⟩ := hv 17 _ 23 rfl rfl; exact g.trans (congrArg some hx)), (by obtain ⟨_, g, hx⟩ := hv 18 _ 24 rfl rfl; exact g.trans (congrArg some hx)), ((Reg.kept ho 25 (by kernel_rfl)).trans rfl), ((Reg.kept ho 26 (by kernel_rfl)).trans rfl), ((Reg.kept ho 27 (by kernel_rfl)).trans rfl), ((Reg.kept ho 28 (by kernel_rfl)).trans rfl), ((Reg.kept ho 29 (by kernel_rfl)).trans rfl), ((Reg.kept ho 30 (by kernel_rfl)).trans rfl), ((Reg.kept ho 31 (by kernel_rfl)).trans rfl), ((Reg.kept ho 32 (by kernel_rfl)).trans rfl), ((Reg.kept ho 33 (by kernel_rfl)).trans rfl), ((Reg.kept ho 34 (by kernel_rfl)).trans rfl), ((Reg.kept ho 35 (by kernel_rfl)).trans rfl), ((Reg.kept ho 36 (by kernel_rfl)).trans rfl), ((Reg.kept ho 37 (by kernel_rfl)).trans rfl), ((Reg.kept ho 38 (by kernel_rfl)).trans rfl), ((Reg.kept ho 39 (by kernel_rfl)).trans rfl), ((Reg.kept ho 40 (by kernel_rfl)).trans rfl), ((Reg.kept ho 41 (by kernel_rfl)).trans rfl), ((Reg.kept ho 42 (by kernel_rfl)).trans rfl), ((Reg.kept ho 43 (by kernel_rfl)).trans rfl), ((Reg.kept ho 44 (by kernel_rfl)).trans rfl), ((Reg.kept ho 45 (by kernel_rfl)).trans rfl), ((Reg.kept ho 46 (by kernel_rfl)).trans rfl), ((Reg.kept ho 47 (by kernel_rfl)).trans rfl), ((Reg.kept ho 48 (by kernel_rfl)).trans rfl), ((Reg.kept ho 49 (by kernel_rfl)).trans rfl), ((Reg.kept ho 50 (by kernel_rfl)).trans rfl), ((Reg.kept ho 51 (by kernel_rfl)).trans rfl), ((Reg.kept ho 52 (by kernel_rfl)).trans rfl), ((Reg.kept ho 53 (by kernel_rfl)).trans rfl), ((Reg.kept ho 54 (by kernel_rfl)).trans rfl), ((Reg.kept ho 55 (by kernel_rfl)).trans rfl), ((Reg.kept ho 56 (by kernel_rfl)).trans rfl), ((Reg.kept ho 57 (by kernel_rfl)).trans rfl), ((Reg.kept ho 58 (by kernel_rfl)).trans rfl), ((Reg.kept ho 59 (by kernel_rfl)).trans rfl), ((Reg.kept ho 60 (by kernel_rfl)).trans rfl), ((Reg.kept ho 61 (by kernel_rfl)).trans rfl), ((Reg.kept ho 62 (by kernel_rfl)).trans rfl), ((Reg.kept ho 63 (by kernel_rfl)).trans rfl), ((Reg.kept ho 64 (by kernel_rfl)).trans rfl), ((Reg.kept ho 65 (by kernel_rfl)).trans rfl), ((Reg.kept ho 66 (by kernel_rfl)).trans rfl), ((Reg.kept ho 67 (by kernel_rfl)).trans rfl), ((Reg.kept ho 68 (by kernel_rfl)).trans rfl), ((Reg.kept ho 69 (by kernel_rfl)).trans rfl), ((Reg.kept ho 70 (by kernel_rfl)).trans rfl), ((Reg.kept ho 71 (by kernel_rfl)).trans rfl), ((Reg.kept ho 72 (by kernel_rfl)).trans rfl), ((Reg.kept ho 73 (by kernel_rfl)).trans rfl), ((Reg.kept ho 74 (by kernel_rfl)).trans rfl), ((Reg.kept ho 75 (by kernel_rfl)).trans rfl), ((Reg.kept ho 76 (by kernel_rfl)).trans rfl), ((Reg.kept ho 77 (by kernel_rfl)).trans rfl), ((Reg.kept ho 78 (by kernel_rfl)).trans rfl), ((Reg.kept ho 79 (by kernel_rfl)).trans rfl), ((Reg.kept ho 80 (by kernel_rfl)).trans rfl), ((Reg.kept ho 81 (by kernel_rfl)).trans rfl), ((Reg.kept ho 82 (by kernel_rfl)).trans rfl), ((Reg.kept ho 83 (by kernel_rfl)).trans rfl), ((Reg.kept ho 84 (by kernel_rfl)).trans rfl), ((Reg.kept ho 85 (by kernel_rfl)).trans rfl), ((Reg.kept ho 86 (by kernel_rfl)).trans rfl), ((Reg.kept ho 87 (by kernel_rfl)).trans rfl), ((Reg.kept ho 88 (by kernel_rfl)).trans rfl), ((Reg.kept ho 89 (by kernel_rfl)).trans rfl), ((Reg.kept ho 90 (by kernel_rfl)).trans rfl), ((Reg.kept ho 91 (by kernel_rfl)).trans rfl), ((Reg.kept ho 92 (by kernel_rfl)).trans rfl), ((Reg.kept ho 93 (by kernel_rfl)).trans rfl), ((Reg.kept ho 94 (by kernel_rfl)).trans rfl), ((Reg.kept ho 95 (by kernel_rfl)).trans rfl), ((Reg.kept ho 96 (by kernel_rfl)).trans rfl), ((Reg.kept ho 97 (by kernel_rfl)).trans rfl), ((Reg.kept ho 98 (by kernel_rfl)).trans rfl), ((Reg.kept ho 99 (by kernel_rfl)).trans rfl), ((Reg.kept ho 100 (by kernel_rfl)).trans rfl), ((Reg.kept ho 101 (by kernel_rfl)).trans rfl), ((Reg.kept ho 102 (by kernel_rfl)).trans rfl), ((Reg.kept ho 103 (by kernel_rfl)).trans rfl), ((Reg.kept ho 104 (by kernel_rfl)).trans rfl), ((Reg.kept ho 105 (by kernel_rfl)).trans rfl), ((Reg.kept ho 106 (by kernel_rfl)).trans rfl), ((Reg.kept ho 107 (by kernel_rfl)).trans rfl), ((Reg.kept ho 108 (by kernel_rfl)).trans rfl), ((Reg.kept ho 109 (by kernel_rfl)).trans rfl), ((Reg.kept ho 110 (by kernel_rfl)).trans rfl), h111, (by obtain ⟨_, g, hx⟩ := hv 0 _ 112 rfl rfl; exact g.trans (congrArg some hx)), (by obtain ⟨_, g, hx⟩ := hv 1 _ 113 rfl rfl; exact g.trans (congrArg some hx)), (by obtain ⟨_, g, hx⟩ := hv 2 _ 114 rfl rfl; exact g.trans (congrArg some hx)), (by obtain ⟨_, g, hx⟩ := hv 3 _ 115 rfl rfl; exact g.trans (congrArg some hx)), (by obtain ⟨_, g, hx⟩ := hv 4 _ 116 rfl rfl; exact g.trans (congrArg some hx)), (by obtain ⟨_, g, hx⟩ := hv 5 _ 117 rfl rfl; exact g.trans (congrArg some hx)), (by obtain ⟨_, g, hx⟩ := hv 6 _ 118 rfl rfl; exact g.trans (congrArg some hx)), (by obtain ⟨_, g, hx⟩ := hv 7 _ 119 rfl rfl; exact g.trans (congrArg some hx)), (by obtain ⟨_, g, hx⟩ := hv 8 _ 120 rfl rfl; exact g.trans (congrArg some hx)), (by obtain ⟨_, g, hx⟩ := hv 9 _ 121 rfl rfl; exact g.trans (congrArg some hx)), (by obtain ⟨_, g, hx⟩ := hv 10 _ 122 rfl rfl; exact g.trans (congrArg some hx)), h123, h124, (by obtain ⟨_, g, hx⟩ := hv 14 _ 125 rfl rfl; exact g.trans (congrArg some hx)), (by obtain ⟨_, g, hx⟩ := hv 15 _ 126 rfl rfl; exact g.trans (congrArg some hx)), ((Reg.kept ho 127 (by kernel_rfl)).trans rfl), ((Reg.kept ho 128 (by kernel_rfl)).trans rfl), ((Reg.kept ho 129 (by kernel_rfl)).trans rfl), ((Reg.kept ho 130 (by kernel_rfl)).trans rfl), ((Reg.kept ho 131 (by kernel_rfl)).trans rfl), ((Reg.kept ho 132 (by kernel_rfl)).trans rfl), ((Reg.kept ho 133 (by kernel_rfl)).trans rfl), ((Reg.kept ho 134 (by kernel_rfl)).trans rfl), ((Reg.kept ho 135 (by kernel_rfl)).trans rfl), ((Reg.kept ho 136 (by kernel_rfl)).trans rfl), ((Reg.kept ho 137 (by kernel_rfl)).trans rfl), ((Reg.kept ho 138 (by kernel_rfl)).trans rfl), ((Reg.kept ho 139 (by kernel_rfl)).trans rfl), ((Reg.kept ho 140 (by kernel_rfl)).trans rfl), ((Reg.kept ho 141 (by kernel_rfl)).trans rfl), ((Reg.kept ho 142 (by kernel_rfl)).trans rfl), ((Reg.kept ho 143 (by kernel_rfl)).trans rfl), ((Reg.kept ho 144 (by kernel_rfl)).trans rfl), ((Reg.kept ho 145 (by kernel_rfl)).trans rfl), ((Reg.kept ho 146 (by kernel_rfl)).trans rfl), ((Reg.kept ho 147 (by kernel_rfl)).trans rfl), ((Reg.kept ho 148 (by kernel_rfl)).trans rfl), ((Reg.kept ho 149 (by kernel_rfl)).trans rfl), ((Reg.kept ho 150 (by kernel_rfl)).trans rfl), ((Reg.kept ho 151 (by kernel_rfl)).trans rfl), ((Reg.kept ho 152 (by kernel_rfl)).trans rfl), ((Reg.kept ho 153 (by kernel_rfl)).trans rfl), trivial⟩
          subst hcx
          have HEx : Hid (Below w.heap.size w wx) := Lib.hid (HBz.out.trans (hB.mono HBz.out.size))
          clear hv ho hB hsz hdf h22 h111 h123 h124
          go_wp2
          go_ret
          exact ⟨rfl, HEx.out⟩
      · have HGN : Hid (∀ W, Calls Tryd.prog 18 #[.string (E1 ++ E2 ++ E3 ++ E4)] W fun e w' => e = .returned (.tuple #[.pointer none, .string ⟨#[]⟩, .int .i64 2]) ∧ Below W.heap.size W w') := Lib.hid fun W => by
          have hg := HG.out W
          rw [HTURN.out.2 (fun h => heq (HLH.out.1.symm.trans (h.trans HLH.out.2)))] at hg
          exact hg
        have hne : (lo == hi) = false := by simp [heq]
        clear HTURN HG HLH heq
        refine Reg.wp_region_inv (n := 154) (TurnPhi P E1 E2 E3 E4) (by kernel_rfl) (by kernel_rfl) rfl TurnPhi.stays ?_ ?_
        · refine ⟨?_, ?_, ?_, ?_, ?_, ?_, ?_, ?_, ?_, ?_, ?_, ?_, ?_, ?_, ?_, ?_, ?_, ?_, ?_, trivial⟩
          · intro cx wc hB hp hs
            have g18 : cx.tmps[18]? = some (.string P) := (hs 18 (by kernel_rfl)).trans rfl
            refine Reg.ok_value Reg.Old.refl (v := .string P) (Reg.wanted_none rfl) ?_ rfl
            go_simp
          · intro cx wc hB hp hs
            have g112 : cx.tmps[112]? = some (.string P) := by obtain ⟨_, g, hv⟩ := Reg.pred hp 0 112 (by kernel_rfl) rfl rfl; exact g.trans (congrArg some hv)
            have e1 := HE1.out
            refine Reg.ok_value Reg.Old.refl (v := .string E1) (Reg.wanted_none rfl) ?_ rfl
            go_simp
            intro hh
            exact absurd hh (by omega)
          · intro cx wc hB hp hs
            have g18 : cx.tmps[18]? = some (.string P) := (hs 18 (by kernel_rfl)).trans rfl
            refine Reg.ok_value Reg.Old.refl (v := .string P) (Reg.wanted_none rfl) ?_ rfl
            go_simp
          · intro cx wc hB hp hs
            have g114 : cx.tmps[114]? = some (.string P) := by obtain ⟨_, g, hv⟩ := Reg.pred hp 2 114 (by kernel_rfl) rfl rfl; exact g.trans (congrArg some hv)
            have e1 := HE2.out
            refine Reg.ok_value Reg.Old.refl (v := .string E2) (Reg.wanted_none rfl) ?_ rfl
            go_simp
            intro hh
            exact absurd hh (by omega)
          · intro cx wc hB hp hs
            have g113 : cx.tmps[113]? = some (.string E1) := by obtain ⟨_, g, hv⟩ := Reg.pred hp 1 113 (by kernel_rfl) rfl rfl; exact g.trans (congrArg some hv)
            have g115 : cx.tmps[115]? = some (.string E2) := by obtain ⟨_, g, hv⟩ := Reg.pred hp 3 115 (by kernel_rfl) rfl rfl; exact g.trans (congrArg some hv)
            refine Reg.ok_value Reg.Old.refl (v := .string (E1 ++ E2)) (Reg.wanted_none rfl) ?_ rfl
            go_simp
          · intro cx wc hB hp hs
            have g18 : cx.tmps[18]? = some (.string P) := (hs 18 (by kernel_rfl)).trans rfl
            refine Reg.ok_value Reg.Old.refl (v := .string P) (Reg.wanted_none rfl) ?_ rfl
            go_simp
          · intro cx wc hB hp hs
            have g117 : cx.tmps[117]? = some (.string P) := by obtain ⟨_, g, hv⟩ := Reg.pred hp 5 117 (by kernel_rfl) rfl rfl; exact g.trans (congrArg some hv)
            have e1 := HE3.out
            refine Reg.ok_value Reg.Old.refl (v := .string E3) (Reg.wanted_none rfl) ?_ rfl
            go_simp
            intro hh
            exact absurd hh (by omega)
          · intro cx wc hB hp hs
            have g116 : cx.tmps[116]? = some (.string (E1 ++ E2)) := by obtain ⟨_, g, hv⟩ := Reg.pred hp 4 116 (by kernel_rfl) rfl rfl; exact g.trans (congrArg some hv)
            have g118 : cx.tmps[118]? = some (.string E3) := by obtain ⟨_, g, hv⟩ := Reg.pred hp 6 118 (by kernel_rfl) rfl rfl; exact g.trans (congrArg some hv)
            refine Reg.ok_value Reg.Old.refl (v := .string (E1 ++ E2 ++ E3)) (Reg.wanted_none rfl) ?_ rfl
            go_simp
          · intro cx wc hB hp hs
            have g18 : cx.tmps[18]? = some (.string P) := (hs 18 (by kernel_rfl)).trans rfl
            refine Reg.ok_value Reg.Old.refl (v := .string P) (Reg.wanted_none rfl) ?_ rfl
            go_simp
          · intro cx wc hB hp hs
            have g120 : cx.tmps[120]? = some (.string P) := by obtain ⟨_, g, hv⟩ := Reg.pred hp 8 120 (by kernel_rfl) rfl rfl; exact g.trans (congrArg some hv)
            have e1 := HE4.out
            refine Reg.ok_value Reg.Old.refl (v := .string E4) (Reg.wanted_none rfl) ?_ rfl
            go_simp
            intro hh
            exact absurd hh (by omega)
          · intro cx wc hB hp hs
            have g119 : cx.tmps[119]? = some (.string (E1 ++ E2 ++ E3)) := by obtain ⟨_, g, hv⟩ := Reg.pred hp 7 119 (by kernel_rfl) rfl rfl; exact g.trans (congrArg some hv)
            have g121 : cx.tmps[121]? = some (.string E4) := by obtain ⟨_, g, hv⟩ := Reg.pred hp 9 121 (by kernel_rfl) rfl rfl; exact g.trans (congrArg some hv)
            refine Reg.ok_value Reg.Old.refl (v := .string (E1 ++ E2 ++ E3 ++ E4)) (Reg.wanted_none rfl) ?_ rfl
            go_simp
          · intro cx wc hB hp hs
            have g122 : cx.tmps[122]? = some (.string (E1 ++ E2 ++ E3 ++ E4)) := by obtain ⟨_, g, hv⟩ := Reg.pred hp 10 122 (by kernel_rfl) rfl rfl; exact g.trans (congrArg some hv)
            refine Reg.ok_call (f := 18) (args := #[.string (E1 ++ E2 ++ E3 ++ E4)]) (Reg.wanted_none rfl) (by go_simp) ((HGN.out wc).mono ?_)
            rintro e w' ⟨rfl, hB2⟩
            exact ⟨_, rfl, hB2, rfl⟩
          · intro cx wc hB hp hs
            have g123 : cx.tmps[123]? = some (.tuple #[.pointer none, .string (⟨#[]⟩), .int .i64 2]) := by obtain ⟨_, g, hv⟩ := Reg.pred hp 11 123 (by kernel_rfl) rfl rfl; exact g.trans (congrArg some hv)
            refine Reg.ok_value Reg.Old.refl (v := .tuple #[.pointer none, .string (⟨#[]⟩), .int .i64 2]) (Reg.wanted_none rfl) ?_ rfl
            go_simp
          · intro cx wc hB hp hs
            have g111 : cx.tmps[111]? = some (.tuple #[.pointer none, .string (⟨#[]⟩), .int .i64 2]) := by obtain ⟨_, g, hv⟩ := Reg.pred hp 12 111 (by kernel_rfl) rfl rfl; exact g.trans (congrArg some hv)
            refine Reg.ok_value Reg.Old.refl (v := .pointer none) (Reg.wanted_none rfl) ?_ rfl
            go_simp
          · intro cx wc hB hp hs
            have g111 : cx.tmps[111]? = some (.tuple #[.pointer none, .string (⟨#[]⟩), .int .i64 2]) := by obtain ⟨_, g, hv⟩ := Reg.pred hp 12 111 (by kernel_rfl) rfl rfl; exact g.trans (congrArg some hv)
            refine Reg.ok_value Reg.Old.refl (v := .string (⟨#[]⟩)) (Reg.wanted_none rfl) ?_ rfl
            go_simp
          · intro cx wc hB hp hs
            have g111 : cx.tmps[111]? = some (.tuple #[.pointer none, .string (⟨#[]⟩), .int .i64 2]) := by obtain ⟨_, g, hv⟩ := Reg.pred hp 12 111 (by kernel_rfl) rfl rfl; exact g.trans (congrArg some hv)
            refine Reg.ok_value Reg.Old.refl (v := .int .i64 2) (Reg.wanted_none rfl) ?_ rfl
            go_simp
          · intro cx wc hB hp hs
            have g124 : cx.tmps[124]? = some (.pointer none) := by obtain ⟨_, g, hv⟩ := Reg.pred hp 13 124 (by kernel_rfl) rfl rfl; exact g.trans (congrArg some hv)
            refine Reg.ok_value Reg.Old.refl (v := .pointer none) (Reg.wanted_none rfl) ?_ rfl
            go_simp
          · intro cx wc hB hp hs
            have g125 : cx.tmps[125]? = some (.string (⟨#[]⟩)) := by obtain ⟨_, g, hv⟩ := Reg.pred hp 14 125 (by kernel_rfl) rfl rfl; exact g.trans (congrArg some hv)
            refine Reg.ok_value Reg.Old.refl (v := .string (⟨#[]⟩)) (Reg.wanted_none rfl) ?_ rfl
            go_simp
          · intro cx wc hB hp hs
            have g126 : cx.tmps[126]? = some (.int .i64 2) := by obtain ⟨_, g, hv⟩ := Reg.pred hp 15 126 (by kernel_rfl) rfl rfl; exact g.trans (congrArg some hv)
            refine Reg.ok_value Reg.Old.refl (v := .int .i64 2) (Reg.wanted_none rfl) ?_ rfl
            go_simp
        · intro cx wx hB hsz hdf hv ho
          have hcx := Reg.frame_eq [_, _, _, _, _, _, _, _, _, _, _, _, _, _, _, _, _, _, _, _, _, _, .pointer none, .string (⟨#[]⟩), .int .i64 2, _, _, _, _, _, _, _, _, _, _, _, _, _, _, _, _, _, _, _, _, _, _, _, _, _, _, _, _, _, _, _, _, _, _, _, _, _, _, _, _, _, _, _, _, _, _, _, _, _, _, _, _, _, _, _, _, _, _, _, _, _, _, _, _, _, _, _, _, _, _, _, _, _, _, _, _, _, _, _, _, _, _, _, _, _, _, .tuple #[.pointer none, .string (⟨#[]⟩), .int .i64 2], .string P, .string E1, .string P, .string E2, .string (E1 ++ E2), .string P, .string E3, .string (E1 ++ E2 ++ E3), .string P, .string E4, .string (E1 ++ E2 ++ E3 ++ E4), .tuple #[.pointer none, .string (⟨#[]⟩), .int .i64 2], .pointer none, .string (⟨#[]⟩), .int .i64 2, _, _, _, _, _, _, _, _, _, _, _, _, _, _, _, _, _, _, _, _, _, _, _, _, _, _, _] (by simpa using hsz) hdf ⟨((Reg.kept ho 0 (by kernel_rfl)).trans rfl), ((Reg.kept ho 1 (by kernel_rfl)).trans rfl), ((Reg.kept ho 2 (by kernel_rfl)).trans rfl), ((Reg.kept ho 3 (by kernel_rfl)).trans rfl), ((Reg.kept ho 4 (by kernel_rfl)).trans rfl), ((Reg.kept ho 5 (by kernel_rfl)).trans rfl), ((Reg.kept ho 6 (by kernel_rfl)).trans rfl), ((Reg.kept ho 7 (by kernel_rfl)).trans rfl), ((Reg.kept ho 8 (by kernel_rfl)).trans rfl), ((Reg.kept ho 9 (by kernel_rfl)).trans rfl), ((Reg.kept ho 10 (by kernel_rfl)).trans rfl), ((Reg.kept ho 11 (by kernel_rfl)).trans rfl), ((Reg.kept ho 12 (by kernel_rfl)).trans rfl), ((Reg.kept ho 13 (by kernel_rfl)).trans rfl), ((Reg.kept ho 14 (by kernel_rfl)).trans rfl), ((Reg.kept ho 15 (by kernel_rfl)).trans rfl), ((Reg.kept ho 16 (by kernel_rfl)).trans rfl), ((Reg.kept ho 17 (by kernel_rfl)).trans rfl), ((Reg.kept ho 18 (by kernel_rfl)).trans rfl), ((Reg.kept ho 19 (by kernel_rfl)).trans rfl), ((Reg.kept ho 20 (by kernel_rfl)).trans rfl), ((Reg.kept ho 21 (by kernel_rfl)).trans rfl), (by obtain ⟨_, g, hx⟩ := hv 16 _ 22 rfl rfl; exact g.trans (congrArg some hx)), (by obtain ⟨_, g, hx⟩ := hv 17 _ 23 rfl rfl; exact g.trans (congrArg some hx)), (by obtain ⟨_, g, hx⟩ := hv 18 _ 24 rfl rfl; exact g.trans (congrArg some hx)), ((Reg.kept ho 25 (by kernel_rfl)).trans rfl), ((Reg.kept ho 26 (by kernel_rfl)).trans rfl), ((Reg.kept ho 27 (by kernel_rfl)).trans rfl), ((Reg.kept ho 28 (by kernel_rfl)).trans rfl), ((Reg.kept ho 29 (by kernel_rfl)).trans rfl), ((Reg.kept ho 30 (by kernel_rfl)).trans rfl), ((Reg.kept ho 31 (by kernel_rfl)).trans rfl), ((Reg.kept ho 32 (by kernel_rfl)).trans rfl), ((Reg.kept ho 33 (by kernel_rfl)).trans rfl), ((Reg.kept ho 34 (by kernel_rfl)).trans rfl), ((Reg.kept ho 35 (by kernel_rfl)).trans rfl), ((Reg.kept ho 36 (by kernel_rfl)).trans rfl), ((Reg.kept ho 37 (by kernel_rfl)).trans rfl), ((Reg.kept ho 38 (by kernel_rfl)).trans rfl), ((Reg.kept ho 39 (by kernel_rfl)).trans rfl), ((Reg.kept ho 40 (by kernel_rfl)).trans rfl), ((Reg.kept ho 41 (by kernel_rfl)).trans rfl), ((Reg.kept ho 42 (by kernel_rfl)).trans rfl), ((Reg.kept ho 43 (by kernel_rfl)).trans rfl), ((Reg.kept ho 44 (by kernel_rfl)).trans rfl), ((Reg.kept ho 45 (by kernel_rfl)).trans rfl), ((Reg.kept ho 46 (by kernel_rfl)).trans rfl), ((Reg.kept ho 47 (by kernel_rfl)).trans rfl), ((Reg.kept ho 48 (by kernel_rfl)).trans rfl), ((Reg.kept ho 49 (by kernel_rfl)).trans rfl), ((Reg.kept ho 50 (by kernel_rfl)).trans rfl), ((Reg.kept ho 51 (by kernel_rfl)).trans rfl), ((Reg.kept ho 52 (by kernel_rfl)).trans rfl), ((Reg.kept ho 53 (by kernel_rfl)).trans rfl), ((Reg.kept ho 54 (by kernel_rfl)).trans rfl), ((Reg.kept ho 55 (by kernel_rfl)).trans rfl), ((Reg.kept ho 56 (by kernel_rfl)).trans rfl), ((Reg.kept ho 57 (by kernel_rfl)).trans rfl), ((Reg.kept ho 58 (by kernel_rfl)).trans rfl), ((Reg.kept ho 59 (by kernel_rfl)).trans rfl), ((Reg.kept ho 60 (by kernel_rfl)).trans rfl), ((Reg.kept ho 61 (by kernel_rfl)).trans rfl), ((Reg.kept ho 62 (by kernel_rfl)).trans rfl), ((Reg.kept ho 63 (by kernel_rfl)).trans rfl), ((Reg.kept ho 64 (by kernel_rfl)).trans rfl), ((Reg.kept ho 65 (by kernel_rfl)).trans rfl), ((Reg.kept ho 66 (by kernel_rfl)).trans rfl), ((Reg.kept ho 67 (by kernel_rfl)).trans rfl), ((Reg.kept ho 68 (by kernel_rfl)).trans rfl), ((Reg.kept ho 69 (by kernel_rfl)).trans rfl), ((Reg.kept ho 70 (by kernel_rfl)).trans rfl), ((Reg.kept ho 71 (by kernel_rfl)).trans rfl), ((Reg.kept ho 72 (by kernel_rfl)).trans rfl), ((Reg.kept ho 73 (by kernel_rfl)).trans rfl), ((Reg.kept ho 74 (by kernel_rfl)).trans rfl), ((Reg.kept ho 75 (by kernel_rfl)).trans rfl), ((Reg.kept ho 76 (by kernel_rfl)).trans rfl), ((Reg.kept ho 77 (by kernel_rfl)).trans rfl), ((Reg.kept ho 78 (by kernel_rfl)).trans rfl), ((Reg.kept ho 79 (by kernel_rfl)).trans rfl), ((Reg.kept ho 80 (by kernel_rfl)).trans rfl), ((Reg.kept ho 81 (by kernel_rfl)).trans rfl), ((Reg.kept ho 82 (by kernel_rfl)).trans rfl), ((Reg.kept ho 83 (by kernel_rfl)).trans rfl), ((Reg.kept ho 84 (by kernel_rfl)).trans rfl), ((Reg.kept ho 85 (by kernel_rfl)).trans rfl), ((Reg.kept ho 86 (by kernel_rfl)).trans rfl), ((Reg.kept ho 87 (by kernel_rfl)).trans rfl), ((Reg.kept ho 88 (by kernel_rfl)).trans rfl), ((Reg.kept ho 89 (by kernel_rfl)).trans rfl), ((Reg.kept ho 90 (by kernel_rfl)).trans rfl), ((Reg.kept ho 91 (by kernel_rfl)).trans rfl), ((Reg.kept ho 92 (by kernel_rfl)).trans rfl), ((Reg.kept ho 93 (by kernel_rfl)).trans rfl), ((Reg.kept ho 94 (by kernel_rfl)).trans rfl), ((Reg.kept ho 95 (by kernel_rfl)).trans rfl), ((Reg.kept ho 96 (by kernel_rfl)).trans rfl), ((Reg.kept ho 97 (by kernel_rfl)).trans rfl), ((Reg.kept ho 98 (by kernel_rfl)).trans rfl), ((Reg.kept ho 99 (by kernel_rfl)).trans rfl), ((Reg.kept ho 100 (by kernel_rfl)).trans rfl), ((Reg.kept ho 101 (by kernel_rfl)).trans rfl), ((Reg.kept ho 102 (by kernel_rfl)).trans rfl), ((Reg.kept ho 103 (by kernel_rfl)).trans rfl), ((Reg.kept ho 104 (by kernel_rfl)).trans rfl), ((Reg.kept ho 105 (by kernel_rfl)).trans rfl), ((Reg.kept ho 106 (by kernel_rfl)).trans rfl), ((Reg.kept ho 107 (by kernel_rfl)).trans rfl), ((Reg.kept ho 108 (by kernel_rfl)).trans rfl), ((Reg.kept ho 109 (by kernel_rfl)).trans rfl), ((Reg.kept ho 110 (by kernel_rfl)).trans rfl), (by obtain ⟨_, g, hx⟩ := hv 12 _ 111 rfl rfl; exact g.trans (congrArg some hx)), (by obtain ⟨_, g, hx⟩ := hv 0 _ 112 rfl rfl; exact g.trans (congrArg some hx)), (by obtain ⟨_, g, hx⟩ := hv 1 _ 113 rfl rfl; exact g.trans (congrArg some hx)), (by obtain ⟨_, g, hx⟩ := hv 2 _ 114 rfl rfl; exact g.trans (congrArg some hx)), (by obtain ⟨_, g, hx⟩ := hv 3 _ 115 rfl rfl; exact g.trans (congrArg some hx)), (by obtain ⟨_, g, hx⟩ := hv 4 _ 116 rfl rfl; exact g.trans (congrArg some hx)), (by obtain ⟨_, g, hx⟩ := hv 5 _ 117 rfl rfl; exact g.trans (congrArg some hx)), (by obtain ⟨_, g, hx⟩ := hv 6 _ 118 rfl rfl; exact g.trans (congrArg some hx)), (by obtain ⟨_, g, hx⟩ := hv 7 _ 119 rfl rfl; exact g.trans (congrArg some hx)), (by obtain ⟨_, g, hx⟩ := hv 8 _ 120 rfl rfl; exact g.trans (congrArg some hx)), (by obtain ⟨_, g, hx⟩ := hv 9 _ 121 rfl rfl; exact g.trans (congrArg some hx)), (by obtain ⟨_, g, hx⟩ := hv 10 _ 122 rfl rfl; exact g.trans (congrArg some hx)), (by obtain ⟨_, g, hx⟩ := hv 11 _ 123 rfl rfl; exact g.trans (congrArg some hx)), (by obtain ⟨_, g, hx⟩ := hv 13 _ 124 rfl rfl; exact g.trans (congrArg some hx)), (by obtain ⟨_, g, hx⟩ := hv 14 _ 125 rfl rfl; exact g.trans (congrArg some hx)), (by obtain ⟨_, g, hx⟩ := hv 15 _ 126 rfl rfl; exact g.trans (congrArg some hx)), ((Reg.kept ho 127 (by kernel_rfl)).trans rfl), ((Reg.kept ho 128 (by kernel_rfl)).trans rfl), ((Reg.kept ho 129 (by kernel_rfl)).trans rfl), ((Reg.kept ho 130 (by kernel_rfl)).trans rfl), ((Reg.kept ho 131 (by kernel_rfl)).trans rfl), ((Reg.kept ho 132 (by kernel_rfl)).trans rfl), ((Reg.kept ho 133 (by kernel_rfl)).trans rfl), ((Reg.kept ho 134 (by kernel_rfl)).trans rfl), ((Reg.kept ho 135 (by kernel_rfl)).trans rfl), ((Reg.kept ho 136 (by kernel_rfl)).trans rfl), ((Reg.kept ho 137 (by kernel_rfl)).trans rfl), ((Reg.kept ho 138 (by kernel_rfl)).trans rfl), ((Reg.kept ho 139 (by kernel_rfl)).trans rfl), ((Reg.kept ho 140 (by kernel_rfl)).trans rfl), ((Reg.kept ho 141 (by kernel_rfl)).trans rfl), ((Reg.kept ho 142 (by kernel_rfl)).trans rfl), ((Reg.kept ho 143 (by kernel_rfl)).trans rfl), ((Reg.kept ho 144 (by kernel_rfl)).trans rfl), ((Reg.kept ho 145 (by kernel_rfl)).trans rfl), ((Reg.kept ho 146 (by kernel_rfl)).trans rfl), ((Reg.kept ho 147 (by kernel_rfl)).trans rfl), ((Reg.kept ho 148 (by kernel_rfl)).trans rfl), ((Reg.kept ho 149 (by kernel_rfl)).trans rfl), ((Reg.kept ho 150 (by kernel_rfl)).trans rfl), ((Reg.kept ho 151 (by kernel_rfl)).trans rfl), ((Reg.kept ho 152 (by kernel_rfl)).trans rfl), ((Reg.kept ho 153 (by kernel_rfl)).trans rfl), trivial⟩
          subst hcx
          have HEx : Hid (Below w.heap.size w wx) := Lib.hid (HBz.out.trans (hB.mono HBz.out.size))
          clear hv ho hB hsz hdf
          go_wp2
          go_ret
          exact ⟨rfl, HEx.out⟩
set_option maxRecDepth 100000 in
set_option maxHeartbeats 16000000 in
theorem false_2b (x : Nat) (hx : x < 256) (n0 : Int) (hn0 : In32 n0) (p : Option Addr) (xs : List Int) (cap : Nat) (hxl : xs.length ≤ 9223372036854775807) (hnx : 19 < xs.length) (how : Nat) (hhow : how < 256) (hj : how % 3 = 2) (b : Nat) (_ : b < 256)
    (w : World) (hT : Wi.Tens w) (hN : Ints32 p xs w) :
    Calls Tryd.prog 5 #[.int .u8 x, .int .i32 n0, .slice p xs.length cap, .int .u8 how, .int .u8 b] w fun e w' => e = .returned (.bool true) ∧ Below w.heap.size w w' := by
  have HT := Lib.hid hT
  have HN := Lib.hid hN
  obtain ⟨k, hk⟩ : ∃ k, x % 5 = k := ⟨_, rfl⟩
  have hki : (x : Int) % 5 = (k : Int) := by omega
  have HK : Hid (k ≤ 4) := Lib.hid (by omega)
  have hji : (how : Int) % 3 = 2 := by omega
  have HN0 := Lib.hid hn0
  obtain ⟨n1, n2⟩ := hn0
  have hn64 : wrap64 n0 = n0 := by unfold wrap64; omega
  obtain ⟨nx, hnxl⟩ : ∃ n, xs.length = n := ⟨_, rfl⟩
  have HNX := Lib.hid hnxl
  rw [hnxl] at hnx hxl ⊢
  clear hnxl hT hN hk hj
  obtain ⟨m, hm⟩ : ∃ m, m = 19 := ⟨_, rfl⟩
  have hm19 : m ≤ 19 := by omega
  have hmn : m ≤ nx := by omega
  have HMM := Lib.hid hm
  clear hm
  go_enter Tryd.func5, Tryd.ntmps5
  go_wp2_with fail
  refine (examples_any _ HT.out).mono ?_
  rintro e w1 ⟨rfl, hB⟩
  have HO0 : Hid (OwnL w.heap.size (.slice (some ⟨w1.heap.size, 0, none⟩) 1 1) (n0 :: xs.take 0) (w1.alloc (.cells #[.int .i64 n0] 2))) := Lib.hid ((OwnL.one n0 w1).mono hB.size)
  have HB0 : Hid (Below w.heap.size w (w1.alloc (.cells #[.int .i64 n0] 2))) := Lib.hid (hB.alloc hB.size _)
  clear hB HT
  go_wp2
  go_loopg [12, 13] m (fun g s12 s13 wx => ∃ i : Nat, i + g = m ∧ s13 = .int .i64 i ∧ Hid (OwnL w.heap.size s12 (n0 :: xs.take i) wx) ∧ Hid (Below w.heap.size w wx))
  case atStart => exact ⟨0, by omega, rfl, HO0, HB0⟩
  case round =>
    clear HO0 HB0
    obtain ⟨i, hig, rfl, HO, HB⟩ := hrel
    cases gk with
    | succ g =>
      have hi1 : i < nx := by omega
      have hi2 : i < 19 := by omega
      have hix : i < xs.length := by rw [HNX.out]; exact hi1
      obtain ⟨C, off, rfl, hC, hcell, hlt⟩ := HN.out i hix
      have hc0 := (HB.out.cell (p := ⟨C, off + i, none⟩) hC).trans hcell
      obtain ⟨v', w', hr, hO', hM', _⟩ := append_long 22 HO.out xs[i] (by rw [List.length_cons, List.length_take]; omega) HB.out.size
      have hsn : (n0 :: xs.take i) ++ [xs[i]] = n0 :: xs.take (i + 1) := by
        rw [List.take_add_one, List.getElem?_eq_getElem hix]
        rfl
      rw [hsn] at hO'
      have HO' := Lib.hid hO'
      have HB' := Lib.hid (below_mov HB.out hM' (fun j hj => (HO.out.lt hj).1) (Nat.le_refl _))
      obtain ⟨y, hy⟩ : ∃ y, xs[i] = y := ⟨_, rfl⟩
      rw [hy] at hc0 hr hlt
      have hy64 : wrap64 y = y := by have := hlt; unfold In32 at this; unfold wrap64; omega
      obtain ⟨y1, y2⟩ := hlt
      clear hcell hO' hM' HO HB hy hsn
      go_wp2_with (at_builtin; refine Lib.wpList_append_run _ rfl _ _ _ _ rfl _ _ rfl rfl _ _ hr ?_)
      go_roundg g
      case measure => omega
      case rel => exact ⟨i + 1, by omega, by go_num, HO', HB'⟩
    | zero =>
      obtain rfl : i = m := by omega
      have he1 : i < nx := by have := HMM.out; omega
      have he2 : ¬ (i < 19) := by have := HMM.out; omega
      obtain ⟨A, hA⟩ : ∃ A, n0 :: xs.take i = A := ⟨_, rfl⟩
      have hAl : A.length = i + 1 := by rw [← hA, List.length_cons, List.length_take, HNX.out]; omega
      have h32 : ∀ y ∈ A, In32 y := by
        intro y hy
        rw [← hA] at hy
        rcases List.mem_cons.1 hy with rfl | hy
        · exact HN0.out
        · obtain ⟨q, hq, rfl⟩ := List.mem_iff_getElem.1 (List.mem_of_mem_take hy)
          obtain ⟨_, _, _, _, _, h⟩ := HN.out q hq
          exact h
      have h64 : ∀ y ∈ A, In64 y := fun y hy => (h32 y hy).big
      rw [hA] at HO
      obtain ⟨pL, capL, rfl, hcL, hmL, hI⟩ := HO.out.ints h64
      obtain ⟨M, hM⟩ : ∃ M, A.length = M := ⟨_, rfl⟩
      have HML := Lib.hid hM
      have hM1 : 1 ≤ M := by omega
      have hM20 : M ≤ 20 := by omega
      have HOF : Hid (∀ W, Ints pL A W → Calls Tryd.prog 10 #[.int .i64 0, .int .i64 k, .slice pL M capL] W fun e w' => ∃ C S, e = .returned (.pointer (some ⟨C, 0, none⟩)) ∧ At.Made (celN k 0 A) W C S w') := Lib.hid fun W hW => by
        rw [← hM]
        exact of_any 0 (by unfold In64; omega) k HK.out pL A capL (by omega) W hW
      rw [hM] at hcL ⊢
      have hfit : (celN k 0 A).Fit := celN_fit HK.out (by unfold In64; omega) (by have := HML.out; omega) h64
      have hmany : countH (celN k 0 A).its = M := by rw [celN_many]; exact HML.out
      have hlow : (celN k 0 A).lowT = lowN A ∧ (celN k 0 A).low = lowN A := by
        refine ⟨?_, by rw [celN_eq]⟩
        unfold Cel.lowT
        rw [hmany, if_neg (by omega), celN_eq]
      have htop : (celN k 0 A).topT = topN A ∧ (celN k 0 A).top = topN A := by
        refine ⟨?_, by rw [celN_eq]⟩
        unfold Cel.topT
        rw [hmany, if_neg (by omega), celN_eq]
      have hlo32 : In32 (lowN A) := h32 _ (lowN_mem h64 (by have := HML.out; omega))
      have hhi32 : In32 (topN A) := h32 _ (topN_mem h64 (by have := HML.out; omega))
      obtain ⟨lo, hlo⟩ : ∃ lo, lowN A = lo := ⟨_, rfl⟩
      obtain ⟨hi, hhi⟩ : ∃ hi, topN A = hi := ⟨_, rfl⟩
      rw [hlo] at hlow hlo32
      rw [hhi] at htop hhi32
      obtain ⟨q, hq⟩ : ∃ q, celN k 0 A = q := ⟨_, rfl⟩
      rw [hq] at hfit hmany hlow htop HOF
      have HFIT := Lib.hid hfit
      have HMANY := Lib.hid hmany
      have HLOW := Lib.hid hlow
      have HTOP := Lib.hid htop
      have HL32 := Lib.hid hlo32
      have HH32 := Lib.hid hhi32
      have HII := Lib.hid hI
      obtain ⟨P, hP⟩ : ∃ P, tx q.put = P := ⟨_, rfl⟩
      have hPs : 43 ≤ P.size ∧ P.size ≤ 20100 := by rw [← hP, tx_size]; exact ⟨by rw [Cel.put_len]; omega, hfit.ok.len⟩
      have HPP := Lib.hid hP
      obtain ⟨hP1, hP2⟩ := hPs
      clear hA hAl h32 h64 hM hfit hmany hlow htop hlo32 hhi32 hlo hhi hq hI hP HO HN HN0 HNX HMM hig
      have HB5 := HB
      clear HB
      have ho := HOF.out _ HII.out
      go_wp2_with fail
      refine (ho).mono ?_
      rintro e w6 ⟨Cc, Sc, rfl, hA, hlo, hB⟩
      have HA := Lib.hid hA
      have HSc : Hid (∀ i, Sc i → w.heap.size ≤ i) := Lib.hid fun i hi => Nat.le_trans HB5.out.size (hlo i hi)
      clear hA hlo
      have HB6 : Hid (Below w.heap.size w w6) := Lib.hid (HB5.out.trans (hB.mono HB5.out.size))
      clear hB HB5 ho HOF HII
      have Hc6 : Hid (At Sc Cc q w6) := HA
      clear HA
      have hb := bounds_any Hc6.out
      rw [HLOW.out.1, HTOP.out.1, HMANY.out, show decide (M ≠ 0) = true from decide_eq_true (by omega)] at hb
      go_wp2_with fail
      refine (hb).mono ?_
      rintro e w7 ⟨rfl, hB⟩
      have HB7 : Hid (Below w.heap.size w w7) := Lib.hid (HB6.out.trans (hB.mono HB6.out.size))
      have Hc7 := Lib.hid (Hc6.out.below hB)
      clear hB HB6 Hc6 hb
      have hp := put_any Hc7.out
      rw [HPP.out] at hp
      go_wp2_with fail
      refine (hp).mono ?_
      rintro e w8 ⟨rfl, hB⟩
      have HB8 : Hid (Below w.heap.size w w8) := Lib.hid (HB7.out.trans (hB.mono HB7.out.size))
      have Hc8 := Lib.hid (Hc7.out.below hB)
      clear hB HB7 Hc7 hp
      obtain ⟨E1, hE1⟩ : ∃ E, P.extract 0 24 = E := ⟨_, rfl⟩
      obtain ⟨E2, hE2⟩ : ∃ E, P.extract 32 40 = E := ⟨_, rfl⟩
      obtain ⟨E3, hE3⟩ : ∃ E, P.extract 24 32 = E := ⟨_, rfl⟩
      obtain ⟨E4, hE4⟩ : ∃ E, P.extract 40 P.size = E := ⟨_, rfl⟩
      have hsz : E1.size ≤ 20100 ∧ E2.size ≤ 20100 ∧ E3.size ≤ 20100 ∧ E4.size ≤ 20100 := by rw [← hE1, ← hE2, ← hE3, ← hE4]; simp only [ByteArray.size_extract]; omega
      obtain ⟨g1, g2, g3, g4⟩ := hsz
      have z1 : (9223372036854775807 < E1.size + E2.size) = False := eq_false (by omega)
      have z2 : (9223372036854775807 < E1.size + E2.size + E3.size) = False := eq_false (by omega)
      have z3 : (9223372036854775807 < E1.size + E2.size + E3.size + E4.size) = False := eq_false (by omega)
      have hEE : (E1 ++ E2 ++ E3 ++ E4).data.toList = n8 q.frm ++ Wi.sput q.sum ++ n8 q.topT ++ n8 q.lowT ++ putH q.k q.its := by
        obtain ⟨p1, p2, p3, p4, p5, p6⟩ := put_pieces q
        have hPl : P.data.toList.drop 40 = q.put.drop 40 := by rw [← HPP.out]; rfl
        have f1 : E1.data.toList = n8 q.frm ++ Wi.sput q.sum := by rw [← hE1, ← HPP.out, extract_toList, list_tx]; exact p1
        have f2 : E2.data.toList = n8 q.topT := by rw [← hE2, ← HPP.out, extract_toList, list_tx]; exact p4
        have f3 : E3.data.toList = n8 q.lowT := by rw [← hE3, ← HPP.out, extract_toList, list_tx]; exact p3
        have f4 : E4.data.toList = putH q.k q.its := by rw [← hE4, drop_toList, hPl]; exact p5
        simp only [ByteArray.data_append, Array.toList_append, f1, f2, f3, f4]
      have HG : Hid (∀ W, Calls Tryd.prog 18 #[.string (E1 ++ E2 ++ E3 ++ E4)] W fun e w' => GetV W.heap.size (getC (n8 q.frm ++ Wi.sput q.sum ++ n8 q.topT ++ n8 q.lowT ++ putH q.k q.its)) e w' ∧ Below W.heap.size W w') := Lib.hid fun W => by
        rw [← hEE]
        exact get_any (E1 ++ E2 ++ E3 ++ E4) (by simp only [ByteArray.size_append]; unfold maxLen; omega) W
      have HTURN := Lib.hid (false_turn HFIT.out (by rw [HMANY.out]; omega))
      have HLH : Hid (q.low = lo ∧ q.top = hi) := Lib.hid ⟨HLOW.out.2, HTOP.out.2⟩
      have HE1 := Lib.hid hE1
      have HE2 := Lib.hid hE2
      have HE3 := Lib.hid hE3
      have HE4 := Lib.hid hE4
      have h32 : 32 ≤ P.size := by omega
      have h40 : 40 ≤ P.size := by omega
      clear hE1 hE2 hE3 hE4 hEE HFIT HLOW HTOP HL32 HH32 HMANY HPP
      have HBz : Hid (Below w.heap.size w (w8.alloc (.cells #[.int .i64 0, .int .u64 0] 26))) := Lib.hid (HB8.out.alloc HB8.out.size _)
      clear HB8 Hc8 HSc g1 g2 g3 g4
      go_wp2_with fail
      generalize w8.alloc (.cells #[.int .i64 0, .int .u64 0] 26) = wz at *
      by_cases heq : lo = hi
      · have HGS : Hid (∀ W, Calls Tryd.prog 18 #[.string (E1 ++ E2 ++ E3 ++ E4)] W fun e w' => (∃ C, e = .returned (.tuple #[.pointer (some ⟨C, 0, none⟩), .string (tx []), .int .i64 0])) ∧ Below W.heap.size W w') := Lib.hid fun W => by
          obtain ⟨d, hd⟩ := HTURN.out.1 (HLH.out.1.trans (heq.trans HLH.out.2.symm))
          have hg := HG.out W
          rw [hd] at hg
          exact hg.mono fun e w' h => ⟨⟨h.1.choose, h.1.choose_spec.choose_spec.1⟩, h.2⟩
        subst heq
        clear HTURN HG HLH
        refine Reg.wp_region_inv (n := 154) (SamePhi P E1 E2 E3 E4) (by kernel_rfl) (by kernel_rfl) rfl SamePhi.stays ?_ ?_
        · refine ⟨?_, ?_, ?_, ?_, ?_, ?_, ?_, ?_, ?_, ?_, ?_, ?_, ?_, ?_, ?_, ?_, ?_, ?_, ?_, trivial⟩
          · intro cx wc hB hp hs
            have g18 : cx.tmps[18]? = some (.string P) := (hs 18 (by kernel_rfl)).trans rfl
            refine Reg.ok_value Reg.Old.refl (v := .string P) (Reg.wanted_none rfl) ?_ rfl
            go_simp
          · intro cx wc hB hp hs
            have g112 : cx.tmps[112]? = some (.string P) := by obtain ⟨_, g, hv⟩ := Reg.pred hp 0 112 (by kernel_rfl) rfl rfl; exact g.trans (congrArg some hv)
            have e1 := HE1.out
            refine Reg.ok_value Reg.Old.refl (v := .string E1) (Reg.wanted_none rfl) ?_ rfl
            go_simp
            intro hh
            exact absurd hh (by omega)
          · intro cx wc hB hp hs
            have g18 : cx.tmps[18]? = some (.string P) := (hs 18 (by kernel_rfl)).trans rfl
            refine Reg.ok_value Reg.Old.refl (v := .string P) (Reg.wanted_none rfl) ?_ rfl
            go_simp
          · intro cx wc hB hp hs
            have g114 : cx.tmps[114]? = some (.string P) := by obtain ⟨_, g, hv⟩ := Reg.pred hp 2 114 (by kernel_rfl) rfl rfl; exact g.trans (congrArg some hv)
            have e1 := HE2.out
            refine Reg.ok_value Reg.Old.refl (v := .string E2) (Reg.wanted_none rfl) ?_ rfl
            go_simp
            intro hh
            exact absurd hh (by omega)
          · intro cx wc hB hp hs
            have g113 : cx.tmps[113]? = some (.string E1) := by obtain ⟨_, g, hv⟩ := Reg.pred hp 1 113 (by kernel_rfl) rfl rfl; exact g.trans (congrArg some hv)
            have g115 : cx.tmps[115]? = some (.string E2) := by obtain ⟨_, g, hv⟩ := Reg.pred hp 3 115 (by kernel_rfl) rfl rfl; exact g.trans (congrArg some hv)
            refine Reg.ok_value Reg.Old.refl (v := .string (E1 ++ E2)) (Reg.wanted_none rfl) ?_ rfl
            go_simp
          · intro cx wc hB hp hs
            have g18 : cx.tmps[18]? = some (.string P) := (hs 18 (by kernel_rfl)).trans rfl
            refine Reg.ok_value Reg.Old.refl (v := .string P) (Reg.wanted_none rfl) ?_ rfl
            go_simp
          · intro cx wc hB hp hs
            have g117 : cx.tmps[117]? = some (.string P) := by obtain ⟨_, g, hv⟩ := Reg.pred hp 5 117 (by kernel_rfl) rfl rfl; exact g.trans (congrArg some hv)
            have e1 := HE3.out
            refine Reg.ok_value Reg.Old.refl (v := .string E3) (Reg.wanted_none rfl) ?_ rfl
            go_simp
            intro hh
            exact absurd hh (by omega)
          · intro cx wc hB hp hs
            have g116 : cx.tmps[116]? = some (.string (E1 ++ E2)) := by obtain ⟨_, g, hv⟩ := Reg.pred hp 4 116 (by kernel_rfl) rfl rfl; exact g.trans (congrArg some hv)
            have g118 : cx.tmps[118]? = some (.string E3) := by obtain ⟨_, g, hv⟩ := Reg.pred hp 6 118 (by kernel_rfl) rfl rfl; exact g.trans (congrArg some hv)
            refine Reg.ok_value Reg.Old.refl (v := .string (E1 ++ E2 ++ E3)) (Reg.wanted_none rfl) ?_ rfl
            go_simp
          · intro cx wc hB hp hs
            have g18 : cx.tmps[18]? = some (.string P) := (hs 18 (by kernel_rfl)).trans rfl
            refine Reg.ok_value Reg.Old.refl (v := .string P) (Reg.wanted_none rfl) ?_ rfl
            go_simp
          · intro cx wc hB hp hs
            have g120 : cx.tmps[120]? = some (.string P) := by obtain ⟨_, g, hv⟩ := Reg.pred hp 8 120 (by kernel_rfl) rfl rfl; exact g.trans (congrArg some hv)
            have e1 := HE4.out
            refine Reg.ok_value Reg.Old.refl (v := .string E4) (Reg.wanted_none rfl) ?_ rfl
            go_simp
            intro hh
            exact absurd hh (by omega)
          · intro cx wc hB hp hs
            have g119 : cx.tmps[119]? = some (.string (E1 ++ E2 ++ E3)) := by obtain ⟨_, g, hv⟩ := Reg.pred hp 7 119 (by kernel_rfl) rfl rfl; exact g.trans (congrArg some hv)
            have g121 : cx.tmps[121]? = some (.string E4) := by obtain ⟨_, g, hv⟩ := Reg.pred hp 9 121 (by kernel_rfl) rfl rfl; exact g.trans (congrArg some hv)
            refine Reg.ok_value Reg.Old.refl (v := .string (E1 ++ E2 ++ E3 ++ E4)) (Reg.wanted_none rfl) ?_ rfl
            go_simp
          · intro cx wc hB hp hs
            have g122 : cx.tmps[122]? = some (.string (E1 ++ E2 ++ E3 ++ E4)) := by obtain ⟨_, g, hv⟩ := Reg.pred hp 10 122 (by kernel_rfl) rfl rfl; exact g.trans (congrArg some hv)
            refine Reg.ok_call (f := 18) (args := #[.string (E1 ++ E2 ++ E3 ++ E4)]) (Reg.wanted_none rfl) (by go_simp) ((HGS.out wc).mono ?_)
            rintro e w' ⟨⟨C, rfl⟩, hB2⟩
            exact ⟨_, rfl, hB2, C, rfl⟩
          · intro cx wc hB hp hs
            obtain ⟨_, g123, C, rfl⟩ := Reg.pred hp 11 123 (by kernel_rfl) rfl rfl
            refine Reg.ok_value Reg.Old.refl (v := .tuple #[.pointer (some ⟨C, 0, none⟩), .string (tx []), .int .i64 0]) (Reg.wanted_none rfl) ?_ ⟨C, rfl⟩
            go_simp
          · intro cx wc hB hp hs
            obtain ⟨_, g111, C, rfl⟩ := Reg.pred hp 12 111 (by kernel_rfl) rfl rfl
            refine Reg.ok_value Reg.Old.refl (v := .pointer (some ⟨C, 0, none⟩)) (Reg.wanted_none rfl) ?_ ⟨C, rfl⟩
            go_simp
          · intro cx wc hB hp hs
            obtain ⟨_, g111, C, rfl⟩ := Reg.pred hp 12 111 (by kernel_rfl) rfl rfl
            refine Reg.ok_value Reg.Old.refl (v := .string (tx [])) (Reg.wanted_none rfl) ?_ rfl
            go_simp
          · intro cx wc hB hp hs
            obtain ⟨_, g111, C, rfl⟩ := Reg.pred hp 12 111 (by kernel_rfl) rfl rfl
            refine Reg.ok_value Reg.Old.refl (v := .int .i64 0) (Reg.wanted_none rfl) ?_ rfl
            go_simp
          · intro cx wc hB hp hs
            obtain ⟨_, g124, C, rfl⟩ := Reg.pred hp 13 124 (by kernel_rfl) rfl rfl
            refine Reg.ok_value Reg.Old.refl (v := .pointer (some ⟨C, 0, none⟩)) (Reg.wanted_none rfl) ?_ ⟨C, rfl⟩
            go_simp
          · intro cx wc hB hp hs
            have g125 : cx.tmps[125]? = some (.string (tx [])) := by obtain ⟨_, g, hv⟩ := Reg.pred hp 14 125 (by kernel_rfl) rfl rfl; exact g.trans (congrArg some hv)
            refine Reg.ok_value Reg.Old.refl (v := .string (tx [])) (Reg.wanted_none rfl) ?_ rfl
            go_simp
          · intro cx wc hB hp hs
            have g126 : cx.tmps[126]? = some (.int .i64 0) := by obtain ⟨_, g, hv⟩ := Reg.pred hp 15 126 (by kernel_rfl) rfl rfl; exact g.trans (congrArg some hv)
            refine Reg.ok_value Reg.Old.refl (v := .int .i64 0) (Reg.wanted_none rfl) ?_ rfl
            go_simp
        · intro cx wx hB hsz hdf hv ho
          obtain ⟨X22, h22, E22, rfl⟩ := hv 16 _ 22 rfl rfl
          obtain ⟨X111, h111, E111, rfl⟩ := hv 12 _ 111 rfl rfl
          obtain ⟨X123, h123, E123, rfl⟩ := hv 11 _ 123 rfl rfl
          obtain ⟨X124, h124, E124, rfl⟩ := hv 13 _ 124 rfl rfl
          have hcx := Reg.frame_eq [_, _, _, _, _, _, _, _, _, _, _, _, _, _, _, _, _, _, _, _, _, _, .pointer (some ⟨E22, 0, none⟩), .string (tx []), .int .i64 0, _, _, _, _, _, _, _, _, _, _, _, _, _, _, _, _, _, _, _, _, _, _, _, _, _, _, _, _, _, _, _, _, _, _, _, _, _, _, _, _, _, _, _, _, _, _, _, _, _, _, _, _, _, _, _, _, _, _, _, _, _, _, _, _, _, _, _, _, _, _, _, _, _, _, _, _, _, _, _, _, _, _, _, _, _, _, .tuple #[.pointer (some ⟨E111, 0, none⟩), .string (tx []), .int .i64 0], .string P, .string E1, .string P, .string E2, .string (E1 ++ E2), .string P, .string E3, .string (E1 ++ E2 ++ E3), .string P, .string E4, .string (E1 ++ E2 ++ E3 ++ E4), .tuple #[.pointer (some ⟨E123, 0, none⟩), .string (tx []), .int .i64 0], .pointer (some ⟨E124, 0, none⟩), .string (tx []), .int .i64 0, _, _, _, _, _, _, _, _, _, _, _, _, _, _, _, _, _, _, _, _, _, _, _, _, _, _, _] (by simpa using hsz) hdf ⟨((Reg.kept ho 0 (by kernel_rfl)).trans rfl), ((Reg.kept ho 1 (by kernel_rfl)).trans rfl), ((Reg.kept ho 2 (by kernel_rfl)).trans rfl), ((Reg.kept ho 3 (by kernel_rfl)).trans rfl), ((Reg.kept ho 4 (by kernel_rfl)).trans rfl), ((Reg.kept ho 5 (by kernel_rfl)).trans rfl), ((Reg.kept ho 6 (by kernel_rfl)).trans rfl), ((Reg.kept ho 7 (by kernel_rfl)).trans rfl), ((Reg.kept ho 8 (by kernel_rfl)).trans rfl), ((Reg.kept ho 9 (by kernel_rfl)).trans rfl), ((Reg.kept ho 10 (by kernel_rfl)).trans rfl), ((Reg.kept ho 11 (by kernel_rfl)).trans rfl), ((Reg.kept ho 12 (by kernel_rfl)).trans rfl), ((Reg.kept ho 13 (by kernel_rfl)).trans rfl), ((Reg.kept ho 14 (by kernel_rfl)).trans rfl), ((Reg.kept ho 15 (by kernel_rfl)).trans rfl), ((Reg.kept ho 16 (by kernel_rfl)).trans rfl), ((Reg.kept ho 17 (by kernel_rfl)).trans rfl), ((Reg.kept ho 18 (by kernel_rfl)).trans rfl), ((Reg.kept ho 19 (by kernel_rfl)).trans rfl), ((Reg.kept ho 20 (by kernel_rfl)).trans rfl), ((Reg.kept ho 21 (by kernel_rfl)).trans rfl), h22, (by obtain ⟨_, g, hx⟩ := hv 17 _ 23 rfl rfl; exact g.trans (congrArg some hx)), (by obtain ⟨_, g, hx⟩ := hv 18 _ 24 rfl rfl; exact g.trans (congrArg some hx)), ((Reg.kept ho 25 (by kernel_rfl)).trans rfl), ((Reg.kept ho 26 (by kernel_rfl)).trans rfl), ((Reg.kept ho 27 (by kernel_rfl)).trans rfl), ((Reg.kept ho 28 (by kernel_rfl)).trans rfl), ((Reg.kept ho 29 (by kernel_rfl)).trans rfl), ((Reg.kept ho 30 (by kernel_rfl)).trans rfl), ((Reg.kept ho 31 (by kernel_rfl)).trans rfl), ((Reg.kept ho 32 (by kernel_rfl)).trans rfl), ((Reg.kept ho 33 (by kernel_rfl)).trans rfl), ((Reg.kept ho 34 (by kernel_rfl)).trans rfl), ((Reg.kept ho 35 (by kernel_rfl)).trans rfl), ((Reg.kept ho 36 (by kernel_rfl)).trans rfl), ((Reg.kept ho 37 (by kernel_rfl)).trans rfl), ((Reg.kept ho 38 (by kernel_rfl)).trans rfl), ((Reg.kept ho 39 (by kernel_rfl)).trans rfl), ((Reg.kept ho 40 (by kernel_rfl)).trans rfl), ((Reg.kept ho 41 (by kernel_rfl)).trans rfl), ((Reg.kept ho 42 (by kernel_rfl)).trans rfl), ((Reg.kept ho 43 (by kernel_rfl)).trans rfl), ((Reg.kept ho 44 (by kernel_rfl)).trans rfl), ((Reg.kept ho 45 (by kernel_rfl)).trans rfl), ((Reg.kept ho 46 (by kernel_rfl)).trans rfl), ((Reg.kept ho 47 (by kernel_rfl)).trans rfl), ((Reg.kept ho 48 (by kernel_rfl)).trans rfl), ((Reg.kept ho 49 (by kernel_rfl)).trans rfl), ((Reg.kept ho 50 (by kernel_rfl)).trans rfl), ((Reg.kept ho 51 (by kernel_rfl)).trans rfl), ((Reg.kept ho 52 (by kernel_rfl)).trans rfl), ((Reg.kept ho 53 (by kernel_rfl)).trans rfl), ((Reg.kept ho 54 (by kernel_rfl)).trans rfl), ((Reg.kept ho 55 (by kernel_rfl)).trans rfl), ((Reg.kept ho 56 (by kernel_rfl)).trans rfl), ((Reg.kept ho 57 (by kernel_rfl)).trans rfl), ((Reg.kept ho 58 (by kernel_rfl)).trans rfl), ((Reg.kept ho 59 (by kernel_rfl)).trans rfl), ((Reg.kept ho 60 (by kernel_rfl)).trans rfl), ((Reg.kept ho 61 (by kernel_rfl)).trans rfl), ((Reg.kept ho 62 (by kernel_rfl)).trans rfl), ((Reg.kept ho 63 (by kernel_rfl)).trans rfl), ((Reg.kept ho 64 (by kernel_rfl)).trans rfl), ((Reg.kept ho 65 (by kernel_rfl)).trans rfl), ((Reg.kept ho 66 (by kernel_rfl)).trans rfl), ((Reg.kept ho 67 (by kernel_rfl)).trans rfl), ((Reg.kept ho 68 (by kernel_rfl)).trans rfl), ((Reg.kept ho 69 (by kernel_rfl)).trans rfl), ((Reg.kept ho 70 (by kernel_rfl)).trans rfl), ((Reg.kept ho 71 (by kernel_rfl)).trans rfl), ((Reg.kept ho 72 (by kernel_rfl)).trans rfl), ((Reg.kept ho 73 (by kernel_rfl)).trans rfl), ((Reg.kept ho 74 (by kernel_rfl)).trans rfl), ((Reg.kept ho 75 (by kernel_rfl)).trans rfl), ((Reg.kept ho 76 (by kernel_rfl)).trans rfl), ((Reg.kept ho 77 (by kernel_rfl)).trans rfl), ((Reg.kept ho 78 (by kernel_rfl)).trans rfl), ((Reg.kept ho 79 (by kernel_rfl)).trans rfl), ((Reg.kept ho 80 (by kernel_rfl)).trans rfl), ((Reg.kept ho 81 (by kernel_rfl)).trans rfl), ((Reg.kept ho 82 (by kernel_rfl)).trans rfl), ((Reg.kept ho 83 (by kernel_rfl)).trans rfl), ((Reg.kept ho 84 (by kernel_rfl)).trans rfl), ((Reg.kept ho 85 (by kernel_rfl)).trans rfl), ((Reg.kept ho 86 (by kernel_rfl)).trans rfl), ((Reg.kept ho 87 (by kernel_rfl)).trans rfl), ((Reg.kept ho 88 (by kernel_rfl)).trans rfl), ((Reg.kept ho 89 (by kernel_rfl)).trans rfl), ((Reg.kept ho 90 (by kernel_rfl)).trans rfl), ((Reg.kept ho 91 (by kernel_rfl)).trans rfl), ((Reg.kept ho 92 (by kernel_rfl)).trans rfl), ((Reg.kept ho 93 (by kernel_rfl)).trans rfl), ((Reg.kept ho 94 (by kernel_rfl)).trans rfl), ((Reg.kept ho 95 (by kernel_rfl)).trans rfl), ((Reg.kept ho 96 (by kernel_rfl)).trans rfl), ((Reg.kept ho 97 (by kernel_rfl)).trans rfl), ((Reg.kept ho 98 (by kernel_rfl)).trans rfl), ((Reg.kept ho 99 (by kernel_rfl)).trans rfl), ((Reg.kept ho 100 (by kernel_rfl)).trans rfl), ((Reg.kept ho 101 (by kernel_rfl)).trans rfl), ((Reg.kept ho 102 (by kernel_rfl)).trans rfl), ((Reg.kept ho 103 (by kernel_rfl)).trans rfl), ((Reg.kept ho 104 (by kernel_rfl)).trans rfl), ((Reg.kept ho 105 (by kernel_rfl)).trans rfl), ((Reg.kept ho 106 (by kernel_rfl)).trans rfl), ((Reg.kept ho 107 (by kernel_rfl)).trans rfl), ((Reg.kept ho 108 (by kernel_rfl)).trans rfl), ((Reg.kept ho 109 (by kernel_rfl)).trans rfl), ((Reg.kept ho 110 (by kernel_rfl)).trans rfl), h111, (by obtain ⟨_, g, hx⟩ := hv 0 _ 112 rfl rfl; exact g.trans (congrArg some hx)), (by obtain ⟨_, g, hx⟩ := hv 1 _ 113 rfl rfl; exact g.trans (congrArg some hx)), (by obtain ⟨_, g, hx⟩ := hv 2 _ 114 rfl rfl; exact g.trans (congrArg some hx)), (by obtain ⟨_, g, hx⟩ := hv 3 _ 115 rfl rfl; exact g.trans (congrArg some hx)), (by obtain ⟨_, g, hx⟩ := hv 4 _ 116 rfl rfl; exact g.trans (congrArg some hx)), (by obtain ⟨_, g, hx⟩ := hv 5 _ 117 rfl rfl; exact g.trans (congrArg some hx)), (by obtain ⟨_, g, hx⟩ := hv 6 _ 118 rfl rfl; exact g.trans (congrArg some hx)), (by obtain ⟨_, g, hx⟩ := hv 7 _ 119 rfl rfl; exact g.trans (congrArg some hx)), (by obtain ⟨_, g, hx⟩ := hv 8 _ 120 rfl rfl; exact g.trans (congrArg some hx)), (by obtain ⟨_, g, hx⟩ := hv 9 _ 121 rfl rfl; exact g.trans (congrArg some hx)), (by obtain ⟨_, g, hx⟩ := hv 10 _ 122 rfl rfl; exact g.trans (congrArg some hx)), h123, h124, (by obtain ⟨_, g, hx⟩ := hv 14 _ 125 rfl rfl; exact g.trans (congrArg some hx)), (by obtain ⟨_, g, hx⟩ := hv 15 _ 126 rfl rfl; exact g.trans (congrArg some hx)), ((Reg.kept ho 127 (by kernel_rfl)).trans rfl), ((Reg.kept ho 128 (by kernel_rfl)).trans rfl), ((Reg.kept ho 129 (by kernel_rfl)).trans rfl), ((Reg.kept ho 130 (by kernel_rfl)).trans rfl), ((Reg.kept ho 131 (by kernel_rfl)).trans rfl), ((Reg.kept ho 132 (by kernel_rfl)).trans rfl), ((Reg.kept ho 133 (by kernel_rfl)).trans rfl), ((Reg.kept ho 134 (by kernel_rfl)).trans rfl), ((Reg.kept ho 135 (by kernel_rfl)).trans rfl), ((Reg.kept ho 136 (by kernel_rfl)).trans rfl), ((Reg.kept ho 137 (by kernel_rfl)).trans rfl), ((Reg.kept ho 138 (by kernel_rfl)).trans rfl), ((Reg.kept ho 139 (by kernel_rfl)).trans rfl), ((Reg.kept ho 140 (by kernel_rfl)).trans rfl), ((Reg.kept ho 141 (by kernel_rfl)).trans rfl), ((Reg.kept ho 142 (by kernel_rfl)).trans rfl), ((Reg.kept ho 143 (by kernel_rfl)).trans rfl), ((Reg.kept ho 144 (by kernel_rfl)).trans rfl), ((Reg.kept ho 145 (by kernel_rfl)).trans rfl), ((Reg.kept ho 146 (by kernel_rfl)).trans rfl), ((Reg.kept ho 147 (by kernel_rfl)).trans rfl), ((Reg.kept ho 148 (by kernel_rfl)).trans rfl), ((Reg.kept ho 149 (by kernel_rfl)).trans rfl), ((Reg.kept ho 150 (by kernel_rfl)).trans rfl), ((Reg.kept ho 151 (by kernel_rfl)).trans rfl), ((Reg.kept ho 152 (by kernel_rfl)).trans rfl), ((Reg.kept ho 153 (by kernel_rfl)).trans rfl), trivial⟩
          subst hcx
          have HEx : Hid (Below w.heap.size w wx) := Lib.hid (HBz.out.trans (hB.mono HBz.out.size))
          clear hv ho hB hsz hdf h22 h111 h123 h124
          go_wp2
          go_ret
          exact ⟨rfl, HEx.out⟩
      · have HGN : Hid (∀ W, Calls Tryd.prog 18 #[.string (E1 ++ E2 ++ E3 ++ E4)] W fun e w' => e = .returned (.tuple #[.pointer none, .string ⟨#[]⟩, .int .i64 2]) ∧ Below W.heap.size W w') := Lib.hid fun W => by
          have hg := HG.out W
          rw [HTURN.out.2 (fun h => heq (HLH.out.1.symm.trans (h.trans HLH.out.2)))] at hg
          exact hg
        have hne : (lo == hi) = false := by simp [heq]
        clear HTURN HG HLH heq
        refine Reg.wp_region_inv (n := 154) (TurnPhi P E1 E2 E3 E4) (by kernel_rfl) (by kernel_rfl) rfl TurnPhi.stays ?_ ?_
        · refine ⟨?_, ?_, ?_, ?_, ?_, ?_, ?_, ?_, ?_, ?_, ?_, ?_, ?_, ?_, ?_, ?_, ?_, ?_, ?_, trivial⟩
          · intro cx wc hB hp hs
            have g18 : cx.tmps[18]? = some (.string P) := (hs 18 (by kernel_rfl)).trans rfl
            refine Reg.ok_value Reg.Old.refl (v := .string P) (Reg.wanted_none rfl) ?_ rfl
            go_simp
          · intro cx wc hB hp hs
            have g112 : cx.tmps[112]? = some (.string P) := by obtain ⟨_, g, hv⟩ := Reg.pred hp 0 112 (by kernel_rfl) rfl rfl; exact g.trans (congrArg some hv)
            have e1 := HE1.out
            refine Reg.ok_value Reg.Old.refl (v := .string E1) (Reg.wanted_none rfl) ?_ rfl
            go_simp
            intro hh
            exact absurd hh (by omega)
          · intro cx wc hB hp hs
            have g18 : cx.tmps[18]? = some (.string P) := (hs 18 (by kernel_rfl)).trans rfl
            refine Reg.ok_value Reg.Old.refl (v := .string P) (Reg.wanted_none rfl) ?_ rfl
            go_simp
          · intro cx wc hB hp hs
            have g114 : cx.tmps[114]? = some (.string P) := by obtain ⟨_, g, hv⟩ := Reg.pred hp 2 114 (by kernel_rfl) rfl rfl; exact g.trans (congrArg some hv)
            have e1 := HE2.out
            refine Reg.ok_value Reg.Old.refl (v := .string E2) (Reg.wanted_none rfl) ?_ rfl
            go_simp
            intro hh
            exact absurd hh (by omega)
          · intro cx wc hB hp hs
            have g113 : cx.tmps[113]? = some (.string E1) := by obtain ⟨_, g, hv⟩ := Reg.pred hp 1 113 (by kernel_rfl) rfl rfl; exact g.trans (congrArg some hv)
            have g115 : cx.tmps[115]? = some (.string E2) := by obtain ⟨_, g, hv⟩ := Reg.pred hp 3 115 (by kernel_rfl) rfl rfl; exact g.trans (congrArg some hv)
            refine Reg.ok_value Reg.Old.refl (v := .string (E1 ++ E2)) (Reg.wanted_none rfl) ?_ rfl
            go_simp
          · intro cx wc hB hp hs
            have g18 : cx.tmps[18]? = some (.string P) := (hs 18 (by kernel_rfl)).trans rfl
            refine Reg.ok_value Reg.Old.refl (v := .string P) (Reg.wanted_none rfl) ?_ rfl
            go_simp
          · intro cx wc hB hp hs
            have g117 : cx.tmps[117]? = some (.string P) := by obtain ⟨_, g, hv⟩ := Reg.pred hp 5 117 (by kernel_rfl) rfl rfl; exact g.trans (congrArg some hv)
            have e1 := HE3.out
            refine Reg.ok_value Reg.Old.refl (v := .string E3) (Reg.wanted_none rfl) ?_ rfl
            go_simp
            intro hh
            exact absurd hh (by omega)
          · intro cx wc hB hp hs
            have g116 : cx.tmps[116]? = some (.string (E1 ++ E2)) := by obtain ⟨_, g, hv⟩ := Reg.pred hp 4 116 (by kernel_rfl) rfl rfl; exact g.trans (congrArg some hv)
            have g118 : cx.tmps[118]? = some (.string E3) := by obtain ⟨_, g, hv⟩ := Reg.pred hp 6 118 (by kernel_rfl) rfl rfl; exact g.trans (congrArg some hv)
            refine Reg.ok_value Reg.Old.refl (v := .string (E1 ++ E2 ++ E3)) (Reg.wanted_none rfl) ?_ rfl
            go_simp
          · intro cx wc hB hp hs
            have g18 : cx.tmps[18]? = some (.string P) := (hs 18 (by kernel_rfl)).trans rfl
            refine Reg.ok_value Reg.Old.refl (v := .string P) (Reg.wanted_none rfl) ?_ rfl
            go_simp
          · intro cx wc hB hp hs
            have g120 : cx.tmps[120]? = some (.string P) := by obtain ⟨_, g, hv⟩ := Reg.pred hp 8 120 (by kernel_rfl) rfl rfl; exact g.trans (congrArg some hv)
            have e1 := HE4.out
            refine Reg.ok_value Reg.Old.refl (v := .string E4) (Reg.wanted_none rfl) ?_ rfl
            go_simp
            intro hh
            exact absurd hh (by omega)
          · intro cx wc hB hp hs
            have g119 : cx.tmps[119]? = some (.string (E1 ++ E2 ++ E3)) := by obtain ⟨_, g, hv⟩ := Reg.pred hp 7 119 (by kernel_rfl) rfl rfl; exact g.trans (congrArg some hv)
            have g121 : cx.tmps[121]? = some (.string E4) := by obtain ⟨_, g, hv⟩ := Reg.pred hp 9 121 (by kernel_rfl) rfl rfl; exact g.trans (congrArg some hv)
            refine Reg.ok_value Reg.Old.refl (v := .string (E1 ++ E2 ++ E3 ++ E4)) (Reg.wanted_none rfl) ?_ rfl
            go_simp
          · intro cx wc hB hp hs
            have g122 : cx.tmps[122]? = some (.string (E1 ++ E2 ++ E3 ++ E4)) := by obtain ⟨_, g, hv⟩ := Reg.pred hp 10 122 (by kernel_rfl) rfl rfl; exact g.trans (congrArg some hv)
            refine Reg.ok_call (f := 18) (args := #[.string (E1 ++ E2 ++ E3 ++ E4)]) (Reg.wanted_none rfl) (by go_simp) ((HGN.out wc).mono ?_)
            rintro e w' ⟨rfl, hB2⟩
            exact ⟨_, rfl, hB2, rfl⟩
          · intro cx wc hB hp hs
            have g123 : cx.tmps[123]? = some (.tuple #[.pointer none, .string (⟨#[]⟩), .int .i64 2]) := by obtain ⟨_, g, hv⟩ := Reg.pred hp 11 123 (by kernel_rfl) rfl rfl; exact g.trans (congrArg some hv)
            refine Reg.ok_value Reg.Old.refl (v := .tuple #[.pointer none, .string (⟨#[]⟩), .int .i64 2]) (Reg.wanted_none rfl) ?_ rfl
            go_simp
          · intro cx wc hB hp hs
            have g111 : cx.tmps[111]? = some (.tuple #[.pointer none, .string (⟨#[]⟩), .int .i64 2]) := by obtain ⟨_, g, hv⟩ := Reg.pred hp 12 111 (by kernel_rfl) rfl rfl; exact g.trans (congrArg some hv)
            refine Reg.ok_value Reg.Old.refl (v := .pointer none) (Reg.wanted_none rfl) ?_ rfl
            go_simp
          · intro cx wc hB hp hs
            have g111 : cx.tmps[111]? = some (.tuple #[.pointer none, .string (⟨#[]⟩), .int .i64 2]) := by obtain ⟨_, g, hv⟩ := Reg.pred hp 12 111 (by kernel_rfl) rfl rfl; exact g.trans (congrArg some hv)
            refine Reg.ok_value Reg.Old.refl (v := .string (⟨#[]⟩)) (Reg.wanted_none rfl) ?_ rfl
            go_simp
          · intro cx wc hB hp hs
            have g111 : cx.tmps[111]? = some (.tuple #[.pointer none, .string (⟨#[]⟩), .int .i64 2]) := by obtain ⟨_, g, hv⟩ := Reg.pred hp 12 111 (by kernel_rfl) rfl rfl; exact g.trans (congrArg some hv)
            refine Reg.ok_value Reg.Old.refl (v := .int .i64 2) (Reg.wanted_none rfl) ?_ rfl
            go_simp
          · intro cx wc hB hp hs
            have g124 : cx.tmps[124]? = some (.pointer none) := by obtain ⟨_, g, hv⟩ := Reg.pred hp 13 124 (by kernel_rfl) rfl rfl; exact g.trans (congrArg some hv)
            refine Reg.ok_value Reg.Old.refl (v := .pointer none) (Reg.wanted_none rfl) ?_ rfl
            go_simp
          · intro cx wc hB hp hs
            have g125 : cx.tmps[125]? = some (.string (⟨#[]⟩)) := by obtain ⟨_, g, hv⟩ := Reg.pred hp 14 125 (by kernel_rfl) rfl rfl; exact g.trans (congrArg some hv)
            refine Reg.ok_value Reg.Old.refl (v := .string (⟨#[]⟩)) (Reg.wanted_none rfl) ?_ rfl
            go_simp
          · intro cx wc hB hp hs
            have g126 : cx.tmps[126]? = some (.int .i64 2) := by obtain ⟨_, g, hv⟩ := Reg.pred hp 15 126 (by kernel_rfl) rfl rfl; exact g.trans (congrArg some hv)
            refine Reg.ok_value Reg.Old.refl (v := .int .i64 2) (Reg.wanted_none rfl) ?_ rfl
            go_simp
        · intro cx wx hB hsz hdf hv ho
          have hcx := Reg.frame_eq [_, _, _, _, _, _, _, _, _, _, _, _, _, _, _, _, _, _, _, _, _, _, .pointer none, .string (⟨#[]⟩), .int .i64 2, _, _, _, _, _, _, _, _, _, _, _, _, _, _, _, _, _, _, _, _, _, _, _, _, _, _, _, _, _, _, _, _, _, _, _, _, _, _, _, _, _, _, _, _, _, _, _, _, _, _, _, _, _, _, _, _, _, _, _, _, _, _, _, _, _, _, _, _, _, _, _, _, _, _, _, _, _, _, _, _, _, _, _, _, _, _, .tuple #[.pointer none, .string (⟨#[]⟩), .int .i64 2], .string P, .string E1, .string P, .string E2, .string (E1 ++ E2), .string P, .string E3, .string (E1 ++ E2 ++ E3), .string P, .string E4, .string (E1 ++ E2 ++ E3 ++ E4), .tuple #[.pointer none, .string (⟨#[]⟩), .int .i64 2], .pointer none, .string (⟨#[]⟩), .int .i64 2, _, _, _, _, _, _, _, _, _, _, _, _, _, _, _, _, _, _, _, _, _, _, _, _, _, _, _] (by simpa using hsz) hdf ⟨((Reg.kept ho 0 (by kernel_rfl)).trans rfl), ((Reg.kept ho 1 (by kernel_rfl)).trans rfl), ((Reg.kept ho 2 (by kernel_rfl)).trans rfl), ((Reg.kept ho 3 (by kernel_rfl)).trans rfl), ((Reg.kept ho 4 (by kernel_rfl)).trans rfl), ((Reg.kept ho 5 (by kernel_rfl)).trans rfl), ((Reg.kept ho 6 (by kernel_rfl)).trans rfl), ((Reg.kept ho 7 (by kernel_rfl)).trans rfl), ((Reg.kept ho 8 (by kernel_rfl)).trans rfl), ((Reg.kept ho 9 (by kernel_rfl)).trans rfl), ((Reg.kept ho 10 (by kernel_rfl)).trans rfl), ((Reg.kept ho 11 (by kernel_rfl)).trans rfl), ((Reg.kept ho 12 (by kernel_rfl)).trans rfl), ((Reg.kept ho 13 (by kernel_rfl)).trans rfl), ((Reg.kept ho 14 (by kernel_rfl)).trans rfl), ((Reg.kept ho 15 (by kernel_rfl)).trans rfl), ((Reg.kept ho 16 (by kernel_rfl)).trans rfl), ((Reg.kept ho 17 (by kernel_rfl)).trans rfl), ((Reg.kept ho 18 (by kernel_rfl)).trans rfl), ((Reg.kept ho 19 (by kernel_rfl)).trans rfl), ((Reg.kept ho 20 (by kernel_rfl)).trans rfl), ((Reg.kept ho 21 (by kernel_rfl)).trans rfl), (by obtain ⟨_, g, hx⟩ := hv 16 _ 22 rfl rfl; exact g.trans (congrArg some hx)), (by obtain ⟨_, g, hx⟩ := hv 17 _ 23 rfl rfl; exact g.trans (congrArg some hx)), (by obtain ⟨_, g, hx⟩ := hv 18 _ 24 rfl rfl; exact g.trans (congrArg some hx)), ((Reg.kept ho 25 (by kernel_rfl)).trans rfl), ((Reg.kept ho 26 (by kernel_rfl)).trans rfl), ((Reg.kept ho 27 (by kernel_rfl)).trans rfl), ((Reg.kept ho 28 (by kernel_rfl)).trans rfl), ((Reg.kept ho 29 (by kernel_rfl)).trans rfl), ((Reg.kept ho 30 (by kernel_rfl)).trans rfl), ((Reg.kept ho 31 (by kernel_rfl)).trans rfl), ((Reg.kept ho 32 (by kernel_rfl)).trans rfl), ((Reg.kept ho 33 (by kernel_rfl)).trans rfl), ((Reg.kept ho 34 (by kernel_rfl)).trans rfl), ((Reg.kept ho 35 (by kernel_rfl)).trans rfl), ((Reg.kept ho 36 (by kernel_rfl)).trans rfl), ((Reg.kept ho 37 (by kernel_rfl)).trans rfl), ((Reg.kept ho 38 (by kernel_rfl)).trans rfl), ((Reg.kept ho 39 (by kernel_rfl)).trans rfl), ((Reg.kept ho 40 (by kernel_rfl)).trans rfl), ((Reg.kept ho 41 (by kernel_rfl)).trans rfl), ((Reg.kept ho 42 (by kernel_rfl)).trans rfl), ((Reg.kept ho 43 (by kernel_rfl)).trans rfl), ((Reg.kept ho 44 (by kernel_rfl)).trans rfl), ((Reg.kept ho 45 (by kernel_rfl)).trans rfl), ((Reg.kept ho 46 (by kernel_rfl)).trans rfl), ((Reg.kept ho 47 (by kernel_rfl)).trans rfl), ((Reg.kept ho 48 (by kernel_rfl)).trans rfl), ((Reg.kept ho 49 (by kernel_rfl)).trans rfl), ((Reg.kept ho 50 (by kernel_rfl)).trans rfl), ((Reg.kept ho 51 (by kernel_rfl)).trans rfl), ((Reg.kept ho 52 (by kernel_rfl)).trans rfl), ((Reg.kept ho 53 (by kernel_rfl)).trans rfl), ((Reg.kept ho 54 (by kernel_rfl)).trans rfl), ((Reg.kept ho 55 (by kernel_rfl)).trans rfl), ((Reg.kept ho 56 (by kernel_rfl)).trans rfl), ((Reg.kept ho 57 (by kernel_rfl)).trans rfl), ((Reg.kept ho 58 (by kernel_rfl)).trans rfl), ((Reg.kept ho 59 (by kernel_rfl)).trans rfl), ((Reg.kept ho 60 (by kernel_rfl)).trans rfl), ((Reg.kept ho 61 (by kernel_rfl)).trans rfl), ((Reg.kept ho 62 (by kernel_rfl)).trans rfl), ((Reg.kept ho 63 (by kernel_rfl)).trans rfl), ((Reg.kept ho 64 (by kernel_rfl)).trans rfl), ((Reg.kept ho 65 (by kernel_rfl)).trans rfl), ((Reg.kept ho 66 (by kernel_rfl)).trans rfl), ((Reg.kept ho 67 (by kernel_rfl)).trans rfl), ((Reg.kept ho 68 (by kernel_rfl)).trans rfl), ((Reg.kept ho 69 (by kernel_rfl)).trans rfl), ((Reg.kept ho 70 (by kernel_rfl)).trans rfl), ((Reg.kept ho 71 (by kernel_rfl)).trans rfl), ((Reg.kept ho 72 (by kernel_rfl)).trans rfl), ((Reg.kept ho 73 (by kernel_rfl)).trans rfl), ((Reg.kept ho 74 (by kernel_rfl)).trans rfl), ((Reg.kept ho 75 (by kernel_rfl)).trans rfl), ((Reg.kept ho 76 (by kernel_rfl)).trans rfl), ((Reg.kept ho 77 (by kernel_rfl)).trans rfl), ((Reg.kept ho 78 (by kernel_rfl)).trans rfl), ((Reg.kept ho 79 (by kernel_rfl)).trans rfl), ((Reg.kept ho 80 (by kernel_rfl)).trans rfl), ((Reg.kept ho 81 (by kernel_rfl)).trans rfl), ((Reg.kept ho 82 (by kernel_rfl)).trans rfl), ((Reg.kept ho 83 (by kernel_rfl)).trans rfl), ((Reg.kept ho 84 (by kernel_rfl)).trans rfl), ((Reg.kept ho 85 (by kernel_rfl)).trans rfl), ((Reg.kept ho 86 (by kernel_rfl)).trans rfl), ((Reg.kept ho 87 (by kernel_rfl)).trans rfl), ((Reg.kept ho 88 (by kernel_rfl)).trans rfl), ((Reg.kept ho 89 (by kernel_rfl)).trans rfl), ((Reg.kept ho 90 (by kernel_rfl)).trans rfl), ((Reg.kept ho 91 (by kernel_rfl)).trans rfl), ((Reg.kept ho 92 (by kernel_rfl)).trans rfl), ((Reg.kept ho 93 (by kernel_rfl)).trans rfl), ((Reg.kept ho 94 (by kernel_rfl)).trans rfl), ((Reg.kept ho 95 (by kernel_rfl)).trans rfl), ((Reg.kept ho 96 (by kernel_rfl)).trans rfl), ((Reg.kept ho 97 (by kernel_rfl)).trans rfl), ((Reg.kept ho 98 (by kernel_rfl)).trans rfl), ((Reg.kept ho 99 (by kernel_rfl)).trans rfl), ((Reg.kept ho 100 (by kernel_rfl)).trans rfl), ((Reg.kept ho 101 (by kernel_rfl)).trans rfl), ((Reg.kept ho 102 (by kernel_rfl)).trans rfl), ((Reg.kept ho 103 (by kernel_rfl)).trans rfl), ((Reg.kept ho 104 (by kernel_rfl)).trans rfl), ((Reg.kept ho 105 (by kernel_rfl)).trans rfl), ((Reg.kept ho 106 (by kernel_rfl)).trans rfl), ((Reg.kept ho 107 (by kernel_rfl)).trans rfl), ((Reg.kept ho 108 (by kernel_rfl)).trans rfl), ((Reg.kept ho 109 (by kernel_rfl)).trans rfl), ((Reg.kept ho 110 (by kernel_rfl)).trans rfl), (by obtain ⟨_, g, hx⟩ := hv 12 _ 111 rfl rfl; exact g.trans (congrArg some hx)), (by obtain ⟨_, g, hx⟩ := hv 0 _ 112 rfl rfl; exact g.trans (congrArg some hx)), (by obtain ⟨_, g, hx⟩ := hv 1 _ 113 rfl rfl; exact g.trans (congrArg some hx)), (by obtain ⟨_, g, hx⟩ := hv 2 _ 114 rfl rfl; exact g.trans (congrArg some hx)), (by obtain ⟨_, g, hx⟩ := hv 3 _ 115 rfl rfl; exact g.trans (congrArg some hx)), (by obtain ⟨_, g, hx⟩ := hv 4 _ 116 rfl rfl; exact g.trans (congrArg some hx)), (by obtain ⟨_, g, hx⟩ := hv 5 _ 117 rfl rfl; exact g.trans (congrArg some hx)), (by obtain ⟨_, g, hx⟩ := hv 6 _ 118 rfl rfl; exact g.trans (congrArg some hx)), (by obtain ⟨_, g, hx⟩ := hv 7 _ 119 rfl rfl; exact g.trans (congrArg some hx)), (by obtain ⟨_, g, hx⟩ := hv 8 _ 120 rfl rfl; exact g.trans (congrArg some hx)), (by obtain ⟨_, g, hx⟩ := hv 9 _ 121 rfl rfl; exact g.trans (congrArg some hx)), (by obtain ⟨_, g, hx⟩ := hv 10 _ 122 rfl rfl; exact g.trans (congrArg some hx)), (by obtain ⟨_, g, hx⟩ := hv 11 _ 123 rfl rfl; exact g.trans (congrArg some hx)), (by obtain ⟨_, g, hx⟩ := hv 13 _ 124 rfl rfl; exact g.trans (congrArg some hx)), (by obtain ⟨_, g, hx⟩ := hv 14 _ 125 rfl rfl; exact g.trans (congrArg some hx)), (by obtain ⟨_, g, hx⟩ := hv 15 _ 126 rfl rfl; exact g.trans (congrArg some hx)), ((Reg.kept ho 127 (by kernel_rfl)).trans rfl), ((Reg.kept ho 128 (by kernel_rfl)).trans rfl), ((Reg.kept ho 129 (by kernel_rfl)).trans rfl), ((Reg.kept ho 130 (by kernel_rfl)).trans rfl), ((Reg.kept ho 131 (by kernel_rfl)).trans rfl), ((Reg.kept ho 132 (by kernel_rfl)).trans rfl), ((Reg.kept ho 133 (by kernel_rfl)).trans rfl), ((Reg.kept ho 134 (by kernel_rfl)).trans rfl), ((Reg.kept ho 135 (by kernel_rfl)).trans rfl), ((Reg.kept ho 136 (by kernel_rfl)).trans rfl), ((Reg.kept ho 137 (by kernel_rfl)).trans rfl), ((Reg.kept ho 138 (by kernel_rfl)).trans rfl), ((Reg.kept ho 139 (by kernel_rfl)).trans rfl), ((Reg.kept ho 140 (by kernel_rfl)).trans rfl), ((Reg.kept ho 141 (by kernel_rfl)).trans rfl), ((Reg.kept ho 142 (by kernel_rfl)).trans rfl), ((Reg.kept ho 143 (by kernel_rfl)).trans rfl), ((Reg.kept ho 144 (by kernel_rfl)).trans rfl), ((Reg.kept ho 145 (by kernel_rfl)).trans rfl), ((Reg.kept ho 146 (by kernel_rfl)).trans rfl), ((Reg.kept ho 147 (by kernel_rfl)).trans rfl), ((Reg.kept ho 148 (by kernel_rfl)).trans rfl), ((Reg.kept ho 149 (by kernel_rfl)).trans rfl), ((Reg.kept ho 150 (by kernel_rfl)).trans rfl), ((Reg.kept ho 151 (by kernel_rfl)).trans rfl), ((Reg.kept ho 152 (by kernel_rfl)).trans rfl), ((Reg.kept ho 153 (by kernel_rfl)).trans rfl), trivial⟩
          subst hcx
          have HEx : Hid (Below w.heap.size w wx) := Lib.hid (HBz.out.trans (hB.mono HBz.out.size))
          clear hv ho hB hsz hdf
          go_wp2
          go_ret
          exact ⟨rfl, HEx.out⟩
end Go.Proofs.YtmjipafhahggpaaDoor.Ce

