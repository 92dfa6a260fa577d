/- A key may be just so long, and have just so many labels. -/
import Derived.Test.YtlocjhnlemlnmaaLbMk
import Derived.Test.YtlocjhnlemlnmaaLbLo
import Derived.Test.YtlocjhnlemlnmaaLbLk
namespace Go.Proofs.Ytlocjhnlemlnmaa.Lx
open Go Go.RowKit

theorem set_next {c : UInt8} {j m : Nat} : (List.replicate j c ++ List.replicate (m + 1) (0 : UInt8)).set j c = List.replicate (j + 1) c ++ List.replicate m 0 := by
  rw [List.set_append_right _ _ (by simp), List.length_replicate, Nat.sub_self, List.replicate_succ, List.set_cons_zero, List.replicate_succ']
  simp
theorem letS_max {k i : Nat} (h : k ≤ 66) : (letS k i).length ≤ maxLen := by
  unfold letS maxLen
  rw [List.length_replicate]
  omega
theorem longS_short {k n : Nat} (h : k ≤ 66) : Short (longS k n) := fun x hx => by
  obtain ⟨i, _, rfl⟩ := List.mem_map.1 hx
  exact ⟨letS_max h, letS_max h⟩

set_option maxRecDepth 100000 in
set_option maxHeartbeats 8000000 in
theorem long_true (hT : TextOk) (a b : Nat) (ha : a < 256) (hb : b < 256) (w : World) :
    Calls Try.prog 7 #[.int .u8 (a : Int), .int .u8 (b : Int)] w fun e w' => e = .returned (.bool true) ∧ Below w.heap.size w w' := by
  have hex := fun w => examples_of hT w
  obtain ⟨n, hn, hn17⟩ : ∃ n, a % 18 = n ∧ n ≤ 17 := ⟨_, rfl, by omega⟩
  obtain ⟨m, hm, hm65⟩ : ∃ m, b % 66 = m ∧ m ≤ 65 := ⟨_, rfl, by omega⟩
  have hni : (a : Int) % 18 = (n : Int) := by omega
  have hmi : (b : Int) % 66 = (m : Int) := by omega
  obtain ⟨k, hk⟩ : ∃ k, 1 + m = k := ⟨_, rfl⟩
  have hki : (1 : Int) + (m : Int) = (k : Int) := by omega
  have hk1 : 1 ≤ k := by omega
  have hk66 : k ≤ 66 := by omega
  have HO0 := Lib.hid (OwnL.nil w.heap.size w)
  have ai : (a : Int) < 256 := by omega
  have bi : (b : Int) < 256 := by omega
  clear hT hn hm hk
  go_enter Try.func7, Try.ntmps7
  go_wp2_with fail
  refine (hex _).mono ?_
  rintro e w1 ⟨rfl, hB⟩
  have HB1 := Lib.hid hB
  have HO1 := Lib.hid (OwnL.nil w.heap.size w1)
  clear hB hex HO0
  go_wp2
  clear ai bi hni hmi ha hb hki hm65
  go_loopg [8, 9, 10, 11] n (fun g s8 s9 s10 s11 wx => ∃ i : Nat, s9 = .int .i64 (i : Int) ∧ i + g = n ∧ Hid (OwnL w.heap.size s8 (longS k i) wx) ∧ Hid (Below w.heap.size w wx))
  case atStart => exact ⟨0, rfl, by omega, HO1, HB1⟩
  case round =>
    clear HO1 HB1
    obtain ⟨i, rfl, hig, HO, HB⟩ := hrel
    cases gk with
    | succ g =>
      have hin : i < n := by omega
      obtain ⟨w2, hmk, hB2, hby⟩ := make_u8 k (by omega) wr
      have HB2 := Lib.hid hB2
      have HBY := Lib.hid hby
      obtain ⟨B, hBn⟩ : ∃ B, wr.heap.size = B := ⟨_, rfl⟩
      have HBN := Lib.hid hBn
      rw [hBn] at hmk HB2 HBY
      clear hB2 hby hBn
      have hll := longS_len k i
      obtain ⟨q0, d0, rfl⟩ := HO.out.len
      rw [hll]
      clear hll
      go_wp2_with (refine wpList_make_run rfl _ _ _ rfl _ _ _ rfl rfl hmk ?_)
      clear hmk
      have HX0 : Hid (BytesAt B (List.replicate 0 (UInt8.ofNat (97 + i)) ++ List.replicate k 0) w2) := Lib.hid (by simpa using HBY.out)
      clear HBY
      go_loopg [11] k (fun gg s11 wx => ∃ j : Nat, s11 = .int .i64 (j : Int) ∧ j + gg = k ∧ Hid (BytesAt B (List.replicate j (UInt8.ofNat (97 + i)) ++ List.replicate gg 0) wx) ∧ Hid (Below B wr wx))
      case atStart => exact ⟨0, rfl, by omega, HX0, HB2⟩
      case round =>
        clear HX0 HB2
        obtain ⟨j, rfl, hjg, HX, HY⟩ := hrel
        cases gk with
        | succ gg =>
          have hbs := HX.out.set j (UInt8.ofNat (97 + i)) (by simp)
          rw [set_next, let_nat (by omega)] at hbs
          have c0 := HX.out.cell j (by simp)
          have f0 := HX.out.fro j (by simp)
          have z0 := HX.out.lt
          have HX2 := Lib.hid hbs
          have HY2 := Lib.hid (HY.out.setCell (p := ⟨B, j, none⟩) (Nat.le_refl _) (.int .u8 ((97 + i : Nat) : Int)))
          have hcc : ((97 + i : Nat) : Int) = 97 + (i : Int) := by omega
          rw [hcc] at HX2 HY2
          have hi97 : (i : Int) < 18 := by omega
          have hjk : j < k := by omega
          obtain ⟨vv, hvv⟩ : ∃ vv, (UInt8.toNat ((List.replicate j (UInt8.ofNat (97 + i)) ++ List.replicate (gg + 1) 0)[j]'(by simp)) : Int) = vv := ⟨_, rfl⟩
          rw [hvv] at c0
          clear hbs hcc hvv HX HY
          go_wp2
          go_roundg gg
          case measure => omega
          case rel => exact ⟨j + 1, by go_num, by omega, HX2, HY2⟩
        | zero =>
          obtain rfl : j = k := by omega
          have hby : BytesAt B (letS j i) wr := by simpa [letS] using HX.out
          have hcv := bytes_back hby (n := j) (by simp [letS]) j
          have hO3 : OwnL w.heap.size (.slice q0 (longS j i).length d0) (longS j i) wr := HO.out.below (by rw [HBN.out]; exact HY.out)
          have hBw := HB.out.trans (HY.out.mono (by rw [← HBN.out]; exact HB.out.size))
          obtain ⟨v', w', hr1, hG⟩ := append_label 23 hO3 (letS j i, letS j i) (by rw [longS_len]; unfold maxLab; omega) hBw.size
          have HBf := Lib.hid (hBw.trans (hG.low (fun g hg => (hO3.lt hg).1) hBw.size))
          have HOf := Lib.hid hG.1
          rw [← longS_succ] at HOf
          rw [longS_len] at hr1
          have HR1 := Lib.hid hr1
          clear hr1 hG hO3 hBw hby HX HY HO HB
          generalize tx (letS j i) = TL at *
          go_wp2_with (first | (at_builtin; refine Lib.wpList_append_run _ rfl _ _ _ _ rfl _ _ rfl rfl _ _ HR1.out ?_))
          go_roundg g
          case measure => omega
          case rel => exact ⟨i + 1, by go_num, by omega, HOf, HBf⟩
    | zero =>
      obtain rfl : i = n := by omega
      have hkE := long_keyE hn17 hk1
      obtain ⟨P, C, rfl⟩ := HO.out.len
      have hk := key_any [109] (Nat.le_trans (by simp) fit_tx) P C (longS k i) HO.out.none (by rw [longS_len]; unfold maxLab; omega) wr (HO.out.lies (longS_short hk66))
      obtain ⟨M, hM⟩ : ∃ M, 2 * i * (k + 1) = M := ⟨_, rfl⟩
      have hMi : 2 * (i : Int) * ((k : Int) + 1) = (M : Int) := by rw [← hM]; push_cast; rfl
      have hMb : M ≤ 2278 := by
        rw [← hM]
        have := Nat.mul_le_mul (show 2 * i ≤ 34 by omega) (show k + 1 ≤ 67 by omega)
        omega
      have hMw : IntKind.i64.wrap (2 * (i : Int) * ((k : Int) + 1)) = (M : Int) := by rw [hMi]; exact IntWalk.i64_in _ (by omega)
      have hlen := long_len (k := k) (n := i)
      rw [hM] at hkE hlen
      rw [hkE, longS_len] at hk
      rw [longS_len]
      have HLEN := Lib.hid hlen
      clear hM hkE HO hlen
      by_cases h1 : 16 < i ∨ (0 < i ∧ 64 < k)
      · rw [if_pos h1] at hk
        have h2 : (16 < (i : Int)) ∨ (¬ (16 < (i : Int)) ∧ 0 < (i : Int) ∧ 64 < (k : Int)) := by omega
        clear h1 hMw hMi hMb
        go_wp2_with fail
        refine hk.mono ?_
        rintro e w5 ⟨rfl, hB⟩
        have HB5 := Lib.hid (HB.out.trans (hB.mono HB.out.size))
        clear hB hk HB
        rw [show keyV (.error 1) = .tuple #[.string ⟨#[]⟩, .int .i64 1] from rfl]
        rcases h2 with h2 | ⟨h2, h3, h4⟩
        all_goals
          go_wp2
          go_ret
          exact ⟨rfl, HB5.out⟩
      · rw [if_neg h1] at hk
        have h2 : ¬ (16 < (i : Int)) := by omega
        have h3 : ¬ (0 < (i : Int)) ∨ (0 < (i : Int) ∧ ¬ (64 < (k : Int))) := by omega
        clear h1
        by_cases h4 : 2048 < 3 + M
        · rw [if_pos h4] at hk
          have h5 : 2048 < 3 + (M : Int) := by omega
          clear h4
          go_wp2_with fail
          refine hk.mono ?_
          rintro e w5 ⟨rfl, hB⟩
          have HB5 := Lib.hid (HB.out.trans (hB.mono HB.out.size))
          clear hB hk HB
          rw [show keyV (.error 3) = .tuple #[.string ⟨#[]⟩, .int .i64 3] from rfl]
          rcases h3 with h3 | ⟨h3, h6⟩
          all_goals
            go_wp2
            go_ret
            exact ⟨rfl, HB5.out⟩
        · rw [if_neg h4] at hk
          have h5 : ¬ (2048 < 3 + (M : Int)) := by omega
          have hz : (tx (keyK [109] (longS k i))).size = 3 + M := by rw [tx_len]; exact HLEN.out
          clear h4
          go_wp2_with fail
          refine hk.mono ?_
          rintro e w5 ⟨rfl, hB⟩
          have HB5 := Lib.hid (HB.out.trans (hB.mono HB.out.size))
          clear hB hk HB
          rw [show keyV (.ok (keyK [109] (longS k i))) = .tuple #[.string (tx (keyK [109] (longS k i))), .int .i64 0] from rfl]
          generalize tx (keyK [109] (longS k i)) = K at *
          rcases h3 with h3 | ⟨h3, h6⟩
          all_goals
            go_wp2
            go_ret
            exact ⟨rfl, HB5.out⟩
end Go.Proofs.Ytlocjhnlemlnmaa.Lx
