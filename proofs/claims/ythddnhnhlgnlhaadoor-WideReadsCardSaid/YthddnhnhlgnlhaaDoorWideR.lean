/- The digits that a text begins with, read. -/
import Derived.Test.YthddnhnhlgnlhaaDoorWideT
import Derived.Deep.LoopGhost
import Derived.LoopTactic
namespace Go.Proofs.YthddnhnhlgnlhaaDoor
open Go Go.RowKit

/-- The number of the digits that l begins with, behind z, modulo 2^128. -/
def rdv : Int → List UInt8 → Int
  | z, [] => z
  | z, c :: cs => if 48 ≤ c.toNat ∧ c.toNat ≤ 57 then rdv (w128 (w128 (z * 10) + ((c.toNat : Int) - 48))) cs else z

set_option maxHeartbeats 4000000 in
theorem readDigits_any (s : ByteArray) (hs : s.size ≤ maxLen) (w : World) :
    Calls Tryd.prog 37 #[.string s] w fun e w' => e = .returned (sv (rdv 0 s.data.toList)) ∧ Below w.heap.size w w' := by
  unfold maxLen at hs
  have HS := Lib.hid hs
  clear hs
  go_enter Tryd.func37, Tryd.ntmps37
  go_wp2
  go_step3
  go_wp2
  go_step3
  go_wp2
  go_loopg [8] s.size (fun g s8 wx => ∃ (k : Nat) (z : Int), k + g = s.size ∧ s8 = .int .i64 k ∧ InS z ∧ Hid (rdv z (s.data.toList.drop k) = rdv 0 s.data.toList) ∧ CellsAt (w.heap.size + 1) #[.int .i64 (shi z), .int .u64 (slo z)] wx ∧ CellsAt w.heap.size #[.int .i64 0, .int .u64 0] wx ∧ Below w.heap.size w wx)
  case atStart => exact ⟨0, 0, by omega, rfl, InS.small (by decide) (by decide), Lib.hid rfl, CellsAt.newAt _ _ _ _ (by simp), (CellsAt.new _ _ _).past _, ((Below.refl _ _).alloc (Nat.le_refl _) _).alloc (by simp) _⟩
  case round =>
    obtain ⟨k, z, hkg, rfl, hz, HI, hZ, hR, hB⟩ := hrel
    have hs := HS.out
    have z0 := hZ.cell 0 (.int .i64 (shi z)) rfl
    have z1 := hZ.cell 1 (.int .u64 (slo z)) rfl
    have zf0 := hZ.fro 0 (.int .i64 (shi z)) rfl
    have zf1 := hZ.fro 1 (.int .u64 (slo z)) rfl
    have c0 := hR.cell 0 (.int .i64 0) rfl
    have c1 := hR.cell 1 (.int .u64 0) rfl
    have f0 := hR.fro 0 (.int .i64 0) rfl
    have f1 := hR.fro 1 (.int .u64 0) rfl
    cases gk with
    | zero =>
      have hkz : ¬ ((k : Int) < (s.size : Int)) := by omega
      go_wp2
      have hD := (hR.set 0 (.int .i64 (shi z)) (by simp)).set 1 (.int .u64 (slo z)) (by simp)
      have k0 := hD.cell 0 (.int .i64 (shi z)) rfl
      have k1 := hD.cell 1 (.int .u64 (slo z)) rfl
      simp [bodyPost, results, Tryd.results37, go_sem, k0, k1]
      rw [← HI.out]
      rw [List.drop_eq_nil_of_le (by simp; omega)]
      exact ⟨⟨rfl, rfl⟩, (hB.setCell (Nat.le_refl _) _).setCell (Nat.le_refl _) _⟩
    | succ g =>
      have hlt : k < s.size := by omega
      have hkz : (k : Int) < (s.size : Int) := by omega
      obtain ⟨x, hx⟩ : ∃ x : UInt8, s[k] = x := ⟨_, rfl⟩
      have hxl : s.data.toList.drop k = x :: s.data.toList.drop (k + 1) := by
        rw [List.drop_eq_getElem_cons (by simpa using hlt)]
        congr 1
      have HX := Lib.hid hxl
      clear hxl
      by_cases hd : 48 ≤ x.toNat ∧ x.toNat ≤ 57
      · have hd1 : (48 : Int) ≤ (x.toNat : Int) := by omega
        have hd2 : (x.toNat : Int) ≤ 57 := by omega
        obtain ⟨y, hy⟩ : ∃ y : Int, (x.toNat : Int) - 48 = y := ⟨_, rfl⟩
        have hyb : 0 ≤ y ∧ y ≤ 9 := by omega
        have e1 : IntKind.u8.wrap ((x.toNat : Int) - 48) = y := by rw [← hy]; simp [IntKind.wrap, IntKind.bits, IntKind.signed]; omega
        have hz1 := w128_in (z * 10)
        have hz2 : InS y := InS.small (by omega) (by omega)
        have hnext : rdv (w128 (w128 (z * 10) + y)) (s.data.toList.drop (k + 1)) = rdv 0 s.data.toList := by
          rw [← HI.out, HX.out, rdv, if_pos hd, ← hy]
        have HN := Lib.hid hnext
        have HZ := Lib.hid hz
        clear hnext hz hd HI
        go_wp2_with fail
        refine (tenfold_any z HZ.out _).mono ?_
        rintro e w1 ⟨rfl, hB1⟩
        go_wp2_with fail
        refine (of_any y (by omega) (by omega) _).mono ?_
        rintro e w2 ⟨rfl, hB2⟩
        go_wp2_with fail
        refine (add_any (w128 (z * 10)) y hz1 hz2 _).mono ?_
        rintro e w3 ⟨rfl, hB3⟩
        have hZ3 := ((hZ.below hB1).below hB2).below hB3
        have hR3 := ((hR.below hB1).below hB2).below hB3
        have hE3 := ((hB.trans (hB1.mono hB.size)).trans (hB2.mono (Nat.le_trans hB.size hB1.size))).trans (hB3.mono (Nat.le_trans (Nat.le_trans hB.size hB1.size) hB2.size))
        have z0 := hZ3.cell 0 (.int .i64 (shi z)) rfl
        have z1 := hZ3.cell 1 (.int .u64 (slo z)) rfl
        have zf0 := hZ3.fro 0 (.int .i64 (shi z)) rfl
        have zf1 := hZ3.fro 1 (.int .u64 (slo z)) rfl
        go_wp2
        go_roundg g
        case measure => omega
        case rel => exact ⟨k + 1, w128 (w128 (z * 10) + y), by omega, by go_num, w128_in _, HN, (hZ3.set 0 (.int .i64 (shi (w128 (w128 (z * 10) + y)))) (by simp)).set 1 (.int .u64 (slo (w128 (w128 (z * 10) + y)))) (by simp), (hR3.other _ _ (by simp)).other _ _ (by simp), (hE3.setCell (by simp) _).setCell (by simp) _⟩
      · have hf : rdv z (s.data.toList.drop k) = z := by rw [HX.out, rdv, if_neg hd]
        have HF := Lib.hid hf
        clear hf
        by_cases hd1 : (48 : Int) ≤ (x.toNat : Int)
        · have hd2 : ¬ ((x.toNat : Int) ≤ 57) := by omega
          clear hd
          go_wp2
          have hD := (hR.set 0 (.int .i64 (shi z)) (by simp)).set 1 (.int .u64 (slo z)) (by simp)
          have k0 := hD.cell 0 (.int .i64 (shi z)) rfl
          have k1 := hD.cell 1 (.int .u64 (slo z)) rfl
          simp [bodyPost, results, Tryd.results37, go_sem, k0, k1]
          rw [← HI.out]
          rw [HF.out]
          exact ⟨⟨rfl, rfl⟩, (hB.setCell (Nat.le_refl _) _).setCell (Nat.le_refl _) _⟩
        · clear hd
          go_wp2
          have hD := (hR.set 0 (.int .i64 (shi z)) (by simp)).set 1 (.int .u64 (slo z)) (by simp)
          have k0 := hD.cell 0 (.int .i64 (shi z)) rfl
          have k1 := hD.cell 1 (.int .u64 (slo z)) rfl
          simp [bodyPost, results, Tryd.results37, go_sem, k0, k1]
          rw [← HI.out]
          rw [HF.out]
          exact ⟨⟨rfl, rfl⟩, (hB.setCell (Nat.le_refl _) _).setCell (Nat.le_refl _) _⟩
end Go.Proofs.YthddnhnhlgnlhaaDoor
