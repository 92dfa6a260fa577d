/- The chapter's own answer: a sum of bytes. -/
import Derived.Test.YthddnhnhlgnlhaaDoorWideE
namespace Go.Proofs.YthddnhnhlgnlhaaDoor
open Go Go.RowKit


theorem refGet_short (s : ByteArray) (hs : s.size ≠ 16) (w : World) :
    Calls Tryd.prog 31 #[.string s] w fun e w' => e = .returned (.tuple #[sv 0, .bool false]) ∧ Below w.heap.size w w' := by
  have e0 : sv 0 = .agg #[.int .i64 0, .int .u64 0] := by unfold sv; rw [show shi 0 = 0 by decide, show slo 0 = 0 by decide]
  have h1 : ((s.size : Int) != 16) = true := by simp; omega
  have h2 : ¬ ((s.size : Int) = 16) := by omega
  rw [e0]
  clear e0
  go_enter Tryd.func31, Tryd.ntmps31
  go_wp2
  simp [bodyPost, results, Tryd.results31, go_sem]
  exact (Below.refl _ _).alloc (Nat.le_refl _) _

theorem gw_walk (l : List UInt8) (z : Int) (k : Nat) (z0 : 0 ≤ z) (z1 : z ≤ 18446744073709551615) (x : UInt8) (hx : l[k]? = some x) (m : Int) (h : gw z (l.drop k) = m) :
    ∃ z2 : Int, bits .or .u64 (IntKind.u64.wrap (z * 256)) (x.toNat : Int) = z2 ∧ IntKind.u64.wrap (x.toNat : Int) = (x.toNat : Int) ∧ 0 ≤ z2 ∧ z2 ≤ 18446744073709551615 ∧ Hid (gw z2 (l.drop (k + 1)) = m) := by
  refine ⟨_, or_byte z x z0 z1, ?_, (gw_step_in z x).1, (gw_step_in z x).2, Lib.hid ?_⟩
  · have hc : x.toNat < 256 := x.toNat_lt
    rw [IntKind.wrap_u64]; omega
  · obtain ⟨hk, hx⟩ := List.getElem?_eq_some_iff.1 hx
    rw [← h, List.drop_eq_getElem_cons hk, hx, gw]

set_option maxRecDepth 100000 in
set_option maxHeartbeats 2000000 in
theorem refGet_full (s : ByteArray) (hs : s.size = 16) (w : World) :
    Calls Tryd.prog 31 #[.string s] w fun e w' => e = .returned (.tuple #[sv (getS s.data.toList), .bool true]) ∧ Below w.heap.size w w' := by
  obtain ⟨_, p1, p2⟩ := getS_parts s.data.toList
  rw [show sv (getS s.data.toList) = .agg #[.int .i64 (wrap64 (gw 0 (s.data.toList.take 8))), .int .u64 (gw 0 (s.data.toList.drop 8))] by unfold sv; rw [p1, p2]]
  clear p1 p2
  have hlen : s.data.toList.length = 16 := by simpa using hs
  have H1 : Hid (∀ k (h : k < 8), (s.data.toList.take 8)[k]? = some (s[k]'(by omega))) := Lib.hid fun k h => by rw [List.getElem?_take_of_lt h, List.getElem?_eq_getElem (by omega)]; rfl
  have H2 : Hid (∀ k (h : k < 8), (s.data.toList.drop 8)[k]? = some (s[8 + k]'(by omega))) := Lib.hid fun k h => by rw [List.getElem?_drop, List.getElem?_eq_getElem (by omega)]; rfl
  have L1 : (s.data.toList.take 8).length = 8 := by rw [List.length_take]; omega
  have L2 : (s.data.toList.drop 8).length = 8 := by rw [List.length_drop]; omega
  generalize s.data.toList.take 8 = l1 at *
  generalize s.data.toList.drop 8 = l2 at *
  clear hlen
  have h1 : ((s.size : Int) != 16) = false := by simp; omega
  have h2 : (s.size : Int) = 16 := by omega
  go_enter Tryd.func31, Tryd.ntmps31
  go_wp2
  refine wp_gen (fun W => CellsAt w.heap.size #[.int .i64 0, .int .u64 0] W ∧ Below w.heap.size w W) ?_ ?_
  · exact ⟨CellsAt.new _ _ _, (Below.refl _ _).alloc (Nat.le_refl _) _⟩
  intro W ⟨hR, hB0⟩
  have k0 := hR.cell 0 (.int .i64 0) rfl
  have k1 := hR.cell 1 (.int .u64 0) rfl
  have f0 := hR.fro 0 (.int .i64 0) rfl
  have f1 := hR.fro 1 (.int .u64 0) rfl
  go_loopg [4, 5, 6] 8 (fun g s4 s5 s6 wx => ∃ (k : Nat) (x y : Int), k + g = 8 ∧ s6 = .int .i64 k ∧ s4 = .int .u64 x ∧ s5 = .int .u64 y ∧ 0 ≤ x ∧ x ≤ 18446744073709551615 ∧ 0 ≤ y ∧ y ≤ 18446744073709551615 ∧ Hid (gw x (l1.drop k) = gw 0 l1) ∧ Hid (gw y (l2.drop k) = gw 0 l2) ∧ wx = W)
  case atStart => exact ⟨0, 0, 0, rfl, rfl, rfl, rfl, by decide, by decide, by decide, by decide, Lib.hid rfl, Lib.hid rfl, rfl⟩
  case round =>
    obtain ⟨k, x, y, hkg, rfl, rfl, rfl, x0, x1, y0, y1, HX, HY, rfl⟩ := hrel
    cases gk with
    | zero =>
      obtain rfl : k = 8 := hkg
      have ex : gw 0 l1 = x := by rw [← HX.out, List.drop_eq_nil_of_le (by omega)]; rfl
      have ey : gw 0 l2 = y := by rw [← HY.out, List.drop_eq_nil_of_le (by omega)]; rfl
      have hv := wrap_i64_eq x
      have HX2 := Lib.hid ex
      have HY2 := Lib.hid ey
      clear HX HY ex ey
      go_wp2
      rw [HX2.out, HY2.out]
      have hD : CellsAt w.heap.size #[.int .i64 (wrap64 x), .int .u64 y] ((wr.setCell ⟨w.heap.size, 0, none⟩ (.int .i64 (wrap64 x))).setCell ⟨w.heap.size, 1, none⟩ (.int .u64 y)) := (hR.set 0 (.int .i64 (wrap64 x)) (by simp)).set 1 (.int .u64 y) (by simp)
      have hBw : Below w.heap.size w ((wr.setCell ⟨w.heap.size, 0, none⟩ (.int .i64 (wrap64 x))).setCell ⟨w.heap.size, 1, none⟩ (.int .u64 y)) := (hB0.setCell (Nat.le_refl _) _).setCell (Nat.le_refl _) _
      clear k0 k1 f0 f1
      generalize (wr.setCell ⟨w.heap.size, 0, none⟩ (.int .i64 (wrap64 x))).setCell ⟨w.heap.size, 1, none⟩ (.int .u64 y) = wd at *
      have k0 := hD.cell 0 (.int .i64 (wrap64 x)) rfl
      have k1 := hD.cell 1 (.int .u64 y) rfl
      simp [bodyPost, results, Tryd.results31, go_sem, k0, k1]
      exact hBw
    | succ g =>
      have hk8 : k < 8 := by omega
      obtain ⟨c1, hc1⟩ : ∃ c : UInt8, s[k]'(by omega) = c := ⟨_, rfl⟩
      obtain ⟨c2, hc2⟩ : ∃ c : UInt8, s[8 + k]'(by omega) = c := ⟨_, rfl⟩
      obtain ⟨z1, e1, e2, z10, z11, HZ1⟩ := gw_walk l1 x k x0 x1 c1 ((H1.out k hk8).trans (congrArg some hc1)) _ HX.out
      obtain ⟨z2, e3, e4, z20, z21, HZ2⟩ := gw_walk l2 y k y0 y1 c2 ((H2.out k hk8).trans (congrArg some hc2)) _ HY.out
      go_wp2
      go_roundg g
      case measure => omega
      case rel => exact ⟨k + 1, z1, z2, by omega, by go_num, rfl, rfl, z10, z11, z20, z21, HZ1, HZ2, rfl⟩
end Go.Proofs.YthddnhnhlgnlhaaDoor
