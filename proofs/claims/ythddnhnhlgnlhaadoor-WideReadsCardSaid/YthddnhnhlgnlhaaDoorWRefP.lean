/- The chapter's own answer: the bytes of a sum. -/
import Derived.Test.YthddnhnhlgnlhaaDoorWideE
namespace Go.Proofs.YthddnhnhlgnlhaaDoor
open Go Go.RowKit


def bytesTo (x : Int) (k : Nat) : List UInt8 := (List.range k).map (byteAt x)
theorem bytesTo_succ (x : Int) (k : Nat) : bytesTo x (k + 1) = bytesTo x k ++ [byteAt x k] := by simp [bytesTo, List.range_succ]
theorem bytesTo_cells (x : Int) (k j : Nat) (hj : (7 - k) * 8 = j) (l : List UInt8) : Lib.byteCells (l ++ bytesTo x k) ++ [Value.int .u8 (x / 2 ^ j % 256)] = Lib.byteCells (l ++ bytesTo x (k + 1)) := by
  subst hj
  rw [bytesTo_succ, ← byteAt_nat]
  simp [Lib.byteCells]
theorem infoByte : (Tryd.prog.info? 5).map (fun i => (i.zero, i.size, i.bytes)) = some (some (.int .u8 0), 1, 1) := by kernel_rfl
theorem one_cell (w : World) (x : Value) (t : TypeId) : ∀ j u, [x][j]? = some u → (w.alloc (.cells #[x] t)).cell? ((⟨w.heap.size, 0, none⟩ : Addr).add j) = some u := by
  intro j u hj
  match j, hj with
  | 0, hj => simp at hj; subst hj; simp [Addr.add]
theorem row_step {B : Nat} {w wr w1 : World} {v : Value} {e : TypeId} {n : Nat} {xs : List Value} {vs : Array Value} {o : Obj} {v' : Value} {ys : List Value} (hown : wr.ownsRow (B + 1) e 1 v n xs) (hA : CellsAt B vs wr) (hB : Below B w wr)
    (hg : (wr.alloc o).grownBy w1 v.ownBlock) (hown' : w1.ownsRow (B + 1) e 1 v' (n + 1) ys) : CellsAt B vs w1 ∧ Below B w w1 := by
  have hs := hB.size
  have hne : some B ≠ v.ownBlock := fun h => by have := hown.lt B h.symm; omega
  have hl := hA.lt
  refine ⟨⟨Nat.lt_of_lt_of_le (by simp; omega) hg.size, fun i x hx => ?_, fun i x hx => ?_⟩, (hB.alloc (by omega) _).grown hg (by simp; omega) (fun j hj => by have := (hown.lt j hj).1; omega)⟩
  · exact hg.cell ((World.cell?_alloc_past _ _ _ (by omega)).trans (hA.cell i x hx)) hne
  · rw [World.frozen?_of_block (w := wr.alloc o) (hg.block B (by simp; omega) hne)]
    exact (World.frozen?_alloc_past _ _ _ (by omega)).trans (hA.fro i x hx)

set_option maxRecDepth 100000 in
set_option maxHeartbeats 4000000 in
theorem refPut_any (a : Int) (ha : InS a) (w : World) :
    Calls Tryd.prog 24 #[sv a] w fun e w' => e = .returned (.string (tx (sput a))) ∧ Below w.heap.size w w' := by
  have a1 := shi_lo ha
  have a2 := shi_hi ha
  have a3 := slo_lo a
  have a4 := slo_hi a
  have hu : 0 ≤ IntKind.u64.wrap (shi a) ∧ IntKind.u64.wrap (shi a) ≤ 18446744073709551615 := by rw [IntKind.wrap_u64]; omega
  obtain ⟨u, hu'⟩ : ∃ u, IntKind.u64.wrap (shi a) = u := ⟨_, rfl⟩
  rw [sput, hu']
  rw [hu'] at hu
  obtain ⟨u0, u1⟩ := hu
  clear ha
  obtain ⟨i0, hi, hz0, hz1, hz2⟩ := info_parts infoByte
  rw [show sv a = .agg #[.int .i64 (shi a), .int .u64 (slo a)] from rfl]
  go_enter Tryd.func24, Tryd.ntmps24
  go_wp2
  refine wp_gen (fun W => CellsAt w.heap.size #[.int .i64 (shi a), .int .u64 (slo a)] W ∧ Below w.heap.size w W) ?_ ?_
  · exact ⟨CellsAt.new _ _ _, (Below.refl _ _).alloc (Nat.le_refl _) _⟩
  intro W ⟨hA, hB0⟩
  go_loopg [3, 4] 8 (fun g s3 s4 wx => ∃ k : Nat, k + g = 8 ∧ s4 = .int .i64 k ∧ wx.ownsRow (w.heap.size + 1) 5 1 s3 k (Lib.byteCells ([] ++ bytesTo u k)) ∧ CellsAt w.heap.size #[.int .i64 (shi a), .int .u64 (slo a)] wx ∧ Below w.heap.size w wx)
  case atStart => exact ⟨0, rfl, rfl, World.ownsRow_nil _ _ _ _, hA, hB0⟩
  case round =>
    clear hA hB0
    obtain ⟨k, hkg, rfl, hown, hX, hB⟩ := hrel
    have c0 := hX.cell 0 (.int .i64 (shi a)) rfl
    have hsz := hB.size
    have hlt := hX.lt
    cases gk with
    | zero =>
      obtain rfl : k = 8 := hkg
      rw [List.nil_append] at hown
      go_wp2
      go_loopg [3, 5] 8 (fun g s3 s5 wx => ∃ k : Nat, k + g = 8 ∧ s5 = .int .i64 k ∧ wx.ownsRow (w.heap.size + 1) 5 1 s3 (8 + k) (Lib.byteCells (bytesTo u 8 ++ bytesTo (slo a) k)) ∧ CellsAt w.heap.size #[.int .i64 (shi a), .int .u64 (slo a)] wx ∧ Below w.heap.size w wx)
      case atStart => exact ⟨0, rfl, rfl, by simpa [bytesTo] using hown, hX, hB⟩
      case round =>
        clear hown hX hB hsz hlt c0
        obtain ⟨k, hkg, rfl, hown, hX, hB⟩ := hrel
        have c1 := hX.cell 1 (.int .u64 (slo a)) rfl
        have hsz := hB.size
        have hlt := hX.lt
        cases gk with
        | zero =>
          obtain rfl : k = 8 := hkg
          have hlen : (bytesTo u 8 ++ bytesTo (slo a) 8).length = 8 + 8 := by simp [bytesTo]
          rcases hown.2 with ⟨-, h0⟩ | ⟨g, cap, cur, rfl, -, -, -, -, -, -⟩
          · omega
          · have hcv := run_convert_bytes_back (P := Tryd.prog) wr 58 9 5 ⟨g, 0, none⟩ cap (bytesTo u 8 ++ bytesTo (slo a) 8) Tryd.underlying58 Tryd.underlying5 Tryd.underlying9 (fun j hj => hown.cells (g := g) rfl j _ (by rw [Lib.byteCells, List.getElem?_map, List.getElem?_eq_getElem hj]; rfl))
            rw [hlen] at hcv
            have hcv2 : (convert 58 9 (.slice (some ⟨g, 0, none⟩) (8 + 8) cap)).run Tryd.prog wr = .ok (.string (tx (bytesOf u ++ bytesOf (slo a)))) wr := hcv
            clear hcv hlen
            go_wp2
            go_ret
            exact ⟨rfl, hB⟩
        | succ g =>
          obtain ⟨j, hj⟩ : ∃ j, (7 - k) * 8 = j := ⟨_, rfl⟩
          have hkj : (56 : Int) - 8 * (k : Int) = j := by omega
          have hk8 : (k : Int) < 8 := by omega
          have hxs := bytesTo_cells (slo a) k j hj (bytesTo u 8)
          have HJ := Lib.hid hj
          clear hj
          go_wp2_with (at_builtin; refine wpList_append_own _ rfl _ _ 58 rfl (w.heap.size + 1) 5 i0 (.int .u8 0) 1 1 Tryd.underlying58 hi hz0 hz1 hz2 rfl (by decide) _ _ _ rfl (hown.alloc _) ⟨wr.heap.size, 0, none⟩ 1 1 [.int .u8 (slo a / 2 ^ j % 256)] rfl rfl (one_cell _ _ _) (by intro u' hu'; simp at hu'; subst hu'; rfl) (by unfold maxLen; omega) (by omega) (by simp; omega) ?_)
          intro v' w1 hown' hgrow _
          try rw [hxs] at hown'
          obtain ⟨hX1, hB1⟩ := row_step hown hX hB hgrow hown'
          clear hgrow hown hX hB hxs c1 hsz hlt
          go_wp2
          go_roundg g
          case measure => omega
          case rel => exact ⟨k + 1, by omega, by go_num, hown', hX1, hB1⟩
    | succ g =>
      obtain ⟨j, hj⟩ : ∃ j, (7 - k) * 8 = j := ⟨_, rfl⟩
      have hkj : (56 : Int) - 8 * (k : Int) = j := by omega
      have hk8 : (k : Int) < 8 := by omega
      have hxs := bytesTo_cells u k j hj []
      have HJ := Lib.hid hj
      clear hj
      go_wp2_with (at_builtin; refine wpList_append_own _ rfl _ _ 58 rfl (w.heap.size + 1) 5 i0 (.int .u8 0) 1 1 Tryd.underlying58 hi hz0 hz1 hz2 rfl (by decide) _ _ _ rfl (hown.alloc _) ⟨wr.heap.size, 0, none⟩ 1 1 [.int .u8 (u / 2 ^ j % 256)] rfl rfl (one_cell _ _ _) (by intro u' hu'; simp at hu'; subst hu'; rfl) (by unfold maxLen; omega) (by omega) (by simp; omega) ?_)
      intro v' w1 hown' hgrow _
      try rw [hxs] at hown'
      obtain ⟨hX1, hB1⟩ := row_step hown hX hB hgrow hown'
      clear hgrow hown hX hB hxs c0 hsz hlt
      go_wp2
      go_roundg g
      case measure => omega
      case rel => exact ⟨k + 1, by omega, by go_num, (by rw [← bytesTo_cells u k j HJ.out []]; exact hown'), hX1, hB1⟩

end Go.Proofs.YthddnhnhlgnlhaaDoor
