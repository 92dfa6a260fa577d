/- GateOnly walked. -/
import Derived.Test.YtmlmahkddmegiaaGtH
namespace Go.Proofs.Ytmlmahkddmegiaa
open Go Go.RowKit

set_option maxRecDepth 100000 in
set_option maxHeartbeats 16000000 in
theorem only_in (a b : Nat) (ha : a < 256) (hb : b < 256) (p : Option Addr) (hs : List Nat) (cap : Nat) (hl : hs.length ≤ 9223372036854775807) (w : World) (hO : Octs p hs w) :
    Calls Try.prog 4 #[.int .u8 (a : Int), .int .u8 (b : Int), .slice p hs.length cap] w fun e w' => e = .returned (.bool true) ∧ Below w.heap.size w w' := by
  have HO := Lib.hid hO
  obtain ⟨s, hsn⟩ : ∃ s : Int, (a : Int) % 50 = s := ⟨_, rfl⟩
  obtain ⟨q, hqn⟩ : ∃ q : Int, (b : Int) % 50 = q := ⟨_, rfl⟩
  have hs0 : 0 ≤ s ∧ s < 50 := by omega
  have hq0 : 0 ≤ q ∧ q < 50 := by omega
  have hn := fun W => gnew s q W
  have hMq := Int.min_le_right s q
  have hM0 : 0 ≤ min s q := by omega
  obtain ⟨M, hM⟩ : ∃ M, min s q = M := ⟨_, rfl⟩
  rw [hM] at hn hMq hM0
  have hex := fun W => examples_any W
  obtain ⟨n, hnl⟩ : ∃ n, hs.length = n := ⟨_, rfl⟩
  have HN := Lib.hid hnl
  rw [hnl] at hl ⊢
  clear hM hO hnl
  go_enter Try.func4, Try.ntmps4
  go_wp2_with fail
  refine (hex _).mono ?_
  rintro e w1 ⟨rfl, hB1⟩
  have HB := Lib.hid hB1
  clear hex hB1
  go_wp2_with fail
  refine (hn _).mono ?_
  rintro e w2 ⟨rfl, hBx⟩
  replace HB := Lib.hid (HB.out.trans (hBx.mono HB.out.size))
  clear hBx hn
  obtain ⟨A, hA⟩ : ∃ A, w2.heap.size = A := ⟨_, rfl⟩
  have hwA : w.heap.size ≤ A := by have := HB.out.size; omega
  have HA0 : Hid (CellsAt A #[.bool false, .int .u64 M, .int .u64 q] (w2.alloc (.cells #[.bool false, .int .u64 M, .int .u64 q] 24))) := Lib.hid (CellsAt.newAt #[.bool false, .int .u64 M, .int .u64 q] 24 w2 A hA.symm)
  have HB0 : Hid (Below w.heap.size w (w2.alloc (.cells #[.bool false, .int .u64 M, .int .u64 q] 24))) := Lib.hid (HB.out.alloc HB.out.size _)
  clear HB
  go_wp2
  clear hA
  go_loopg [9, 10, 11] 40 (fun g s9 s10 s11 wx => ∃ (k : Nat) (c : Bool), s9 = .int .i64 (k : Int) ∧ g + k = 40 ∧ k ≤ n ∧ Hid (CellsAt A #[.bool c, .int .u64 M, .int .u64 q] wx) ∧ Hid (Below w.heap.size w wx))
  case atStart => exact ⟨0, false, rfl, rfl, Nat.zero_le _, HA0, HB0⟩
  case round =>
    clear HA0 HB0
    obtain ⟨k, c, rfl, hgk, hkn, HA, HB⟩ := hrel
    by_cases hgo : k < n ∧ k < 40
    · obtain ⟨hk1, hk2⟩ := hgo
      have hkl : k < hs.length := by rw [HN.out]; exact hk1
      obtain ⟨C, off, rfl, hC, hcell, hxb⟩ := HO.out k hkl
      have hcell2 := (HB.out.cell (p := ⟨C, off + k, none⟩) hC).trans hcell
      have hCr : C < wr.heap.size := Nat.lt_of_lt_of_le hC HB.out.size
      clear hcell hC
      generalize hs[k]'hkl = x at *
      obtain ⟨nn, hnn⟩ : ∃ nn : Int, (x : Int) % 64 = nn := ⟨_, rfl⟩
      have hnn0 : 0 ≤ nn ∧ nn < 64 := by omega
      clear hkl
      rcases (show 192 ≤ x ∨ x < 192 by omega) with hx | hx
      · rcases (show M < nn ∨ nn ≤ M by omega) with hcmp | hcmp
        · cases c
          · have hcall : ∀ W, Calls Try.prog 12 #[.agg #[.bool false, .int .u64 M, .int .u64 q], .int .u64 nn] W fun e w' => e = .returned (.agg #[.bool false, .int .u64 M, .int .u64 q]) ∧ Below W.heap.size W w' := fun W => by
              have := gturn false M q nn W
              rw [decide_eq_true hcmp] at this
              exact this
            have hcn : (nn ≤ M) = False := eq_false (by omega)
            have m0 := HA.out.cell 0 _ rfl
            have m1 := HA.out.cell 1 _ rfl
            have m2 := HA.out.cell 2 _ rfl
            have mf0 := HA.out.fro 0 _ rfl
            have mf1 := HA.out.fro 1 _ rfl
            have mf2 := HA.out.fro 2 _ rfl
            have ml := HA.out.lt
            simp only [List.getElem_toArray, List.getElem_cons_zero, List.getElem_cons_succ] at m0 m1 m2
            obtain ⟨X, hX⟩ : ∃ X, wr.heap.size = X := ⟨_, rfl⟩
            rw [hX] at hCr ml
            have HX : Hid (CellsAt X #[.bool false, .int .u64 M, .int .u64 q] (wr.alloc (.cells #[.bool false, .int .u64 M, .int .u64 q] 24))) := Lib.hid (CellsAt.newAt #[.bool false, .int .u64 M, .int .u64 q] 24 wr X hX.symm)
            have hBx : Below wr.heap.size wr (wr.alloc (.cells #[.bool false, .int .u64 M, .int .u64 q] 24)) := (Below.refl _ _).alloc (Nat.le_refl _) _
            have HA2 := Lib.hid (HA.out.below hBx)
            have HB2 := Lib.hid (HB.out.trans (hBx.mono HB.out.size))
            clear hBx HA HB
            go_wp2_with fail
            refine (hcall _).mono ?_
            rintro e w3 ⟨rfl, hB3⟩
            replace HA := Lib.hid (HA2.out.below hB3)
            replace HX := Lib.hid (HX.out.below hB3)
            replace HB := Lib.hid (HB2.out.trans (hB3.mono HB2.out.size))
            have hne : (A == X) = false := by simp; omega
            have hne2 : (X == A) = false := by simp; omega
            have hne3 : ¬ A = X := by omega
            have hne4 : ¬ X = A := by omega
            clear hcall hB3 HA2 HB2 hX hcell2 hCr m0 m1 m2 mf0 mf1 mf2 ml
            have m0 := HA.out.cell 0 _ rfl
            have m1 := HA.out.cell 1 _ rfl
            have m2 := HA.out.cell 2 _ rfl
            have mf0 := HA.out.fro 0 _ rfl
            have mf1 := HA.out.fro 1 _ rfl
            have mf2 := HA.out.fro 2 _ rfl
            have ml := HA.out.lt
            simp only [List.getElem_toArray, List.getElem_cons_zero, List.getElem_cons_succ] at m0 m1 m2
            have y0 := HX.out.cell 0 _ rfl
            have y1 := HX.out.cell 1 _ rfl
            have y2 := HX.out.cell 2 _ rfl
            have yf0 := HX.out.fro 0 _ rfl
            have yf1 := HX.out.fro 1 _ rfl
            have yf2 := HX.out.fro 2 _ rfl
            have yl := HX.out.lt
            simp only [List.getElem_toArray, List.getElem_cons_zero, List.getElem_cons_succ] at y0 y1 y2
            have HA4 := Lib.hid (put_gate (c := .bool false) (l := .int .u64 M) (h := .int .u64 q) HA.out)
            have HB4 := Lib.hid (below_gate (P := A) (c := .bool false) (l := .int .u64 M) (h := .int .u64 q) HB.out hwA)
            clear HA HX HB
            go_wp2
            go_roundg (39 - k)
            case measure => omega
            case rel => exact ⟨k + 1, false, by go_num, by omega, by omega, HA4, HB4⟩
          · have hcall : ∀ W, Calls Try.prog 12 #[.agg #[.bool true, .int .u64 M, .int .u64 q], .int .u64 nn] W fun e w' => e = .returned (.agg #[.bool true, .int .u64 M, .int .u64 q]) ∧ Below W.heap.size W w' := fun W => by
              have := gturn true M q nn W
              rw [decide_eq_true hcmp] at this
              exact this
            have hcn : (nn ≤ M) = False := eq_false (by omega)
            have m0 := HA.out.cell 0 _ rfl
            have m1 := HA.out.cell 1 _ rfl
            have m2 := HA.out.cell 2 _ rfl
            have mf0 := HA.out.fro 0 _ rfl
            have mf1 := HA.out.fro 1 _ rfl
            have mf2 := HA.out.fro 2 _ rfl
            have ml := HA.out.lt
            simp only [List.getElem_toArray, List.getElem_cons_zero, List.getElem_cons_succ] at m0 m1 m2
            obtain ⟨X, hX⟩ : ∃ X, wr.heap.size = X := ⟨_, rfl⟩
            rw [hX] at hCr ml
            have HX : Hid (CellsAt X #[.bool true, .int .u64 M, .int .u64 q] (wr.alloc (.cells #[.bool true, .int .u64 M, .int .u64 q] 24))) := Lib.hid (CellsAt.newAt #[.bool true, .int .u64 M, .int .u64 q] 24 wr X hX.symm)
            have hBx : Below wr.heap.size wr (wr.alloc (.cells #[.bool true, .int .u64 M, .int .u64 q] 24)) := (Below.refl _ _).alloc (Nat.le_refl _) _
            have HA2 := Lib.hid (HA.out.below hBx)
            have HB2 := Lib.hid (HB.out.trans (hBx.mono HB.out.size))
            clear hBx HA HB
            go_wp2_with fail
            refine (hcall _).mono ?_
            rintro e w3 ⟨rfl, hB3⟩
            replace HA := Lib.hid (HA2.out.below hB3)
            replace HX := Lib.hid (HX.out.below hB3)
            replace HB := Lib.hid (HB2.out.trans (hB3.mono HB2.out.size))
            have hne : (A == X) = false := by simp; omega
            have hne2 : (X == A) = false := by simp; omega
            have hne3 : ¬ A = X := by omega
            have hne4 : ¬ X = A := by omega
            clear hcall hB3 HA2 HB2 hX hcell2 hCr m0 m1 m2 mf0 mf1 mf2 ml
            have m0 := HA.out.cell 0 _ rfl
            have m1 := HA.out.cell 1 _ rfl
            have m2 := HA.out.cell 2 _ rfl
            have mf0 := HA.out.fro 0 _ rfl
            have mf1 := HA.out.fro 1 _ rfl
            have mf2 := HA.out.fro 2 _ rfl
            have ml := HA.out.lt
            simp only [List.getElem_toArray, List.getElem_cons_zero, List.getElem_cons_succ] at m0 m1 m2
            have y0 := HX.out.cell 0 _ rfl
            have y1 := HX.out.cell 1 _ rfl
            have y2 := HX.out.cell 2 _ rfl
            have yf0 := HX.out.fro 0 _ rfl
            have yf1 := HX.out.fro 1 _ rfl
            have yf2 := HX.out.fro 2 _ rfl
            have yl := HX.out.lt
            simp only [List.getElem_toArray, List.getElem_cons_zero, List.getElem_cons_succ] at y0 y1 y2
            have HA4 := Lib.hid (put_gate (c := .bool true) (l := .int .u64 M) (h := .int .u64 q) HA.out)
            have HB4 := Lib.hid (below_gate (P := A) (c := .bool true) (l := .int .u64 M) (h := .int .u64 q) HB.out hwA)
            clear HA HX HB
            go_wp2
            go_roundg (39 - k)
            case measure => omega
            case rel => exact ⟨k + 1, true, by go_num, by omega, by omega, HA4, HB4⟩
        · cases c
          · have hcall : ∀ W, Calls Try.prog 12 #[.agg #[.bool false, .int .u64 M, .int .u64 q], .int .u64 nn] W fun e w' => e = .returned (.agg #[.bool false, .int .u64 M, .int .u64 q]) ∧ Below W.heap.size W w' := fun W => by
              have := gturn false M q nn W
              rw [decide_eq_false (by omega)] at this
              exact this
            have hcn : (M < nn) = False := eq_false (by omega)
            have m0 := HA.out.cell 0 _ rfl
            have m1 := HA.out.cell 1 _ rfl
            have m2 := HA.out.cell 2 _ rfl
            have mf0 := HA.out.fro 0 _ rfl
            have mf1 := HA.out.fro 1 _ rfl
            have mf2 := HA.out.fro 2 _ rfl
            have ml := HA.out.lt
            simp only [List.getElem_toArray, List.getElem_cons_zero, List.getElem_cons_succ] at m0 m1 m2
            obtain ⟨X, hX⟩ : ∃ X, wr.heap.size = X := ⟨_, rfl⟩
            rw [hX] at hCr ml
            have HX : Hid (CellsAt X #[.bool false, .int .u64 M, .int .u64 q] (wr.alloc (.cells #[.bool false, .int .u64 M, .int .u64 q] 24))) := Lib.hid (CellsAt.newAt #[.bool false, .int .u64 M, .int .u64 q] 24 wr X hX.symm)
            have hBx : Below wr.heap.size wr (wr.alloc (.cells #[.bool false, .int .u64 M, .int .u64 q] 24)) := (Below.refl _ _).alloc (Nat.le_refl _) _
            have HA2 := Lib.hid (HA.out.below hBx)
            have HB2 := Lib.hid (HB.out.trans (hBx.mono HB.out.size))
            clear hBx HA HB
            go_wp2_with fail
            refine (hcall _).mono ?_
            rintro e w3 ⟨rfl, hB3⟩
            replace HA := Lib.hid (HA2.out.below hB3)
            replace HX := Lib.hid (HX.out.below hB3)
            replace HB := Lib.hid (HB2.out.trans (hB3.mono HB2.out.size))
            have hne : (A == X) = false := by simp; omega
            have hne2 : (X == A) = false := by simp; omega
            have hne3 : ¬ A = X := by omega
            have hne4 : ¬ X = A := by omega
            clear hcall hB3 HA2 HB2 hX hcell2 hCr m0 m1 m2 mf0 mf1 mf2 ml
            have m0 := HA.out.cell 0 _ rfl
            have m1 := HA.out.cell 1 _ rfl
            have m2 := HA.out.cell 2 _ rfl
            have mf0 := HA.out.fro 0 _ rfl
            have mf1 := HA.out.fro 1 _ rfl
            have mf2 := HA.out.fro 2 _ rfl
            have ml := HA.out.lt
            simp only [List.getElem_toArray, List.getElem_cons_zero, List.getElem_cons_succ] at m0 m1 m2
            have y0 := HX.out.cell 0 _ rfl
            have y1 := HX.out.cell 1 _ rfl
            have y2 := HX.out.cell 2 _ rfl
            have yf0 := HX.out.fro 0 _ rfl
            have yf1 := HX.out.fro 1 _ rfl
            have yf2 := HX.out.fro 2 _ rfl
            have yl := HX.out.lt
            simp only [List.getElem_toArray, List.getElem_cons_zero, List.getElem_cons_succ] at y0 y1 y2
            have HA4 := Lib.hid (put_gate (c := .bool false) (l := .int .u64 M) (h := .int .u64 q) HA.out)
            have HB4 := Lib.hid (below_gate (P := A) (c := .bool false) (l := .int .u64 M) (h := .int .u64 q) HB.out hwA)
            clear HA HX HB
            go_wp2
            go_roundg (39 - k)
            case measure => omega
            case rel => exact ⟨k + 1, false, by go_num, by omega, by omega, HA4, HB4⟩
          · have hcall : ∀ W, Calls Try.prog 12 #[.agg #[.bool true, .int .u64 M, .int .u64 q], .int .u64 nn] W fun e w' => e = .returned (.agg #[.bool false, .int .u64 M, .int .u64 q]) ∧ Below W.heap.size W w' := fun W => by
              have := gturn true M q nn W
              rw [decide_eq_false (by omega)] at this
              exact this
            have hcn : (M < nn) = False := eq_false (by omega)
            have m0 := HA.out.cell 0 _ rfl
            have m1 := HA.out.cell 1 _ rfl
            have m2 := HA.out.cell 2 _ rfl
            have mf0 := HA.out.fro 0 _ rfl
            have mf1 := HA.out.fro 1 _ rfl
            have mf2 := HA.out.fro 2 _ rfl
            have ml := HA.out.lt
            simp only [List.getElem_toArray, List.getElem_cons_zero, List.getElem_cons_succ] at m0 m1 m2
            obtain ⟨X, hX⟩ : ∃ X, wr.heap.size = X := ⟨_, rfl⟩
            rw [hX] at hCr ml
            have HX : Hid (CellsAt X #[.bool true, .int .u64 M, .int .u64 q] (wr.alloc (.cells #[.bool true, .int .u64 M, .int .u64 q] 24))) := Lib.hid (CellsAt.newAt #[.bool true, .int .u64 M, .int .u64 q] 24 wr X hX.symm)
            have hBx : Below wr.heap.size wr (wr.alloc (.cells #[.bool true, .int .u64 M, .int .u64 q] 24)) := (Below.refl _ _).alloc (Nat.le_refl _) _
            have HA2 := Lib.hid (HA.out.below hBx)
            have HB2 := Lib.hid (HB.out.trans (hBx.mono HB.out.size))
            clear hBx HA HB
            go_wp2_with fail
            refine (hcall _).mono ?_
            rintro e w3 ⟨rfl, hB3⟩
            replace HA := Lib.hid (HA2.out.below hB3)
            replace HX := Lib.hid (HX.out.below hB3)
            replace HB := Lib.hid (HB2.out.trans (hB3.mono HB2.out.size))
            have hne : (A == X) = false := by simp; omega
            have hne2 : (X == A) = false := by simp; omega
            have hne3 : ¬ A = X := by omega
            have hne4 : ¬ X = A := by omega
            clear hcall hB3 HA2 HB2 hX hcell2 hCr m0 m1 m2 mf0 mf1 mf2 ml
            have m0 := HA.out.cell 0 _ rfl
            have m1 := HA.out.cell 1 _ rfl
            have m2 := HA.out.cell 2 _ rfl
            have mf0 := HA.out.fro 0 _ rfl
            have mf1 := HA.out.fro 1 _ rfl
            have mf2 := HA.out.fro 2 _ rfl
            have ml := HA.out.lt
            simp only [List.getElem_toArray, List.getElem_cons_zero, List.getElem_cons_succ] at m0 m1 m2
            have y0 := HX.out.cell 0 _ rfl
            have y1 := HX.out.cell 1 _ rfl
            have y2 := HX.out.cell 2 _ rfl
            have yf0 := HX.out.fro 0 _ rfl
            have yf1 := HX.out.fro 1 _ rfl
            have yf2 := HX.out.fro 2 _ rfl
            have yl := HX.out.lt
            simp only [List.getElem_toArray, List.getElem_cons_zero, List.getElem_cons_succ] at y0 y1 y2
            have HA4 := Lib.hid (put_gate (c := .bool false) (l := .int .u64 M) (h := .int .u64 q) HA.out)
            have HB4 := Lib.hid (below_gate (P := A) (c := .bool false) (l := .int .u64 M) (h := .int .u64 q) HB.out hwA)
            clear HA HX HB
            go_wp2
            go_roundg (39 - k)
            case measure => omega
            case rel => exact ⟨k + 1, false, by go_num, by omega, by omega, HA4, HB4⟩
      · rcases (show q ≤ nn ∨ nn < q by omega) with hcmp | hcmp
        · cases c
          · have hcall : ∀ W, Calls Try.prog 10 #[.agg #[.bool false, .int .u64 M, .int .u64 q], .int .u64 nn] W fun e w' => e = .returned (.agg #[.bool true, .int .u64 M, .int .u64 q]) ∧ Below W.heap.size W w' := fun W => by
              have := gsee false M q nn W
              rw [decide_eq_true hcmp] at this
              exact this
            have hcn : (nn < q) = False := eq_false (by omega)
            have m0 := HA.out.cell 0 _ rfl
            have m1 := HA.out.cell 1 _ rfl
            have m2 := HA.out.cell 2 _ rfl
            have mf0 := HA.out.fro 0 _ rfl
            have mf1 := HA.out.fro 1 _ rfl
            have mf2 := HA.out.fro 2 _ rfl
            have ml := HA.out.lt
            simp only [List.getElem_toArray, List.getElem_cons_zero, List.getElem_cons_succ] at m0 m1 m2
            obtain ⟨X, hX⟩ : ∃ X, wr.heap.size = X := ⟨_, rfl⟩
            rw [hX] at hCr ml
            have HX : Hid (CellsAt X #[.bool false, .int .u64 M, .int .u64 q] (wr.alloc (.cells #[.bool false, .int .u64 M, .int .u64 q] 24))) := Lib.hid (CellsAt.newAt #[.bool false, .int .u64 M, .int .u64 q] 24 wr X hX.symm)
            have hBx : Below wr.heap.size wr (wr.alloc (.cells #[.bool false, .int .u64 M, .int .u64 q] 24)) := (Below.refl _ _).alloc (Nat.le_refl _) _
            have HA2 := Lib.hid (HA.out.below hBx)
            have HB2 := Lib.hid (HB.out.trans (hBx.mono HB.out.size))
            clear hBx HA HB
            go_wp2_with fail
            refine (hcall _).mono ?_
            rintro e w3 ⟨rfl, hB3⟩
            replace HA := Lib.hid (HA2.out.below hB3)
            replace HX := Lib.hid (HX.out.below hB3)
            replace HB := Lib.hid (HB2.out.trans (hB3.mono HB2.out.size))
            have hne : (A == X) = false := by simp; omega
            have hne2 : (X == A) = false := by simp; omega
            have hne3 : ¬ A = X := by omega
            have hne4 : ¬ X = A := by omega
            clear hcall hB3 HA2 HB2 hX hcell2 hCr m0 m1 m2 mf0 mf1 mf2 ml
            have m0 := HA.out.cell 0 _ rfl
            have m1 := HA.out.cell 1 _ rfl
            have m2 := HA.out.cell 2 _ rfl
            have mf0 := HA.out.fro 0 _ rfl
            have mf1 := HA.out.fro 1 _ rfl
            have mf2 := HA.out.fro 2 _ rfl
            have ml := HA.out.lt
            simp only [List.getElem_toArray, List.getElem_cons_zero, List.getElem_cons_succ] at m0 m1 m2
            have y0 := HX.out.cell 0 _ rfl
            have y1 := HX.out.cell 1 _ rfl
            have y2 := HX.out.cell 2 _ rfl
            have yf0 := HX.out.fro 0 _ rfl
            have yf1 := HX.out.fro 1 _ rfl
            have yf2 := HX.out.fro 2 _ rfl
            have yl := HX.out.lt
            simp only [List.getElem_toArray, List.getElem_cons_zero, List.getElem_cons_succ] at y0 y1 y2
            have HA4 := Lib.hid (put_gate (c := .bool true) (l := .int .u64 M) (h := .int .u64 q) HA.out)
            have HB4 := Lib.hid (below_gate (P := A) (c := .bool true) (l := .int .u64 M) (h := .int .u64 q) HB.out hwA)
            clear HA HX HB
            go_wp2
            go_roundg (39 - k)
            case measure => omega
            case rel => exact ⟨k + 1, true, by go_num, by omega, by omega, HA4, HB4⟩
          · have hcall : ∀ W, Calls Try.prog 10 #[.agg #[.bool true, .int .u64 M, .int .u64 q], .int .u64 nn] W fun e w' => e = .returned (.agg #[.bool true, .int .u64 M, .int .u64 q]) ∧ Below W.heap.size W w' := fun W => by
              have := gsee true M q nn W
              rw [decide_eq_true hcmp] at this
              exact this
            have hcn : (nn < q) = False := eq_false (by omega)
            have m0 := HA.out.cell 0 _ rfl
            have m1 := HA.out.cell 1 _ rfl
            have m2 := HA.out.cell 2 _ rfl
            have mf0 := HA.out.fro 0 _ rfl
            have mf1 := HA.out.fro 1 _ rfl
            have mf2 := HA.out.fro 2 _ rfl
            have ml := HA.out.lt
            simp only [List.getElem_toArray, List.getElem_cons_zero, List.getElem_cons_succ] at m0 m1 m2
            obtain ⟨X, hX⟩ : ∃ X, wr.heap.size = X := ⟨_, rfl⟩
            rw [hX] at hCr ml
            have HX : Hid (CellsAt X #[.bool true, .int .u64 M, .int .u64 q] (wr.alloc (.cells #[.bool true, .int .u64 M, .int .u64 q] 24))) := Lib.hid (CellsAt.newAt #[.bool true, .int .u64 M, .int .u64 q] 24 wr X hX.symm)
            have hBx : Below wr.heap.size wr (wr.alloc (.cells #[.bool true, .int .u64 M, .int .u64 q] 24)) := (Below.refl _ _).alloc (Nat.le_refl _) _
            have HA2 := Lib.hid (HA.out.below hBx)
            have HB2 := Lib.hid (HB.out.trans (hBx.mono HB.out.size))
            clear hBx HA HB
            go_wp2_with fail
            refine (hcall _).mono ?_
            rintro e w3 ⟨rfl, hB3⟩
            replace HA := Lib.hid (HA2.out.below hB3)
            replace HX := Lib.hid (HX.out.below hB3)
            replace HB := Lib.hid (HB2.out.trans (hB3.mono HB2.out.size))
            have hne : (A == X) = false := by simp; omega
            have hne2 : (X == A) = false := by simp; omega
            have hne3 : ¬ A = X := by omega
            have hne4 : ¬ X = A := by omega
            clear hcall hB3 HA2 HB2 hX hcell2 hCr m0 m1 m2 mf0 mf1 mf2 ml
            have m0 := HA.out.cell 0 _ rfl
            have m1 := HA.out.cell 1 _ rfl
            have m2 := HA.out.cell 2 _ rfl
            have mf0 := HA.out.fro 0 _ rfl
            have mf1 := HA.out.fro 1 _ rfl
            have mf2 := HA.out.fro 2 _ rfl
            have ml := HA.out.lt
            simp only [List.getElem_toArray, List.getElem_cons_zero, List.getElem_cons_succ] at m0 m1 m2
            have y0 := HX.out.cell 0 _ rfl
            have y1 := HX.out.cell 1 _ rfl
            have y2 := HX.out.cell 2 _ rfl
            have yf0 := HX.out.fro 0 _ rfl
            have yf1 := HX.out.fro 1 _ rfl
            have yf2 := HX.out.fro 2 _ rfl
            have yl := HX.out.lt
            simp only [List.getElem_toArray, List.getElem_cons_zero, List.getElem_cons_succ] at y0 y1 y2
            have HA4 := Lib.hid (put_gate (c := .bool true) (l := .int .u64 M) (h := .int .u64 q) HA.out)
            have HB4 := Lib.hid (below_gate (P := A) (c := .bool true) (l := .int .u64 M) (h := .int .u64 q) HB.out hwA)
            clear HA HX HB
            go_wp2
            go_roundg (39 - k)
            case measure => omega
            case rel => exact ⟨k + 1, true, by go_num, by omega, by omega, HA4, HB4⟩
        · cases c
          · have hcall : ∀ W, Calls Try.prog 10 #[.agg #[.bool false, .int .u64 M, .int .u64 q], .int .u64 nn] W fun e w' => e = .returned (.agg #[.bool false, .int .u64 M, .int .u64 q]) ∧ Below W.heap.size W w' := fun W => by
              have := gsee false M q nn W
              rw [decide_eq_false (by omega)] at this
              exact this
            have hcn : (q ≤ nn) = False := eq_false (by omega)
            have m0 := HA.out.cell 0 _ rfl
            have m1 := HA.out.cell 1 _ rfl
            have m2 := HA.out.cell 2 _ rfl
            have mf0 := HA.out.fro 0 _ rfl
            have mf1 := HA.out.fro 1 _ rfl
            have mf2 := HA.out.fro 2 _ rfl
            have ml := HA.out.lt
            simp only [List.getElem_toArray, List.getElem_cons_zero, List.getElem_cons_succ] at m0 m1 m2
            obtain ⟨X, hX⟩ : ∃ X, wr.heap.size = X := ⟨_, rfl⟩
            rw [hX] at hCr ml
            have HX : Hid (CellsAt X #[.bool false, .int .u64 M, .int .u64 q] (wr.alloc (.cells #[.bool false, .int .u64 M, .int .u64 q] 24))) := Lib.hid (CellsAt.newAt #[.bool false, .int .u64 M, .int .u64 q] 24 wr X hX.symm)
            have hBx : Below wr.heap.size wr (wr.alloc (.cells #[.bool false, .int .u64 M, .int .u64 q] 24)) := (Below.refl _ _).alloc (Nat.le_refl _) _
            have HA2 := Lib.hid (HA.out.below hBx)
            have HB2 := Lib.hid (HB.out.trans (hBx.mono HB.out.size))
            clear hBx HA HB
            go_wp2_with fail
            refine (hcall _).mono ?_
            rintro e w3 ⟨rfl, hB3⟩
            replace HA := Lib.hid (HA2.out.below hB3)
            replace HX := Lib.hid (HX.out.below hB3)
            replace HB := Lib.hid (HB2.out.trans (hB3.mono HB2.out.size))
            have hne : (A == X) = false := by simp; omega
            have hne2 : (X == A) = false := by simp; omega
            have hne3 : ¬ A = X := by omega
            have hne4 : ¬ X = A := by omega
            clear hcall hB3 HA2 HB2 hX hcell2 hCr m0 m1 m2 mf0 mf1 mf2 ml
            have m0 := HA.out.cell 0 _ rfl
            have m1 := HA.out.cell 1 _ rfl
            have m2 := HA.out.cell 2 _ rfl
            have mf0 := HA.out.fro 0 _ rfl
            have mf1 := HA.out.fro 1 _ rfl
            have mf2 := HA.out.fro 2 _ rfl
            have ml := HA.out.lt
            simp only [List.getElem_toArray, List.getElem_cons_zero, List.getElem_cons_succ] at m0 m1 m2
            have y0 := HX.out.cell 0 _ rfl
            have y1 := HX.out.cell 1 _ rfl
            have y2 := HX.out.cell 2 _ rfl
            have yf0 := HX.out.fro 0 _ rfl
            have yf1 := HX.out.fro 1 _ rfl
            have yf2 := HX.out.fro 2 _ rfl
            have yl := HX.out.lt
            simp only [List.getElem_toArray, List.getElem_cons_zero, List.getElem_cons_succ] at y0 y1 y2
            have HA4 := Lib.hid (put_gate (c := .bool false) (l := .int .u64 M) (h := .int .u64 q) HA.out)
            have HB4 := Lib.hid (below_gate (P := A) (c := .bool false) (l := .int .u64 M) (h := .int .u64 q) HB.out hwA)
            clear HA HX HB
            go_wp2
            go_roundg (39 - k)
            case measure => omega
            case rel => exact ⟨k + 1, false, by go_num, by omega, by omega, HA4, HB4⟩
          · have hcall : ∀ W, Calls Try.prog 10 #[.agg #[.bool true, .int .u64 M, .int .u64 q], .int .u64 nn] W fun e w' => e = .returned (.agg #[.bool true, .int .u64 M, .int .u64 q]) ∧ Below W.heap.size W w' := fun W => by
              have := gsee true M q nn W
              rw [decide_eq_false (by omega)] at this
              exact this
            have hcn : (q ≤ nn) = False := eq_false (by omega)
            have m0 := HA.out.cell 0 _ rfl
            have m1 := HA.out.cell 1 _ rfl
            have m2 := HA.out.cell 2 _ rfl
            have mf0 := HA.out.fro 0 _ rfl
            have mf1 := HA.out.fro 1 _ rfl
            have mf2 := HA.out.fro 2 _ rfl
            have ml := HA.out.lt
            simp only [List.getElem_toArray, List.getElem_cons_zero, List.getElem_cons_succ] at m0 m1 m2
            obtain ⟨X, hX⟩ : ∃ X, wr.heap.size = X := ⟨_, rfl⟩
            rw [hX] at hCr ml
            have HX : Hid (CellsAt X #[.bool true, .int .u64 M, .int .u64 q] (wr.alloc (.cells #[.bool true, .int .u64 M, .int .u64 q] 24))) := Lib.hid (CellsAt.newAt #[.bool true, .int .u64 M, .int .u64 q] 24 wr X hX.symm)
            have hBx : Below wr.heap.size wr (wr.alloc (.cells #[.bool true, .int .u64 M, .int .u64 q] 24)) := (Below.refl _ _).alloc (Nat.le_refl _) _
            have HA2 := Lib.hid (HA.out.below hBx)
            have HB2 := Lib.hid (HB.out.trans (hBx.mono HB.out.size))
            clear hBx HA HB
            go_wp2_with fail
            refine (hcall _).mono ?_
            rintro e w3 ⟨rfl, hB3⟩
            replace HA := Lib.hid (HA2.out.below hB3)
            replace HX := Lib.hid (HX.out.below hB3)
            replace HB := Lib.hid (HB2.out.trans (hB3.mono HB2.out.size))
            have hne : (A == X) = false := by simp; omega
            have hne2 : (X == A) = false := by simp; omega
            have hne3 : ¬ A = X := by omega
            have hne4 : ¬ X = A := by omega
            clear hcall hB3 HA2 HB2 hX hcell2 hCr m0 m1 m2 mf0 mf1 mf2 ml
            have m0 := HA.out.cell 0 _ rfl
            have m1 := HA.out.cell 1 _ rfl
            have m2 := HA.out.cell 2 _ rfl
            have mf0 := HA.out.fro 0 _ rfl
            have mf1 := HA.out.fro 1 _ rfl
            have mf2 := HA.out.fro 2 _ rfl
            have ml := HA.out.lt
            simp only [List.getElem_toArray, List.getElem_cons_zero, List.getElem_cons_succ] at m0 m1 m2
            have y0 := HX.out.cell 0 _ rfl
            have y1 := HX.out.cell 1 _ rfl
            have y2 := HX.out.cell 2 _ rfl
            have yf0 := HX.out.fro 0 _ rfl
            have yf1 := HX.out.fro 1 _ rfl
            have yf2 := HX.out.fro 2 _ rfl
            have yl := HX.out.lt
            simp only [List.getElem_toArray, List.getElem_cons_zero, List.getElem_cons_succ] at y0 y1 y2
            have HA4 := Lib.hid (put_gate (c := .bool true) (l := .int .u64 M) (h := .int .u64 q) HA.out)
            have HB4 := Lib.hid (below_gate (P := A) (c := .bool true) (l := .int .u64 M) (h := .int .u64 q) HB.out hwA)
            clear HA HX HB
            go_wp2
            go_roundg (39 - k)
            case measure => omega
            case rel => exact ⟨k + 1, true, by go_num, by omega, by omega, HA4, HB4⟩
    · have hd : k = n ∨ (k = 40 ∧ k < n) := by omega
      have m0 := HA.out.cell 0 _ rfl
      have m1 := HA.out.cell 1 _ rfl
      have m2 := HA.out.cell 2 _ rfl
      have mf0 := HA.out.fro 0 _ rfl
      have mf1 := HA.out.fro 1 _ rfl
      have mf2 := HA.out.fro 2 _ rfl
      have ml := HA.out.lt
      simp only [List.getElem_toArray, List.getElem_cons_zero, List.getElem_cons_succ] at m0 m1 m2
      clear hgo
      rcases hd with h1 | ⟨h1, h2⟩
      · subst h1
        go_wp2
        go_ret
        exact ⟨rfl, HB.out⟩
      · subst h1
        go_wp2
        go_ret
        exact ⟨rfl, HB.out⟩
theorem GateOnly_walk (a0 : Int) (h0 : (Lit.int .u8 a0).wf = true) (b0 : Int) (h1 : (Lit.int .u8 b0).wf = true) (p : Option Addr) (hs : List Nat) (cap : Nat) (hl : hs.length ≤ cap) (hm : cap ≤ maxLen) (w : World) (hO : Octs p hs w) :
    Calls Try.prog 4 #[.int .u8 a0, .int .u8 b0, .slice p hs.length cap] w fun e w' => e = .returned (.bool true) ∧ Below w.heap.size w w' := by
  obtain ⟨a, rfl, ha⟩ := wf_u8 h0
  obtain ⟨b, rfl, hb⟩ := wf_u8 h1
  unfold maxLen at hm
  exact only_in a b ha hb p hs cap (by omega) w hO
end Go.Proofs.Ytmlmahkddmegiaa
