/- A sketch that took some. -/
import Derived.Test.YtdcjfefnkjdchaaDoorHEx
import Derived.Deep.LoopGhost
namespace Go.Proofs.YtdcjfefnkjdchaaDoor
open Go Go.RowKit

/-- A slice of numbers of 64 bits. -/
def Nums (p : Option Addr) (hs : List Nat) (w : World) : Prop :=
  ∀ k (h : k < hs.length), ∃ B off, p = some ⟨B, off, none⟩ ∧ B < w.heap.size ∧ w.cell? ⟨B, off + k, none⟩ = some (.int .u64 (hs[k] : Nat)) ∧ hs[k] < 18446744073709551616
theorem Nums.below {p : Option Addr} {hs : List Nat} {w w' : World} (h : Nums p hs w) (hB : Below w.heap.size w w') : Nums p hs w' := fun k hk => by
  obtain ⟨B, off, h1, h2, h3, h4⟩ := h k hk
  exact ⟨B, off, h1, Nat.lt_of_lt_of_le h2 hB.size, (hB.cell (p := ⟨B, off + k, none⟩) h2).trans h3, h4⟩
theorem Nums.nil (p : Option Addr) (w : World) : Nums p [] w := fun _ h => absurd h (Nat.not_lt_zero _)
theorem Nums.take {p : Option Addr} {hs : List Nat} {w : World} (h : Nums p hs w) (n : Nat) : Nums p (hs.take n) w := fun k hk => by
  rw [List.length_take] at hk
  obtain ⟨B, off, h1, h2, h3, h4⟩ := h k (by omega)
  exact ⟨B, off, h1, h2, by rw [h3, List.getElem_take], by rw [List.getElem_take]; exact h4⟩
set_option maxRecDepth 100000 in
set_option maxHeartbeats 4000000 in
theorem fed_any (b : Nat) (lo : 4 ≤ b) (hi : b ≤ 10) (p : Option Addr) (hs : List Nat) (cap : Nat) (hlen : hs.length ≤ 9223372036854775807) (w : World) (hT : Tab w) (hN : Nums p hs w) :
    Calls Tryd.prog 27 #[.int .i64 b, .slice p hs.length cap] w fun e w' => e = .returned (.pointer (some ⟨w.heap.size, 0, none⟩)) ∧ Below w.heap.size w w' ∧ Sk w.heap.size b (regs b (hs.take 100)) w' := by
  have HT := Lib.hid hT
  have HN := Lib.hid hN
  clear hT hN
  have hn := new_any b lo hi
  obtain ⟨n, hln⟩ : ∃ n, hs.length = n := ⟨_, rfl⟩
  have HLN := Lib.hid hln
  rw [hln] at hlen ⊢
  clear hln
  go_enter Tryd.func27, Tryd.ntmps27
  go_wp2_with fail
  refine (hn _).mono ?_
  rintro e W ⟨rfl, hB, hS⟩
  have hS0 : Sk w.heap.size b (regs b (hs.take 0)) W := hS
  clear hS hn
  have H0 := Lib.hid (Nat.le_refl w.heap.size)
  generalize hRR : w.heap.size = R at hS0 hB ⊢
  have HRR := Lib.hid hRR
  clear hRR
  go_wp2_with fail
  go_loopg [7] (min n 100) (fun g i wx => ∃ k : Nat, k + g = min n 100 ∧ i = .int .i64 k ∧ Sk R b (regs b (hs.take k)) wx ∧ Below R w wx)
  case atStart => exact ⟨0, by omega, rfl, hS0, hB⟩
  case round =>
    obtain ⟨k, hkg, rfl, hS, hBw⟩ := hrel
    clear hS0 hB
    cases gk with
    | zero =>
      have hke : k = min n 100 := by omega
      have hend : Sk R b (regs b (hs.take 100)) wr := by
        have : hs.take k = hs.take 100 := by
          rw [hke]
          by_cases h : n ≤ 100
          · rw [Nat.min_eq_left h, List.take_of_length_le (by rw [HLN.out]; exact Nat.le_refl _), List.take_of_length_le (by rw [HLN.out]; exact h)]
          · rw [Nat.min_eq_right (by omega)]
        rw [← this]
        exact hS
      have HE := Lib.hid hend
      clear hend hS hkg
      by_cases hl : n ≤ 100
      · have hkl : ¬ ((k : Int) < (n : Int)) := by omega
        clear hke
        go_wp2
        go_ret
        exact ⟨by rw [HRR.out]; rfl, by rw [HRR.out]; exact hBw, by rw [HRR.out]; exact HE.out⟩
      · obtain rfl : k = 100 := by omega
        clear hke
        by_cases hkl : ((100 : Nat) : Int) < (n : Int)
        · go_wp2
          go_ret
          exact ⟨by rw [HRR.out]; rfl, by rw [HRR.out]; exact hBw, by rw [HRR.out]; exact HE.out⟩
        · omega
    | succ g =>
      have hk1 : k < n := by omega
      have hk2 : k < 100 := by omega
      have hkh : k < hs.length := by rw [HLN.out]; exact hk1
      obtain ⟨C, off, rfl, hC, hcell, hlt⟩ := HN.out k hkh
      have hcx : wr.cell? ⟨C, off + k, none⟩ = some (.int .u64 (hs[k] : Nat)) := (hBw.cell (p := ⟨C, off + k, none⟩) (by rw [← HRR.out]; exact hC)).trans hcell
      have hst : addL b hs[k] (regs b (hs.take k)) = regs b (hs.take (k + 1)) := by rw [regs_snoc, List.take_add_one, List.getElem?_eq_getElem hkh]; rfl
      have HST := Lib.hid hst
      have had := fun w hT hS => add_any (B := R) (b := b) (l := regs b (hs.take k)) hs[k] hlt (w := w) hT hS
      generalize hs[k] = x at *
      clear hst hcell
      go_wp2_with fail
      refine (had _ (HT.out.below (HRR.out ▸ hBw)) hS).mono ?_
      rintro e w2 ⟨rfl, hCh, hS'⟩
      rw [HST.out] at hS'
      have hB2 := below_chg hBw hCh (Nat.le_refl _) (Nat.le_of_eq HRR.out.symm)
      clear hCh hS hBw had hcx
      go_wp2
      go_roundg g
      case measure => omega
      case rel => exact ⟨k + 1, by omega, by go_num, hS', hB2⟩
end Go.Proofs.YtdcjfefnkjdchaaDoor
