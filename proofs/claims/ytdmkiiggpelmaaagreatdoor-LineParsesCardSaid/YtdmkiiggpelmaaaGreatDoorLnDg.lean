/- A number's digits, as the chapter makes them. -/
import Derived.Test.YtdmkiiggpelmaaaGreatDoorFxK
namespace Go.Proofs.YtdmkiiggpelmaaaGreatDoor
open Go Go.RowKit

theorem one_byte (c : UInt8) (w : World) : (convert 25 9 (.slice (some ⟨w.heap.size, 0, none⟩) 1 1)).run Tryz.prog (w.alloc (.cells #[.int .u8 (c.toNat : Int)] 5)) = .ok (.string (tx [c])) (w.alloc (.cells #[.int .u8 (c.toNat : Int)] 5)) := by
  have h := run_convert_bytes_back (P := Tryz.prog) (w.alloc (.cells #[.int .u8 (c.toNat : Int)] 5)) 25 9 5 ⟨w.heap.size, 0, none⟩ 1 [c] Tryz.underlying25 Tryz.underlying5 Tryz.underlying9 (fun j hj => by
    have : j = 0 := by simpa using hj
    subst this
    rw [Lib.add_plain, Nat.zero_add, World.cell?_alloc_new]
    rfl)
  exact h
/-- What is left of n is m, the digits so far are s. -/
def Dgs (n m : Nat) (s : List UInt8) : Prop := Lib.decDigits n = if 9 < m then Lib.decDigits (m / 10) ++ s else s
theorem dgs_start (n : Nat) : Dgs n n [UInt8.ofNat (48 + n % 10)] := by
  unfold Dgs
  rw [Lib.decDigits]
  by_cases h : n < 10
  · rw [dif_pos h, if_neg (by omega), show n % 10 = n by omega]
  · rw [dif_neg h, if_pos (by omega)]
theorem dgs_next {n m : Nat} {s : List UInt8} (h : Dgs n m s) (hm : 9 < m) : Dgs n (m / 10) (UInt8.ofNat (48 + m / 10 % 10) :: s) := by
  unfold Dgs at *
  rw [if_pos hm] at h
  rw [h, Lib.decDigits]
  by_cases h2 : m / 10 < 10
  · rw [dif_pos h2, if_neg (by omega), show m / 10 % 10 = m / 10 by omega]; rfl
  · rw [dif_neg h2, if_pos (by omega), List.append_assoc]; rfl
theorem dgs_end {n m : Nat} {s : List UInt8} (h : Dgs n m s) (hm : ¬ 9 < m) : s = Lib.decDigits n := by
  unfold Dgs at h
  rw [if_neg hm] at h
  exact h.symm
theorem dgs_len {n m : Nat} {s : List UInt8} (h : Dgs n m s) : s.length ≤ (Lib.decDigits n).length := by
  unfold Dgs at h
  rw [h]
  split <;> simp

set_option maxHeartbeats 8000000 in
theorem ref_dgs (n : Nat) (hn : n < 18446744073709551616) (w : World) :
    Calls Tryz.prog 17 #[.int .u64 n] w fun e w' => e = .returned (.string (tx (Lib.decDigits n))) ∧ Below w.heap.size w w' := by
  have H20 := Lib.hid (dec_20 hn)
  have hd0 : (48 : Int) + (n : Int) % 10 = ((UInt8.ofNat (48 + n % 10)).toNat : Int) := by rw [dig48 _ (by omega)]; omega
  have HST := Lib.hid (dgs_start n)
  generalize UInt8.ofNat (48 + n % 10) = c at hd0 HST
  have hcv := one_byte c
  have hcb : (c.toNat : Int) ≤ 255 := by have := c.toNat_lt; omega
  go_enter Tryz.func17, Tryz.ntmps17
  go_wp2
  clear hcv hd0 hcb
  go_loopg [0, 3] n (fun g s0 s3 wx => ∃ (m : Nat) (s : List UInt8), m ≤ g ∧ m ≤ n ∧ s0 = .int .u64 m ∧ s3 = .string (tx s) ∧ Hid (Dgs n m s) ∧ Below w.heap.size w wx)
  case atStart => exact ⟨n, [c], Nat.le_refl _, Nat.le_refl _, rfl, rfl, HST, (Below.refl _ _).alloc (Nat.le_refl _) _⟩
  case round =>
    obtain ⟨m, s, hmg, hmn, rfl, rfl, HD, hB⟩ := hrel
    by_cases hm : 9 < m
    · have hm1 : (9 : Int) < (m : Int) := by omega
      obtain ⟨q, hq⟩ : ∃ q : Nat, m / 10 = q := ⟨_, rfl⟩
      have hq1 : (m : Int) / 10 = (q : Int) := by omega
      have hqm : q < m := by omega
      have hd1 : (48 : Int) + (q : Int) % 10 = ((UInt8.ofNat (48 + q % 10)).toNat : Int) := by rw [dig48 _ (by omega)]; omega
      have HN := Lib.hid (dgs_next HD.out hm)
      rw [hq] at HN
      generalize UInt8.ofNat (48 + q % 10) = c at hd1 HN
      have hcv := one_byte c
      have hcb : (c.toNat : Int) ≤ 255 := by have := c.toNat_lt; omega
      have hsz : (tx s).size ≤ 20 := by rw [tx_len]; exact Nat.le_trans (dgs_len HD.out) H20.out
      have hs1 : (tx [c]).size + (tx s).size ≤ 9223372036854775807 := by rw [tx_len]; simp; omega
      clear hq
      cases gk with
      | zero => omega
      | succ g =>
        go_wp2
        go_roundg g
        case measure => omega
        case rel => exact ⟨q, c :: s, by omega, by omega, rfl, by rw [tx_app]; rfl, HN, hB.alloc hB.size _⟩
    · have he := dgs_end HD.out hm
      have HE := Lib.hid he
      clear he
      have hm1 : ¬ ((9 : Int) < (m : Int)) := by omega
      go_wp2
      try go_ret
      exact ⟨by rw [HE.out]; rfl, hB⟩
end Go.Proofs.YtdmkiiggpelmaaaGreatDoor
