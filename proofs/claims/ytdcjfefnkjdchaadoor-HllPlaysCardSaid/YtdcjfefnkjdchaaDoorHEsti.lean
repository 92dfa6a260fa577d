/- The estimate of a sketch. -/
import Derived.Test.YtdcjfefnkjdchaaDoorHEst
namespace Go.Proofs.YtdcjfefnkjdchaaDoor
open Go Go.RowKit

def zerosOf (l : List UInt8) : Nat := l.count 0
def estOf (b : Nat) (l : List UInt8) : Nat :=
  if zerosOf l = 0 ∨ 5 * 2 ^ b / 2 < rawOf (factorOf b) (2 ^ b) (sumOf l) then rawOf (factorOf b) (2 ^ b) (sumOf l) else fewOf (2 ^ b) (zerosOf l)
theorem Sk.past {B b : Nat} {l : List UInt8} {w : World} (h : Sk B b l w) (o : Obj) : Sk B b l (w.alloc o) := h.below ((Below.refl _ _).alloc (Nat.le_refl _) o)
theorem count_any {B b : Nat} {l : List UInt8} {w : World} (hS : Sk B b l w) (R : Nat) (hR : w.cell? ⟨R, 0, none⟩ = some (.int .u8 0)) :
    Calls Tryd.prog 31 #[.slice (some ⟨B, 1, none⟩) (2 ^ b) (2 ^ b), .slice (some ⟨R, 0, none⟩) 1 1] w fun e w' => e = .returned (.int .i64 (zerosOf l : Nat)) ∧ w = w' := by
  have hl := hS.len
  refine (Tryd.bytes_Count_one B 1 (2 ^ b) (2 ^ b) R 0 1 (l.map fun x => (x.toNat : Int)) 0 w (by simp [hl]) (fun i hi => ?_) hR).mono ?_
  · rw [hS.cell i (by omega)]
    have : i < l.length := by omega
    simp [List.getD_eq_getElem?_getD, this]
  · rintro e w' ⟨rfl, rfl⟩
    refine ⟨?_, rfl⟩
    have : Lib.bytesOf (l.map fun x => (x.toNat : Int)) = l := by
      unfold Lib.bytesOf
      rw [List.map_map]
      conv => rhs; rw [← List.map_id l]
      refine List.map_congr_left fun x _ => ?_
      simp
    rw [this]
    rfl
theorem zerosOf_le (l : List UInt8) : zerosOf l ≤ l.length := List.count_le_length
theorem raw_bd (f k S : Nat) (hf : f ≤ 7213) (hk : k ≤ 1024) : rawOf f k S ≤ 507580290972352512 := by
  have h1 : f * k ≤ 7213 * 1024 := Nat.mul_le_mul hf hk
  have h2 : f * k * k ≤ 7213 * 1024 * 1024 := Nat.mul_le_mul h1 hk
  have h3 : f * k * k * 67108864 / (10000 * S) ≤ f * k * k * 67108864 := Nat.div_le_self _ _
  unfold rawOf
  generalize f * k * k = p at *
  omega
set_option maxRecDepth 100000 in
set_option maxHeartbeats 4000000 in
theorem est_any {B b : Nat} {l : List UInt8} {w : World} (hS : Sk B b l w) (hL : Low l) :
    Calls Tryd.prog 20 #[.pointer (some ⟨B, 0, none⟩)] w fun e w' => e = .returned (.int .u64 (estOf b l : Nat)) ∧ Below w.heap.size w w' := by
  have hM := pow_hi hS.lo hS.hi
  have hS1 := hS.past (.cells #[.int .u8 0] 5)
  have hb0 := hS.bits
  have hb1 := hS1.bits
  have hu := fun w h => used_M B b hS.lo hS.hi (2 ^ b) rfl w h
  have hct := fun w hS R hR => count_any (B := B) (b := b) (l := l) (w := w) hS R hR
  have hfa := fun w => factor_any b hS.lo hS.hi w
  have hfb := factor_bd b hS.lo hS.hi
  have hra := fun w hS => raw_any (B := B) (b := b) (l := l) (w := w) hS hL (factorOf b) hfb.2
  have hzl := zerosOf_le l
  rw [hS.len] at hzl
  have hfe := fun w => few_any (2 ^ b) (zerosOf l) hM.2 hzl w
  have hrb := raw_bd (factorOf b) (2 ^ b) (sumOf l) hfb.2 hM.2
  have hes : estOf b l = if zerosOf l = 0 ∨ 5 * 2 ^ b / 2 < rawOf (factorOf b) (2 ^ b) (sumOf l) then rawOf (factorOf b) (2 ^ b) (sumOf l) else fewOf (2 ^ b) (zerosOf l) := rfl
  have hBd : Below w.heap.size w (w.alloc (.cells #[.int .u8 0] 5)) := (Below.refl _ _).alloc (Nat.le_refl _) _
  generalize rawOf (factorOf b) (2 ^ b) (sumOf l) = R at *
  generalize fewOf (2 ^ b) (zerosOf l) = F at *
  generalize zerosOf l = Z at *
  generalize factorOf b = A at *
  generalize estOf b l = E at *
  generalize 2 ^ b = M at *
  obtain ⟨hM1, hM2⟩ := hM
  have HE := Lib.hid hes
  have HS1 := Lib.hid hS1
  clear hes hS1 hfb hL hS
  go_enter Tryd.func20, Tryd.ntmps20
  go_wp2_with fail
  refine (hu _ hb0).mono ?_
  rintro e w1 ⟨rfl, rfl⟩
  go_wp2_with fail
  refine (hct _ HS1.out w.heap.size (by rw [World.cell?_alloc_new]; rfl)).mono ?_
  rintro e w1 ⟨rfl, rfl⟩
  generalize w.alloc (.cells #[.int .u8 0] 5) = W at *
  go_wp2_with fail
  refine (hfa _).mono ?_
  rintro e w1 ⟨rfl, rfl⟩
  go_wp2_with fail
  refine (hra _ HS1.out).mono ?_
  rintro e w1 ⟨rfl, rfl⟩
  by_cases hz : Z = 0
  · subst hz
    have hE := HE.out
    rw [if_pos (.inl rfl)] at hE
    subst hE
    go_wp2
    go_ret
    exact ⟨rfl, hBd⟩
  · have hz1 : ((Z : Int) == 0) = false := beq_eq_false_iff_ne.2 (by omega)
    by_cases hg : 5 * M / 2 < R
    · have hE := HE.out
      rw [if_pos (.inr hg)] at hE
      subst hE
      have hg2 : 5 * (M : Int) / 2 < (E : Int) := by omega
      clear hg
      go_wp2
      go_ret
      exact ⟨rfl, hBd⟩
    · have hE := HE.out
      rw [if_neg (fun h => h.elim hz hg)] at hE
      subst hE
      have hg2 : ¬ 5 * (M : Int) / 2 < (R : Int) := by omega
      clear hg hz
      go_wp2_with fail
      refine (hfe _).mono ?_
      rintro e w1 ⟨rfl, rfl⟩
      go_wp2
      go_ret
      exact ⟨rfl, hBd⟩
end Go.Proofs.YtdcjfefnkjdchaaDoor
