/- The registers of a sketch as a text; a sketch cleared. -/
import Derived.Test.YtdcjfefnkjdchaaDoorHAdd
import Derived.Lib.ConvBytes
import Derived.Lib.AtoiErrMem
import Derived.Lib.SliceRun
import Derived.Lib.LazyBuf
import Derived.Lib.ByteType
namespace Go.Proofs.YtdcjfefnkjdchaaDoor
open Go Go.RowKit

theorem addr_add (b o i : Nat) : (⟨b, o, none⟩ : Addr).add i = ⟨b, o + i, none⟩ := by unfold Addr.add; split <;> simp_all
/-- Bytes as a text. -/
def tx (l : List UInt8) : ByteArray := ⟨l.toArray⟩
theorem tx_size (l : List UInt8) : (tx l).size = l.length := by simp [tx, ByteArray.size]
theorem regs_back {B b : Nat} {l : List UInt8} {w : World} (hS : Sk B b l w) (cap : Nat) :
    (convert 42 9 (.slice (some ⟨B, 1, none⟩) (2 ^ b) cap)).run Tryd.prog w = .ok (.string (tx l)) w := by
  have h := run_convert_bytes_back (P := Tryd.prog) w 42 9 5 ⟨B, 1, none⟩ cap l Tryd.underlying42 Tryd.underlying5 Tryd.underlying9 (fun j hj => by
    rw [addr_add]
    exact hS.cell j hj)
  rw [hS.len] at h
  exact h
theorem registers_any {B b : Nat} {l : List UInt8} {w : World} (hS : Sk B b l w) :
    Calls Tryd.prog 18 #[.pointer (some ⟨B, 0, none⟩)] w fun e w' => e = .returned (.string (tx l)) ∧ w = w' := by
  have hu := used_M B b hS.lo hS.hi (2 ^ b) rfl w hS.bits
  have hcv := regs_back hS (2 ^ b)
  generalize 2 ^ b = M at *
  go_enter Tryd.func18, Tryd.ntmps18
  go_wp2_with fail
  refine hu.mono ?_
  rintro e w1 ⟨rfl, rfl⟩
  go_wp2
  go_ret
  exact ⟨rfl, rfl⟩
theorem Chg.setCells {B : Nat} {a : World} : ∀ (vs : List Value) (o : Nat) (w : World), Chg B a w → Chg B a (w.setCells B o vs)
  | [], _, _, h => h
  | v :: r, o, w, h => Chg.setCells r (o + 1) _ (h.set o v)
theorem size_setCells (B : Nat) : ∀ (vs : List Value) (o : Nat) (w : World), (w.setCells B o vs).heap.size = w.heap.size
  | [], _, _ => rfl
  | v :: r, o, w => (size_setCells B r (o + 1) _).trans (by simp [World.setCell])
/-- All registers are written. -/
theorem Sk.setAll {B b : Nat} {l l' : List UInt8} {w : World} (h : Sk B b l w) (hl : l'.length = l.length) : Sk B b l' (w.setCells B 1 (l'.map fun x => .int .u8 (x.toNat : Int))) := by
  have hlen : (l'.map fun x => Value.int .u8 (x.toNat : Int)).length = l'.length := List.length_map _
  refine ⟨by rw [size_setCells]; exact h.lt, h.lo, h.hi, hl.trans h.len, ?_, fun i hi => ?_, fun i hi => ?_⟩
  · rw [World.cell?_setCells_out _ _ _ _ _ (fun _ _ => .inl (by simp))]
    exact h.bits
  · rw [World.cell?_setCells_in _ _ _ _ (fun j hj => by rw [hlen] at hj; rw [h.cell j (by omega)]; rfl) i (by rw [hlen]; exact hi)]
    simp
  · rw [World.frozen?_setCells]
    exact h.fro i (by omega)
theorem info_u8 : (Tryd.prog.info? 5).map (fun i => (i.zero, i.size, i.bytes)) = some (some (.int .u8 0), 1, 1) := by kernel_rfl
theorem clear_any {B b : Nat} {l : List UInt8} {w : World} (hS : Sk B b l w) :
    Calls Tryd.prog 17 #[.pointer (some ⟨B, 0, none⟩)] w fun e w' => e = .returned (.tuple #[]) ∧ Chg B w w' ∧ Sk B b (List.replicate (2 ^ b) 0) w' := by
  have hu := used_M B b hS.lo hS.hi (2 ^ b) rfl w hS.bits
  have hM := pow_hi hS.lo hS.hi
  have hcl := Lib.run_clear_slice (P := Tryd.prog) w 42 5 0 (.int .u8 0) Tryd.underlying42 (Lib.byte_zero info_u8) rfl rfl B 1 (2 ^ b) (2 ^ b) (by omega) (fun j hj => by rw [hS.cell j (by rw [hS.len]; exact hj)]; rfl) (fun j hj => hS.fro j (by rw [hS.len]; exact hj))
  have hS' := hS.setAll (l' := List.replicate (2 ^ b) 0) (by rw [List.length_replicate, hS.len])
  have hC' : Chg B w (w.setCells B 1 (List.replicate (2 ^ b) (.int .u8 0))) := Chg.setCells _ _ _ (Chg.refl _ _)
  rw [List.map_replicate] at hS'
  have hS2 : Sk B b (List.replicate (2 ^ b) 0) (w.setCells B 1 (List.replicate (2 ^ b) (.int .u8 0))) := hS'
  clear hS'
  generalize w.setCells B 1 (List.replicate (2 ^ b) (.int .u8 0)) = W at *
  have H2 := Lib.hid hS2
  clear hS2 hM
  generalize 2 ^ b = M at *
  go_enter Tryd.func17, Tryd.ntmps17
  go_wp2_with fail
  refine hu.mono ?_
  rintro e w1 ⟨rfl, rfl⟩
  go_wp2
  go_end0
  exact ⟨rfl, hC', H2.out⟩
end Go.Proofs.YtdcjfefnkjdchaaDoor
