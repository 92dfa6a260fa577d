/- Names of one letter; how often each came. -/
import Derived.Test.YtnkhieackclniaaTMake
namespace Go.Proofs.Ytnkhieackclniaa
open Go Go.RowKit

/-- A name of one byte. -/
def nmC (c : Nat) : ByteArray := tx [UInt8.ofNat c]
theorem nmC_size (c : Nat) : (nmC c).size = 1 := rfl
theorem nmC_inj {a b : Nat} (ha : a < 256) (hb : b < 256) (h : nmC a = nmC b) : a = b := by
  have h1 : UInt8.ofNat a = UInt8.ofNat b := by
    have := congrArg (fun s : ByteArray => s.data.toList) h
    simpa [nmC, tx] using this
  have h2 := congrArg UInt8.toNat h1
  rw [UInt8.toNat_ofNat', UInt8.toNat_ofNat'] at h2
  omega
theorem letter_back (c : Nat) (hc : c < 256) (w : World) (N : Nat) (hN : N = w.heap.size) :
    (convert 55 9 (.slice (some ⟨N, 0, none⟩) 1 1)).run Try.prog (w.alloc (.cells #[.int .u8 c] 5)) = .ok (.string (nmC c)) (w.alloc (.cells #[.int .u8 c] 5)) := by
  subst hN
  have hX := CellsAt.new #[.int .u8 c] 5 w
  have h8 : (UInt8.ofNat c).toNat = c := by rw [UInt8.toNat_ofNat']; omega
  have hB : BytesAt w.heap.size [UInt8.ofNat c] (w.alloc (.cells #[.int .u8 c] 5)) := ⟨hX.lt, fun i hi => by
    obtain rfl : i = 0 := by simpa using hi
    simp [h8], fun i hi => by
    obtain rfl : i = 0 := by simpa using hi
    exact hX.fro 0 (.int .u8 c) rfl⟩
  exact bytes_back hB rfl 1
/-- Block R holds how often each came. -/
structure CntAt (R n : Nat) (c : Nat → Nat) (w : World) : Prop where
  lt : R < w.heap.size
  cell : ∀ j, j < n → w.cell? ⟨R, j, none⟩ = some (.int .u64 (c j : Nat))
  fro : ∀ j, j < n → w.frozen? ⟨R, j, none⟩ = false
theorem CntAt.mov {R n : Nat} {c : Nat → Nat} {w w' : World} {S : Nat → Prop} (h : CntAt R n c w) (hM : Mov S w w') (hn : ¬ S R) : CntAt R n c w' :=
  ⟨Nat.lt_of_lt_of_le h.lt hM.size, fun j hj => (hM.cell h.lt hn).trans (h.cell j hj), fun j hj => (hM.frozen h.lt hn).trans (h.fro j hj)⟩
theorem CntAt.below {R n : Nat} {c : Nat → Nat} {w w' : World} (h : CntAt R n c w) (hB : Below w.heap.size w w') : CntAt R n c w' :=
  h.mov (Mov.of hB) (by have := h.lt; omega)
/-- One of them is another one. -/
def upd (c : Nat → Nat) (j x : Nat) (i : Nat) : Nat := if i = j then x else c i
theorem upd_same (c : Nat → Nat) (j x : Nat) : upd c j x j = x := by unfold upd; rw [if_pos rfl]
theorem upd_ne (c : Nat → Nat) {j i : Nat} (x : Nat) (h : i ≠ j) : upd c j x i = c i := by unfold upd; rw [if_neg h]
theorem CntAt.set {R n : Nat} {c : Nat → Nat} {w : World} (h : CntAt R n c w) (j x : Nat) (hj : j < n) : CntAt R n (upd c j x) (w.setCell ⟨R, j, none⟩ (.int .u64 x)) := by
  refine ⟨by have := h.lt; simpa using this, fun i hi => ?_, fun i hi => by rw [World.frozen?_setCell]; exact h.fro i hi⟩
  by_cases e : i = j
  · subst e
    rw [upd_same]
    exact World.cell?_setCell_same w ⟨R, i, none⟩ _ (h.cell i hi)
  · rw [upd_ne c x e, World.cell?_setCell_other (h := by intro he; have := congrArg Addr.off he; simp at this; omega)]
    exact h.cell i hi
theorem nodup_sub_len {α : Type} [DecidableEq α] : ∀ (l m : List α), l.Nodup → (∀ x ∈ l, x ∈ m) → l.length ≤ m.length
  | [], _, _, _ => Nat.zero_le _
  | a :: l, m, h, hs => by
    rw [List.nodup_cons] at h
    have ha := hs a (by simp)
    have := nodup_sub_len l (m.erase a) h.2 fun x hx => (List.mem_erase_of_ne (by rintro rfl; exact h.1 hx)).2 (hs x (by simp [hx]))
    rw [List.length_erase_of_mem ha] at this
    have hp : 0 < m.length := List.length_pos_of_mem ha
    rw [List.length_cons]
    omega
end Go.Proofs.Ytnkhieackclniaa
