/- The chapter's own answer: the text of a sum. -/
import Derived.Test.YthddnhnhlgnlhaaDoorWideE
namespace Go.Proofs.YthddnhnhlgnlhaaDoor
open Go Go.RowKit


theorem CellsAt.drewN {b : Nat} {vs : Array Value} {w : World} (h : CellsAt b vs w) (n : Nat) : CellsAt b vs (w.drewN n) := ⟨h.lt, h.cell, h.fro⟩
theorem below_drewN {B : Nat} {a w : World} (h : Below B a w) (n : Nat) : Below B a (w.drewN n) := ⟨h.os, h.tape, h.output, h.size, h.block⟩
/-- The number of four limbs. -/
def lim (x0 x1 x2 x3 : Int) : Int := x0 * 79228162514264337593543950336 + x1 * 18446744073709551616 + x2 * 4294967296 + x3
def Lim (x : Int) : Prop := 0 ≤ x ∧ x < 4294967296
theorem limbs_any (u l m : Int) (hu0 : 0 ≤ u) (hu1 : u ≤ 18446744073709551615) (hl0 : 0 ≤ l) (hl1 : l ≤ 18446744073709551615) (hm : u * 18446744073709551616 + l = m) (w : World) :
    Calls Tryd.prog 34 #[.int .u64 u, .int .u64 l] w fun e w' => ∃ x0 x1 x2 x3, e = .returned (.slice (some ⟨w.heap.size, 0, none⟩) 4 4) ∧ Lim x0 ∧ Lim x1 ∧ Lim x2 ∧ Lim x3 ∧ lim x0 x1 x2 x3 = m ∧ CellsAt w.heap.size #[.int .u64 x0, .int .u64 x1, .int .u64 x2, .int .u64 x3] w' ∧ Below w.heap.size w w' := by
  go_enter Tryd.func34, Tryd.ntmps34
  go_wp2
  go_ret
  refine ⟨_, _, _, _, rfl, ?_, ?_, ?_, ?_, ?_, CellsAt.new _ _ _, (Below.refl _ _).alloc (Nat.le_refl _) _⟩
  · unfold Lim; omega
  · rw [IntKind.wrap_u64]; unfold Lim; omega
  · unfold Lim; omega
  · rw [IntKind.wrap_u64]; unfold Lim; omega
  · rw [IntKind.wrap_u64, IntKind.wrap_u64]; unfold lim; omega

/-- What the inner loop has made of the limbs y after k of them. -/
def Part (y0 y1 y2 y3 : Int) (k : Nat) (x0 x1 x2 x3 r : Int) : Prop :=
  Lim x0 ∧ Lim x1 ∧ Lim x2 ∧ Lim x3 ∧ 0 ≤ r ∧ r < 10 ∧ (match k with
  | 0 => x0 = y0 ∧ x1 = y1 ∧ x2 = y2 ∧ x3 = y3 ∧ r = 0
  | 1 => x0 * 10 + r = y0 ∧ x1 = y1 ∧ x2 = y2 ∧ x3 = y3
  | 2 => (x0 * 4294967296 + x1) * 10 + r = y0 * 4294967296 + y1 ∧ x2 = y2 ∧ x3 = y3
  | 3 => (x0 * 18446744073709551616 + x1 * 4294967296 + x2) * 10 + r = y0 * 18446744073709551616 + y1 * 4294967296 + y2 ∧ x3 = y3
  | _ => lim x0 x1 x2 x3 * 10 + r = lim y0 y1 y2 y3)
theorem part_0 {y0 y1 y2 y3 x0 x1 x2 x3 r : Int} (h : Part y0 y1 y2 y3 0 x0 x1 x2 x3 r) : Part y0 y1 y2 y3 1 ((r * 4294967296 + x0) / 10) x1 x2 x3 ((r * 4294967296 + x0) % 10) := by
  unfold Part Lim at *; simp only at *; omega
theorem part_1 {y0 y1 y2 y3 x0 x1 x2 x3 r : Int} (h : Part y0 y1 y2 y3 1 x0 x1 x2 x3 r) : Part y0 y1 y2 y3 2 x0 ((r * 4294967296 + x1) / 10) x2 x3 ((r * 4294967296 + x1) % 10) := by
  unfold Part Lim at *; simp only at *; omega
theorem part_2 {y0 y1 y2 y3 x0 x1 x2 x3 r : Int} (h : Part y0 y1 y2 y3 2 x0 x1 x2 x3 r) : Part y0 y1 y2 y3 3 x0 x1 ((r * 4294967296 + x2) / 10) x3 ((r * 4294967296 + x2) % 10) := by
  unfold Part Lim at *; simp only at *; omega
theorem part3_eq {x0 x1 x2 x3 y0 y1 y2 r q r2 : Int} (h : (x0 * 18446744073709551616 + x1 * 4294967296 + x2) * 10 + r = y0 * 18446744073709551616 + y1 * 4294967296 + y2) (hq : q * 10 + r2 = r * 4294967296 + x3) : lim x0 x1 x2 q * 10 + r2 = lim y0 y1 y2 x3 := by
  unfold lim; omega
theorem part_3 {y0 y1 y2 y3 x0 x1 x2 x3 r : Int} (h : Part y0 y1 y2 y3 3 x0 x1 x2 x3 r) : Part y0 y1 y2 y3 4 x0 x1 x2 ((r * 4294967296 + x3) / 10) ((r * 4294967296 + x3) % 10) := by
  obtain ⟨h0, h1, h2, h3, r0, r1, he, rfl⟩ := h
  exact ⟨h0, h1, h2, by unfold Lim at *; omega, by omega, by omega, part3_eq he (by omega)⟩
theorem part_in {y0 y1 y2 y3 x0 x1 x2 x3 r : Int} {k : Nat} (h : Part y0 y1 y2 y3 k x0 x1 x2 x3 r) : 0 ≤ x0 ∧ x0 < 4294967296 ∧ 0 ≤ x1 ∧ x1 < 4294967296 ∧ 0 ≤ x2 ∧ x2 < 4294967296 ∧ 0 ≤ x3 ∧ x3 < 4294967296 ∧ 0 ≤ r ∧ r < 10 :=
  ⟨h.1.1, h.1.2, h.2.1.1, h.2.1.2, h.2.2.1.1, h.2.2.1.2, h.2.2.2.1.1, h.2.2.2.1.2, h.2.2.2.2.1, h.2.2.2.2.2.1⟩
theorem lim_in {x0 x1 x2 x3 : Int} (h0 : Lim x0) (h1 : Lim x1) (h2 : Lim x2) (h3 : Lim x3) : 0 ≤ lim x0 x1 x2 x3 ∧ (0 < x0 + x1 + x2 + x3 ↔ 0 < lim x0 x1 x2 x3) := by
  unfold Lim lim at *; omega

/-- What the outer loop has: the digits s of M are told, m is left. -/
def Told (M m : Nat) (s : List UInt8) : Prop := (s = [] ∧ m = M) ∨ (s ≠ [] ∧ Lib.decDigits M = if m = 0 then s else Lib.decDigits m ++ s)
theorem told_next {M m : Nat} {s : List UInt8} (h : Told M m s) (hc : s = [] ∨ 0 < m) : Told M (m / 10) (UInt8.ofNat (48 + m % 10) :: s) := by
  refine Or.inr ⟨by simp, ?_⟩
  have hd : Lib.decDigits M = Lib.decDigits m ++ s := by
    rcases h with ⟨rfl, rfl⟩ | ⟨hs, h⟩
    · simp
    · rcases hc with hc | hc
      · exact absurd hc hs
      · rw [h, if_neg (by omega)]
  rw [hd]
  by_cases h10 : m < 10
  · rw [if_pos (by omega), Lib.decDigits_one h10, show m % 10 = m by omega]; rfl
  · rw [if_neg (by omega), decDigits_big h10, List.append_assoc]; rfl
theorem told_end {M m : Nat} {s : List UInt8} (h : Told M m s) (hs : s ≠ []) (hm : m = 0) : s = Lib.decDigits M := by
  rcases h with ⟨h1, _⟩ | ⟨_, h⟩
  · exact absurd h1 hs
  · rw [h, if_pos hm]
theorem told_len {M m : Nat} {s : List UInt8} (h : Told M m s) : s.length ≤ Lib.nDigits M := by
  rw [← Lib.decDigits_length]
  rcases h with ⟨h1, _⟩ | ⟨_, h⟩
  · rw [h1]; simp
  · rw [h]; split <;> simp
theorem one_byte (c : UInt8) (x : Int) (hx : x = (c.toNat : Int)) (w : World) : (convert 58 9 (.slice (some ⟨w.heap.size, 0, none⟩) 1 1)).run Tryd.prog (w.alloc (.cells #[.int .u8 x] 5)) = .ok (.string (tx [c])) (w.alloc (.cells #[.int .u8 x] 5)) := by
  subst hx
  have h := run_convert_bytes_back (P := Tryd.prog) (w.alloc (.cells #[.int .u8 (c.toNat : Int)] 5)) 58 9 5 ⟨w.heap.size, 0, none⟩ 1 [c] Tryd.underlying58 Tryd.underlying5 Tryd.underlying9 (fun j hj => by
    have : j = 0 := by simpa using hj
    subst this
    rw [Lib.add_plain, Nat.zero_add, World.cell?_alloc_new]
    rfl)
  exact h
end Go.Proofs.YthddnhnhlgnlhaaDoor
