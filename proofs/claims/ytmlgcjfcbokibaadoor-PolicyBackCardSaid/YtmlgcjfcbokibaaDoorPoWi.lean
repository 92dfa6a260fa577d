/- The law's wish: its numbers. -/
import Derived.Test.YtmlgcjfcbokibaaDoorPoGt
namespace Go.Proofs.YtmlgcjfcbokibaaDoor.Po
open Go Go.RowKit

/-- Numbers of sixteen bits that lie somewhere. -/
def Shorts (p : Option Addr) (hs : List Nat) (w : World) : Prop :=
  ∀ k (h : k < hs.length), ∃ C off, p = some ⟨C, off, none⟩ ∧ C < w.heap.size ∧ w.cell? ⟨C, off + k, none⟩ = some (.int .u16 (hs[k] : Int)) ∧ hs[k] < 65536
theorem Shorts.below {p : Option Addr} {hs : List Nat} {w w' : World} (h : Shorts p hs w) (hB : Below w.heap.size w w') : Shorts p hs w' := fun k hk => by
  obtain ⟨C, off, h1, h2, h3, h4⟩ := h k hk
  exact ⟨C, off, h1, Nat.lt_of_lt_of_le h2 hB.size, (hB.cell (p := ⟨C, off + k, none⟩) h2).trans h3, h4⟩
theorem wish1_any (C : Nat) (p : Option Addr) (hs : List Nat) (c i : Nat) (w : World) (_ : hs.length ≤ 9223372036854775807) (_hC : C < w.heap.size) (hN : w.cell? ⟨C, 12, none⟩ = some (.slice p hs.length c)) (hS : Shorts p hs w) :
    Calls Tryd.prog 28 #[.int .i64 (i : Int), .pointer (some ⟨C, 0, none⟩)] w fun e w' => e = .returned (.int .i64 (hs.getD i 0 : Nat)) ∧ w' = w := by
  by_cases h : i < hs.length
  · obtain ⟨D, off, rfl, hD, hx, hb⟩ := hS i h
    have e : hs.getD i 0 = hs[i] := by rw [List.getD_eq_getElem?_getD, List.getElem?_eq_getElem h]; rfl
    rw [e]
    have hi : (i : Int) < (hs.length : Int) := by omega
    have hi2 : ¬ (hs.length : Int) ≤ (i : Int) := by omega
    have hbi : (hs[i] : Int) < 65536 := by omega
    clear e hS
    generalize hs[i] = x at *
    go_enter Tryd.func28, Tryd.ntmps28
    go_wp2
    go_ret
    exact ⟨rfl, rfl⟩
  · have e : hs.getD i 0 = 0 := by rw [List.getD_eq_getElem?_getD, List.getElem?_eq_none (by omega)]; rfl
    rw [e]
    have hi2 : (hs.length : Int) ≤ (i : Int) := by omega
    clear e hS
    go_enter Tryd.func28, Tryd.ntmps28
    go_wp2
    go_ret
    exact ⟨rfl, rfl⟩
end Go.Proofs.YtmlgcjfcbokibaaDoor.Po
