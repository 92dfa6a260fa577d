/- Numbers in whatever order. -/
import Derived.Test.YtdcjfefnkjdchaaDoorHApp
namespace Go.Proofs.YtdcjfefnkjdchaaDoor
open Go Go.RowKit

def bk (L : List Nat) (h : Nat) : Nat → List Nat
  | 0 => []
  | k + 1 => bk L h k ++ [L.getD (L.length - 1 - k) 0] ++ [L.getD h 0]
theorem bk_length (L : List Nat) (h k : Nat) : (bk L h k).length = 2 * k := by
  induction k with
  | zero => rfl
  | succ k ih => rw [bk, List.length_append, List.length_append, ih]; simp; omega
theorem getD_mem {L : List Nat} {i : Nat} (h : i < L.length) : L.getD i 0 ∈ L := by
  rw [List.getD_eq_getElem?_getD, List.getElem?_eq_getElem h]
  exact List.getElem_mem h
theorem bk_mem (L : List Nat) (h : Nat) (hh : h < L.length) : ∀ k, k ≤ L.length → ∀ x ∈ bk L h k, x ∈ L
  | 0, _, x, hx => by cases hx
  | k + 1, hk, x, hx => by
    rw [bk] at hx
    rcases List.mem_append.1 hx with h1 | h1
    · rcases List.mem_append.1 h1 with h2 | h2
      · exact bk_mem L h hh k (by omega) x h2
      · rw [List.mem_singleton.1 h2]; exact getD_mem (by omega)
    · rw [List.mem_singleton.1 h1]; exact getD_mem hh
theorem append_one {B : Nat} {v : Value} {hs : List Nat} {w : World} (ty : TypeId) (hO : OwnU B v hs w) (x : Nat) (hx : x < 18446744073709551616) (hlen : hs.length + 1 ≤ 1000000) (hB : B ≤ w.heap.size) :
    ∃ v' w', (Builtin.append_ #[32, 32] ty #[v, .slice (some ⟨w.heap.size, 0, none⟩) 1 1]).run Tryd.prog (w.alloc (.cells #[.int .u64 (x : Int)] 31)) = .ok v' w' ∧ OwnU B v' (hs ++ [x]) w' ∧ Below B w w' := by
  have hN : Nums (some ⟨w.heap.size, 0, none⟩) [x] (w.alloc (.cells #[.int .u64 (x : Int)] 31)) := by
    intro k hk
    obtain rfl : k = 0 := by simpa using hk
    refine ⟨w.heap.size, 0, rfl, by simp, ?_, hx⟩
    rw [Nat.zero_add, World.cell?_alloc_new]
    rfl
  obtain ⟨v', w', h1, h2, h3⟩ := append_run (cap := 1) ty (show OwnU B v hs (w.alloc (.cells #[.int .u64 (x : Int)] 31)) from World.ownsRow.alloc hO _) hN (fun h => by cases h) (by simpa using hlen) (by simp; omega)
  exact ⟨v', w', h1, h2, ((Below.refl B w).alloc hB _).trans h3⟩
theorem regs_back_same (b : Nat) (L A : List Nat) (h : ∀ x ∈ A, x ∈ L) : regs b (A ++ L) = regs b L :=
  regs_same b fun x => ⟨fun hx => (List.mem_append.1 hx).elim (h x) id, fun hx => List.mem_append.2 (.inr hx)⟩
end Go.Proofs.YtdcjfefnkjdchaaDoor
