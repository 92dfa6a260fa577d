/- A policy is put. -/
import Derived.Test.YtdhkonaebhpeeaaDoorPoT
namespace Go.Proofs.YtdhkonaebhpeeaaDoor.Po
open Go Go.RowKit

def headB (t : List Int) (k : Nat) : List UInt8 := if k = 10 then beZ 1 t.length else []
def numsB (ns : List Int) (j : Nat) : List UInt8 := (ns.take j).flatMap fun x => beZ 8 x.toNat
def putN (n t : List Int) : Nat → List UInt8
  | 0 => []
  | k + 1 => putN n t k ++ headB t k ++ numsB (numsN n t k) (numsN n t k).length
theorem put_all {n t : List Int} (hn : n.length = 10) : putN n t 11 = putZ n t := by
  obtain ⟨a0, a1, a2, a3, a4, a5, a6, a7, a8, a9, rfl⟩ := ten_of hn
  simp [putN, headB, numsB, numsN, putZ]
theorem numsB_succ (ns : List Int) (j : Nat) (h : j < ns.length) : numsB ns (j + 1) = numsB ns j ++ beZ 8 ns[j].toNat := by
  unfold numsB
  rw [List.take_succ_eq_append_getElem h, List.flatMap_append]
  simp
theorem numsB_len (ns : List Int) (j : Nat) : (numsB ns j).length ≤ 8 * j := by
  unfold numsB
  rw [flat_len, List.length_take]
  omega
end Go.Proofs.YtdhkonaebhpeeaaDoor.Po
