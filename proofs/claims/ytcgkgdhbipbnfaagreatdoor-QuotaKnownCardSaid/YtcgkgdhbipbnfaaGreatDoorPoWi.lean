/- The law's wish: its numbers. -/
import Derived.Test.YtcgkgdhbipbnfaaGreatDoorPoR
import Derived.WalkKit
import Derived.Below
import Derived.Lib.Hide
import Derived.Lib.ItoaNum
import Derived.Lib.TrimByte
import Derived.WalkLawsBesides
import Derived.Deep.LoopGhost
import Derived.LoopTactic
import Derived.IntWalk
import Derived.Laws.AppendOwn
import Derived.Laws.OwnMore
import Derived.Deep.Quiet
import Derived.Deep.RegionLaw
import Derived.Deep.AppendLies
import Derived.Deep.QuietTactic
import Derived.BigQuiet
import Derived.Lib.AppendZeros
import Derived.Laws.BitsAllLaws
import Derived.Lib.AppendIntMem
import Derived.Laws.AppendOwnNone
import Derived.Laws.ResultCell
import Derived.BigRegion
import Derived.RangeFuncNested
import Derived.RangeFuncBound
import Derived.RangeFuncCalls
import Derived.RangeFuncLeaves
import Derived.RangeFuncBox
import Derived.OwnWalkIn
import Derived.TacticsInMore
import Derived.LoopNIn
import Derived.LoopIn
import Derived.Sort.LoopGhostIn
import Derived.OrdersIn
import Derived.Maps.AppendAt
import Derived.Lib.IndexLaws
import Derived.WalkSpells
import Derived.Tactics2
import Derived.Defers
import Derived.Recover
import Derived.Laws.Pointers
import Derived.Laws.IdiomCopy
import Derived.Lib.SliceRun
import Derived.Scope
import Derived.ControlIn
import Derived.CallsIn
import Derived.Orders
import Derived.Lib.AppendStr
import Derived.Lib.OthersKept
import Derived.Lib.ItoaMem
namespace Go.Proofs.YtcgkgdhbipbnfaaGreatDoor.Po
open Go Go.RowKit

/-- Numbers of sixteen bits that lie somewhere. -/
def Shorts (p : Option Addr) (hs : List Nat) (w : World) : Prop :=
  ∀ k (h : k < hs.length), ∃ C off, p = some ⟨C, off, none⟩ ∧ C < w.heap.size ∧ w.cell? ⟨C, off + k, none⟩ = some (.int .u16 (hs[k] : Int)) ∧ hs[k] < 65536
theorem Shorts.below {p : Option Addr} {hs : List Nat} {w w' : World} (h : Shorts p hs w) (hB : Below w.heap.size w w') : Shorts p hs w' := fun k hk => by
  obtain ⟨C, off, h1, h2, h3, h4⟩ := h k hk
  exact ⟨C, off, h1, Nat.lt_of_lt_of_le h2 hB.size, (hB.cell (p := ⟨C, off + k, none⟩) h2).trans h3, h4⟩
theorem wish1_any (C : Nat) (p : Option Addr) (hs : List Nat) (c i : Nat) (w : World) (_ : hs.length ≤ 9223372036854775807) (_hC : C < w.heap.size) (hN : w.cell? ⟨C, 12, none⟩ = some (.slice p hs.length c)) (hS : Shorts p hs w) :
    Calls Tryz.prog 31 #[.int .i64 (i : Int), .pointer (some ⟨C, 0, none⟩)] w fun e w' => e = .returned (.int .i64 (hs.getD i 0 : Nat)) ∧ w' = w := by
  by_cases h : i < hs.length
  · obtain ⟨D, off, rfl, hD, hx, hb⟩ := hS i h
    have e : hs.getD i 0 = hs[i] := by rw [List.getD_eq_getElem?_getD, List.getElem?_eq_getElem h]; rfl
    rw [e]
    have hi : (i : Int) < (hs.length : Int) := by omega
    have hi2 : ¬ (hs.length : Int) ≤ (i : Int) := by omega
    have hbi : (hs[i] : Int) < 65536 := by omega
    clear e hS
    generalize hs[i] = x at *
    go_enter Tryz.func31, Tryz.ntmps31
    go_wp2
    go_ret
    exact ⟨rfl, rfl⟩
  · have e : hs.getD i 0 = 0 := by rw [List.getD_eq_getElem?_getD, List.getElem?_eq_none (by omega)]; rfl
    rw [e]
    have hi2 : (hs.length : Int) ≤ (i : Int) := by omega
    clear e hS
    go_enter Tryz.func31, Tryz.ntmps31
    go_wp2
    go_ret
    exact ⟨rfl, rfl⟩
end Go.Proofs.YtcgkgdhbipbnfaaGreatDoor.Po

