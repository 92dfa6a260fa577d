/- Whether an item goes ahead of the one found so far: the closure. -/
import Derived.Test.YtnkhieackclniaaTOrd
import Derived.RegionTactic
import Derived.ChangeAlike
import Derived.BigRegion
namespace Go.Proofs.Ytnkhieackclniaa
open Go Go.RowKit

set_option maxRecDepth 100000 in
set_option maxHeartbeats 4000000 in
theorem goes_ahead (xn yn : ByteArray) (xm xo ym yo m n cap T L B g : Nat) (hm : m < n) (hn : n ≤ 16) (w : World) (hT : T < w.heap.size) (hL : L < w.heap.size) (hB : B < w.heap.size) (hg : g < w.heap.size)
    (c0 : w.cell? ⟨T, 0, none⟩ = some (.pointer (some ⟨B, 0, none⟩))) (c1 : w.cell? ⟨B, 1, none⟩ = some (.slice (some ⟨g, 0, none⟩) n cap)) (c2 : w.cell? ⟨L, 0, none⟩ = some (.int .i64 m))
    (d0 : w.cell? ⟨g, m * 3, none⟩ = some (.string yn)) (d1 : w.cell? ⟨g, m * 3 + 1, none⟩ = some (.int .u64 ym)) (d2 : w.cell? ⟨g, m * 3 + 2, none⟩ = some (.int .u64 yo)) :
    Calls Try.prog 39 #[.agg #[.string xn, .int .u64 xm, .int .u64 xo], .pointer (some ⟨T, 0, none⟩), .pointer (some ⟨L, 0, none⟩)] w fun e w' => e = .returned (.bool (goes ⟨xn, xm, xo⟩ ⟨yn, ym, yo⟩)) ∧ Below w.heap.size w w' := by
  by_cases h1 : xm < ym
  · rw [show goes ⟨xn, xm, xo⟩ ⟨yn, ym, yo⟩ = true from goes_iff.2 (.inl h1)]
    go_enter Try.func39, Try.ntmps39
    go_wp2
    go_region
    all_goals
      go_wp2
      go_ret
      exact ⟨rfl, by first | exact (((Below.refl _ _).alloc (Nat.le_refl _) _).alloc (by simp) _).drew | exact ((((Below.refl _ _).alloc (Nat.le_refl _) _).alloc (by simp) _).setCell (by simp) _).drew⟩
  · by_cases h2 : xm = ym
    · rw [show goes ⟨xn, xm, xo⟩ ⟨yn, ym, yo⟩ = Op.bytesLess xn.toList yn.toList by unfold goes lessN; simp [h2]]
      subst h2
      clear h1
      go_enter Try.func39, Try.ntmps39
      go_wp2
      go_region
      all_goals
        go_wp2
        go_ret
        exact ⟨rfl, by first | exact (((Below.refl _ _).alloc (Nat.le_refl _) _).alloc (by simp) _).drew | exact ((((Below.refl _ _).alloc (Nat.le_refl _) _).alloc (by simp) _).setCell (by simp) _).drew⟩
    · rw [show goes ⟨xn, xm, xo⟩ ⟨yn, ym, yo⟩ = false from goes_not.2 (.inl (by show ym < xm; omega))]
      have h3 : ¬ ((xm : Int) = (ym : Int)) := by omega
      go_enter Try.func39, Try.ntmps39
      go_wp2
      go_region
      all_goals
        go_wp2
        go_ret
        exact ⟨rfl, by first | exact (((Below.refl _ _).alloc (Nat.le_refl _) _).alloc (by simp) _).drew | exact ((((Below.refl _ _).alloc (Nat.le_refl _) _).alloc (by simp) _).setCell (by simp) _).drew⟩
end Go.Proofs.Ytnkhieackclniaa
