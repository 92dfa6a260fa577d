/- The chapter's own top: its least; which of two is told first. -/
import Derived.Test.YtnkhieackclniaaTRef
namespace Go.Proofs.Ytnkhieackclniaa
open Go Go.RowKit

set_option maxRecDepth 100000 in
set_option maxHeartbeats 8000000 in
theorem ref_least_any {base P room : Nat} {v : Value} {l : List Itm} {w : World} (h : RTp base P room v l w) :
    Calls Try.prog 17 #[.pointer (some ⟨P, 0, none⟩)] w fun e w' => e = .returned (.int .u64 (leastL room l)) ∧ Below w.heap.size w w' := by
  have hlo := h.inv.lo
  have hl16 : l.length ≤ 16 := Nat.le_trans h.inv.len h.inv.hi
  have hr16 := h.inv.hi
  have hP := h.lt
  by_cases hr : l.length < room
  · rw [show leastL room l = 0 by unfold leastL; rw [if_pos hr]]
    obtain ⟨p, cap, rfl, hcap, hmax⟩ := h.row.cap
    have c0 := h.c0
    have c1 := h.c1
    have t1 : decide (l.length < room) = true := decide_eq_true hr
    clear h
    unfold maxLen at hmax
    generalize l.length = n at *
    go_enter Try.func17, Try.ntmps17
    go_wp2
    go_quiet (fail)
    go_wp2
    go_ret
    exact ⟨rfl, below_drewN (Below.refl _ _) _⟩
  · have hpos : 0 < l.length := by omega
    rw [show leastL room l = l[worst l]!.many by unfold leastL; rw [if_neg hr]]
    have hlp := ref_worst (h.drewN 1).drew hpos
    have hlp0 := fun (q : Nat) => ref_worst (h.drewN q).drew hpos
    obtain ⟨g, cap, rfl, hbg, hg, hcap, hmax, hcell, _⟩ := h.row.form_pos hpos
    obtain ⟨_, d1, _⟩ := hcell (worst l) (worst_lt hpos)
    have hw := worst_lt hpos
    have hw2 : (worst l : Int) < (l.length : Int) := by omega
    have c0 := h.c0
    have c1 := h.c1
    have t1 : decide (l.length < room) = false := decide_eq_false hr
    clear h hcell hlp
    generalize l[worst l]!.many = y at *
    generalize worst l = m at *
    generalize l.length = n at *
    go_enter Try.func17, Try.ntmps17
    go_wp2
    go_quiet (fail)
    have k0 : (w.drewN nq).cell? ⟨P, 0, none⟩ = some (.slice (some ⟨g, 0, none⟩) n cap) := c0
    have k1 : (w.drewN nq).cell? ⟨g, m * 3 + 1, none⟩ = some (.int .u64 y) := d1
    have hlp := hlp0 nq
    have hB := below_drewN (Below.refl w.heap.size w) nq
    have hPq : P < (w.drewN nq).heap.size := hP
    have hgq : g < (w.drewN nq).heap.size := hg
    clear hlp0 c0 d1
    have hsz : w.heap.size ≤ (w.drewN nq).heap.size := Nat.le_refl _
    generalize w.drewN nq = W at *
    go_wp2
    go_region_with (refine hlp.mono ?_; rintro e W5 ⟨rfl, hB5⟩; have z0 := (hB5.cell (p := ⟨P, 0, none⟩) hPq).trans k0; have z1 := (hB5.cell (p := ⟨g, m * 3 + 1, none⟩) hgq).trans k1)
    all_goals
      have hE := hB.trans (((Below.refl W.heap.size W).drew.trans hB5).mono hsz)
      clear hlp hB5 k0 k1 z0 z1
      go_wp2
      go_ret
      exact ⟨rfl, hE⟩
set_option maxRecDepth 100000 in
set_option maxHeartbeats 4000000 in
theorem ref_before (xn yn : ByteArray) (xm xo ym yo : Nat) (w : World) :
    Calls Try.prog 36 #[.agg #[.string xn, .int .u64 xm, .int .u64 xo], .agg #[.string yn, .int .u64 ym, .int .u64 yo]] w fun e w' => e = .returned (.bool (tells ⟨xn, xm, xo⟩ ⟨yn, ym, yo⟩)) ∧ Grown w w' := by
  have hGr : Grown w ((w.alloc (.cells #[.string xn, .int .u64 xm, .int .u64 xo] 50)).alloc (.cells #[.string yn, .int .u64 ym, .int .u64 yo] 50)) := (Grown.alloc _ _).trans (Grown.alloc _ _)
  have HG := Lib.hid hGr
  clear hGr
  by_cases h1 : ym < xm
  · rw [show tells ⟨xn, xm, xo⟩ ⟨yn, ym, yo⟩ = true from tells_iff.2 (.inl h1)]
    go_enter Try.func36, Try.ntmps36
    go_wp2
    go_ret
    exact ⟨rfl, HG.out⟩
  · by_cases h2 : xm = ym
    · rw [show tells ⟨xn, xm, xo⟩ ⟨yn, ym, yo⟩ = Op.bytesLess xn.toList yn.toList by unfold tells lessN; simp [h2]]
      subst h2
      clear h1
      go_enter Try.func36, Try.ntmps36
      go_wp2
      go_ret
      exact ⟨rfl, HG.out⟩
    · rw [show tells ⟨xn, xm, xo⟩ ⟨yn, ym, yo⟩ = false from tells_not.2 (.inl (by show xm < ym; omega))]
      have h3 : ¬ ((xm : Int) = (ym : Int)) := by omega
      go_enter Try.func36, Try.ntmps36
      go_wp2
      go_ret
      exact ⟨rfl, HG.out⟩
end Go.Proofs.Ytnkhieackclniaa
