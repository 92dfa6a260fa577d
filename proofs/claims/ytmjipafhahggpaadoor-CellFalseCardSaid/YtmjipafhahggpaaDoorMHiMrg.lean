/- One histogram merged into another one. -/
import Derived.Test.YtmjipafhahggpaaDoorMHiTog
namespace Go.Proofs.YtmjipafhahggpaaDoor.Hi
open Go Go.RowKit

set_option maxRecDepth 100000 in
set_option maxHeartbeats 4000000 in
theorem merge_bits {base base' B B' k k' : Nat} {v v' : Value} {l m : List Hit} {w : World} (h : Hs base 66 B k v l w) (g : Hs base' 66 B' k' v' m w) (hk : k' ≠ k) :
    Calls Tryd.prog 28 #[.pointer (some ⟨B, 0, none⟩), .pointer (some ⟨B', 0, none⟩)] w fun e w' => e = .returned (.int .i64 1) ∧ Below w.heap.size w w' := by
  have c0 := h.c0
  have d0 := g.c0
  have hne : ¬ ((k' : Int) = (k : Int)) := by omega
  clear h g
  go_enter Tryd.func28, Tryd.ntmps28
  go_wp2
  go_quiet (fail)
  go_wp2
  go_ret
  exact ⟨rfl, below_drewN' (Below.refl _ _) _⟩
set_option maxRecDepth 100000 in
set_option maxHeartbeats 4000000 in
theorem merge_over {base base' B B' k : Nat} {v v' : Value} {l m : List Hit} {w : World} (h : Hs base 66 B k v l w) (g : Hs base' 66 B' k v' m w) (hc : 1099511627776 < countH l + countH m) :
    Calls Tryd.prog 28 #[.pointer (some ⟨B, 0, none⟩), .pointer (some ⟨B', 0, none⟩)] w fun e w' => e = .returned (.int .i64 7) ∧ Below w.heap.size w w' := by
  have hc1 := fun (W : World) (hW : Hs base 66 B k v l W) => count_any hW
  have hc2 := fun (W : World) (hW : Hs base' 66 B' k v' m W) => count_any hW
  have s1 := h.inv.sum
  have s2 := g.inv.sum
  have c0 := h.c0
  have d0 := g.c0
  have HH := Lib.hid h
  have HG := Lib.hid g
  have H1 := Lib.hid hc1
  have H2 := Lib.hid hc2
  clear h g hc1 hc2
  generalize countH l = p at *
  generalize countH m = q at *
  have hq : decide ((1099511627776 : Int) < (p : Int) + (q : Int)) = true := decide_eq_true (by omega)
  go_enter Tryd.func28, Tryd.ntmps28
  go_wp2
  go_quiet (fail)
  have hB0 := below_drewN' (Below.refl w.heap.size w) nq
  have g1 := H1.out _ (HH.out.drewN nq)
  go_wp2_with fail
  refine g1.mono ?_
  rintro e w1 ⟨rfl, hB1⟩
  have g2 := H2.out _ ((HG.out.drewN nq).below hB1)
  have HB1 := Lib.hid (below_on hB0 hB1 (Nat.le_refl _))
  clear g1 hB1 hB0 c0 d0
  go_wp2_with fail
  refine g2.mono ?_
  rintro e w2 ⟨rfl, hB2⟩
  have HB2 := Lib.hid (below_on HB1.out hB2 (Nat.le_refl _))
  clear g2 hB2
  go_wp2
  go_ret
  exact ⟨rfl, HB2.out⟩
set_option maxRecDepth 100000 in
set_option maxHeartbeats 4000000 in
theorem merge_any {base base' B B' k : Nat} {v v' : Value} {l m : List Hit} {w : World} (hbase : base ≤ w.heap.size) (h : Hs base 66 B k v l w) (g : Hs base' 66 B' k v' m w) (hc : countH l + countH m ≤ 1099511627776) :
    Calls Tryd.prog 28 #[.pointer (some ⟨B, 0, none⟩), .pointer (some ⟨B', 0, none⟩)] w (Left base 66 B k v (mergeH l m) (.int .i64 0) w) := by
  have hI : Inv k (mergeH l m) := Inv.merge h.inv g.inv.ris g.inv.fit hc
  rw [← join_eq h.inv.ris g.inv.ris] at hI ⊢
  have hc1 := fun (W : World) (hW : Hs base 66 B k v l W) => count_any hW
  have hc2 := fun (W : World) (hW : Hs base' 66 B' k v' m W) => count_any hW
  have s1 := h.inv.sum
  have s2 := g.inv.sum
  have htg := fun (W : World) (h1 : Lies v l W) (h2 : Lies v' m W) => together_any h1 h2 h.inv.len g.inv.len (fun x hx => by have := many_le_count hx; omega) (fun x hx => by have := many_le_count hx; omega)
  have c0 := h.c0
  have d0 := g.c0
  have HH := Lib.hid h
  have HG := Lib.hid g
  have H1 := Lib.hid hc1
  have H2 := Lib.hid hc2
  have H3 := Lib.hid htg
  have HI := Lib.hid hI
  have HBS := Lib.hid hbase
  clear h g hc1 hc2 htg hI hbase
  generalize countH l = p at *
  generalize countH m = q at *
  have hq : decide ((1099511627776 : Int) < (p : Int) + (q : Int)) = false := decide_eq_false (by omega)
  have hq0 : (p : Int) + (q : Int) ≤ 1099511627776 := by omega
  go_enter Tryd.func28, Tryd.ntmps28
  go_wp2
  go_quiet (fail)
  have hB0 := below_drewN' (Below.refl w.heap.size w) nq
  have g1 := H1.out _ (HH.out.drewN nq)
  go_wp2_with fail
  refine g1.mono ?_
  rintro e w1 ⟨rfl, hB1⟩
  have HH1 := Lib.hid ((HH.out.drewN nq).below hB1)
  have HG1 := Lib.hid ((HG.out.drewN nq).below hB1)
  have g2 := H2.out _ HG1.out
  have HB1 := Lib.hid (below_on hB0 hB1 (Nat.le_refl _))
  clear g1 hB1 hB0 c0 d0
  go_wp2_with fail
  refine g2.mono ?_
  rintro e w2 ⟨rfl, hB2⟩
  have HH2 := Lib.hid (HH1.out.below hB2)
  have HG2 := Lib.hid (HG1.out.below hB2)
  have HB2 := Lib.hid (below_on HB1.out hB2 (Nat.le_refl _))
  have c1 := HH2.out.c1
  have d1 := HG2.out.c1
  have g3 := H3.out w2.drew HH2.out.drew.row.lies HG2.out.drew.row.lies
  clear g2 hB2
  go_wp2
  go_region_with (refine g3.mono ?_; rintro e W5 ⟨v5, rfl, hI5, hB5⟩; obtain ⟨p5, cap5, rfl, hcp5, hmx5⟩ := hI5.cap; have y1 := (HH2.out.drew.below hB5).c1; have yf := (HH2.out.drew.below hB5).f1)
  all_goals
    have hst := Hs.stored (l' := join l m) (w1 := W5) HH2.out.drew (Mov.ofB hB5) (hI5.mono (Nat.le_trans HBS.out HB2.out.size)) (fun g hg => .inr (hI5.lt hg).1) HI.out
    go_wp2
    go_ret
    exact ⟨rfl, _, hst.1, ((Mov.ofB HB2.out).drew).trans hst.2 (fun _ _ hk => hk), fun g hg => .inr (Nat.le_trans HB2.out.size (hI5.lt hg).1)⟩
end Go.Proofs.YtmjipafhahggpaaDoor.Hi

