/- A histogram and the chapter's own: they are the same. -/
import Derived.Test.YtdcdhbkgeipdjaaHiBeh
import Derived.Test.YtdcdhbkgeipdjaaHiCntW
namespace Go.Proofs.Ytdcdhbkgeipdjaa
open Go Go.RowKit

set_option maxRecDepth 100000 in
set_option maxHeartbeats 2000000 in
theorem same_any {N N' B B' k : Nat} {v v' : Value} {l : List Hit} {w : World} (h : Hs N 62 B k v l w) (x : Hs N' 83 B' k v' l w) :
    Calls Try.prog 18 #[.pointer (some ⟨B, 0, none⟩), .pointer (some ⟨B', 0, none⟩)] w fun e w' => e = .returned (.bool true) ∧ Below w.heap.size w w' := by
  have hit := items_any h
  have HH := Lib.hid h
  have HX := Lib.hid x
  have hlen := h.inv.len
  obtain ⟨px, capx, rfl, _, _⟩ := x.row.cap
  obtain ⟨n, hn⟩ : ∃ n, l.length = n := ⟨_, rfl⟩
  have HN := Lib.hid hn
  rw [hn] at hlen
  clear h x hn
  go_enter Try.func18, Try.ntmps18
  go_wp2_with fail
  refine hit.mono ?_
  rintro e w1 ⟨vi, rfl, hI, hB⟩
  have HB := Lib.hid hB
  have HH1 := Lib.hid (HH.out.below hB)
  have HX1 := Lib.hid (HX.out.below hB)
  obtain ⟨pi, capi, rfl, hci, hmi, hcell⟩ := its_cells hI
  have HC := Lib.hid hcell
  have hc1 := fun (p : Beh w1) => count_any (HH1.out.below p.h)
  have hc2 := fun (p : Beh w1) => ref_count_any (HX1.out.below p.h)
  have hbt := fun (p : Beh w1) => bits_any (HH1.out.below p.h)
  have k1 := HX1.out.c1
  have k0 := HX1.out.c0
  rw [HN.out] at k1 hci ⊢
  have q1 := Beh.cell HX1.out.lt k1
  have q0 := Beh.cell HX1.out.lt k0
  have hXl := HX1.out.lt
  have HL := Lib.hid HX1.out.row.form
  clear hit hI hB hcell hmi
  generalize countH l = c at *
  have tn : (((n : Int)) != ((n : Int))) = false := by simp
  go_wp2
  refine wp_region_beh (by kernel_rfl) (by kernel_rfl) ?_
  iterate 11 (quiet_step (exact calls_beh _ (hc1 _)))
  iterate 2 (quiet_step (exact calls_beh_same _ (hc2 _)))
  repeat (quiet_step (exact calls_beh_same _ (hbt _)))
  refine wpQuiet_nil ?_
  intro _ hw'
  obtain ⟨⟨W, hBW⟩, hw''⟩ := hw'
  subst hw''
  have HB2 := Lib.hid (below_on HB.out hBW (Nat.le_refl _))
  have HBW := Lib.hid hBW
  clear hc1 hc2 hbt q0 q1 k0 tn hBW
  go_wp2
  go_loopg [6] n (fun g s6 wx => ∃ j : Nat, j + g = n ∧ s6 = .int .i64 j ∧ Hid (Below w1.heap.size w1 wx))
  case atStart => exact ⟨0, by omega, rfl, HBW⟩
  case round =>
    obtain ⟨j, hjn, rfl, HBx⟩ := hrel
    cases gk with
    | zero =>
      obtain rfl : j = n := by omega
      have HB9 := Lib.hid (below_on HB.out HBx.out (Nat.le_refl _))
      go_wp2
      go_ret
      exact ⟨rfl, HB9.out⟩
    | succ g =>
      have hj : j < n := by omega
      have hjl : j < l.length := by rw [HN.out]; exact hj
      obtain ⟨gi, rfl, hgi, c0, c1⟩ := HC.out j hjl
      rcases HL.out with ⟨_, h0⟩ | ⟨gx, cx, hv, _, hgx, _, _, hcx, _⟩
      · rw [h0] at hjl; cases hjl
      · simp only [Value.slice.injEq] at hv
        obtain ⟨rfl, _, rfl⟩ := hv
        obtain ⟨b0, b1⟩ := hcx j hjl
        have e0 := (HBx.out.cell (p := ⟨gi, j * 2, none⟩) hgi).trans c0
        have e1 := (HBx.out.cell (p := ⟨gi, j * 2 + 1, none⟩) hgi).trans c1
        have f0 := (HBx.out.cell (p := ⟨gx, j * 2, none⟩) hgx).trans b0
        have f1 := (HBx.out.cell (p := ⟨gx, j * 2 + 1, none⟩) hgx).trans b1
        have kx := (HBx.out.cell (p := ⟨B', 1, none⟩) hXl).trans k1
        have hjI : (j : Int) < (n : Int) := by omega
        clear c0 c1 b0 b1 hcx
        generalize l[j]!.at_ = a at *
        generalize l[j]!.many = m at *
        go_wp2
        go_quiet (fail)
        have HBz := Lib.hid (below_drewN' HBx.out nq)
        clear e0 e1 f0 f1 kx
        go_wp2
        go_roundg g
        case measure => omega
        case rel => exact ⟨j + 1, by omega, by go_num, HBz⟩
end Go.Proofs.Ytdcdhbkgeipdjaa
