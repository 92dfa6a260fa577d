/- How often one that is not there may have come. -/
import Derived.Test.YtnkhieackclniaaTLst
import Derived.Test.YtnkhieackclniaaReg
namespace Go.Proofs.Ytnkhieackclniaa
open Go Go.RowKit

def LstPhi (B g n cap m y : Nat) : Nat → Value → World → Prop
  | i, v, _ => v = ([.pointer (some ⟨B, 0, none⟩), .pointer (some ⟨B, 0, none⟩), .pointer (some ⟨B, 1, none⟩), .slice (some ⟨g, 0, none⟩) n cap, .pointer (some ⟨B, 0, none⟩), .int .i64 ((m : Nat)), .pointer (some ⟨g, m * 3, none⟩), .pointer (some ⟨g, m * 3 + 1, none⟩), .int .u64 y, .int .u64 y] : List Value).getD i undef
theorem LstPhi.stays {B g n cap m y : Nat} : ∀ i v wx wy, LstPhi B g n cap m y i v wx → Reg.Old wx wy → LstPhi B g n cap m y i v wy := fun _ _ _ _ h _ => h

set_option maxRecDepth 100000 in
set_option maxHeartbeats 4000000 in
theorem least_any {base B room : Nat} {v : Value} {l : List Itm} {w : World} (h : Tp base B room v l w) :
    Calls Try.prog 16 #[.pointer (some ⟨B, 0, none⟩)] w fun e w' => e = .returned (.int .u64 (leastL room l)) ∧ Below w.heap.size w w' := by
  have hlen := h.inv.len
  have hlo := h.inv.lo
  have hroom := hasroom_any h
  by_cases hr : l.length < room
  · rw [show decide (l.length < room) = true from decide_eq_true hr] at hroom
    rw [show leastL room l = 0 by unfold leastL; rw [if_pos hr]]
    clear h hlen hlo hr
    go_enter Try.func16, Try.ntmps16
    go_wp2_with fail
    refine hroom.mono ?_
    rintro e w1 ⟨rfl, nq, rfl⟩
    go_wp2
    go_ret
    exact ⟨rfl, below_drewN (Below.refl _ _) nq⟩
  · rw [show decide (l.length < room) = false from decide_eq_false hr] at hroom
    have hpos : 0 < l.length := by omega
    have hlp0 := fun (W : World) (hB : Below w.heap.size w W) => least_place (h.belowOn hB) hpos
    obtain ⟨g, cap, rfl, hbg, hg, hcap, hmax, hcell, _⟩ := h.row.form_pos hpos
    obtain ⟨_, d1, _⟩ := hcell (worst l) (worst_lt hpos)
    have hw := worst_lt hpos
    rw [show leastL room l = l[worst l]!.many by unfold leastL; rw [if_neg hr]]
    have c1 := h.c1
    have hBL := h.lt
    have hgL := hg
    have hi := h.inv.hi
    clear h hbg hg hcap hcell hr
    generalize l[worst l]!.many = y at *
    generalize worst l = m at *
    generalize l.length = n at *
    go_enter Try.func16, Try.ntmps16
    go_wp2_with fail
    refine hroom.mono ?_
    rintro e w1 ⟨rfl, nq, rfl⟩
    have hE := below_drewN (Below.refl w.heap.size w) nq
    have hlp := fun (W : World) (hB : Below w.heap.size (w.drewN nq).drew W) => hlp0 W (hE.drew.trans hB)
    have k1 : (w.drewN nq).cell? ⟨B, 1, none⟩ = some (.slice (some ⟨g, 0, none⟩) n cap) := c1
    have k2 : (w.drewN nq).cell? ⟨g, m * 3 + 1, none⟩ = some (.int .u64 y) := d1
    clear hroom hlp0 c1 d1
    replace hBL : B < (w.drewN nq).heap.size := hBL
    replace hgL : g < (w.drewN nq).heap.size := hgL
    have hlp' : ∀ W : World, Below (w.drewN nq).heap.size (w.drewN nq).drew W → Calls Try.prog 31 #[.pointer (some ⟨B, 0, none⟩)] W fun e w' => e = .returned (.int .i64 m) ∧ Below W.heap.size W w' := hlp
    clear hlp
    have hlp := hlp'
    replace hE : Below w.heap.size w (w.drewN nq) := hE
    clear hlp'
    have c1 := k1
    have d1 := k2
    clear k1 k2
    have HW : (w.drewN nq).heap.size = w.heap.size := rfl
    generalize w.drewN nq = W at *
    go_wp2
    refine Reg.wp_region_inv (n := 14) (LstPhi B g n cap m y) (by kernel_rfl) (by kernel_rfl) rfl LstPhi.stays ?_ ?_
    · refine ⟨?_, ?_, ?_, ?_, ?_, ?_, ?_, ?_, ?_, ?_, trivial⟩
      · intro cx wc hB hp hs
        have g0 : cx.tmps[0]? = some (.pointer (some ⟨B, 0, none⟩)) := (hs 0 (by kernel_rfl)).trans rfl
        refine Reg.ok_value Reg.Old.refl (v := .pointer (some ⟨B, 0, none⟩)) (Reg.wanted_none rfl) ?_ rfl
        go_simp
      · intro cx wc hB hp hs
        have g5 : cx.tmps[5]? = some (.pointer (some ⟨B, 0, none⟩)) := by obtain ⟨_, g, hv⟩ := Reg.pred hp 0 5 (by kernel_rfl) rfl rfl; exact g.trans (congrArg some hv)
        refine Reg.ok_value Reg.Old.refl (v := .pointer (some ⟨B, 0, none⟩)) (Reg.wanted_none rfl) ?_ rfl
        go_simp
      · intro cx wc hB hp hs
        have g6 : cx.tmps[6]? = some (.pointer (some ⟨B, 0, none⟩)) := by obtain ⟨_, g, hv⟩ := Reg.pred hp 1 6 (by kernel_rfl) rfl rfl; exact g.trans (congrArg some hv)
        refine Reg.ok_value Reg.Old.refl (v := .pointer (some ⟨B, 1, none⟩)) (Reg.wanted_none rfl) ?_ rfl
        go_simp
      · intro cx wc hB hp hs
        have g7 : cx.tmps[7]? = some (.pointer (some ⟨B, 1, none⟩)) := by obtain ⟨_, g, hv⟩ := Reg.pred hp 2 7 (by kernel_rfl) rfl rfl; exact g.trans (congrArg some hv)
        have kx : wc.cell? ⟨B, 1, none⟩ = some (.slice (some ⟨g, 0, none⟩) n cap) := (Below.cell (p := ⟨B, 1, none⟩) hB hBL).trans c1
        refine Reg.ok_value Reg.Old.refl (v := .slice (some ⟨g, 0, none⟩) n cap) (Reg.wanted_none rfl) ?_ rfl
        go_simp
      · intro cx wc hB hp hs
        have g0 : cx.tmps[0]? = some (.pointer (some ⟨B, 0, none⟩)) := (hs 0 (by kernel_rfl)).trans rfl
        refine Reg.ok_value Reg.Old.refl (v := .pointer (some ⟨B, 0, none⟩)) (Reg.wanted_none rfl) ?_ rfl
        go_simp
      · intro cx wc hB hp hs
        have g9 : cx.tmps[9]? = some (.pointer (some ⟨B, 0, none⟩)) := by obtain ⟨_, g, hv⟩ := Reg.pred hp 4 9 (by kernel_rfl) rfl rfl; exact g.trans (congrArg some hv)
        refine Reg.ok_call (f := 31) (args := #[.pointer (some ⟨B, 0, none⟩)]) (Reg.wanted_none rfl) (by go_simp) ((hlp wc hB).mono ?_)
        rintro e w' ⟨rfl, hB2⟩
        exact ⟨_, rfl, hB2, rfl⟩
      · intro cx wc hB hp hs
        have g8 : cx.tmps[8]? = some (.slice (some ⟨g, 0, none⟩) n cap) := by obtain ⟨_, g, hv⟩ := Reg.pred hp 3 8 (by kernel_rfl) rfl rfl; exact g.trans (congrArg some hv)
        have g10 : cx.tmps[10]? = some (.int .i64 ((m : Nat))) := by obtain ⟨_, g, hv⟩ := Reg.pred hp 5 10 (by kernel_rfl) rfl rfl; exact g.trans (congrArg some hv)
        refine Reg.ok_value Reg.Old.refl (v := .pointer (some ⟨g, m * 3, none⟩)) (Reg.wanted_none rfl) ?_ rfl
        go_simp
      · intro cx wc hB hp hs
        have g11 : cx.tmps[11]? = some (.pointer (some ⟨g, m * 3, none⟩)) := by obtain ⟨_, g, hv⟩ := Reg.pred hp 6 11 (by kernel_rfl) rfl rfl; exact g.trans (congrArg some hv)
        refine Reg.ok_value Reg.Old.refl (v := .pointer (some ⟨g, m * 3 + 1, none⟩)) (Reg.wanted_none rfl) ?_ rfl
        go_simp
      · intro cx wc hB hp hs
        have g12 : cx.tmps[12]? = some (.pointer (some ⟨g, m * 3 + 1, none⟩)) := by obtain ⟨_, g, hv⟩ := Reg.pred hp 7 12 (by kernel_rfl) rfl rfl; exact g.trans (congrArg some hv)
        have kx : wc.cell? ⟨g, m * 3 + 1, none⟩ = some (.int .u64 y) := (Below.cell (p := ⟨g, m * 3 + 1, none⟩) hB hgL).trans d1
        refine Reg.ok_value Reg.Old.refl (v := .int .u64 y) (Reg.wanted_none rfl) ?_ rfl
        go_simp
      · intro cx wc hB hp hs
        have g13 : cx.tmps[13]? = some (.int .u64 y) := by obtain ⟨_, g, hv⟩ := Reg.pred hp 8 13 (by kernel_rfl) rfl rfl; exact g.trans (congrArg some hv)
        refine Reg.ok_value Reg.Old.refl (v := .int .u64 y) (Reg.wanted_none rfl) ?_ rfl
        go_simp
    · intro d wc hB hsz hdf hv ho
      have gr : d.tmps[2]? = some (.int .u64 y) := by obtain ⟨_, g, hv⟩ := hv 9 _ 2 rfl rfl; exact g.trans (congrArg some hv)
      have hF := hE.trans (hB.mono hE.size)
      clear hv ho hB
      go_wp2
      refine bodyPost_ret (v := .int .u64 y) ?_ hdf ⟨rfl, hF⟩
      simp [results, Try.results16, go_sem, gr]
end Go.Proofs.Ytnkhieackclniaa
