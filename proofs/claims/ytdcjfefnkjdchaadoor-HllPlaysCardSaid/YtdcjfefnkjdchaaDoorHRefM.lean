/- Two of the chapter's own sketches are merged. -/
import Derived.Test.YtdcjfefnkjdchaaDoorHRefA
import Derived.Test.YtdcjfefnkjdchaaDoorReg
namespace Go.Proofs.YtdcjfefnkjdchaaDoor
open Go Go.RowKit

def MerPhi (P A Q C M k : Nat) (x y z : Int) : Nat → Value → World → Prop
  | i, v, _ => v = ([.pointer (some ⟨P, 0, none⟩), .pointer (some ⟨P, 0, none⟩), .pointer (some ⟨P, 0, none⟩), .slice (some ⟨A, 0, none⟩) M M, .int .i64 k, .pointer (some ⟨P, 0, none⟩), .pointer (some ⟨P, 0, none⟩), .pointer (some ⟨P, 0, none⟩), .slice (some ⟨A, 0, none⟩) M M, .int .i64 k, .pointer (some ⟨A, k, none⟩), .int .i64 x, .pointer (some ⟨Q, 0, none⟩), .pointer (some ⟨Q, 0, none⟩), .pointer (some ⟨Q, 0, none⟩), .slice (some ⟨C, 0, none⟩) M M, .int .i64 k, .pointer (some ⟨C, k, none⟩), .int .i64 y, .int .i64 z, .pointer (some ⟨A, k, none⟩), undef] : List Value).getD i undef
theorem MerPhi.stays {P A Q C M k : Nat} {x y z : Int} : ∀ i v wx wy, MerPhi P A Q C M k x y z i v wx → Reg.Old wx wy → MerPhi P A Q C M k x y z i v wy := fun _ _ _ _ h _ => h

/-- What holds at the head of a round. -/
def RMRel (P A Q C b k : Nat) (l t : List UInt8) (w wx : World) : Prop := Chg A w wx ∧ RSk P A b (mix k l t) wx ∧ RSk Q C b t wx
theorem ref_merge_step {P A Q C b k : Nat} {l t : List UInt8} {w wx : World} (h : RMRel P A Q C b k l t w wx) (hl : l.length = t.length) (hk : k < l.length) (hQ : Q ≠ A) (hC : C ≠ A) (v : Int)
    (hv : v = if l[k].toNat ≤ (t[k]'(by omega)).toNat then ((t[k]'(by omega)).toNat : Int) else (l[k].toNat : Int)) : RMRel P A Q C b (k + 1) l t w (wx.setCell ⟨A, k, none⟩ (.int .i64 v)) := by
  obtain ⟨hCh, hS, hT⟩ := h
  have hm := mergeL_get hl k hk
  obtain ⟨x, hx⟩ : ∃ x, x = if l[k].toNat ≤ (t[k]'(by omega)).toNat then t[k]'(by omega) else l[k] := ⟨_, rfl⟩
  rw [← hx] at hm
  have hxv : v = (x.toNat : Int) := by rw [hv, hx]; split <;> rfl
  subst hxv
  refine ⟨hCh.set _ _, ?_, hT.chg ((Chg.refl A wx).set _ _) hQ hC⟩
  rw [← mix_set hl k hk x hm]
  exact hS.set k x (by rw [mix_length hl]; exact hk)
/-- What a merge comes to. -/
def RefMer (P A b : Nat) (l : List UInt8) (w : World) (e : Ending) (w' : World) : Prop := e = .returned (.bool true) ∧ Chg A w w' ∧ RSk P A b l w'
set_option maxRecDepth 100000 in
set_option maxHeartbeats 4000000 in
theorem ref_merge_yes {P A Q C b : Nat} {l t : List UInt8} {w : World} (hS : RSk P A b l w) (hT : RSk Q C b t w) (hQ : Q ≠ A) (hC : C ≠ A) :
    Calls Tryd.prog 16 #[.pointer (some ⟨P, 0, none⟩), .pointer (some ⟨Q, 0, none⟩)] w (RefMer P A b (mergeL l t) w) := by
  have hM := pow_hi hS.lo hS.hi
  have hl := hS.len
  have ht := hT.len
  have hP0 := hS.ptr
  have hQ0 := hT.ptr
  have hrel0 : RMRel P A Q C b 0 l t w w := ⟨Chg.refl _ _, by rw [mix_zero]; exact hS, hT⟩
  obtain ⟨M, hMe⟩ : ∃ M, 2 ^ b = M := ⟨_, rfl⟩
  rw [hMe] at hM hl ht hP0 hQ0
  obtain ⟨hM1, hM2⟩ := hM
  have HME := Lib.hid hMe
  have HL := Lib.hid hl
  have HTL := Lib.hid ht
  have HLT := Lib.hid (hl.trans ht.symm)
  clear hS hT hMe hl ht
  go_enter Tryd.func16, Tryd.ntmps16
  go_wp2
  go_quiet (fail)
  have hrel1 : RMRel P A Q C b 0 l t w (w.drewN nq) := ⟨chg_drewN A w nq, hrel0.2.1.drewN nq, hrel0.2.2.drewN nq⟩
  clear hrel0 hP0 hQ0
  generalize w.drewN nq = W at *
  go_wp2_with fail
  go_loopw [5] (fun i wx => ∃ k : Nat, k ≤ M ∧ i = .int .i64 k ∧ RMRel P A Q C b k l t w wx) (fun i _ => M - (intOf i).toNat)
  case atStart => exact ⟨0, Nat.zero_le _, rfl, hrel1⟩
  case round =>
    obtain ⟨k, hk, rfl, hrel⟩ := hrel
    clear hrel1
    have hcP0 := hrel.2.1.ptr
    have hcQ0 := hrel.2.2.ptr
    rw [HME.out] at hcP0 hcQ0
    by_cases hlt : k < M
    · have hkl : k < l.length := by rw [HL.out]; exact hlt
      have hkt : k < t.length := by rw [HTL.out]; exact hlt
      have hcA0 : wr.cell? ⟨A, k, none⟩ = some (.int .i64 (l[k].toNat : Int)) := by
        have h1 := hrel.2.1.cell k (by rw [mix_length HLT.out]; exact hkl)
        have h2 := mix_at HLT.out k hkl
        rw [List.getElem?_eq_getElem (by rw [mix_length HLT.out]; exact hkl)] at h2
        rw [h1, Option.some.inj h2]
      have hcC0 := hrel.2.2.cell k hkt
      have hf0 := hrel.2.1.fro k (by rw [mix_length HLT.out]; exact hkl)
      obtain ⟨z, hz⟩ : ∃ z : Int, z = if l[k].toNat ≤ t[k].toNat then (t[k].toNat : Int) else (l[k].toNat : Int) := ⟨_, rfl⟩
      have hstep := fun wx h => ref_merge_step (wx := wx) (P := P) (A := A) (Q := Q) (C := C) (b := b) (w := w) h HLT.out hkl hQ hC z hz
      have hzm : max (l[k].toNat : Int) (t[k].toNat : Int) = z := by rw [hz]; split <;> omega
      have HST := Lib.hid hstep
      have HREL := Lib.hid hrel
      have hcPL : P < wr.drew.heap.size := hrel.2.1.ltP
      have hcQL : Q < wr.drew.heap.size := hrel.2.2.ltP
      have hcAL : A < wr.drew.heap.size := hrel.2.1.ltA
      have hcCL : C < wr.drew.heap.size := hrel.2.2.ltA
      generalize (l[k].toNat : Int) = x at *
      generalize (t[k].toNat : Int) = y at *
      have hcP : wr.drew.cell? ⟨P, 0, none⟩ = some (.slice (some ⟨A, 0, none⟩) M M) := hcP0
      have hcQ : wr.drew.cell? ⟨Q, 0, none⟩ = some (.slice (some ⟨C, 0, none⟩) M M) := hcQ0
      have hcA : wr.drew.cell? ⟨A, k, none⟩ = some (.int .i64 x) := hcA0
      have hcC : wr.drew.cell? ⟨C, k, none⟩ = some (.int .i64 y) := hcC0
      have hf : wr.drew.frozen? ⟨A, k, none⟩ = false := hf0
      clear hstep hrel hz hkl hkt
      go_wp2_with fail
      refine Reg.wp_region_last (n := 47) 21 (MerPhi P A Q C M k x y z) (by kernel_rfl) rfl (by kernel_rfl) (by kernel_rfl) rfl MerPhi.stays ?_ ?_
      · refine ⟨?_, ?_, ?_, ?_, ?_, ?_, ?_, ?_, ?_, ?_, ?_, ?_, ?_, ?_, ?_, ?_, ?_, ?_, ?_, ?_, ?_, ?_, trivial⟩
        · intro _ cx wc hB hp hs
          have g0 : cx.tmps[0]? = some (.pointer (some ⟨P, 0, none⟩)) := (hs 0 (by kernel_rfl)).trans rfl
          refine Reg.ok_value Reg.Old.refl (v := .pointer (some ⟨P, 0, none⟩)) (Reg.wanted_none rfl) ?_ rfl
          go_simp
        · intro _ cx wc hB hp hs
          have g26 : cx.tmps[26]? = some (.pointer (some ⟨P, 0, none⟩)) := by obtain ⟨_, g, hv⟩ := Reg.pred hp 0 26 (by kernel_rfl) rfl rfl; exact g.trans (congrArg some hv)
          refine Reg.ok_value Reg.Old.refl (v := .pointer (some ⟨P, 0, none⟩)) (Reg.wanted_none rfl) ?_ rfl
          go_simp
        · intro _ cx wc hB hp hs
          have g27 : cx.tmps[27]? = some (.pointer (some ⟨P, 0, none⟩)) := by obtain ⟨_, g, hv⟩ := Reg.pred hp 1 27 (by kernel_rfl) rfl rfl; exact g.trans (congrArg some hv)
          refine Reg.ok_value Reg.Old.refl (v := .pointer (some ⟨P, 0, none⟩)) (Reg.wanted_none rfl) ?_ rfl
          go_simp
        · intro _ cx wc hB hp hs
          have g28 : cx.tmps[28]? = some (.pointer (some ⟨P, 0, none⟩)) := by obtain ⟨_, g, hv⟩ := Reg.pred hp 2 28 (by kernel_rfl) rfl rfl; exact g.trans (congrArg some hv)
          have kx : wc.cell? ⟨P, 0, none⟩ = some (.slice (some ⟨A, 0, none⟩) M M) := (Below.cell (p := ⟨P, 0, none⟩) hB hcPL).trans hcP
          refine Reg.ok_value Reg.Old.refl (v := .slice (some ⟨A, 0, none⟩) M M) (Reg.wanted_none rfl) ?_ rfl
          go_simp
        · intro _ cx wc hB hp hs
          have g5 : cx.tmps[5]? = some (.int .i64 k) := (hs 5 (by kernel_rfl)).trans rfl
          refine Reg.ok_value Reg.Old.refl (v := .int .i64 k) (Reg.wanted_none rfl) ?_ rfl
          go_simp
        · intro _ cx wc hB hp hs
          have g0 : cx.tmps[0]? = some (.pointer (some ⟨P, 0, none⟩)) := (hs 0 (by kernel_rfl)).trans rfl
          refine Reg.ok_value Reg.Old.refl (v := .pointer (some ⟨P, 0, none⟩)) (Reg.wanted_none rfl) ?_ rfl
          go_simp
        · intro _ cx wc hB hp hs
          have g31 : cx.tmps[31]? = some (.pointer (some ⟨P, 0, none⟩)) := by obtain ⟨_, g, hv⟩ := Reg.pred hp 5 31 (by kernel_rfl) rfl rfl; exact g.trans (congrArg some hv)
          refine Reg.ok_value Reg.Old.refl (v := .pointer (some ⟨P, 0, none⟩)) (Reg.wanted_none rfl) ?_ rfl
          go_simp
        · intro _ cx wc hB hp hs
          have g32 : cx.tmps[32]? = some (.pointer (some ⟨P, 0, none⟩)) := by obtain ⟨_, g, hv⟩ := Reg.pred hp 6 32 (by kernel_rfl) rfl rfl; exact g.trans (congrArg some hv)
          refine Reg.ok_value Reg.Old.refl (v := .pointer (some ⟨P, 0, none⟩)) (Reg.wanted_none rfl) ?_ rfl
          go_simp
        · intro _ cx wc hB hp hs
          have g33 : cx.tmps[33]? = some (.pointer (some ⟨P, 0, none⟩)) := by obtain ⟨_, g, hv⟩ := Reg.pred hp 7 33 (by kernel_rfl) rfl rfl; exact g.trans (congrArg some hv)
          have kx : wc.cell? ⟨P, 0, none⟩ = some (.slice (some ⟨A, 0, none⟩) M M) := (Below.cell (p := ⟨P, 0, none⟩) hB hcPL).trans hcP
          refine Reg.ok_value Reg.Old.refl (v := .slice (some ⟨A, 0, none⟩) M M) (Reg.wanted_none rfl) ?_ rfl
          go_simp
        · intro _ cx wc hB hp hs
          have g5 : cx.tmps[5]? = some (.int .i64 k) := (hs 5 (by kernel_rfl)).trans rfl
          refine Reg.ok_value Reg.Old.refl (v := .int .i64 k) (Reg.wanted_none rfl) ?_ rfl
          go_simp
        · intro _ cx wc hB hp hs
          have g34 : cx.tmps[34]? = some (.slice (some ⟨A, 0, none⟩) M M) := by obtain ⟨_, g, hv⟩ := Reg.pred hp 8 34 (by kernel_rfl) rfl rfl; exact g.trans (congrArg some hv)
          have g35 : cx.tmps[35]? = some (.int .i64 k) := by obtain ⟨_, g, hv⟩ := Reg.pred hp 9 35 (by kernel_rfl) rfl rfl; exact g.trans (congrArg some hv)
          have i0 : (0 : Int) ≤ (k : Int) := by omega
          have i1 : (k : Int) < (M : Int) := by omega
          refine Reg.ok_value Reg.Old.refl (v := .pointer (some ⟨A, k, none⟩)) (Reg.wanted_none rfl) ?_ rfl
          go_simp
        · intro _ cx wc hB hp hs
          have g36 : cx.tmps[36]? = some (.pointer (some ⟨A, k, none⟩)) := by obtain ⟨_, g, hv⟩ := Reg.pred hp 10 36 (by kernel_rfl) rfl rfl; exact g.trans (congrArg some hv)
          have kx : wc.cell? ⟨A, k, none⟩ = some (.int .i64 x) := (Below.cell (p := ⟨A, k, none⟩) hB hcAL).trans hcA
          refine Reg.ok_value Reg.Old.refl (v := .int .i64 x) (Reg.wanted_none rfl) ?_ rfl
          go_simp
        · intro _ cx wc hB hp hs
          have g1 : cx.tmps[1]? = some (.pointer (some ⟨Q, 0, none⟩)) := (hs 1 (by kernel_rfl)).trans rfl
          refine Reg.ok_value Reg.Old.refl (v := .pointer (some ⟨Q, 0, none⟩)) (Reg.wanted_none rfl) ?_ rfl
          go_simp
        · intro _ cx wc hB hp hs
          have g38 : cx.tmps[38]? = some (.pointer (some ⟨Q, 0, none⟩)) := by obtain ⟨_, g, hv⟩ := Reg.pred hp 12 38 (by kernel_rfl) rfl rfl; exact g.trans (congrArg some hv)
          refine Reg.ok_value Reg.Old.refl (v := .pointer (some ⟨Q, 0, none⟩)) (Reg.wanted_none rfl) ?_ rfl
          go_simp
        · intro _ cx wc hB hp hs
          have g39 : cx.tmps[39]? = some (.pointer (some ⟨Q, 0, none⟩)) := by obtain ⟨_, g, hv⟩ := Reg.pred hp 13 39 (by kernel_rfl) rfl rfl; exact g.trans (congrArg some hv)
          refine Reg.ok_value Reg.Old.refl (v := .pointer (some ⟨Q, 0, none⟩)) (Reg.wanted_none rfl) ?_ rfl
          go_simp
        · intro _ cx wc hB hp hs
          have g40 : cx.tmps[40]? = some (.pointer (some ⟨Q, 0, none⟩)) := by obtain ⟨_, g, hv⟩ := Reg.pred hp 14 40 (by kernel_rfl) rfl rfl; exact g.trans (congrArg some hv)
          have kx : wc.cell? ⟨Q, 0, none⟩ = some (.slice (some ⟨C, 0, none⟩) M M) := (Below.cell (p := ⟨Q, 0, none⟩) hB hcQL).trans hcQ
          refine Reg.ok_value Reg.Old.refl (v := .slice (some ⟨C, 0, none⟩) M M) (Reg.wanted_none rfl) ?_ rfl
          go_simp
        · intro _ cx wc hB hp hs
          have g5 : cx.tmps[5]? = some (.int .i64 k) := (hs 5 (by kernel_rfl)).trans rfl
          refine Reg.ok_value Reg.Old.refl (v := .int .i64 k) (Reg.wanted_none rfl) ?_ rfl
          go_simp
        · intro _ cx wc hB hp hs
          have g41 : cx.tmps[41]? = some (.slice (some ⟨C, 0, none⟩) M M) := by obtain ⟨_, g, hv⟩ := Reg.pred hp 15 41 (by kernel_rfl) rfl rfl; exact g.trans (congrArg some hv)
          have g42 : cx.tmps[42]? = some (.int .i64 k) := by obtain ⟨_, g, hv⟩ := Reg.pred hp 16 42 (by kernel_rfl) rfl rfl; exact g.trans (congrArg some hv)
          have i0 : (0 : Int) ≤ (k : Int) := by omega
          have i1 : (k : Int) < (M : Int) := by omega
          refine Reg.ok_value Reg.Old.refl (v := .pointer (some ⟨C, k, none⟩)) (Reg.wanted_none rfl) ?_ rfl
          go_simp
        · intro _ cx wc hB hp hs
          have g43 : cx.tmps[43]? = some (.pointer (some ⟨C, k, none⟩)) := by obtain ⟨_, g, hv⟩ := Reg.pred hp 17 43 (by kernel_rfl) rfl rfl; exact g.trans (congrArg some hv)
          have kx : wc.cell? ⟨C, k, none⟩ = some (.int .i64 y) := (Below.cell (p := ⟨C, k, none⟩) hB hcCL).trans hcC
          refine Reg.ok_value Reg.Old.refl (v := .int .i64 y) (Reg.wanted_none rfl) ?_ rfl
          go_simp
        · intro _ cx wc hB hp hs
          have g37 : cx.tmps[37]? = some (.int .i64 x) := by obtain ⟨_, g, hv⟩ := Reg.pred hp 11 37 (by kernel_rfl) rfl rfl; exact g.trans (congrArg some hv)
          have g44 : cx.tmps[44]? = some (.int .i64 y) := by obtain ⟨_, g, hv⟩ := Reg.pred hp 18 44 (by kernel_rfl) rfl rfl; exact g.trans (congrArg some hv)
          refine Reg.ok_value Reg.Old.refl (v := .int .i64 z) (Reg.wanted_none rfl) ?_ rfl
          go_simp
        · intro _ cx wc hB hp hs
          have g29 : cx.tmps[29]? = some (.slice (some ⟨A, 0, none⟩) M M) := by obtain ⟨_, g, hv⟩ := Reg.pred hp 3 29 (by kernel_rfl) rfl rfl; exact g.trans (congrArg some hv)
          have g30 : cx.tmps[30]? = some (.int .i64 k) := by obtain ⟨_, g, hv⟩ := Reg.pred hp 4 30 (by kernel_rfl) rfl rfl; exact g.trans (congrArg some hv)
          have i0 : (0 : Int) ≤ (k : Int) := by omega
          have i1 : (k : Int) < (M : Int) := by omega
          refine Reg.ok_value Reg.Old.refl (v := .pointer (some ⟨A, k, none⟩)) (Reg.wanted_none rfl) ?_ rfl
          go_simp
        · exact fun h => absurd rfl h
      · intro c wc hB hsz hdf hv ho
        have hfr := Reg.frame_eq [_, _, _, _, _, _, _, _, _, _, _, _, _, _, _, _, _, _, _, _, _, _, _, _, _, _, .pointer (some ⟨P, 0, none⟩), .pointer (some ⟨P, 0, none⟩), .pointer (some ⟨P, 0, none⟩), .slice (some ⟨A, 0, none⟩) M M, .int .i64 k, .pointer (some ⟨P, 0, none⟩), .pointer (some ⟨P, 0, none⟩), .pointer (some ⟨P, 0, none⟩), .slice (some ⟨A, 0, none⟩) M M, .int .i64 k, .pointer (some ⟨A, k, none⟩), .int .i64 x, .pointer (some ⟨Q, 0, none⟩), .pointer (some ⟨Q, 0, none⟩), .pointer (some ⟨Q, 0, none⟩), .slice (some ⟨C, 0, none⟩) M M, .int .i64 k, .pointer (some ⟨C, k, none⟩), .int .i64 y, .int .i64 z, .pointer (some ⟨A, k, none⟩)] (by simpa using hsz) hdf ⟨((Reg.kept_but ho 0 (by kernel_rfl)).trans rfl), ((Reg.kept_but ho 1 (by kernel_rfl)).trans rfl), ((Reg.kept_but ho 2 (by kernel_rfl)).trans rfl), ((Reg.kept_but ho 3 (by kernel_rfl)).trans rfl), ((Reg.kept_but ho 4 (by kernel_rfl)).trans rfl), ((Reg.kept_but ho 5 (by kernel_rfl)).trans rfl), ((Reg.kept_but ho 6 (by kernel_rfl)).trans rfl), ((Reg.kept_but ho 7 (by kernel_rfl)).trans rfl), ((Reg.kept_but ho 8 (by kernel_rfl)).trans rfl), ((Reg.kept_but ho 9 (by kernel_rfl)).trans rfl), ((Reg.kept_but ho 10 (by kernel_rfl)).trans rfl), ((Reg.kept_but ho 11 (by kernel_rfl)).trans rfl), ((Reg.kept_but ho 12 (by kernel_rfl)).trans rfl), ((Reg.kept_but ho 13 (by kernel_rfl)).trans rfl), ((Reg.kept_but ho 14 (by kernel_rfl)).trans rfl), ((Reg.kept_but ho 15 (by kernel_rfl)).trans rfl), ((Reg.kept_but ho 16 (by kernel_rfl)).trans rfl), ((Reg.kept_but ho 17 (by kernel_rfl)).trans rfl), ((Reg.kept_but ho 18 (by kernel_rfl)).trans rfl), ((Reg.kept_but ho 19 (by kernel_rfl)).trans rfl), ((Reg.kept_but ho 20 (by kernel_rfl)).trans rfl), ((Reg.kept_but ho 21 (by kernel_rfl)).trans rfl), ((Reg.kept_but ho 22 (by kernel_rfl)).trans rfl), ((Reg.kept_but ho 23 (by kernel_rfl)).trans rfl), ((Reg.kept_but ho 24 (by kernel_rfl)).trans rfl), ((Reg.kept_but ho 25 (by kernel_rfl)).trans rfl), (by obtain ⟨_, g, hx⟩ := hv 0 _ 26 (by decide) rfl rfl; exact g.trans (congrArg some hx)), (by obtain ⟨_, g, hx⟩ := hv 1 _ 27 (by decide) rfl rfl; exact g.trans (congrArg some hx)), (by obtain ⟨_, g, hx⟩ := hv 2 _ 28 (by decide) rfl rfl; exact g.trans (congrArg some hx)), (by obtain ⟨_, g, hx⟩ := hv 3 _ 29 (by decide) rfl rfl; exact g.trans (congrArg some hx)), (by obtain ⟨_, g, hx⟩ := hv 4 _ 30 (by decide) rfl rfl; exact g.trans (congrArg some hx)), (by obtain ⟨_, g, hx⟩ := hv 5 _ 31 (by decide) rfl rfl; exact g.trans (congrArg some hx)), (by obtain ⟨_, g, hx⟩ := hv 6 _ 32 (by decide) rfl rfl; exact g.trans (congrArg some hx)), (by obtain ⟨_, g, hx⟩ := hv 7 _ 33 (by decide) rfl rfl; exact g.trans (congrArg some hx)), (by obtain ⟨_, g, hx⟩ := hv 8 _ 34 (by decide) rfl rfl; exact g.trans (congrArg some hx)), (by obtain ⟨_, g, hx⟩ := hv 9 _ 35 (by decide) rfl rfl; exact g.trans (congrArg some hx)), (by obtain ⟨_, g, hx⟩ := hv 10 _ 36 (by decide) rfl rfl; exact g.trans (congrArg some hx)), (by obtain ⟨_, g, hx⟩ := hv 11 _ 37 (by decide) rfl rfl; exact g.trans (congrArg some hx)), (by obtain ⟨_, g, hx⟩ := hv 12 _ 38 (by decide) rfl rfl; exact g.trans (congrArg some hx)), (by obtain ⟨_, g, hx⟩ := hv 13 _ 39 (by decide) rfl rfl; exact g.trans (congrArg some hx)), (by obtain ⟨_, g, hx⟩ := hv 14 _ 40 (by decide) rfl rfl; exact g.trans (congrArg some hx)), (by obtain ⟨_, g, hx⟩ := hv 15 _ 41 (by decide) rfl rfl; exact g.trans (congrArg some hx)), (by obtain ⟨_, g, hx⟩ := hv 16 _ 42 (by decide) rfl rfl; exact g.trans (congrArg some hx)), (by obtain ⟨_, g, hx⟩ := hv 17 _ 43 (by decide) rfl rfl; exact g.trans (congrArg some hx)), (by obtain ⟨_, g, hx⟩ := hv 18 _ 44 (by decide) rfl rfl; exact g.trans (congrArg some hx)), (by obtain ⟨_, g, hx⟩ := hv 19 _ 45 (by decide) rfl rfl; exact g.trans (congrArg some hx)), (by obtain ⟨_, g, hx⟩ := hv 20 _ 46 (by decide) rfl rfl; exact g.trans (congrArg some hx)), trivial⟩
        subst hfr
        have kx : wc.cell? ⟨A, k, none⟩ = some (.int .i64 x) := (Below.cell (p := ⟨A, k, none⟩) hB hcAL).trans hcA
        have fx : wc.frozen? ⟨A, k, none⟩ = false := (Below.frozen (p := ⟨A, k, none⟩) hB hcAL).trans hf
        have hrelc : RMRel P A Q C b k l t w wc := ⟨HREL.out.1.drew.trans (Chg.of hB), (HREL.out.2.1.drewN 1).below hB, (HREL.out.2.2.drewN 1).below hB⟩
        have hrel2 := HST.out wc hrelc
        refine Reg.store_then (w2 := wc.setCell ⟨A, k, none⟩ (.int .i64 z)) ?_ rfl ?_
        · go_simp
        clear kx fx hv ho hB hrelc
        generalize wc.setCell ⟨A, k, none⟩ (.int .i64 z) = wd at *
        go_wp2
        exact ⟨⟨k + 1, by omega, by go_num, hrel2⟩, by simp [intOf]; omega⟩
    · obtain rfl : k = M := by omega
      have hend : RefMer P A b (mergeL l t) w (.returned (.bool true)) wr := ⟨rfl, hrel.1, by rw [← mix_all HLT.out, HL.out]; exact hrel.2.1⟩
      have HE := Lib.hid hend
      clear hend hrel
      go_wp2
      go_ret
      exact HE.out
set_option maxRecDepth 100000 in
set_option maxHeartbeats 2000000 in
theorem ref_merge_no {P A Q C b c : Nat} {l t : List UInt8} {w : World} (hS : RSk P A b l w) (hT : RSk Q C c t w) (hbc : ¬ c = b) :
    Calls Tryd.prog 16 #[.pointer (some ⟨P, 0, none⟩), .pointer (some ⟨Q, 0, none⟩)] w (Drawn (.bool false) w) := by
  have hP := hS.ptr
  have hQ := hT.ptr
  have hne : ¬ ((2 ^ c : Nat) : Int) = ((2 ^ b : Nat) : Int) := fun h => by
    have h0 : 2 ^ c = 2 ^ b := Int.ofNat.inj h
    rcases Nat.lt_or_gt_of_ne hbc with h1 | h1
    · exact Nat.ne_of_lt (Nat.pow_lt_pow_right (show 1 < 2 by decide) h1) h0
    · exact Nat.ne_of_gt (Nat.pow_lt_pow_right (show 1 < 2 by decide) h1) h0
  clear hS hT
  generalize 2 ^ b = M at *
  generalize 2 ^ c = K at *
  go_enter Tryd.func16, Tryd.ntmps16
  go_wp2
  go_quiet (fail)
  go_wp2
  go_ret
  exact ⟨rfl, nq, rfl⟩
end Go.Proofs.YtdcjfefnkjdchaaDoor
