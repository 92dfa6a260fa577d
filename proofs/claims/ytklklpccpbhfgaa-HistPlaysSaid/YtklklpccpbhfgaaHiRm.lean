/- The chapter's own: so many more stand in a bucket. -/
import Derived.Test.YtklklpccpbhfgaaHiRef
import Derived.BigQuiet
import Derived.BigRegion
import Derived.RegionTactic
namespace Go.Proofs.Ytklklpccpbhfgaa
open Go Go.RowKit

theorem info_ritem : (Try.prog.info? 83).map (fun i => (i.zero, i.size, i.bytes)) = some (some (.agg #[.int .i64 0, .int .u64 0]), 2, 16) := by kernel_rfl
/-- Items that an append takes. -/
def SrcI (w : World) (p : Option Addr) (c : Nat) (xs : List Hit) : Prop :=
  (p = none ∧ xs = [] ∧ c = 0) ∨ ∃ a, p = some a ∧ ∀ j u, (flat xs)[j]? = some u → w.cell? (a.add j) = some u
theorem append_rits {B : Nat} {v : Value} {l xs : List Hit} {p : Option Addr} {c : Nat} {w : World} (ty : TypeId) (hO : Its B 83 v l w) (hS : SrcI w p c xs) (hlen : l.length + xs.length ≤ 1000000) (hB : B ≤ w.heap.size) :
    ∃ v' w', (Builtin.append_ #[75, 75] ty #[v, .slice p xs.length c]).run Try.prog w = .ok v' w' ∧ Its B 83 v' (l ++ xs) w' ∧ Mov (fun j => v.ownBlock = some j) w w' ∧ ∀ g, v'.ownBlock = some g → v.ownBlock = some g ∨ w.heap.size ≤ g := by
  obtain ⟨i, hi, hz⟩ := Option.map_eq_some_iff.1 info_ritem
  simp only [Prod.mk.injEq] at hz
  obtain ⟨hz0, hz1, hz2⟩ := hz
  rcases hS with ⟨rfl, rfl, rfl⟩ | ⟨a, rfl, hc⟩
  · exact ⟨v, w, run_append_owned_none (P := Try.prog) (w := w) B 75 ty 83 i 2 Try.underlying75 hi v l.length (flat l) hO, by rw [List.append_nil]; exact hO, Mov.refl _ _, fun _ h => .inl h⟩
  · obtain ⟨v', w', h1, h2, h3, h4⟩ := run_append_at (P := Try.prog) w B 75 ty 83 i _ 2 16 Try.underlying75 hi hz0 hz1 hz2 rfl (by decide) v l.length (flat l) hO a xs.length c (flat xs) (flatv_length xs) hc
      (oneCells xs) (by unfold maxLen; omega) (by omega) hB
    refine ⟨v', w', h1, ?_, Mov.grown h3, h4⟩
    unfold Its
    rw [List.length_append, flat_append]
    exact h2
theorem Its.src_take {B T : Nat} {p : Option Addr} {cap : Nat} {xs : List Hit} {w : World} (h : Its B T (.slice p xs.length cap) xs w) (k : Nat) : SrcI w p cap (xs.take k) := by
  rcases h.form with ⟨e, rfl⟩ | ⟨g, c', e, _, _, _, _, hc, _⟩
  · simp only [Value.slice.injEq] at e
    obtain ⟨rfl, _, rfl⟩ := e
    exact .inl ⟨rfl, by simp, rfl⟩
  · simp only [Value.slice.injEq] at e
    obtain ⟨rfl, _, rfl⟩ := e
    refine .inr ⟨_, rfl, fun j u hu => ?_⟩
    rw [← flat_take, List.getElem?_take] at hu
    split at hu
    · rw [Addr.add_lit, Nat.zero_add, World.ownsRow.cellAt h j (by have := (List.getElem?_eq_some_iff.1 hu).1; rw [flatv_length] at this; exact this)]
      exact hu
    · cases hu
theorem Its.src_drop {B T : Nat} {g cap : Nat} {xs : List Hit} {w : World} (h : Its B T (.slice (some ⟨g, 0, none⟩) xs.length cap) xs w) (k c : Nat) : SrcI w (some ⟨g, k * 2, none⟩) c (xs.drop k) := by
  refine .inr ⟨_, rfl, fun j u hu => ?_⟩
  rw [← flat_drop, List.getElem?_drop] at hu
  rw [Addr.add_lit, World.ownsRow.cellAt h (k * 2 + j) (by have := (List.getElem?_eq_some_iff.1 hu).1; rw [flatv_length] at this; exact this)]
  exact hu
theorem flat_set2 (l : List Hit) (i : Nat) (m : Nat) (h : i < l.length) : flat (l.set i ⟨l[i]!.at_, m⟩) = (flat l).set (i * 2 + 1) (.int .u64 m) := flat_set_many l i m h
/-- What a call without an answer leaves. -/
def LeftU (base T B k : Nat) (v : Value) (l' : List Hit) (w : World) (e : Ending) (w' : World) : Prop := ∃ r, Left base T B k v l' r w e w'
set_option maxRecDepth 100000 in
set_option maxHeartbeats 4000000 in
theorem ref_more_found {base B k : Nat} {v : Value} {l : List Hit} {w : World} (h : Hs base 83 B k v l w) (x : Hit) (hx : Fits k x.at_) (hp : 0 < x.many) (hs : countH l + x.many ≤ 1099511627776) (hcl : cutH x.at_ l < l.length) (he : l[cutH x.at_ l]!.at_ = x.at_) :
    Calls Try.prog 41 #[.pointer (some ⟨B, 0, none⟩), .agg #[.int .i64 x.at_, .int .u64 x.many]] w (LeftU base 83 B k v (more x l) w) := by
  have hI := h.inv.more hx hp hs
  have hmo : more x l = l.set (cutH x.at_ l) ⟨l[cutH x.at_ l]!.at_, l[cutH x.at_ l]!.many + x.many⟩ := more_found (a := x.at_) (m := x.many) hcl he
  rw [hmo] at hI ⊢
  have hlen := h.inv.len
  have hmany := h.inv.many hcl
  obtain ⟨g, cap, rfl, hb, hg, hcap, hmax, hcell, hfro⟩ := h.row.form_pos (by omega)
  have H1 := Lib.hid (fun i hi => cutH_lt x.at_ l i hi)
  obtain ⟨c, hc⟩ : ∃ c, cutH x.at_ l = c := ⟨_, rfl⟩
  rw [hc] at hcl he hI hmo H1 hmany ⊢
  obtain ⟨a, m⟩ := x
  simp only at *
  have hml : m ≤ 1099511627776 := by omega
  have hsl : l[c]!.many ≤ 1099511627776 - m := by have := many_le_count (at_mem hcl); omega
  have hst := fun (W : World) (hW : Its base 83 (.slice (some ⟨g, 0, none⟩) l.length cap) l W) => hW.store (l' := l.set c ⟨l[c]!.at_, l[c]!.many + m⟩) rfl (c * 2 + 1) (.int .u64 (l[c]!.many + m : Nat)) (by simp) (flat_set2 l c (l[c]!.many + m) hcl)
  have HST := Lib.hid hst
  have HH := Lib.hid h
  have HI := Lib.hid hI
  have HC := Lib.hid hcell
  have HF := Lib.hid hfro
  have HG := Lib.hid hg
  obtain ⟨n, hn⟩ : ∃ n, l.length = n := ⟨_, rfl⟩
  have HN := Lib.hid hn
  have c1 := h.c1
  have hBl := h.lt
  rw [hn] at c1 hcl hlen hcap
  clear h hI hcell hfro hst hmo hc hn hs hx hp hmax
  have hr0 : Below w.heap.size w (w.alloc (.cells #[.int .i64 a, .int .u64 m] 83)) := (Below.refl _ _).alloc (Nat.le_refl _) _
  have hX0 := CellsAt.new #[.int .i64 a, .int .u64 m] 83 w
  have HR0 := Lib.hid hr0
  have HX0 := Lib.hid hX0
  have HMN := Lib.hid hmany
  have HSL := Lib.hid hsl
  have HE := Lib.hid he
  clear hr0 hX0 hmany hsl he
  go_enter Try.func41, Try.ntmps41
  go_wp2
  obtain ⟨X, hX⟩ : ∃ X, w.heap.size = X := ⟨_, rfl⟩
  have HXE := Lib.hid hX
  rw [hX] at HX0
  rw [hX]
  clear hX
  generalize w.alloc (.cells #[.int .i64 a, .int .u64 m] 83) = W0 at *
  go_loopg [4] c (fun gk s4 wx => ∃ j : Nat, j + gk = c ∧ s4 = .int .i64 j ∧ Hid (Below w.heap.size w wx) ∧ Hid (CellsAt X #[.int .i64 a, .int .u64 m] wx))
  case atStart => exact ⟨0, by omega, rfl, HR0, HX0⟩
  case round =>
    clear HR0 HX0
    obtain ⟨j, hjc, rfl, HB, HX⟩ := hrel
    have k1 := (HB.out.cell (p := ⟨B, 1, none⟩) hBl).trans c1
    have x0 := HX.out.cell 0 _ rfl
    have x1 := HX.out.cell 1 _ rfl
    cases gk with
    | succ gk =>
      have hjc2 : j < c := by omega
      have hjn : j < n := by omega
      have hlt := H1.out j hjc2
      obtain ⟨d0, _⟩ := HC.out j (by rw [HN.out]; exact hjn)
      have e0 := (HB.out.cell (p := ⟨g, j * 2, none⟩) HG.out).trans d0
      obtain ⟨z, hz⟩ : ∃ z, l[j]!.at_ = z := ⟨_, rfl⟩
      rw [hz] at e0 hlt
      have t1 : decide ((j : Int) < (n : Int)) = true := decide_eq_true (by omega)
      have t2 : decide (j < n) = true := decide_eq_true hjn
      have t3 : decide (z < a) = true := decide_eq_true hlt
      clear d0 hz hlt
      go_wp2
      go_quiet (fail)
      have HBz := Lib.hid (below_drewN' HB.out nq)
      have HXz := Lib.hid (HX.out.below (below_drewN' (Below.refl _ _) nq))
      clear e0 k1 x0 x1 HB HX
      go_wp2
      go_roundg gk
      case measure => omega
      case rel => exact ⟨j + 1, by omega, by go_num, HBz, HXz⟩
    | zero =>
      obtain rfl : j = c := by omega
      obtain ⟨d0, d1⟩ := HC.out j (by rw [HN.out]; exact hcl)
      rw [HE.out] at d0
      obtain ⟨mm, hmm⟩ : ∃ mm, l[j]!.many = mm := ⟨_, rfl⟩
      have hm1 := HMN.out
      have hm2 := HSL.out
      rw [hmm] at d1 hm1 hm2
      have HMM := Lib.hid hmm
      obtain ⟨hm3, hm4⟩ := hm1
      have t1 : decide ((j : Int) < (n : Int)) = true := decide_eq_true (by omega)
      have t2 : decide (j < n) = true := decide_eq_true hcl
      have t3 : decide (a < a) = false := decide_eq_false (by omega)
      have e0 := (HB.out.cell (p := ⟨g, j * 2, none⟩) HG.out).trans d0
      have e1 := (HB.out.cell (p := ⟨g, j * 2 + 1, none⟩) HG.out).trans d1
      have f1 := (HB.out.frozen (p := ⟨g, j * 2 + 1, none⟩) HG.out).trans (HF.out (j * 2 + 1))
      clear hmm d0 d1
      go_wp2
      go_quiet (fail)
      generalize nq = n1 at *
      go_wp2
      go_quiet (fail)
      have HBz := Lib.hid (below_drewN' (below_drewN' HB.out n1) nq)
      have k2 : ((wr.drewN n1).drewN nq).cell? ⟨B, 1, none⟩ = some (.slice (some ⟨g, 0, none⟩) n cap) := k1
      have x2 : ((wr.drewN n1).drewN nq).cell? ⟨X, 1, none⟩ = some (.int .u64 m) := x1
      have e2 : ((wr.drewN n1).drewN nq).cell? ⟨g, j * 2 + 1, none⟩ = some (.int .u64 mm) := e1
      have f2 : ((wr.drewN n1).drewN nq).frozen? ⟨g, j * 2 + 1, none⟩ = false := f1
      clear k1 x0 x1 e0 e1 f1 HB HX t1 t2 t3
      generalize (wr.drewN n1).drewN nq = W5 at *
      have hjn : (j : Int) < (n : Int) := by omega
      go_wp2
      go_region
      all_goals
        go_wp2
        refine bodyPost_ret (v := .tuple #[]) (by simp [results, Try.results41, go_sem]) rfl ?_
        have hB5 : Below w.heap.size w W5 := HBz.out
        have hrow := HST.out W5 (HH.out.row.below hB5)
        rw [HMM.out] at hrow
        have hI2 := HI.out
        rw [HMM.out] at hI2
        rw [show ((mm + m : Nat) : Int) = (mm : Int) + (m : Int) by omega] at hrow
        rw [HMM.out]
        refine ⟨_, rfl, _, HH.out.rebuild (((Mov.ofB hB5).set (by rfl) _ _).drew) hI2 hrow.drew, ((Mov.ofB hB5).set (.inr rfl) _ _).drew, fun _ hg => .inl hg⟩
end Go.Proofs.Ytklklpccpbhfgaa
