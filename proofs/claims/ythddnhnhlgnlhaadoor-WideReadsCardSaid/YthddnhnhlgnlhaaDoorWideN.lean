/- wide's Neg, walked: its one statement draws its order. -/
import Derived.Test.YthddnhnhlgnlhaaDoorWideB
import Derived.Test.YthddnhnhlgnlhaaDoorReg
namespace Go.Proofs.YthddnhnhlgnlhaaDoor
open Go Go.RowKit

theorem neg_add (a : Int) (ha : InS a) (w : World) :
    Calls Tryd.prog 13 #[.agg #[.int .i64 (-1 - shi a), .int .u64 (18446744073709551615 - slo a)], sv 1] w fun e w' => e = .returned (sv (w128 (-a))) ∧ Below w.heap.size w w' := by
  have h := add_any (-1 - a) 1 ha.not (InS.small (by decide) (by decide)) w
  rw [w128_neg] at h
  rw [neg_hi ha, neg_lo a]
  exact h
theorem getD_of {a : Array Value} {t : Nat} {v : Value} (h : a[t]? = some v) : a.getD t undef = v := by
  rw [Array.getD_eq_getD_getElem?, h]; rfl
theorem two_of {vs : Array Value} {x y : Value} (h : vs.size = #[x, y].size) : ∃ v0 v1, vs = #[v0, v1] := by
  rcases vs with ⟨l⟩
  match l, h with
  | [a, b], _ => exact ⟨a, b, rfl⟩
def NegPhi (w : World) (a : Int) : Nat → Value → World → Prop
  | 9, _, wz => CellsAt (w.heap.size + 1) #[.int .i64 (shi (w128 (-a))), .int .u64 (slo (w128 (-a)))] wz
  | i, v, _ => v = ([.pointer (some ⟨w.heap.size, 0, none⟩), .int .i64 (shi a), .int .i64 (-1 - shi a), .pointer (some ⟨w.heap.size, 1, none⟩), .int .u64 (slo a), .int .u64 (18446744073709551615 - slo a), .agg #[.int .i64 (-1 - shi a), .int .u64 (18446744073709551615 - slo a)], sv 1, sv (w128 (-a)), undef] : List Value).getD i undef
theorem NegPhi.stays {w : World} {a : Int} : ∀ i v x y, NegPhi w a i v x → Reg.Puts w.heap.size (w.heap.size + 1) #[.int .i64 (shi (w128 (-a))), .int .u64 (slo (w128 (-a)))] x y → NegPhi w a i v y := by
  intro i v x y hv hB
  unfold NegPhi at *
  split at hv
  · exact hB.done hv
  · exact hv
set_option maxHeartbeats 1000000 in
theorem neg_any (a : Int) (ha : InS a) (w : World) :
    Calls Tryd.prog 15 #[sv a] w fun e w' => e = .returned (sv (w128 (-a))) ∧ Below w.heap.size w w' := by
  have a1 := shi_lo ha
  have a2 := shi_hi ha
  have a3 := slo_lo a
  have a4 := slo_hi a
  have n1 := not_i64 _ a1 a2
  have n2 := not_u64 _ a3 a4
  have HA := Lib.hid ha
  clear ha
  rw [show sv a = .agg #[.int .i64 (shi a), .int .u64 (slo a)] from rfl]
  go_enter Tryd.func15, Tryd.ntmps15
  go_wp2
  refine wp_gen (fun W => CellsAt w.heap.size #[.int .i64 (shi a), .int .u64 (slo a)] W ∧ CellsAt (w.heap.size + 1) #[.int .i64 0, .int .u64 0] W ∧ Below w.heap.size w W) ?_ ?_
  · exact ⟨(CellsAt.new _ _ _).past _, CellsAt.newAt _ _ _ _ (by simp), ((Below.refl _ _).alloc (Nat.le_refl _) _).alloc (by simp) _⟩
  intro W ⟨hA, hR, hB0⟩
  have hW := hB0.size
  refine Reg.wp_region_invG (n := 12) (Reg.Puts w.heap.size (w.heap.size + 1) #[.int .i64 (shi (w128 (-a))), .int .u64 (slo (w128 (-a)))]) (NegPhi w a) (by kernel_rfl) (by kernel_rfl) rfl Reg.Puts.refl (fun _ _ _ => Reg.Puts.trans) NegPhi.stays ?_ ?_
  · refine ⟨?_, ?_, ?_, ?_, ?_, ?_, ?_, ?_, ?_, ?_, trivial⟩
    · intro c wc hB hp hs
      have g1 : c.tmps[1]? = some (.pointer (some ⟨w.heap.size, 0, none⟩)) := (hs 1 (by kernel_rfl)).trans rfl
      refine Reg.ok_value Reg.Puts.refl (v := .pointer (some ⟨w.heap.size, 0, none⟩)) (Reg.wanted_none rfl) ?_ rfl
      go_simp
    · intro c wc hB hp hs
      have g3 : c.tmps[3]? = some (.pointer (some ⟨w.heap.size, 0, none⟩)) := by obtain ⟨_, g, hv⟩ := Reg.pred hp 0 3 (by kernel_rfl) rfl rfl; exact g.trans (congrArg some hv)
      have hc := hB.keep _ _ (by omega) hA.drew
      have k0 := hc.cell 0 (.int .i64 (shi a)) rfl
      refine Reg.ok_value Reg.Puts.refl (v := .int .i64 (shi a)) (Reg.wanted_none rfl) ?_ rfl
      go_simp
    · intro c wc hB hp hs
      have g4 : c.tmps[4]? = some (.int .i64 (shi a)) := by obtain ⟨_, g, hv⟩ := Reg.pred hp 1 4 (by kernel_rfl) rfl rfl; exact g.trans (congrArg some hv)
      refine Reg.ok_value Reg.Puts.refl (v := .int .i64 (-1 - shi a)) (Reg.wanted_none rfl) ?_ rfl
      go_simp
      exact n1
    · intro c wc hB hp hs
      have g1 : c.tmps[1]? = some (.pointer (some ⟨w.heap.size, 0, none⟩)) := (hs 1 (by kernel_rfl)).trans rfl
      refine Reg.ok_value Reg.Puts.refl (v := .pointer (some ⟨w.heap.size, 1, none⟩)) (Reg.wanted_none rfl) ?_ rfl
      go_simp
    · intro c wc hB hp hs
      have g6 : c.tmps[6]? = some (.pointer (some ⟨w.heap.size, 1, none⟩)) := by obtain ⟨_, g, hv⟩ := Reg.pred hp 3 6 (by kernel_rfl) rfl rfl; exact g.trans (congrArg some hv)
      have hc := hB.keep _ _ (by omega) hA.drew
      have k1 := hc.cell 1 (.int .u64 (slo a)) rfl
      refine Reg.ok_value Reg.Puts.refl (v := .int .u64 (slo a)) (Reg.wanted_none rfl) ?_ rfl
      go_simp
    · intro c wc hB hp hs
      have g7 : c.tmps[7]? = some (.int .u64 (slo a)) := by obtain ⟨_, g, hv⟩ := Reg.pred hp 4 7 (by kernel_rfl) rfl rfl; exact g.trans (congrArg some hv)
      refine Reg.ok_value Reg.Puts.refl (v := .int .u64 (18446744073709551615 - slo a)) (Reg.wanted_none rfl) ?_ rfl
      go_simp
      exact n2
    · intro c wc hB hp hs
      have g5 : c.tmps[5]? = some (.int .i64 (-1 - shi a)) := by obtain ⟨_, g, hv⟩ := Reg.pred hp 2 5 (by kernel_rfl) rfl rfl; exact g.trans (congrArg some hv)
      have g8 : c.tmps[8]? = some (.int .u64 (18446744073709551615 - slo a)) := by obtain ⟨_, g, hv⟩ := Reg.pred hp 5 8 (by kernel_rfl) rfl rfl; exact g.trans (congrArg some hv)
      refine Reg.ok_value Reg.Puts.refl (v := .agg #[.int .i64 (-1 - shi a), .int .u64 (18446744073709551615 - slo a)]) (Reg.wanted_none rfl) ?_ rfl
      go_simp
    · intro c wc hB hp hs
      refine Reg.ok_call (f := 25) (args := #[.int .i64 1]) (Reg.wanted_none rfl) (by go_simp) ((of_any 1 (by decide) (by decide) wc).mono ?_)
      rintro e w' ⟨rfl, hB2⟩
      exact ⟨_, rfl, Reg.Puts.of hB2 (Nat.le_trans hW hB.below.size), rfl⟩
    · intro c wc hB hp hs
      have g9 : c.tmps[9]? = some (.agg #[.int .i64 (-1 - shi a), .int .u64 (18446744073709551615 - slo a)]) := by obtain ⟨_, g, hv⟩ := Reg.pred hp 6 9 (by kernel_rfl) rfl rfl; exact g.trans (congrArg some hv)
      have g10 : c.tmps[10]? = some (sv 1) := by obtain ⟨_, g, hv⟩ := Reg.pred hp 7 10 (by kernel_rfl) rfl rfl; exact g.trans (congrArg some hv)
      refine Reg.ok_call (f := 13) (args := #[.agg #[.int .i64 (-1 - shi a), .int .u64 (18446744073709551615 - slo a)], sv 1]) (Reg.wanted_none rfl) (by go_simp) ((neg_add a HA.out wc).mono ?_)
      rintro e w' ⟨rfl, hB2⟩
      exact ⟨_, rfl, Reg.Puts.of hB2 (Nat.le_trans hW hB.below.size), rfl⟩
    · intro c wc hB hp hs
      have g2 : c.tmps[2]? = some (.pointer (some ⟨(w.heap.size + 1), 0, none⟩)) := (hs 2 (by kernel_rfl)).trans rfl
      have g11 : c.tmps[11]? = some (sv (w128 (-a))) := by obtain ⟨_, g, hv⟩ := Reg.pred hp 8 11 (by kernel_rfl) rfl rfl; exact g.trans (congrArg some hv)
      obtain ⟨vs, hv, hc⟩ := hB.shape ⟨#[.int .i64 0, .int .u64 0], rfl, hR.drew⟩
      obtain ⟨x0, x1, rfl⟩ := two_of hv
      have k0 := hc.cell 0 x0 rfl
      have k1 := hc.cell 1 x1 rfl
      have f0 := hc.fro 0 x0 rfl
      have f1 := hc.fro 1 x1 rfl
      refine Reg.ok_store (Reg.wanted_none rfl) ?_ (Reg.Puts.set2 (B := w.heap.size) (R := (w.heap.size + 1)) (x := .int .i64 (shi (w128 (-a)))) (y := .int .u64 (slo (w128 (-a)))) (by omega) ⟨#[x0, x1], rfl, hc⟩).1 (Reg.Puts.set2 (B := w.heap.size) (R := (w.heap.size + 1)) (x := .int .i64 (shi (w128 (-a)))) (y := .int .u64 (slo (w128 (-a)))) (by omega) ⟨#[x0, x1], rfl, hc⟩).2
      go_simp
  · intro c wc hB hsz hdf hv hn ho
    obtain ⟨v9, h9⟩ := hn 9 _ rfl rfl
    have hd : CellsAt (w.heap.size + 1) #[.int .i64 (shi (w128 (-a))), .int .u64 (slo (w128 (-a)))] wc := h9
    have g2 : c.tmps[2]? = some (.pointer (some ⟨w.heap.size + 1, 0, none⟩)) := (Reg.kept ho 2 (by kernel_rfl)).trans rfl
    have k0 := hd.cell 0 (.int .i64 (shi (w128 (-a)))) rfl
    have k1 := hd.cell 1 (.int .u64 (slo (w128 (-a)))) rfl
    have hE : Below w.heap.size w wc := (hB0.drew).trans hB.below
    clear hv hn ho hB hd
    go_wp2
    simp [bodyPost, results, Tryd.results15, go_sem, g2, k0, k1]
    exact ⟨hdf, hE⟩


theorem refNeg_any (a : Int) (ha : InS a) (w : World) :
    Calls Tryd.prog 16 #[sv a] w fun e w' => e = .returned (sv (w128 (-a))) ∧ Below w.heap.size w w' := by
  have a1 := shi_lo ha
  have a2 := shi_hi ha
  have a3 := slo_lo a
  have a4 := slo_hi a
  have n1 : bits .xor .u64 IntKind.u64.max (IntKind.u64.wrap (shi a)) = 18446744073709551615 - IntKind.u64.wrap (shi a) := not_u64 _ (by rw [IntKind.wrap_u64]; omega) (by rw [IntKind.wrap_u64]; omega)
  have n2 := not_u64 _ a3 a4
  have n3 : wrap64 (18446744073709551615 - IntKind.u64.wrap (shi a)) = shi (-1 - a) := by rw [IntKind.wrap_u64, ← neg_hi ha]; unfold wrap64; omega
  have h1 : sv (w128 (-a)) = sv (w128 (-1 - a + 1)) := by rw [w128_neg]
  have hI := ha.not
  have HC := fun w => refAdd_any (-1 - a) 1 ha.not (InS.small (by decide) (by decide)) w
  rw [h1]
  have e1 : sv 1 = .agg #[.int .i64 0, .int .u64 1] := by unfold sv; rw [show shi 1 = 0 by decide, show slo 1 = 1 by decide]
  have e2 := neg_lo a
  have HC2 : ∀ w, Calls Tryd.prog 14 #[.agg #[.int .i64 (shi (-1 - a)), .int .u64 (18446744073709551615 - slo a)], .agg #[.int .i64 0, .int .u64 1]] w fun e w' => e = .returned (sv (w128 (-1 - a + 1))) ∧ Below w.heap.size w w' := fun w => by
    rw [e2, ← e1]
    exact HC w
  clear HC e1 e2 h1 hI
  rw [show sv a = .agg #[.int .i64 (shi a), .int .u64 (slo a)] from rfl]
  go_enter Tryd.func16, Tryd.ntmps16
  go_wp2_with fail
  refine (HC2 _).mono ?_
  rintro e w1 ⟨rfl, hB⟩
  have hR : CellsAt (w.heap.size + 1) #[.int .i64 0, .int .u64 0] w1 := ((CellsAt.newAt _ _ _ _ (by simp)).past _).below hB
  have hE : Below w.heap.size w w1 := ((((Below.refl _ _).alloc (Nat.le_refl _) _).alloc (by simp) _).alloc (by simp; omega) _).trans (hB.mono (by simp; omega))
  have c0 := hR.cell 0 (.int .i64 0) rfl
  have c1 := hR.cell 1 (.int .u64 0) rfl
  have f0 := hR.fro 0 (.int .i64 0) rfl
  have f1 := hR.fro 1 (.int .u64 0) rfl
  clear HC2
  go_wp2
  have hD := (hR.set 0 (.int .i64 (shi (w128 (-1 - a + 1)))) (by simp)).set 1 (.int .u64 (slo (w128 (-1 - a + 1)))) (by simp)
  have k0 := hD.cell 0 (.int .i64 (shi (w128 (-1 - a + 1)))) rfl
  have k1 := hD.cell 1 (.int .u64 (slo (w128 (-1 - a + 1)))) rfl
  simp [bodyPost, results, Tryd.results16, go_sem, k0, k1]
  exact (hE.setCell (by simp) _).setCell (by simp) _
end Go.Proofs.YthddnhnhlgnlhaaDoor
