/- Sums of 128 bits as integers: the two words of one, what it is when it has gone round, its sign, its digits. No program in this text. The small functions of wide, walked: Of, Add, Neg, Less, Sign. wide's Neg, walked: its one statement draws its order. -/
import Derived.Test.YtmjipafhahggpaaDoorChecked
import Derived.WalkKit
import Derived.Lib.Itoa
import Derived.Lib.ItoaNum
import Derived.Below
import Derived.Laws.BitsAllLaws
import Derived.Test.YtmjipafhahggpaaDoorMCells
import Derived.IntWalk
import Derived.Laws.Bits64
import Derived.Laws.Bits64b
import Derived.Laws.Externs
import Derived.Lib.Hide
import Derived.BigRegion
import Derived.Deep.RegionWith
import Derived.WalkSpells
import Derived.Test.YtmjipafhahggpaaDoorMReg
namespace Go.Proofs.YtmjipafhahggpaaDoor.Wi
open Go Go.RowKit

/-- The high word and the low one. -/
def shi (z : Int) : Int := z / 18446744073709551616
def slo (z : Int) : Int := z % 18446744073709551616
/-- Within 128 bits. -/
def InS (z : Int) : Prop := -170141183460469231731687303715884105728 ≤ z ∧ z < 170141183460469231731687303715884105728
/-- Modulo 2^128. -/
def w128 (z : Int) : Int := (z + 170141183460469231731687303715884105728) % 340282366920938463463374607431768211456 - 170141183460469231731687303715884105728
def ssgn (z : Int) : Int := if z < 0 then -1 else if z = 0 then 0 else 1

theorem w128_in (z : Int) : InS (w128 z) := by unfold InS w128; omega
theorem w128_of {z : Int} (h : InS z) : w128 z = z := by unfold InS at h; unfold w128; omega
theorem shi_lo {z : Int} (h : InS z) : -9223372036854775808 ≤ shi z := by unfold InS at h; unfold shi; omega
theorem shi_hi {z : Int} (h : InS z) : shi z ≤ 9223372036854775807 := by unfold InS at h; unfold shi; omega
theorem slo_lo (z : Int) : 0 ≤ slo z := by unfold slo; omega
theorem slo_hi (z : Int) : slo z ≤ 18446744073709551615 := by unfold slo; omega
theorem of_parts (z : Int) : z = shi z * 18446744073709551616 + slo z := by unfold shi slo; omega
theorem parts_of {h l : Int} (h1 : -9223372036854775808 ≤ h) (h2 : h ≤ 9223372036854775807) (l1 : 0 ≤ l) (l2 : l ≤ 18446744073709551615) :
    InS (h * 18446744073709551616 + l) ∧ shi (h * 18446744073709551616 + l) = h ∧ slo (h * 18446744073709551616 + l) = l := by
  unfold InS shi slo; omega
theorem parts_inj {y z : Int} (h1 : shi y = shi z) (h2 : slo y = slo z) : y = z := by unfold shi slo at *; omega

/-- A sum as Go's struct has it. -/
abbrev sv (z : Int) : Value := .agg #[.int .i64 (shi z), .int .u64 (slo z)]
theorem sv_eq {y z : Int} (h : y = z) : sv y = sv z := by rw [h]

theorem shi_of {n : Int} (h1 : -9223372036854775808 ≤ n) (h2 : n ≤ 9223372036854775807) : shi n = n / 9223372036854775808 := by unfold shi; omega

theorem add_hi (a b : Int) : wrap64 (wrap64 (shi a + shi b) + (slo a + slo b) / 18446744073709551616) = shi (w128 (a + b)) := by
  unfold wrap64 shi slo w128
  omega
theorem add_lo (a b : Int) : (slo a + slo b) % 18446744073709551616 = slo (w128 (a + b)) := by
  unfold slo w128
  omega

theorem neg_hi {a : Int} (_ : InS a) : -1 - shi a = shi (-1 - a) := by unfold shi; omega
theorem neg_lo (a : Int) : 18446744073709551615 - slo a = slo (-1 - a) := by unfold slo; omega
theorem not_i64 (x : Int) (h1 : -9223372036854775808 ≤ x) (h2 : x ≤ 9223372036854775807) : bits .xor .i64 (-1) x = -1 - x := by
  show IntKind.i64.wrap ((BitVec.ofInt 64 (-1) ^^^ BitVec.ofInt 64 x).toNat : Int) = _
  have e : BitVec.ofInt 64 (-1) = BitVec.allOnes 64 := by decide
  rw [e, BitVec.allOnes_xor, BitVec.toNat_not, BitVec.toNat_ofInt]
  simp [IntKind.wrap, IntKind.bits, IntKind.signed]
  omega
theorem not_u64 (x : Int) (h1 : 0 ≤ x) (h2 : x ≤ 18446744073709551615) : bits .xor .u64 IntKind.u64.max x = 18446744073709551615 - x := by
  show IntKind.u64.wrap ((BitVec.ofInt 64 IntKind.u64.max ^^^ BitVec.ofInt 64 x).toNat : Int) = _
  have e : BitVec.ofInt 64 IntKind.u64.max = BitVec.allOnes 64 := by decide
  rw [e, BitVec.allOnes_xor, BitVec.toNat_not, BitVec.toNat_ofInt]
  simp [IntKind.wrap, IntKind.bits, IntKind.signed]
  omega
theorem refadd_hi (a b : Int) (h : slo (w128 (a + b)) < slo a) : wrap64 (IntKind.u64.wrap (IntKind.u64.wrap (IntKind.u64.wrap (shi a) + IntKind.u64.wrap (shi b)) + 1)) = shi (w128 (a + b)) := by
  rw [IntKind.wrap_u64, IntKind.wrap_u64, IntKind.wrap_u64, IntKind.wrap_u64]
  unfold wrap64 shi slo w128 at *
  omega
theorem refadd_hi0 (a b : Int) (h : ¬ slo (w128 (a + b)) < slo a) : wrap64 (IntKind.u64.wrap (IntKind.u64.wrap (shi a) + IntKind.u64.wrap (shi b))) = shi (w128 (a + b)) := by
  rw [IntKind.wrap_u64, IntKind.wrap_u64, IntKind.wrap_u64]
  unfold wrap64 shi slo w128 at *
  omega
theorem refadd_lo (a b : Int) : IntKind.u64.wrap (slo a + slo b) = slo (w128 (a + b)) := by
  rw [IntKind.wrap_u64]
  unfold slo w128
  omega
theorem w128_neg (a : Int) : w128 (-1 - a + 1) = w128 (-a) := by rw [show -1 - a + 1 = -a by omega]
theorem InS.not {a : Int} (h : InS a) : InS (-1 - a) := by unfold InS at *; omega
theorem InS.small {n : Int} (h1 : -9223372036854775808 ≤ n) (h2 : n ≤ 9223372036854775807) : InS n := by unfold InS; omega
theorem bcell {W w1 : World} (hb : Below W.heap.size W w1) : (∀ b o, b < W.heap.size → w1.cell? ⟨b, o, none⟩ = W.cell? ⟨b, o, none⟩) ∧ (∀ b o, b < W.heap.size → w1.frozen? ⟨b, o, none⟩ = W.frozen? ⟨b, o, none⟩) :=
  ⟨fun b o h => hb.cell (p := ⟨b, o, none⟩) h, fun b o h => hb.frozen (p := ⟨b, o, none⟩) h⟩
end Go.Proofs.YtmjipafhahggpaaDoor.Wi

namespace Go.Proofs.YtmjipafhahggpaaDoor.Wi
open Go Go.RowKit

theorem add64 (x y c : Int) (hx : 0 ≤ x) (hy : 0 ≤ y) (hc0 : 0 ≤ c) (hc : c ≤ 1) (w : World) : (callFunc 27 #[.int .u64 x, .int .u64 y, .int .u64 c]).run Tryd.prog w =
    .ok (.value (.tuple #[.int .u64 ((x + y + c) % 18446744073709551616), .int .u64 ((x + y + c) / 18446744073709551616)])) w := by
  rw [run_callFunc_extern Tryd.func27 (by kernel_rfl) (by kernel_rfl) (by kernel_rfl) (e := add64Entry) (by kernel_rfl), run_add64 x y c hx hy hc0 hc]
  rfl
theorem add64_0 (x y : Int) (hx : 0 ≤ x) (hy : 0 ≤ y) (w : World) : (callFunc 27 #[.int .u64 x, .int .u64 y, .int .u64 0]).run Tryd.prog w =
    .ok (.value (.tuple #[.int .u64 ((x + y) % 18446744073709551616), .int .u64 ((x + y) / 18446744073709551616)])) w := by
  simpa using add64 x y 0 hx hy (Int.le_refl 0) (by decide) w

theorem of_any (n : Int) (h1 : -9223372036854775808 ≤ n) (h2 : n ≤ 9223372036854775807) (w : World) :
    Calls Tryd.prog 9 #[.int .i64 n] w fun e w' => e = .returned (sv n) ∧ Below w.heap.size w w' := by
  have hs : sv n = .agg #[.int .i64 (n / 9223372036854775808), .int .u64 (IntKind.u64.wrap n)] := by
    unfold sv; rw [shi_of h1 h2, IntKind.wrap_u64]; rfl
  rw [hs]
  clear hs
  go_enter Tryd.func9, Tryd.ntmps9
  go_wp2
  simp [bodyPost, results, Tryd.results9, go_sem]
  exact (Below.refl _ _).alloc (Nat.le_refl _) _

theorem add_any (a b : Int) (ha : InS a) (hb : InS b) (w : World) :
    Calls Tryd.prog 8 #[sv a, sv b] w fun e w' => e = .returned (sv (w128 (a + b))) ∧ Below w.heap.size w w' := by
  have a1 := shi_lo ha
  have a2 := shi_hi ha
  have a3 := slo_lo a
  have a4 := slo_hi a
  have b1 := shi_lo hb
  have b2 := shi_hi hb
  have b3 := slo_lo b
  have b4 := slo_hi b
  have r1 := add_hi a b
  have r2 := add_lo a b
  clear ha hb
  unfold sv
  rw [← r1, ← r2]
  clear r1 r2
  go_enter Tryd.func8, Tryd.ntmps8
  go_wp2_with (simp only [add64_0 (slo a) (slo b) a3 b3])
  simp [bodyPost, results, Tryd.results8, go_sem]
  exact (((Below.refl _ _).alloc (Nat.le_refl _) _).alloc (by simp) _).alloc (by simp; omega) _

theorem less_any (a b : Int) (ha : InS a) (hb : InS b) (w : World) :
    Calls Tryd.prog 67 #[sv a, sv b] w fun e w' => e = .returned (.bool (decide (a < b))) ∧ Below w.heap.size w w' := by
  have a1 := shi_lo ha
  have a2 := shi_hi ha
  have a3 := slo_lo a
  have a4 := slo_hi a
  have b1 := shi_lo hb
  have b2 := shi_hi hb
  have b3 := slo_lo b
  have b4 := slo_hi b
  have hd : decide (a < b) = if (shi a != shi b) then decide (shi a < shi b) else decide (slo a < slo b) := by
    unfold shi slo
    split <;> rename_i h <;> simp at h ⊢ <;> omega
  clear ha hb
  unfold sv
  rw [hd]
  clear hd
  by_cases h : shi a = shi b
  · rw [if_neg (by simp [h])]
    rw [h]
    go_enter Tryd.func67, Tryd.ntmps67
    go_wp2
    go_ret
    exact ⟨rfl, ((Below.refl _ _).alloc (Nat.le_refl _) _).alloc (by simp) _⟩
  · have h' : (shi a != shi b) = true := by simp [h]
    rw [if_pos h']
    go_enter Tryd.func67, Tryd.ntmps67
    go_wp2
    go_ret
    exact ⟨rfl, ((Below.refl _ _).alloc (Nat.le_refl _) _).alloc (by simp) _⟩

theorem sign_any (a : Int) (ha : InS a) (w : World) :
    Calls Tryd.prog 42 #[sv a] w fun e w' => e = .returned (.int .i64 (ssgn a)) ∧ Below w.heap.size w w' := by
  have a1 := shi_lo ha
  have a2 := shi_hi ha
  have a3 := slo_lo a
  have a4 := slo_hi a
  have hd : ssgn a = if shi a = 0 ∧ slo a = 0 then 0 else if shi a < 0 then -1 else 1 := by
    unfold ssgn shi slo
    unfold InS at ha
    repeat' split
    all_goals omega
  clear ha
  unfold sv
  rw [hd]
  clear hd
  by_cases h : shi a = 0 ∧ slo a = 0
  · rw [if_pos h]
    obtain ⟨h1, h2⟩ := h
    rw [h1, h2]
    go_enter Tryd.func42, Tryd.ntmps42
    go_wp2
    go_ret
    exact ⟨rfl, (Below.refl _ _).alloc (Nat.le_refl _) _⟩
  · rw [if_neg h]
    have h' : (shi a == 0 && slo a == 0) = false := by
      by_cases h1 : shi a = 0
      · have : slo a ≠ 0 := fun h2 => h ⟨h1, h2⟩
        simp [h1, this]
      · simp [h1]
    by_cases hn : shi a < 0
    · rw [if_pos hn]
      go_enter Tryd.func42, Tryd.ntmps42
      go_wp2
      all_goals (go_ret; exact ⟨rfl, (Below.refl _ _).alloc (Nat.le_refl _) _⟩)
    · rw [if_neg hn]
      go_enter Tryd.func42, Tryd.ntmps42
      go_wp2
      all_goals (go_ret; exact ⟨rfl, (Below.refl _ _).alloc (Nat.le_refl _) _⟩)

end Go.Proofs.YtmjipafhahggpaaDoor.Wi

namespace Go.Proofs.YtmjipafhahggpaaDoor.Wi
open Go Go.RowKit

theorem neg_add (a : Int) (ha : InS a) (w : World) :
    Calls Tryd.prog 8 #[.agg #[.int .i64 (-1 - shi a), .int .u64 (18446744073709551615 - slo a)], sv 1] w fun e w' => e = .returned (sv (w128 (-a))) ∧ Below w.heap.size w w' := by
  have h := add_any (-1 - a) 1 ha.not (InS.small (by decide) (by decide)) w
  rw [w128_neg] at h
  rw [neg_hi ha, neg_lo a]
  exact h
theorem getD_of {a : Array Value} {t : Nat} {v : Value} (h : a[t]? = some v) : a.getD t undef = v := by
  rw [Array.getD_eq_getD_getElem?, h]; rfl
theorem two_of {vs : Array Value} {x y : Value} (h : vs.size = #[x, y].size) : ∃ v0 v1, vs = #[v0, v1] := by
  rcases vs with ⟨l⟩
  match l, h with
  | [a, b], _ => exact ⟨a, b, rfl⟩
def NegPhi (w : World) (a : Int) : Nat → Value → World → Prop
  | 9, _, wz => CellsAt (w.heap.size + 1) #[.int .i64 (shi (w128 (-a))), .int .u64 (slo (w128 (-a)))] wz
  | i, v, _ => v = ([.pointer (some ⟨w.heap.size, 0, none⟩), .int .i64 (shi a), .int .i64 (-1 - shi a), .pointer (some ⟨w.heap.size, 1, none⟩), .int .u64 (slo a), .int .u64 (18446744073709551615 - slo a), .agg #[.int .i64 (-1 - shi a), .int .u64 (18446744073709551615 - slo a)], sv 1, sv (w128 (-a)), undef] : List Value).getD i undef
theorem NegPhi.stays {w : World} {a : Int} : ∀ i v x y, NegPhi w a i v x → Reg.Puts w.heap.size (w.heap.size + 1) #[.int .i64 (shi (w128 (-a))), .int .u64 (slo (w128 (-a)))] x y → NegPhi w a i v y := by
  intro i v x y hv hB
  unfold NegPhi at *
  split at hv
  · exact hB.done hv
  · exact hv
set_option maxRecDepth 100000 in
set_option maxHeartbeats 4000000 in
theorem neg_any (a : Int) (ha : InS a) (w : World) :
    Calls Tryd.prog 43 #[sv a] w fun e w' => e = .returned (sv (w128 (-a))) ∧ Below w.heap.size w w' := by
  have a1 := shi_lo ha
  have a2 := shi_hi ha
  have a3 := slo_lo a
  have a4 := slo_hi a
  have n1 := not_i64 _ a1 a2
  have n2 := not_u64 _ a3 a4
  have HA := Lib.hid ha
  clear ha
  rw [show sv a = .agg #[.int .i64 (shi a), .int .u64 (slo a)] from rfl]
  go_enter Tryd.func43, Tryd.ntmps43
  go_wp2
  refine wp_gen (fun W => CellsAt w.heap.size #[.int .i64 (shi a), .int .u64 (slo a)] W ∧ CellsAt (w.heap.size + 1) #[.int .i64 0, .int .u64 0] W ∧ Below w.heap.size w W) ?_ ?_
  · exact ⟨(CellsAt.new _ _ _).past _, CellsAt.newAt _ _ _ _ (by simp), ((Below.refl _ _).alloc (Nat.le_refl _) _).alloc (by simp) _⟩
  intro W ⟨hA, hR, hB0⟩
  have hW := hB0.size
  refine Reg.wp_region_invG (n := 12) (Reg.Puts w.heap.size (w.heap.size + 1) #[.int .i64 (shi (w128 (-a))), .int .u64 (slo (w128 (-a)))]) (NegPhi w a) (by kernel_rfl) (by kernel_rfl) rfl Reg.Puts.refl (fun _ _ _ => Reg.Puts.trans) NegPhi.stays ?_ ?_
  · refine ⟨?_, ?_, ?_, ?_, ?_, ?_, ?_, ?_, ?_, ?_, trivial⟩
    · intro c wc hB hp hs
      have g1 : c.tmps[1]? = some (.pointer (some ⟨w.heap.size, 0, none⟩)) := (hs 1 (by kernel_rfl)).trans rfl
      refine Reg.ok_value Reg.Puts.refl (v := .pointer (some ⟨w.heap.size, 0, none⟩)) (Reg.wanted_none rfl) ?_ rfl
      go_simp
    · intro c wc hB hp hs
      have g3 : c.tmps[3]? = some (.pointer (some ⟨w.heap.size, 0, none⟩)) := by obtain ⟨_, g, hv⟩ := Reg.pred hp 0 3 (by kernel_rfl) rfl rfl; exact g.trans (congrArg some hv)
      have hc := hB.keep _ _ (by omega) hA.drew
      have k0 := hc.cell 0 (.int .i64 (shi a)) rfl
      refine Reg.ok_value Reg.Puts.refl (v := .int .i64 (shi a)) (Reg.wanted_none rfl) ?_ rfl
      go_simp
    · intro c wc hB hp hs
      have g4 : c.tmps[4]? = some (.int .i64 (shi a)) := by obtain ⟨_, g, hv⟩ := Reg.pred hp 1 4 (by kernel_rfl) rfl rfl; exact g.trans (congrArg some hv)
      refine Reg.ok_value Reg.Puts.refl (v := .int .i64 (-1 - shi a)) (Reg.wanted_none rfl) ?_ rfl
      go_simp
      exact n1
    · intro c wc hB hp hs
      have g1 : c.tmps[1]? = some (.pointer (some ⟨w.heap.size, 0, none⟩)) := (hs 1 (by kernel_rfl)).trans rfl
      refine Reg.ok_value Reg.Puts.refl (v := .pointer (some ⟨w.heap.size, 1, none⟩)) (Reg.wanted_none rfl) ?_ rfl
      go_simp
    · intro c wc hB hp hs
      have g6 : c.tmps[6]? = some (.pointer (some ⟨w.heap.size, 1, none⟩)) := by obtain ⟨_, g, hv⟩ := Reg.pred hp 3 6 (by kernel_rfl) rfl rfl; exact g.trans (congrArg some hv)
      have hc := hB.keep _ _ (by omega) hA.drew
      have k1 := hc.cell 1 (.int .u64 (slo a)) rfl
      refine Reg.ok_value Reg.Puts.refl (v := .int .u64 (slo a)) (Reg.wanted_none rfl) ?_ rfl
      go_simp
    · intro c wc hB hp hs
      have g7 : c.tmps[7]? = some (.int .u64 (slo a)) := by obtain ⟨_, g, hv⟩ := Reg.pred hp 4 7 (by kernel_rfl) rfl rfl; exact g.trans (congrArg some hv)
      refine Reg.ok_value Reg.Puts.refl (v := .int .u64 (18446744073709551615 - slo a)) (Reg.wanted_none rfl) ?_ rfl
      go_simp
      exact n2
    · intro c wc hB hp hs
      have g5 : c.tmps[5]? = some (.int .i64 (-1 - shi a)) := by obtain ⟨_, g, hv⟩ := Reg.pred hp 2 5 (by kernel_rfl) rfl rfl; exact g.trans (congrArg some hv)
      have g8 : c.tmps[8]? = some (.int .u64 (18446744073709551615 - slo a)) := by obtain ⟨_, g, hv⟩ := Reg.pred hp 5 8 (by kernel_rfl) rfl rfl; exact g.trans (congrArg some hv)
      refine Reg.ok_value Reg.Puts.refl (v := .agg #[.int .i64 (-1 - shi a), .int .u64 (18446744073709551615 - slo a)]) (Reg.wanted_none rfl) ?_ rfl
      go_simp
    · intro c wc hB hp hs
      refine Reg.ok_call (f := 9) (args := #[.int .i64 1]) (Reg.wanted_none rfl) (by go_simp) ((of_any 1 (by decide) (by decide) wc).mono ?_)
      rintro e w' ⟨rfl, hB2⟩
      exact ⟨_, rfl, Reg.Puts.of hB2 (Nat.le_trans hW hB.below.size), rfl⟩
    · intro c wc hB hp hs
      have g9 : c.tmps[9]? = some (.agg #[.int .i64 (-1 - shi a), .int .u64 (18446744073709551615 - slo a)]) := by obtain ⟨_, g, hv⟩ := Reg.pred hp 6 9 (by kernel_rfl) rfl rfl; exact g.trans (congrArg some hv)
      have g10 : c.tmps[10]? = some (sv 1) := by obtain ⟨_, g, hv⟩ := Reg.pred hp 7 10 (by kernel_rfl) rfl rfl; exact g.trans (congrArg some hv)
      refine Reg.ok_call (f := 8) (args := #[.agg #[.int .i64 (-1 - shi a), .int .u64 (18446744073709551615 - slo a)], sv 1]) (Reg.wanted_none rfl) (by go_simp) ((neg_add a HA.out wc).mono ?_)
      rintro e w' ⟨rfl, hB2⟩
      exact ⟨_, rfl, Reg.Puts.of hB2 (Nat.le_trans hW hB.below.size), rfl⟩
    · intro c wc hB hp hs
      have g2 : c.tmps[2]? = some (.pointer (some ⟨(w.heap.size + 1), 0, none⟩)) := (hs 2 (by kernel_rfl)).trans rfl
      have g11 : c.tmps[11]? = some (sv (w128 (-a))) := by obtain ⟨_, g, hv⟩ := Reg.pred hp 8 11 (by kernel_rfl) rfl rfl; exact g.trans (congrArg some hv)
      obtain ⟨vs, hv, hc⟩ := hB.shape ⟨#[.int .i64 0, .int .u64 0], rfl, hR.drew⟩
      obtain ⟨x0, x1, rfl⟩ := two_of hv
      have k0 := hc.cell 0 x0 rfl
      have k1 := hc.cell 1 x1 rfl
      have f0 := hc.fro 0 x0 rfl
      have f1 := hc.fro 1 x1 rfl
      refine Reg.ok_store (Reg.wanted_none rfl) ?_ (Reg.Puts.set2 (B := w.heap.size) (R := (w.heap.size + 1)) (x := .int .i64 (shi (w128 (-a)))) (y := .int .u64 (slo (w128 (-a)))) (by omega) ⟨#[x0, x1], rfl, hc⟩).1 (Reg.Puts.set2 (B := w.heap.size) (R := (w.heap.size + 1)) (x := .int .i64 (shi (w128 (-a)))) (y := .int .u64 (slo (w128 (-a)))) (by omega) ⟨#[x0, x1], rfl, hc⟩).2
      go_simp
  · intro c wc hB hsz hdf hv hn ho
    obtain ⟨v9, h9⟩ := hn 9 _ rfl rfl
    have hd : CellsAt (w.heap.size + 1) #[.int .i64 (shi (w128 (-a))), .int .u64 (slo (w128 (-a)))] wc := h9
    have g2 : c.tmps[2]? = some (.pointer (some ⟨w.heap.size + 1, 0, none⟩)) := (Reg.kept ho 2 (by kernel_rfl)).trans rfl
    have k0 := hd.cell 0 (.int .i64 (shi (w128 (-a)))) rfl
    have k1 := hd.cell 1 (.int .u64 (slo (w128 (-a)))) rfl
    have hE : Below w.heap.size w wc := (hB0.drew).trans hB.below
    clear hv hn ho hB hd
    go_wp2
    simp [bodyPost, results, Tryd.results43, go_sem, g2, k0, k1]
    exact ⟨hdf, hE⟩


end Go.Proofs.YtmjipafhahggpaaDoor.Wi

