/- Sums of 128 bits as integers: the two words of one, what it is when it has gone round, its sign, its digits. No program in this text. -/
import Derived.Test.YthddnhnhlgnlhaaDoorChecked
import Derived.WalkKit
import Derived.Lib.Itoa
import Derived.Lib.ItoaNum
import Derived.Below
import Derived.Laws.BitsAllLaws
namespace Go.Proofs.YthddnhnhlgnlhaaDoor
open Go Go.RowKit

/-- The high word and the low one. -/
def shi (z : Int) : Int := z / 18446744073709551616
def slo (z : Int) : Int := z % 18446744073709551616
/-- Within 128 bits. -/
def InS (z : Int) : Prop := -170141183460469231731687303715884105728 ≤ z ∧ z < 170141183460469231731687303715884105728
/-- Modulo 2^128. -/
def w128 (z : Int) : Int := (z + 170141183460469231731687303715884105728) % 340282366920938463463374607431768211456 - 170141183460469231731687303715884105728
def ssgn (z : Int) : Int := if z < 0 then -1 else if z = 0 then 0 else 1

theorem w128_in (z : Int) : InS (w128 z) := by unfold InS w128; omega
theorem w128_of {z : Int} (h : InS z) : w128 z = z := by unfold InS at h; unfold w128; omega
theorem shi_lo {z : Int} (h : InS z) : -9223372036854775808 ≤ shi z := by unfold InS at h; unfold shi; omega
theorem shi_hi {z : Int} (h : InS z) : shi z ≤ 9223372036854775807 := by unfold InS at h; unfold shi; omega
theorem slo_lo (z : Int) : 0 ≤ slo z := by unfold slo; omega
theorem slo_hi (z : Int) : slo z ≤ 18446744073709551615 := by unfold slo; omega
theorem of_parts (z : Int) : z = shi z * 18446744073709551616 + slo z := by unfold shi slo; omega
theorem parts_of {h l : Int} (h1 : -9223372036854775808 ≤ h) (h2 : h ≤ 9223372036854775807) (l1 : 0 ≤ l) (l2 : l ≤ 18446744073709551615) :
    InS (h * 18446744073709551616 + l) ∧ shi (h * 18446744073709551616 + l) = h ∧ slo (h * 18446744073709551616 + l) = l := by
  unfold InS shi slo; omega
theorem parts_inj {y z : Int} (h1 : shi y = shi z) (h2 : slo y = slo z) : y = z := by unfold shi slo at *; omega

/-- A sum as Go's struct has it. -/
abbrev sv (z : Int) : Value := .agg #[.int .i64 (shi z), .int .u64 (slo z)]
theorem sv_eq {y z : Int} (h : y = z) : sv y = sv z := by rw [h]

theorem shi_of {n : Int} (h1 : -9223372036854775808 ≤ n) (h2 : n ≤ 9223372036854775807) : shi n = n / 9223372036854775808 := by unfold shi; omega

theorem add_hi (a b : Int) : wrap64 (wrap64 (shi a + shi b) + (slo a + slo b) / 18446744073709551616) = shi (w128 (a + b)) := by
  unfold wrap64 shi slo w128
  omega
theorem add_lo (a b : Int) : (slo a + slo b) % 18446744073709551616 = slo (w128 (a + b)) := by
  unfold slo w128
  omega

theorem neg_hi {a : Int} (h : InS a) : -1 - shi a = shi (-1 - a) := by unfold shi; omega
theorem neg_lo (a : Int) : 18446744073709551615 - slo a = slo (-1 - a) := by unfold slo; omega
theorem not_i64 (x : Int) (h1 : -9223372036854775808 ≤ x) (h2 : x ≤ 9223372036854775807) : bits .xor .i64 (-1) x = -1 - x := by
  show IntKind.i64.wrap ((BitVec.ofInt 64 (-1) ^^^ BitVec.ofInt 64 x).toNat : Int) = _
  have e : BitVec.ofInt 64 (-1) = BitVec.allOnes 64 := by decide
  rw [e, BitVec.allOnes_xor, BitVec.toNat_not, BitVec.toNat_ofInt]
  simp [IntKind.wrap, IntKind.bits, IntKind.signed]
  omega
theorem not_u64 (x : Int) (h1 : 0 ≤ x) (h2 : x ≤ 18446744073709551615) : bits .xor .u64 IntKind.u64.max x = 18446744073709551615 - x := by
  show IntKind.u64.wrap ((BitVec.ofInt 64 IntKind.u64.max ^^^ BitVec.ofInt 64 x).toNat : Int) = _
  have e : BitVec.ofInt 64 IntKind.u64.max = BitVec.allOnes 64 := by decide
  rw [e, BitVec.allOnes_xor, BitVec.toNat_not, BitVec.toNat_ofInt]
  simp [IntKind.wrap, IntKind.bits, IntKind.signed]
  omega
theorem refadd_hi (a b : Int) (h : slo (w128 (a + b)) < slo a) : wrap64 (IntKind.u64.wrap (IntKind.u64.wrap (IntKind.u64.wrap (shi a) + IntKind.u64.wrap (shi b)) + 1)) = shi (w128 (a + b)) := by
  rw [IntKind.wrap_u64, IntKind.wrap_u64, IntKind.wrap_u64, IntKind.wrap_u64]
  unfold wrap64 shi slo w128 at *
  omega
theorem refadd_hi0 (a b : Int) (h : ¬ slo (w128 (a + b)) < slo a) : wrap64 (IntKind.u64.wrap (IntKind.u64.wrap (shi a) + IntKind.u64.wrap (shi b))) = shi (w128 (a + b)) := by
  rw [IntKind.wrap_u64, IntKind.wrap_u64, IntKind.wrap_u64]
  unfold wrap64 shi slo w128 at *
  omega
theorem refadd_lo (a b : Int) : IntKind.u64.wrap (slo a + slo b) = slo (w128 (a + b)) := by
  rw [IntKind.wrap_u64]
  unfold slo w128
  omega
theorem w128_neg (a : Int) : w128 (-1 - a + 1) = w128 (-a) := by rw [show -1 - a + 1 = -a by omega]
theorem InS.not {a : Int} (h : InS a) : InS (-1 - a) := by unfold InS at *; omega
theorem InS.small {n : Int} (h1 : -9223372036854775808 ≤ n) (h2 : n ≤ 9223372036854775807) : InS n := by unfold InS; omega
theorem bcell {W w1 : World} (hb : Below W.heap.size W w1) : (∀ b o, b < W.heap.size → w1.cell? ⟨b, o, none⟩ = W.cell? ⟨b, o, none⟩) ∧ (∀ b o, b < W.heap.size → w1.frozen? ⟨b, o, none⟩ = W.frozen? ⟨b, o, none⟩) :=
  ⟨fun b o h => hb.cell (p := ⟨b, o, none⟩) h, fun b o h => hb.frozen (p := ⟨b, o, none⟩) h⟩
end Go.Proofs.YthddnhnhlgnlhaaDoor
