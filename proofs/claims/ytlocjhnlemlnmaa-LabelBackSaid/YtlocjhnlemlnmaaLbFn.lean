/- The laws' walks, over their parameters as they come in. -/
import Derived.Test.YtlocjhnlemlnmaaLbO
import Derived.Test.YtlocjhnlemlnmaaLbLs
import Derived.Test.YtlocjhnlemlnmaaLbLg
import Derived.Test.YtlocjhnlemlnmaaLbBk
import Derived.Test.YtlocjhnlemlnmaaLbLl
namespace Go.Proofs.Ytlocjhnlemlnmaa.Lx
open Go Go.RowKit

theorem LabelKeys_walk (p0 : Option Addr) (l0 : List ItemV) (c0 : Nat) (hl0 : l0.length ≤ maxLen) (_ : l0.length ≤ c0) (_ : p0 = none → c0 = 0) (p1 : Option Addr) (l1 : List LabB) (c1 : Nat) (_ : l1.length ≤ maxLen) (_ : l1.length ≤ c1) (hz1 : p1 = none → c1 = 0) (hb1 : l1.length ≤ maxLab)
    (a2 : Bool) (a3 : ByteArray) (h3 : a3.size ≤ maxLen) (p4 : Option Addr) (l4 : List Nat) (c4 : Nat) (hl4 : l4.length ≤ maxLen) (_ : l4.length ≤ c4) (_ : p4 = none → c4 = 0) (a5 : Bool) (W : World) (hr0 : Rows9 p0 l0 W) (hr1 : LbAt p1 l1 W) (hr4 : Octs p4 l4 W) :
    Calls Try.prog 3 #[.slice p0 l0.length c0, .slice p1 l1.length c1, .bool a2, .string a3, .slice p4 l4.length c4, .bool a5] W fun e W' => e = .returned (.bool true) ∧ Below W.heap.size W W' := by
  have h := keys_true text_ok p0 l0 c0 hl0 p1 l1 c1 hz1 hb1 a2 a3.data.toList (by rw [size_list]; exact h3) p4 l4 c4 hl4 a5 W hr0 hr1 hr4
  rwa [tx_list] at h
theorem LabelSplits_walk (p0 : Option Addr) (l0 : List ItemV) (c0 : Nat) (hl0 : l0.length ≤ maxLen) (_ : l0.length ≤ c0) (_ : p0 = none → c0 = 0) (p1 : Option Addr) (l1 : List Nat) (c1 : Nat) (hl1 : l1.length ≤ maxLen) (_ : l1.length ≤ c1) (_ : p1 = none → c1 = 0)
    (a2 : ByteArray) (_ : a2.size ≤ maxLen) (hz2 : a2.size ≤ 140737488355328) (a3 : Bool) (a4 : Int) (h4 : (Lit.int .i64 a4).wf = true) (a5 : Int) (h5 : (Lit.int .u8 a5).wf = true) (W : World) (hr0 : Rows9 p0 l0 W) (hr1 : Octs p1 l1 W) :
    Calls Try.prog 4 #[.slice p0 l0.length c0, .slice p1 l1.length c1, .string a2, .bool a3, .int .i64 a4, .int .u8 a5] W fun e W' => e = .returned (.bool true) ∧ Below W.heap.size W W' := by
  have g4 : -9223372036854775808 ≤ a4 ∧ a4 ≤ 9223372036854775807 := by simpa [Lit.wf, IntKind.min, IntKind.max, IntKind.signed, IntKind.bits] using h4
  have g5 : 0 ≤ a5 ∧ a5 ≤ 255 := by simpa [Lit.wf, IntKind.min, IntKind.max, IntKind.signed, IntKind.bits] using h5
  exact splits_true text_ok p0 l0 c0 hl0 p1 l1 c1 hl1 a2 (by omega) a3 a4 a5 g4.1 g4.2 g5.1 (by omega) W hr0 hr1
theorem LabelGets_walk (p0 : Option Addr) (l0 : List ItemV) (c0 : Nat) (hl0 : l0.length ≤ maxLen) (hm0 : l0.length ≤ c0) (_ : p0 = none → c0 = 0) (p1 : Option Addr) (l1 : List Nat) (c1 : Nat) (hl1 : l1.length ≤ maxLen) (_ : l1.length ≤ c1) (_ : p1 = none → c1 = 0)
    (W : World) (hr0 : Rows9 p0 l0 W) (hr1 : Octs p1 l1 W) :
    Calls Try.prog 8 #[.slice p0 l0.length c0, .slice p1 l1.length c1] W fun e W' => e = .returned (.bool true) ∧ Below W.heap.size W W' :=
  gets_true text_ok p0 l0 c0 hl0 hm0 p1 l1 c1 hl1 W hr0 hr1
theorem LabelBack_walk (p0 : Option Addr) (l0 : List Nat) (c0 : Nat) (hl0 : l0.length ≤ maxLen) (_ : l0.length ≤ c0) (_ : p0 = none → c0 = 0) (p1 : Option Addr) (l1 : List ItemV) (c1 : Nat) (hl1 : l1.length ≤ maxLen) (hm1 : l1.length ≤ c1) (_ : p1 = none → c1 = 0)
    (W : World) (hr0 : Octs p0 l0 W) (hr1 : Rows9 p1 l1 W) :
    Calls Try.prog 6 #[.slice p0 l0.length c0, .slice p1 l1.length c1] W fun e W' => e = .returned (.bool true) ∧ Below W.heap.size W W' :=
  back_true text_ok p0 l0 c0 hl0 p1 l1 c1 hl1 hm1 W hr0 hr1
theorem LabelLong_walk (a : Int) (ha : (Lit.int .u8 a).wf = true) (b : Int) (hb : (Lit.int .u8 b).wf = true) (W : World) :
    Calls Try.prog 7 #[.int .u8 a, .int .u8 b] W fun e W' => e = .returned (.bool true) ∧ Below W.heap.size W W' := by
  have ga : 0 ≤ a ∧ a ≤ 255 := by simpa [Lit.wf, IntKind.min, IntKind.max, IntKind.signed, IntKind.bits] using ha
  have gb : 0 ≤ b ∧ b ≤ 255 := by simpa [Lit.wf, IntKind.min, IntKind.max, IntKind.signed, IntKind.bits] using hb
  obtain ⟨x, rfl⟩ : ∃ x : Nat, a = x := ⟨a.toNat, by omega⟩
  obtain ⟨y, rfl⟩ : ∃ y : Nat, b = y := ⟨b.toNat, by omega⟩
  exact long_true text_ok x y (by omega) (by omega) W
end Go.Proofs.Ytlocjhnlemlnmaa.Lx
