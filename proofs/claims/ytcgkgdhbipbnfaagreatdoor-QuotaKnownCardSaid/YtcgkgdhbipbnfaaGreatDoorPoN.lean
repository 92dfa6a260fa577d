/- Numbers as bytes, and of bytes: the program's and the chapter's. -/
import Derived.Test.YtcgkgdhbipbnfaaGreatDoorPoB
import Derived.Laws.BitsAllLaws
import Derived.Lib.Hide
import Derived.Lib.AppendIntMem
namespace Go.Proofs.YtcgkgdhbipbnfaaGreatDoor.Po
open Go Go.RowKit

theorem byte_eq (n m : Nat) : ((UInt8.ofNat (n / 256 ^ m)).toNat : Int) = (n : Int) / 2 ^ (8 * m) % 256 := by
  rw [UInt8.toNat_ofNat']
  have e : ((2 : Int) ^ (8 * m)) = ((256 ^ m : Nat) : Int) := by rw [Int.natCast_pow, Int.pow_mul]; rfl
  rw [e]
  omega
theorem numZ_snoc (r : List UInt8) (b : UInt8) : numZ (r ++ [b]) = numZ r * 256 + b.toNat := by
  unfold numZ
  rw [List.foldl_append]
  rfl
theorem numZ_lt : ∀ s, numZ s < 256 ^ s.length
  | [] => by simp [numZ]
  | b :: r => by
    have h1 := numZ_lt r
    have h2 := b.toNat_lt
    rw [numZ_cons, List.length_cons, Nat.pow_succ]
    have h3 : b.toNat * 256 ^ r.length ≤ 255 * 256 ^ r.length := Nat.mul_le_mul_right _ (by omega)
    generalize 256 ^ r.length = z at *
    omega
theorem or_byteN (n : Nat) (c : UInt8) (h1 : n < 72057594037927936) : bits .or .u64 ((n : Int) * 256) (IntKind.u64.wrap (c.toNat : Int)) = ((n * 256 + c.toNat : Nat) : Int) := by
  have hc : c.toNat < 2 ^ 8 := c.toNat_lt
  have e : (n : Int) * 256 = ((2 ^ 8 * n : Nat) : Int) := by omega
  have e2 : IntKind.u64.wrap (c.toNat : Int) = (c.toNat : Int) := by rw [IntKind.wrap_u64]; omega
  rw [e, e2, u64_or_nat _ _ (by omega) (by omega), ← Nat.two_pow_add_eq_or_of_lt hc]
  omega
theorem wrap_i64Z (n : Nat) (h : n < 18446744073709551616) : IntKind.i64.wrap (n : Int) = i64Z n := by
  rw [IntKind.wrap_i64]
  unfold i64Z
  split <;> omega
theorem or_byteI (n : Nat) (c : UInt8) (h1 : n < 72057594037927936) : bits .or .i64 (wrap64 ((n : Int) * 256)) (wrap64 (c.toNat : Int)) = i64Z (n * 256 + c.toNat) := by
  have hc : c.toNat < 2 ^ 8 := c.toNat_lt
  obtain ⟨m, hm⟩ : ∃ m, 256 * n = m := ⟨_, rfl⟩
  have e : (n : Int) * 256 = (m : Int) := by omega
  have hw : (BitVec.ofInt 64 (wrap64 (m : Int))).toNat = m := by
    rw [BitVec.toNat_ofInt]
    unfold wrap64
    omega
  have hw2 : wrap64 (c.toNat : Int) = (c.toNat : Int) := by unfold wrap64; omega
  rw [e, hw2]
  show IntKind.i64.wrap ((BitVec.ofInt 64 (wrap64 (m : Int)) ||| BitVec.ofInt 64 (c.toNat : Int)).toNat : Int) = _
  rw [BitVec.toNat_or, hw, ofInt_u64 _ (by omega), ← hm, show 256 * n = 2 ^ 8 * n from rfl, ← Nat.two_pow_add_eq_or_of_lt hc, wrap_i64Z _ (by omega)]
  congr 1
  omega
theorem num_take {l : List UInt8} {k : Nat} (h : k < l.length) : numZ (l.take (k + 1)) = numZ (l.take k) * 256 + l[k].toNat := by
  rw [List.take_add_one, List.getElem?_eq_getElem h]
  exact numZ_snoc _ _
theorem num_small (l : List UInt8) (k : Nat) (h : k ≤ 7) : numZ (l.take k) < 72057594037927936 := by
  have h1 := numZ_lt (l.take k)
  have h2 : (l.take k).length ≤ 7 := by rw [List.length_take]; omega
  have h3 : 256 ^ (l.take k).length ≤ 256 ^ 7 := Nat.pow_le_pow_right (by omega) h2
  omega
end Go.Proofs.YtcgkgdhbipbnfaaGreatDoor.Po

