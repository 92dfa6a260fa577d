/- A number of bytes: the program's and the chapter's. -/
import Derived.Test.YtklklpccpbhfgaaHiByt
import Derived.Deep.LoopGhost
import Derived.IntWalk
import Derived.Laws.BitsAllLaws
namespace Go.Proofs.Ytklklpccpbhfgaa
open Go Go.RowKit
theorem or_byteN (n : Nat) (c : UInt8) (h1 : n < 72057594037927936) : bits .or .u64 ((n : Int) * 256) (IntKind.u64.wrap (c.toNat : Int)) = ((n * 256 + c.toNat : Nat) : Int) := by
  have hc : c.toNat < 2 ^ 8 := c.toNat_lt
  have e : (n : Int) * 256 = ((2 ^ 8 * n : Nat) : Int) := by omega
  have e2 : IntKind.u64.wrap (c.toNat : Int) = (c.toNat : Int) := by rw [IntKind.wrap_u64]; omega
  rw [e, e2, u64_or_nat _ _ (by omega) (by omega), ← Nat.two_pow_add_eq_or_of_lt hc]
  omega
theorem num_take {l : List UInt8} {k : Nat} (h : k < l.length) : numB (l.take (k + 1)) = numB (l.take k) * 256 + l[k].toNat := by
  rw [List.take_add_one, List.getElem?_eq_getElem h]
  exact numB_snoc _ _
theorem num_small (l : List UInt8) (k : Nat) (h : k ≤ 6) : numB (l.take k) < 72057594037927936 := by
  have h1 := numB_lt (l.take k)
  have h2 : (l.take k).length ≤ 6 := by rw [List.length_take]; omega
  have h3 : 256 ^ (l.take k).length ≤ 256 ^ 6 := Nat.pow_le_pow_right (by omega) h2
  omega
set_option maxRecDepth 100000 in
set_option maxHeartbeats 4000000 in
theorem getnumber_any (s : ByteArray) (hs : s.size ≤ 7) (w : World) :
    Calls Try.prog 48 #[.string s] w fun e w' => e = .returned (.int .u64 (numB s.data.toList)) ∧ w = w' := by
  have hlen : s.data.toList.length = s.size := rfl
  have HT : Hid (∀ (k : Nat) (h : k < s.size), numB (s.data.toList.take (k + 1)) = numB (s.data.toList.take k) * 256 + (s[k]'h).toNat) := Lib.hid fun k h => num_take (l := s.data.toList) (k := k) h
  have hle := fun (k : Nat) (h : k ≤ 6) => num_small s.data.toList k h
  have HL := Lib.hid hle
  obtain ⟨N, hN⟩ : ∃ N, numB s.data.toList = N := ⟨_, rfl⟩
  have HN : Hid (numB (s.data.toList.take s.size) = N) := Lib.hid (by rw [List.take_of_length_le (Nat.le_of_eq hlen)]; exact hN)
  rw [hN]
  clear hN hle hlen
  obtain ⟨n, hn⟩ : ∃ n, s.size = n := ⟨_, rfl⟩
  go_enter Try.func48, Try.ntmps48
  go_wp2
  go_loopg [3, 7] n (fun g s3 s7 wx => ∃ k m : Nat, k + g = n ∧ s7 = .int .i64 k ∧ s3 = .int .u64 m ∧ Hid (numB (s.data.toList.take k) = m) ∧ w = wx)
  case atStart => exact ⟨0, 0, by omega, rfl, rfl, Lib.hid rfl, rfl⟩
  case round =>
    obtain ⟨k, m, hkg, rfl, rfl, HM, rfl⟩ := hrel
    cases gk with
    | zero =>
      obtain rfl : k = n := by omega
      have hmN : Hid (m = N) := Lib.hid (by rw [← HM.out, ← HN.out, hn])
      go_wp2
      go_ret
      exact ⟨by rw [← hmN.out]; rfl, rfl⟩
    | succ g =>
      have hk : k < s.size := by omega
      have hm7 : m < 72057594037927936 := by rw [← HM.out]; exact HL.out k (by omega)
      have hor := or_byteN m s[k] hm7
      have hT := HT.out k hk
      rw [HM.out] at hT
      have H2 : Hid (numB (s.data.toList.take (k + 1)) = m * 256 + s[k].toNat) := Lib.hid hT
      clear hT HM
      go_wp2
      go_roundg g
      case measure => omega
      case rel => exact ⟨k + 1, m * 256 + s[k].toNat, by omega, by go_num, by first | rfl | (rw [hor]), H2, rfl⟩
set_option maxRecDepth 100000 in
set_option maxHeartbeats 4000000 in
theorem ref_number_any (s : ByteArray) (hs : s.size ≤ 7) (w : World) :
    Calls Try.prog 51 #[.string s] w fun e w' => e = .returned (.int .u64 (numB s.data.toList)) ∧ w = w' := by
  have hlen : s.data.toList.length = s.size := rfl
  have HT : Hid (∀ (k : Nat) (h : k < s.size), numB (s.data.toList.take (k + 1)) = numB (s.data.toList.take k) * 256 + (s[k]'h).toNat) := Lib.hid fun k h => num_take (l := s.data.toList) (k := k) h
  have hle := fun (k : Nat) (h : k ≤ 6) => num_small s.data.toList k h
  have HL := Lib.hid hle
  obtain ⟨N, hN⟩ : ∃ N, numB s.data.toList = N := ⟨_, rfl⟩
  have HN : Hid (numB (s.data.toList.take s.size) = N) := Lib.hid (by rw [List.take_of_length_le (Nat.le_of_eq hlen)]; exact hN)
  rw [hN]
  clear hN hle hlen
  obtain ⟨n, hn⟩ : ∃ n, s.size = n := ⟨_, rfl⟩
  go_enter Try.func51, Try.ntmps51
  go_wp2
  go_loopg [3, 4] n (fun g s3 s7 wx => ∃ k m : Nat, k + g = n ∧ s7 = .int .i64 k ∧ s3 = .int .u64 m ∧ Hid (numB (s.data.toList.take k) = m) ∧ w = wx)
  case atStart => exact ⟨0, 0, by omega, rfl, rfl, Lib.hid rfl, rfl⟩
  case round =>
    obtain ⟨k, m, hkg, rfl, rfl, HM, rfl⟩ := hrel
    cases gk with
    | zero =>
      obtain rfl : k = n := by omega
      have hmN : Hid (m = N) := Lib.hid (by rw [← HM.out, ← HN.out, hn])
      go_wp2
      go_ret
      exact ⟨by rw [← hmN.out]; rfl, rfl⟩
    | succ g =>
      have hk : k < s.size := by omega
      have hm7 : m < 72057594037927936 := by rw [← HM.out]; exact HL.out k (by omega)
      have hor := or_byteN m s[k] hm7
      have hT := HT.out k hk
      rw [HM.out] at hT
      have H2 : Hid (numB (s.data.toList.take (k + 1)) = m * 256 + s[k].toNat) := Lib.hid hT
      clear hT HM
      go_wp2
      go_roundg g
      case measure => omega
      case rel => exact ⟨k + 1, m * 256 + s[k].toNat, by omega, by go_num, by first | rfl | (rw [hor]), H2, rfl⟩
end Go.Proofs.Ytklklpccpbhfgaa
