/- Numbers as bytes, and of bytes: the program's and the chapter's. -/
import Derived.Test.YtdhkonaebhpeeaaDoorPoB
import Derived.Laws.BitsAllLaws
import Derived.Lib.Hide
import Derived.Lib.AppendIntMem
namespace Go.Proofs.YtdhkonaebhpeeaaDoor.Po
open Go Go.RowKit

theorem byte_eq (n m : Nat) : ((UInt8.ofNat (n / 256 ^ m)).toNat : Int) = (n : Int) / 2 ^ (8 * m) % 256 := by
  rw [UInt8.toNat_ofNat']
  have e : ((2 : Int) ^ (8 * m)) = ((256 ^ m : Nat) : Int) := by rw [Int.natCast_pow, Int.pow_mul]; rfl
  rw [e]
  omega
theorem numZ_snoc (r : List UInt8) (b : UInt8) : numZ (r ++ [b]) = numZ r * 256 + b.toNat := by
  unfold numZ
  rw [List.foldl_append]
  rfl
theorem numZ_lt : ∀ s, numZ s < 256 ^ s.length
  | [] => by simp [numZ]
  | b :: r => by
    have h1 := numZ_lt r
    have h2 := b.toNat_lt
    rw [numZ_cons, List.length_cons, Nat.pow_succ]
    have h3 : b.toNat * 256 ^ r.length ≤ 255 * 256 ^ r.length := Nat.mul_le_mul_right _ (by omega)
    generalize 256 ^ r.length = z at *
    omega
set_option maxRecDepth 100000 in
set_option maxHeartbeats 4000000 in
/-- A number's bytes behind a row. -/
theorem putnumber_any {B n : Nat} {v : Value} {L : List UInt8} {w : World} (hO : OwnB B v L w) (hB : B ≤ w.heap.size) (hL : L.length + 8 ≤ 140737488355328) (_hn : n ≤ 9223372036854775807) :
    Calls Tryd.prog 31 #[v, .int .i64 n] w fun e w' => ∃ v', e = .returned v' ∧ Grew B v (L ++ beZ 8 n) w v' w' := by
  have G0 := Lib.hid (Grew.refl hO)
  clear hO
  go_enter Tryd.func31, Tryd.ntmps31
  go_wp2
  go_loopg [0, 5] 8 (fun g s0 s7 wx => s7 = .int .i64 ((g : Int) - 1) ∧ g ≤ 8 ∧ ∃ A, A ++ beZ g n = beZ 8 n ∧ Hid (Grew B v (L ++ A) w s0 wx))
  case atStart => exact ⟨rfl, Nat.le_refl _, [], rfl, by simpa using G0⟩
  case round =>
    clear G0
    obtain ⟨rfl, hgc, A, hA, HG⟩ := hrel
    cases gk with
    | zero =>
      simp only [beZ, List.append_nil] at hA
      have HA := Lib.hid hA
      clear hA
      rw [show ((0 : Nat) : Int) - 1 = -1 from rfl]
      go_wp2
      go_ret
      refine ⟨_, rfl, ?_⟩
      have := HG.out
      rw [HA.out] at this
      exact this
    | succ g =>
      have e7 : ((g + 1 : Nat) : Int) - 1 = (g : Int) := by omega
      rw [e7]
      have hAl : (L ++ A).length + 1 ≤ 140737488355328 := by
        have h1 := congrArg List.length hA
        rw [List.length_append, beZ_len, beZ_len] at h1
        rw [List.length_append]
        omega
      have HA := Lib.hid hA
      have hs := HG.out.2.1.size
      obtain ⟨v', w', hr, hG'⟩ := append_byte 62 HG.out.1 (UInt8.ofNat (n / 256 ^ g)) hAl (Nat.le_trans hB hs)
      have HG' := Lib.hid (HG.out.trans hG')
      rw [byte_eq] at hr
      obtain ⟨j, hj⟩ : ∃ j, 8 * g = j := ⟨_, rfl⟩
      rw [hj] at hr
      have hkj : (8 : Int) * (g : Int) = (j : Int) := by omega
      have hj64 : j < 64 := by omega
      clear hG' HG hA hAl hs e7 hj
      go_wp2_with (at_builtin; refine Lib.wpList_append_run _ rfl _ _ _ _ rfl _ _ rfl rfl _ _ hr ?_)
      go_roundg g
      case measure => omega
      case rel =>
        refine ⟨by go_num, by omega, A ++ [UInt8.ofNat (n / 256 ^ g)], ?_, ?_⟩
        · rw [← HA.out, List.append_assoc]; rfl
        · rw [← List.append_assoc]; exact HG'
set_option maxRecDepth 100000 in
set_option maxHeartbeats 4000000 in
/-- The chapter's own: a number's bytes as a text. -/
theorem ref_bytes_any {c n : Nat} (hc0 : 0 < c) (hc : c ≤ 8) (_hn : n < 18446744073709551616) (w : World) :
    Calls Tryd.prog 33 #[.int .u64 n, .int .i64 c] w fun e w' => e = .returned (.string (tx (beZ c n))) ∧ Below w.heap.size w w' := by
  have G0 := Lib.hid (Grew.refl (OwnB.nil w.heap.size w))
  go_enter Tryd.func33, Tryd.ntmps33
  go_wp2
  go_loopg [5, 6] c (fun g s0 s7 wx => s7 = .int .i64 ((g : Int) - 1) ∧ g ≤ c ∧ ∃ A, A ++ beZ g n = beZ c n ∧ Hid (Grew w.heap.size (.slice none 0 0) A w s0 wx))
  case atStart => exact ⟨rfl, Nat.le_refl _, [], rfl, G0⟩
  case round =>
    clear G0
    obtain ⟨rfl, hgc, A, hA, HG⟩ := hrel
    cases gk with
    | zero =>
      simp only [beZ, List.append_nil] at hA
      subst hA
      have hb := own_back HG.out.1
      have HB : Hid (Below w.heap.size w wr) := Lib.hid (HG.out.below (fun g hg => by cases hg) (Nat.le_refl _))
      clear HG
      rw [show ((0 : Nat) : Int) - 1 = -1 from rfl]
      go_wp2
      go_ret
      exact ⟨rfl, HB.out⟩
    | succ g =>
      have e7 : ((g + 1 : Nat) : Int) - 1 = (g : Int) := by omega
      rw [e7]
      have hAl : A.length + 1 ≤ 140737488355328 := by
        have h1 := congrArg List.length hA
        rw [List.length_append, beZ_len, beZ_len] at h1
        omega
      have HA := Lib.hid hA
      have hs := HG.out.2.1.size
      obtain ⟨v', w', hr, hG'⟩ := append_byte 62 HG.out.1 (UInt8.ofNat (n / 256 ^ g)) hAl hs
      have HG' := Lib.hid (HG.out.trans hG')
      rw [byte_eq] at hr
      obtain ⟨j, hj⟩ : ∃ j, 8 * g = j := ⟨_, rfl⟩
      rw [hj] at hr
      have hkj : (8 : Int) * (g : Int) = (j : Int) := by omega
      have hj64 : j < 64 := by omega
      clear hG' HG hA hAl hs e7 hj
      go_wp2_with (at_builtin; refine Lib.wpList_append_run _ rfl _ _ _ _ rfl _ _ rfl rfl _ _ hr ?_)
      go_roundg g
      case measure => omega
      case rel =>
        refine ⟨by go_num, by omega, A ++ [UInt8.ofNat (n / 256 ^ g)], ?_, ?_⟩
        · rw [← HA.out, List.append_assoc]; rfl
        · exact HG'
theorem or_byteN (n : Nat) (c : UInt8) (h1 : n < 72057594037927936) : bits .or .u64 ((n : Int) * 256) (IntKind.u64.wrap (c.toNat : Int)) = ((n * 256 + c.toNat : Nat) : Int) := by
  have hc : c.toNat < 2 ^ 8 := c.toNat_lt
  have e : (n : Int) * 256 = ((2 ^ 8 * n : Nat) : Int) := by omega
  have e2 : IntKind.u64.wrap (c.toNat : Int) = (c.toNat : Int) := by rw [IntKind.wrap_u64]; omega
  rw [e, e2, u64_or_nat _ _ (by omega) (by omega), ← Nat.two_pow_add_eq_or_of_lt hc]
  omega
theorem wrap_i64Z (n : Nat) (h : n < 18446744073709551616) : IntKind.i64.wrap (n : Int) = i64Z n := by
  rw [IntKind.wrap_i64]
  unfold i64Z
  split <;> omega
theorem or_byteI (n : Nat) (c : UInt8) (h1 : n < 72057594037927936) : bits .or .i64 (wrap64 ((n : Int) * 256)) (wrap64 (c.toNat : Int)) = i64Z (n * 256 + c.toNat) := by
  have hc : c.toNat < 2 ^ 8 := c.toNat_lt
  obtain ⟨m, hm⟩ : ∃ m, 256 * n = m := ⟨_, rfl⟩
  have e : (n : Int) * 256 = (m : Int) := by omega
  have hw : (BitVec.ofInt 64 (wrap64 (m : Int))).toNat = m := by
    rw [BitVec.toNat_ofInt]
    unfold wrap64
    omega
  have hw2 : wrap64 (c.toNat : Int) = (c.toNat : Int) := by unfold wrap64; omega
  rw [e, hw2]
  show IntKind.i64.wrap ((BitVec.ofInt 64 (wrap64 (m : Int)) ||| BitVec.ofInt 64 (c.toNat : Int)).toNat : Int) = _
  rw [BitVec.toNat_or, hw, ofInt_u64 _ (by omega), ← hm, show 256 * n = 2 ^ 8 * n from rfl, ← Nat.two_pow_add_eq_or_of_lt hc, wrap_i64Z _ (by omega)]
  congr 1
  omega
theorem num_take {l : List UInt8} {k : Nat} (h : k < l.length) : numZ (l.take (k + 1)) = numZ (l.take k) * 256 + l[k].toNat := by
  rw [List.take_add_one, List.getElem?_eq_getElem h]
  exact numZ_snoc _ _
theorem num_small (l : List UInt8) (k : Nat) (h : k ≤ 7) : numZ (l.take k) < 72057594037927936 := by
  have h1 := numZ_lt (l.take k)
  have h2 : (l.take k).length ≤ 7 := by rw [List.length_take]; omega
  have h3 : 256 ^ (l.take k).length ≤ 256 ^ 7 := Nat.pow_le_pow_right (by omega) h2
  omega
set_option maxRecDepth 100000 in
set_option maxHeartbeats 4000000 in
theorem ref_number_any (s : ByteArray) (hs : s.size ≤ 8) (w : World) :
    Calls Tryd.prog 47 #[.string s] w fun e w' => e = .returned (.int .u64 (numZ s.data.toList)) ∧ w = w' := by
  have hlen : s.data.toList.length = s.size := rfl
  have HT : Hid (∀ (k : Nat) (h : k < s.size), numZ (s.data.toList.take (k + 1)) = numZ (s.data.toList.take k) * 256 + (s[k]'h).toNat) := Lib.hid fun k h => num_take (l := s.data.toList) (k := k) h
  have hle := fun (k : Nat) (h : k ≤ 7) => num_small s.data.toList k h
  have HL := Lib.hid hle
  obtain ⟨N, hN⟩ : ∃ N, numZ s.data.toList = N := ⟨_, rfl⟩
  have HN : Hid (numZ (s.data.toList.take s.size) = N) := Lib.hid (by rw [List.take_of_length_le (Nat.le_of_eq hlen)]; exact hN)
  rw [hN]
  clear hN hle hlen
  obtain ⟨n, hn⟩ : ∃ n, s.size = n := ⟨_, rfl⟩
  go_enter Tryd.func47, Tryd.ntmps47
  go_wp2
  go_loopg [3, 4] n (fun g s3 s7 wx => ∃ k m : Nat, k + g = n ∧ s7 = .int .i64 k ∧ s3 = .int .u64 m ∧ Hid (numZ (s.data.toList.take k) = m) ∧ w = wx)
  case atStart => exact ⟨0, 0, by omega, rfl, rfl, Lib.hid rfl, rfl⟩
  case round =>
    obtain ⟨k, m, hkg, rfl, rfl, HM, rfl⟩ := hrel
    cases gk with
    | zero =>
      obtain rfl : k = n := by omega
      have hmN : Hid (m = N) := Lib.hid (by rw [← HM.out, ← HN.out, hn])
      go_wp2
      go_ret
      exact ⟨by rw [← hmN.out]; rfl, rfl⟩
    | succ g =>
      have hk : k < s.size := by omega
      have hm7 : m < 72057594037927936 := by rw [← HM.out]; exact HL.out k (by omega)
      have hor := or_byteN m s[k] hm7
      have hT := HT.out k hk
      rw [HM.out] at hT
      have H2 : Hid (numZ (s.data.toList.take (k + 1)) = m * 256 + s[k].toNat) := Lib.hid hT
      clear hT HM
      go_wp2
      go_roundg g
      case measure => omega
      case rel => exact ⟨k + 1, m * 256 + s[k].toNat, by omega, by go_num, by first | rfl | (rw [hor]), H2, rfl⟩
set_option maxRecDepth 100000 in
set_option maxHeartbeats 4000000 in
theorem getnumber_any (s : ByteArray) (hs : s.size ≤ 8) (w : World) :
    Calls Tryd.prog 45 #[.string s] w fun e w' => e = .returned (.int .i64 (i64Z (numZ s.data.toList))) ∧ w = w' := by
  have hlen : s.data.toList.length = s.size := rfl
  have HT : Hid (∀ (k : Nat) (h : k < s.size), numZ (s.data.toList.take (k + 1)) = numZ (s.data.toList.take k) * 256 + (s[k]'h).toNat) := Lib.hid fun k h => num_take (l := s.data.toList) (k := k) h
  have hle := fun (k : Nat) (h : k ≤ 7) => num_small s.data.toList k h
  have HL := Lib.hid hle
  obtain ⟨N, hN⟩ : ∃ N, numZ s.data.toList = N := ⟨_, rfl⟩
  have HN : Hid (numZ (s.data.toList.take s.size) = N) := Lib.hid (by rw [List.take_of_length_le (Nat.le_of_eq hlen)]; exact hN)
  rw [hN]
  clear hN hle hlen
  obtain ⟨n, hn⟩ : ∃ n, s.size = n := ⟨_, rfl⟩
  go_enter Tryd.func45, Tryd.ntmps45
  go_wp2
  go_loopg [3, 7] n (fun g s3 s7 wx => ∃ k m : Nat, k + g = n ∧ s7 = .int .i64 k ∧ s3 = .int .i64 (i64Z m) ∧ Hid (numZ (s.data.toList.take k) = m) ∧ w = wx)
  case atStart => exact ⟨0, 0, by omega, rfl, rfl, Lib.hid rfl, rfl⟩
  case round =>
    obtain ⟨k, m, hkg, rfl, rfl, HM, rfl⟩ := hrel
    cases gk with
    | zero =>
      obtain rfl : k = n := by omega
      have hmN : Hid (m = N) := Lib.hid (by rw [← HM.out, ← HN.out, hn])
      go_wp2
      go_ret
      exact ⟨by rw [← hmN.out]; rfl, rfl⟩
    | succ g =>
      have hk : k < s.size := by omega
      have hm7 : m < 72057594037927936 := by rw [← HM.out]; exact HL.out k (by omega)
      have hmi : i64Z m = (m : Int) := by unfold i64Z; rw [if_pos (by omega)]
      rw [hmi]
      have hor := or_byteI m s[k] hm7
      have hT := HT.out k hk
      rw [HM.out] at hT
      have H2 : Hid (numZ (s.data.toList.take (k + 1)) = m * 256 + s[k].toNat) := Lib.hid hT
      clear hT HM hmi
      go_wp2
      go_roundg g
      case measure => omega
      case rel => exact ⟨k + 1, m * 256 + s[k].toNat, by omega, by go_num, by first | rfl | (rw [hor]), H2, rfl⟩
end Go.Proofs.YtdhkonaebhpeeaaDoor.Po

