/- Bytes of a text; which may stand in a line; which are among those told. -/
import Derived.Test.YtlocjhnlemlnmaaLxMath
import Derived.Test.YtlocjhnlemlnmaaCells
import Derived.Test.YtlocjhnlemlnmaaShelf
import Derived.Lib.IndexAny
import Derived.WalkLawsBesides
import Derived.Deep.LoopGhost
import Derived.LoopTactic
import Derived.IntWalk
namespace Go.Proofs.Ytlocjhnlemlnmaa.Lx
open Go Go.RowKit

def tx (l : List UInt8) : ByteArray := ⟨l.toArray⟩
theorem tx_list (s : ByteArray) : tx s.data.toList = s := by rcases s with ⟨⟨l⟩⟩; rfl
theorem list_tx (l : List UInt8) : (tx l).data.toList = l := rfl
theorem tx_len (l : List UInt8) : (tx l).size = l.length := by simp [tx, ByteArray.size]
theorem size_list (s : ByteArray) : s.data.toList.length = s.size := by rcases s with ⟨⟨l⟩⟩; rfl
theorem drop_at {s : ByteArray} {k : Nat} (h : k < s.size) : s.data.toList.drop k = s[k] :: s.data.toList.drop (k + 1) := by
  rw [List.drop_eq_getElem_cons (by simpa using h)]
  congr 1
theorem take_at {s : ByteArray} {k : Nat} (h : k < s.size) : s.data.toList.take (k + 1) = s.data.toList.take k ++ [s[k]] := by
  rw [List.take_succ_eq_append_getElem (by simpa using h)]; rfl
theorem drop_end {s : ByteArray} {k : Nat} (h : s.size ≤ k) : s.data.toList.drop k = [] := List.drop_of_length_le (by rw [size_list]; exact h)
/-- What is read of a byte. -/
theorem byte_facts (b : UInt8) : (b.toNat : Int) < 256 := by have := b.toNat_lt; omega
theorem okB_nat (b : UInt8) : okB b = (decide (32 ≤ b.toNat) && !(decide (b.toNat = 127))) := by
  unfold okB
  congr 1
  by_cases h : b = 127
  · subst h; rfl
  · have h2 : ¬ b.toNat = 127 := fun e => h (UInt8.toNat_inj.1 e)
    simp [h, h2]

theorem has_ok (s : ByteArray) (b : UInt8) (w : World) : Calls Try.prog 45 #[.string s, .int .u8 (b.toNat : Int)] w fun e w' => e = .returned (.bool (s.data.toList.contains b)) ∧ w' = w := by
  have h1 := Lib.contains_iff_indexByte s.data.toList b
  have h2 := Try.strings_IndexByte s (b.toNat : Int) w
  rw [show ((b.toNat : Int)).toNat.toUInt8 = b by simp] at h2
  rw [h1]
  clear h1
  generalize Lib.indexByte s.data.toList b = x at h2 ⊢
  by_cases hx : 0 ≤ x
  · go_enter Try.func45, Try.ntmps45
    go_wp2_with fail
    refine h2.mono ?_
    rintro e w' ⟨rfl, rfl⟩
    go_wp2
    go_ret
    exact ⟨by simp [hx], rfl⟩
  · have hx2 : x < 0 := by omega
    go_enter Try.func45, Try.ntmps45
    go_wp2_with fail
    refine h2.mono ?_
    rintro e w' ⟨rfl, rfl⟩
    go_wp2
    go_ret
    exact ⟨by simp, rfl⟩
theorem plain_ok (b : UInt8) (w : World) : Calls Try.prog 48 #[.int .u8 (b.toNat : Int)] w fun e w' => e = .returned (.bool (okB b)) ∧ w' = w := by
  rw [okB_nat]
  generalize b.toNat = n
  by_cases h1 : 32 ≤ n
  · have h1' : (32 : Int) ≤ n := by omega
    by_cases h2 : n = 127
    · subst h2
      go_enter Try.func48, Try.ntmps48
      go_wp2
      go_ret
      exact ⟨rfl, rfl⟩
    · have h2' : ((n : Int) != 127) = true := by simp; omega
      go_enter Try.func48, Try.ntmps48
      go_wp2
      go_ret
      exact ⟨by simp [h1, h2], rfl⟩
  · have h1' : (n : Int) < 32 := by omega
    rw [show (decide (32 ≤ n) && !decide (n = 127)) = false by simp [h1]]
    clear h1
    have h3 : ((32 : Int) ≤ (n : Int)) = False := eq_false (by omega)
    go_enter Try.func48, Try.ntmps48
    go_wp2
    go_ret
    exact ⟨rfl, rfl⟩
set_option maxHeartbeats 2000000 in
theorem plains_ok (s : ByteArray) (hs : s.size ≤ maxLen) (w : World) : Calls Try.prog 40 #[.string s] w fun e w' => e = .returned (.bool (plainL s.data.toList)) ∧ w' = w := by
  unfold maxLen at hs
  obtain ⟨V, hV⟩ : ∃ V, plainL s.data.toList = V := ⟨_, rfl⟩
  rw [hV]
  have HV := Lib.hid hV
  clear hV
  go_enter Try.func40, Try.ntmps40
  go_wp2
  go_loop [6] (fun i => ∃ k : Nat, k ≤ s.size ∧ i = .int .i64 k ∧ Hid (V = plainL (s.data.toList.drop k))) (fun i => s.size - (intOf i).toNat)
  case atStart => exact ⟨0, Nat.zero_le _, rfl, Lib.hid HV.out.symm⟩
  case round =>
    obtain ⟨k, hk, rfl, H⟩ := hrel
    by_cases hlt : k < s.size
    · have hd := drop_at hlt
      by_cases ho : okB s[k] = true
      · have hp := fun w => plain_ok s[k] w
        rw [ho] at hp
        go_wp2_with fail
        refine (hp _).mono ?_
        rintro e w' ⟨rfl, rfl⟩
        go_wp2
        go_round
        case rel => exact ⟨k + 1, by omega, by go_num, Lib.hid (by rw [H.out, hd]; simp [plainL, ho])⟩
        case measure => simp [intOf]; omega
      · have ho : okB s[k] = false := by simpa using ho
        have hp := fun w => plain_ok s[k] w
        rw [ho] at hp
        have hr : V = false := by rw [H.out, hd]; simp [plainL, ho]
        subst hr
        clear hd
        go_wp2_with fail
        refine (hp _).mono ?_
        rintro e w' ⟨rfl, rfl⟩
        go_wp2
        go_ret
        exact ⟨rfl, rfl⟩
    · have hr : V = true := by rw [H.out, drop_end (by omega)]; rfl
      subst hr
      have hke : k = s.size := by omega
      subst hke
      go_wp2
      go_ret
      exact ⟨rfl, rfl⟩
set_option maxHeartbeats 2000000 in
theorem in_ok (s : ByteArray) (hs : s.size ≤ maxLen) (b : UInt8) (w : World) : Calls Try.prog 46 #[.string s, .int .u8 (b.toNat : Int)] w fun e w' => e = .returned (.bool (s.data.toList.contains b)) ∧ w' = w := by
  unfold maxLen at hs
  obtain ⟨V, hV⟩ : ∃ V, s.data.toList.contains b = V := ⟨_, rfl⟩
  rw [hV]
  have HV := Lib.hid hV
  clear hV
  go_enter Try.func46, Try.ntmps46
  go_wp2
  go_loop [5] (fun i => ∃ k : Nat, k ≤ s.size ∧ i = .int .i64 k ∧ Hid (V = (s.data.toList.drop k).contains b)) (fun i => s.size - (intOf i).toNat)
  case atStart => exact ⟨0, Nat.zero_le _, rfl, Lib.hid HV.out.symm⟩
  case round =>
    obtain ⟨k, hk, rfl, H⟩ := hrel
    by_cases hlt : k < s.size
    · have hd := drop_at hlt
      by_cases ho : s[k] = b
      · have hr : V = true := by rw [H.out, hd]; simp [ho]
        have he : ((s[k].toNat : Int) == (b.toNat : Int)) = true := by rw [ho]; simp
        subst hr
        clear hd ho H
        go_wp2
        go_ret
        exact ⟨rfl, rfl⟩
      · have he : ((s[k].toNat : Int) == (b.toNat : Int)) = false := by
          rw [beq_eq_false_iff_ne]
          intro e
          exact ho (UInt8.toNat_inj.1 (by omega))
        go_wp2
        go_round
        case rel => exact ⟨k + 1, by omega, by go_num, Lib.hid (by rw [H.out, hd]; simp; intro e; exact absurd e.symm ho)⟩
        case measure => simp [intOf]; omega
    · have hr : V = false := by rw [H.out, drop_end (by omega)]; rfl
      subst hr
      have hke : k = s.size := by omega
      subst hke
      go_wp2
      go_ret
      exact ⟨rfl, rfl⟩
set_option maxHeartbeats 2000000 in
theorem ref_plain (s : ByteArray) (hs : s.size ≤ maxLen) (w : World) : Calls Try.prog 42 #[.string s] w fun e w' => e = .returned (.bool (plainL s.data.toList)) ∧ w' = w := by
  unfold maxLen at hs
  obtain ⟨V, hV⟩ : ∃ V, plainL s.data.toList = V := ⟨_, rfl⟩
  rw [hV]
  have HV := Lib.hid hV
  clear hV
  go_enter Try.func42, Try.ntmps42
  go_wp2
  go_loop [3] (fun i => ∃ k : Nat, k ≤ s.size ∧ i = .int .i64 k ∧ Hid (V = plainL (s.data.toList.drop k))) (fun i => s.size - (intOf i).toNat)
  case atStart => exact ⟨0, Nat.zero_le _, rfl, Lib.hid HV.out.symm⟩
  case round =>
    obtain ⟨k, hk, rfl, H⟩ := hrel
    by_cases hlt : k < s.size
    · have hd := drop_at hlt
      have hn := okB_nat s[k]
      by_cases h1 : 32 ≤ s[k].toNat
      · have h1' : (32 : Int) ≤ (s[k].toNat : Int) := by omega
        by_cases h2 : s[k].toNat = 127
        · have h2' : ((s[k].toNat : Int) == 127) = true := by rw [h2]; rfl
          have hr : V = false := by rw [H.out, hd]; simp [plainL, hn, h2]
          subst hr
          clear hd hn H h2
          go_wp2
          go_ret
          exact ⟨rfl, rfl⟩
        · have h2' : ((s[k].toNat : Int) == 127) = false := by rw [beq_eq_false_iff_ne]; omega
          have ho : okB s[k] = true := by rw [hn]; simp [h1, h2]
          clear hn h2
          go_wp2
          go_round
          case rel => exact ⟨k + 1, by omega, by go_num, Lib.hid (by rw [H.out, hd]; simp [plainL, ho])⟩
          case measure => simp [intOf]; omega
      · have h1' : (s[k].toNat : Int) < 32 := by omega
        have hr : V = false := by rw [H.out, hd]; simp [plainL, hn, h1]
        subst hr
        clear hd hn H
        go_wp2
        go_ret
        exact ⟨rfl, rfl⟩
    · have hr : V = true := by rw [H.out, drop_end (by omega)]; rfl
      subst hr
      have hke : k = s.size := by omega
      subst hke
      go_wp2
      go_ret
      exact ⟨rfl, rfl⟩
end Go.Proofs.Ytlocjhnlemlnmaa.Lx
