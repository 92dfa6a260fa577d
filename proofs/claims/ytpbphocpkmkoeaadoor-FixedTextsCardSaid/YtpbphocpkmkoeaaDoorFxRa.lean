/- The chapter's own answer: signs, digits, zeros ahead, numbers. -/
import Derived.Test.YtpbphocpkmkoeaaDoorFxM
import Derived.Deep.QuietTactic
import Derived.BigQuiet
namespace Go.Proofs.YtpbphocpkmkoeaaDoor
open Go Go.RowKit

theorem ref_digits (s : ByteArray) (hs : s.size ≤ maxLen) (w : World) :
    Calls Tryd.prog 28 #[.string s] w fun e w' => e = .returned (.int .i64 ((dig s.data.toList).length : Nat)) ∧ w = w' := by
  unfold maxLen at hs
  have fin : ∀ k : Nat, k ≤ s.size → AllDig (s.data.toList.take k) → NoDig (s.data.toList.drop k) → ((dig s.data.toList).length : Nat) = k := by
    intro k hk h1 h2
    obtain ⟨e1, e2⟩ := dig_stop h1 h2
    rw [e1, List.length_take, size_list]; omega
  have FIN := Lib.hid fin
  clear fin
  go_enter Tryd.func28, Tryd.ntmps28
  go_wp2
  go_loopg [3] s.size (fun g s3 wx => ∃ k : Nat, k + g = s.size ∧ s3 = .int .i64 k ∧ Hid (AllDig (s.data.toList.take k)) ∧ wx = w)
  case atStart => exact ⟨0, by omega, rfl, Lib.hid (fun c hc => by simp at hc), rfl⟩
  case round =>
    obtain ⟨k, hkg, rfl, HA, rfl⟩ := hrel
    cases gk with
    | zero =>
      have hkz : ¬ ((k : Int) < (s.size : Int)) := by omega
      have F := Lib.hid (FIN.out k (by omega) HA.out (by rw [List.drop_eq_nil_of_le (by rw [size_list]; omega)]; exact NoDig.nil))
      go_wp2
      go_ret
      exact ⟨by rw [F.out]; rfl, rfl⟩
    | succ g =>
      have hlt : k < s.size := by omega
      have hkz : (k : Int) < (s.size : Int) := by omega
      obtain ⟨x, hx⟩ : ∃ x : UInt8, s[k] = x := ⟨_, rfl⟩
      have HX := Lib.hid (show s.data.toList.drop k = x :: s.data.toList.drop (k + 1) by rw [drop_at hlt, hx])
      by_cases hd1 : (48 : Int) ≤ (x.toNat : Int)
      · by_cases hd2 : (x.toNat : Int) ≤ 57
        · have HA2 : Hid (AllDig (s.data.toList.take (k + 1))) := Lib.hid (by rw [take_at hlt, hx]; exact HA.out.snoc (by simp [isDig]; omega))
          clear HA HX
          go_wp2
          go_roundg g
          case measure => omega
          case rel => exact ⟨k + 1, by omega, by go_num, HA2, rfl⟩
        · have F := Lib.hid (FIN.out k (by omega) HA.out (by rw [HX.out]; exact NoDig.cons (by simp [isDig]; omega)))
          clear HX
          go_wp2
          go_ret
          exact ⟨by rw [F.out]; rfl, rfl⟩
      · have F := Lib.hid (FIN.out k (by omega) HA.out (by rw [HX.out]; exact NoDig.cons (by simp [isDig]; omega)))
        clear HX
        go_wp2
        go_ret
        exact ⟨by rw [F.out]; rfl, rfl⟩

theorem trim_step (t : List UInt8) : Lib.trimLeftB (48 :: t) 48 = Lib.trimLeftB t 48 := by
  unfold Lib.trimLeftB; rw [List.dropWhile_cons, if_pos (by simp)]
theorem trim_stop {c : UInt8} (t : List UInt8) (h : c ≠ 48) : Lib.trimLeftB (c :: t) 48 = c :: t := by
  unfold Lib.trimLeftB; rw [List.dropWhile_cons, if_neg (by simpa using h)]

set_option maxHeartbeats 1000000 in
theorem ref_trim (l : List UInt8) (hs : l.length ≤ maxLen) (w : World) :
    Calls Tryd.prog 29 #[.string (tx l)] w fun e w' => e = .returned (.string (tx (Lib.trimLeftB l 48))) ∧ w = w' := by
  unfold maxLen at hs
  go_enter Tryd.func29, Tryd.ntmps29
  go_wp2
  go_loopg [0] l.length (fun g s0 wx => ∃ m : List UInt8, m.length ≤ g ∧ m.length ≤ l.length ∧ s0 = .string (tx m) ∧ Hid (Lib.trimLeftB m 48 = Lib.trimLeftB l 48) ∧ wx = w)
  case atStart => exact ⟨l, Nat.le_refl _, Nat.le_refl _, rfl, Lib.hid rfl, rfl⟩
  case round =>
    obtain ⟨m, hmg, hml, rfl, HM, rfl⟩ := hrel
    cases m with
    | nil =>
      have hem : (tx ([] : List UInt8)).toList = [] := is_empty rfl
      have HE : Hid (tx ([] : List UInt8) = tx (Lib.trimLeftB l 48)) := Lib.hid (by rw [← HM.out]; rfl)
      generalize tx ([] : List UInt8) = M at hem HE
      go_wp2
      go_ret
      exact ⟨by rw [← HE.out]; rfl, rfl⟩
    | cons c t =>
      obtain ⟨hz, hx, he⟩ := first_of (s := tx (c :: t)) (c := c) (t := t) rfl
      have hn := tx_ne (l := c :: t) (by simp)
      have hn2 := tx_ne2 (l := c :: t) (by simp)
      have hsz : (tx (c :: t)).size ≤ 9223372036854775807 := by rw [tx_len]; omega
      by_cases hc : c = 48
      · have HN : Hid (Lib.trimLeftB t 48 = Lib.trimLeftB l 48) := Lib.hid (by rw [← HM.out, hc, trim_step])
        have e4 : (c.toNat : Int) = 48 := by rw [hc]; rfl
        have HEX := Lib.hid he
        cases gk with
        | zero => simp at hmg
        | succ g =>
          simp only [List.length_cons] at hmg hml
          clear HM hc he
          generalize tx (c :: t) = M at *
          go_wp2
          go_roundg g
          case measure => omega
          case rel => exact ⟨t, by omega, by omega, by rw [HEX.out], HN, rfl⟩
      · have HE : Hid (tx (c :: t) = tx (Lib.trimLeftB l 48)) := Lib.hid (by rw [← HM.out, trim_stop t hc])
        have e4 : ((c.toNat : Int) == 48) = false := by
          rw [beq_eq_false_iff_ne]
          intro h
          exact hc (UInt8.toNat_inj.1 (by have : c.toNat = 48 := by omega
                                          rw [this]; rfl))
        clear HM hc he
        generalize tx (c :: t) = M at *
        go_wp2
        go_ret
        exact ⟨by rw [← HE.out]; rfl, rfl⟩
end Go.Proofs.YtpbphocpkmkoeaaDoor
