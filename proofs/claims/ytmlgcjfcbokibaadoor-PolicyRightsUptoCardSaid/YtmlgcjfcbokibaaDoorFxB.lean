/- The digits that come next are taken. -/
import Derived.Test.YtmlgcjfcbokibaaDoorFxA
import Derived.WalkSpells
namespace Go.Proofs.YtmlgcjfcbokibaaDoor
open Go Go.RowKit

theorem dig_stop {l : List UInt8} {k : Nat} (h : AllDig (l.take k)) (hn : NoDig (l.drop k)) : dig l = l.take k ∧ rst l = l.drop k := by
  have := dig_app h hn
  rwa [List.take_append_drop] at this
theorem AllDig.snoc {l : List UInt8} {c : UInt8} (h : AllDig l) (hc : isDig c = true) : AllDig (l ++ [c]) := h.app fun x hx => by rw [List.mem_singleton.1 hx]; exact hc
theorem ext_take (s : ByteArray) (k : Nat) : s.extract 0 k = tx (s.data.toList.take k) := Lib.extract_upto s k
theorem ext_drop (s : ByteArray) (k : Nat) : s.extract k s.size = tx (s.data.toList.drop k) := Lib.extract_from s k

set_option maxHeartbeats 8000000 in
theorem digits_all (B : Nat) (s : ByteArray) (hs : s.size ≤ maxLen) (lo hi : Nat) (_hlo : lo ≤ 64) (_hhi : hi ≤ 64) (w : World) (hc : RdAt B s w) (R : Ending → World → Prop)
    (hok : lo ≤ (dig s.data.toList).length → (dig s.data.toList).length ≤ hi → R (.returned (.string (tx (dig s.data.toList)))) (w.setCell ⟨B, 0, none⟩ (.string (tx (rst s.data.toList)))))
    (hbad : ¬ (lo ≤ (dig s.data.toList).length ∧ (dig s.data.toList).length ≤ hi) → R (PE 2) w) :
    Calls Tryd.prog 71 #[.pointer (some ⟨B, 0, none⟩), .int .i64 lo, .int .i64 hi] w R := by
  have h0 := hc.cell 0 _ rfl
  have hf := hc.fro 0 _ rfl
  unfold maxLen at hs
  have HOK := Lib.hid hok
  have HBAD := Lib.hid hbad
  clear hc hok hbad
  have fin : ∀ k : Nat, k ≤ s.size → AllDig (s.data.toList.take k) → NoDig (s.data.toList.drop k) →
      Hid ((lo ≤ k → k ≤ hi → R (.returned (.string (s.extract 0 k))) (w.setCell ⟨B, 0, none⟩ (.string (s.extract k s.size)))) ∧ (¬ (lo ≤ k ∧ k ≤ hi) → R (PE 2) w)) := by
    intro k hk h1 h2
    refine Lib.hid ?_
    obtain ⟨e1, e2⟩ := dig_stop h1 h2
    have e3 : (dig s.data.toList).length = k := by rw [e1, List.length_take, size_list]; omega
    have a1 := HOK.out
    have a2 := HBAD.out
    rw [e3, e1, e2, ← ext_take, ← ext_drop] at a1
    rw [e3] at a2
    exact ⟨a1, a2⟩
  have FIN := Lib.hid fin
  clear fin HOK HBAD
  go_enter Tryd.func71, Tryd.ntmps71
  go_wp2
  go_step3
  go_wp2
  go_step3
  go_wp2
  go_loopg [7] s.size (fun g s7 wx => ∃ k : Nat, k + g = s.size ∧ s7 = .int .i64 k ∧ Hid (AllDig (s.data.toList.take k)) ∧ wx = w)
  case atStart => exact ⟨0, by omega, rfl, Lib.hid (fun c hc => by simp at hc), rfl⟩
  case round =>
    obtain ⟨k, hkg, rfl, HA, rfl⟩ := hrel
    cases gk with
    | zero =>
      have hkz : ¬ ((k : Int) < (s.size : Int)) := by omega
      have F := FIN.out k (by omega) HA.out (by rw [List.drop_eq_nil_of_le (by rw [size_list]; omega)]; exact NoDig.nil)
      by_cases h1 : k < lo
      · clear HA
        go_wp2
        exact ⟨rfl, F.out.2 (by omega)⟩
      · by_cases h2 : hi < k
        · clear HA
          go_wp2
          exact ⟨rfl, F.out.2 (by omega)⟩
        · have hks : k ≤ s.size := by omega
          clear HA
          go_wp2
          exact F.out.1 (by omega) (by omega)
    | succ g =>
      have hlt : k < s.size := by omega
      have hkz : (k : Int) < (s.size : Int) := by omega
      obtain ⟨x, hx⟩ : ∃ x : UInt8, s[k] = x := ⟨_, rfl⟩
      have HX := Lib.hid (show s.data.toList.drop k = x :: s.data.toList.drop (k + 1) by rw [drop_at hlt, hx])
      by_cases hd1 : (48 : Int) ≤ (x.toNat : Int)
      · by_cases hd2 : (x.toNat : Int) ≤ 57
        · have HA2 : Hid (AllDig (s.data.toList.take (k + 1))) := Lib.hid (by rw [take_at hlt, hx]; exact HA.out.snoc (by simp [isDig]; omega))
          clear HA HX
          go_wp2
          go_roundg g
          case measure => omega
          case rel => exact ⟨k + 1, by omega, by go_num, HA2, rfl⟩
        · have F := FIN.out k (by omega) HA.out (by rw [HX.out]; exact NoDig.cons (by simp [isDig]; omega))
          clear HX
          by_cases h1 : k < lo
          · clear HA
            go_wp2
            exact ⟨rfl, F.out.2 (by omega)⟩
          · by_cases h2 : hi < k
            · clear HA
              go_wp2
              exact ⟨rfl, F.out.2 (by omega)⟩
            · have hks : k ≤ s.size := by omega
              clear HA
              go_wp2
              exact F.out.1 (by omega) (by omega)
      · have F := FIN.out k (by omega) HA.out (by rw [HX.out]; exact NoDig.cons (by simp [isDig]; omega))
        clear HX
        by_cases h1 : k < lo
        · clear HA
          go_wp2
          exact ⟨rfl, F.out.2 (by omega)⟩
        · by_cases h2 : hi < k
          · clear HA
            go_wp2
            exact ⟨rfl, F.out.2 (by omega)⟩
          · have hks : k ≤ s.size := by omega
            clear HA
            go_wp2
            exact F.out.1 (by omega) (by omega)
end Go.Proofs.YtmlgcjfcbokibaaDoor
