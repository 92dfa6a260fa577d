/- The number of digits; the digits that a text begins with; its end. -/
import Derived.Test.YtmlgcjfcbokibaaDoorFxText
import Derived.Test.YtmlgcjfcbokibaaDoorCells
import Derived.WalkLawsBesides
import Derived.Deep.LoopGhost
import Derived.LoopTactic
import Derived.IntWalk
namespace Go.Proofs.YtmlgcjfcbokibaaDoor
open Go Go.RowKit

abbrev tx (l : List UInt8) : ByteArray := ⟨l.toArray⟩
/-- What is thrown: an error's number. -/
abbrev PE (k : Int) : Ending := .panicked [{ v := .iface 44 (.int .i64 k), recovered := false }]
theorem tx_list (s : ByteArray) : tx s.data.toList = s := by rcases s with ⟨⟨l⟩⟩; rfl
theorem list_tx (l : List UInt8) : (tx l).data.toList = l := rfl
theorem ne_empty {s : ByteArray} (h : s.data.toList ≠ []) : (!s.toList.isEmpty) = true := by
  rw [Lib.toList_data]
  cases hl : s.data.toList with
  | nil => exact absurd hl h
  | cons => rfl
theorem is_empty {s : ByteArray} (h : s.data.toList = []) : s.toList = [] := by rw [Lib.toList_data]; exact h
theorem size_list (s : ByteArray) : s.data.toList.length = s.size := by rcases s with ⟨⟨l⟩⟩; rfl
theorem drop_at {s : ByteArray} {k : Nat} (h : k < s.size) : s.data.toList.drop k = s[k] :: s.data.toList.drop (k + 1) := by
  rw [List.drop_eq_getElem_cons (by simpa using h)]
  congr 1
theorem take_at {s : ByteArray} {k : Nat} (h : k < s.size) : s.data.toList.take (k + 1) = s.data.toList.take k ++ [s[k]] := by
  rw [List.take_succ_eq_append_getElem (by simpa using h)]; rfl
theorem val_take {s : ByteArray} (hd : AllDig s.data.toList) (k : Nat) (hk : k ≤ 18) : val (s.data.toList.take k) ≤ 999999999999999999 := by
  have h1 := val_lt (l := s.data.toList.take k) (fun c hc => hd c (List.mem_of_mem_take hc))
  have h2 : (s.data.toList.take k).length ≤ 18 := Nat.le_trans (List.length_take_le _ _) hk
  have h3 : 10 ^ (s.data.toList.take k).length ≤ 10 ^ 18 := Nat.pow_le_pow_right (by decide) h2
  have h4 : (10 : Nat) ^ 18 = 1000000000000000000 := by decide
  omega
theorem neg_far (v : Nat) (h : v ≤ 9223372036854775808) : wrap64 (IntKind.u64.wrap (-(v : Int))) = -(v : Int) := by
  unfold wrap64
  simp only [IntKind.wrap, IntKind.bits, IntKind.signed]
  simp
  omega

set_option maxHeartbeats 4000000 in
theorem number_ok (b : Bool) (s : ByteArray) (hd : AllDig s.data.toList) (hl : s.size ≤ 19) (hv : val s.data.toList ≤ most b) (w : World) :
    Calls Tryd.prog 73 #[.bool b, .string s] w fun e w' => e = .returned (.int .i64 (sgn b (val s.data.toList))) ∧ w = w' := by
  have HD := Lib.hid hd
  clear hd
  cases b
  all_goals
    unfold most at hv
    simp at hv
    go_enter Tryd.func73, Tryd.ntmps73
    go_wp2
    go_loop [5, 11] (fun f i => ∃ k : Nat, k ≤ s.size ∧ i = .int .i64 k ∧ f = .int .u64 (val (s.data.toList.take k))) (fun _ i => s.size - (intOf i).toNat)
    case atStart => exact ⟨0, Nat.zero_le _, rfl, rfl⟩
    case round =>
      obtain ⟨k, hk, rfl, rfl⟩ := hrel
      by_cases hlt : k < s.size
      · have hts := val_snoc (s.data.toList.take k) s[k]
        rw [← take_at hlt] at hts
        have hb := val_take HD.out k (by omega)
        have hc := HD.out s[k] (by rw [← List.take_append_drop k s.data.toList, drop_at hlt]; simp)
        simp only [isDig, Bool.and_eq_true, decide_eq_true_eq] at hc
        obtain ⟨hc1, hc2⟩ := hc
        have hc3 : (48 : Int) ≤ (s[k].toNat : Int) := by omega
        have hc4 : (s[k].toNat : Int) ≤ 57 := by omega
        have HT := Lib.hid hts
        generalize hV : val (s.data.toList.take k) = V at hb ⊢
        have hb2 : (V : Int) ≤ 999999999999999999 := by omega
        have HV := Lib.hid hV
        clear hts hV hb hc1 hc2
        go_wp2
        go_round
        case rel => exact ⟨k + 1, by omega, by go_num, by rw [HT.out, HV.out]; congr 1; omega⟩
        case measure => simp [intOf]; omega
      · have hkz : k = s.size := by omega
        have ht : s.data.toList.take k = s.data.toList := List.take_of_length_le (by rw [size_list]; omega)
        have hnf := neg_far (val s.data.toList) (by omega)
        have HT := Lib.hid ht
        rw [ht]
        clear ht hkz
        generalize hV : val s.data.toList = V at hv hnf ⊢
        have HV := Lib.hid hV
        clear hV
        go_wp2
        go_ret
        exact ⟨by rw [HV.out]; first | rfl | (simp [sgn, hnf]), rfl⟩
set_option maxHeartbeats 4000000 in
theorem number_far (b : Bool) (s : ByteArray) (hd : AllDig s.data.toList) (hl : s.size ≤ 19) (hv : ¬ val s.data.toList ≤ most b) (w : World) :
    Calls Tryd.prog 73 #[.bool b, .string s] w fun e w' => e = PE 7 ∧ w = w' := by
  have HD := Lib.hid hd
  clear hd
  cases b
  all_goals
    unfold most at hv
    simp at hv
    go_enter Tryd.func73, Tryd.ntmps73
    go_wp2
    go_loop [5, 11] (fun f i => ∃ k : Nat, k ≤ s.size ∧ i = .int .i64 k ∧ f = .int .u64 (val (s.data.toList.take k))) (fun _ i => s.size - (intOf i).toNat)
    case atStart => exact ⟨0, Nat.zero_le _, rfl, rfl⟩
    case round =>
      obtain ⟨k, hk, rfl, rfl⟩ := hrel
      by_cases hlt : k < s.size
      · have hts := val_snoc (s.data.toList.take k) s[k]
        rw [← take_at hlt] at hts
        have hb := val_take HD.out k (by omega)
        have hc := HD.out s[k] (by rw [← List.take_append_drop k s.data.toList, drop_at hlt]; simp)
        simp only [isDig, Bool.and_eq_true, decide_eq_true_eq] at hc
        obtain ⟨hc1, hc2⟩ := hc
        have hc3 : (48 : Int) ≤ (s[k].toNat : Int) := by omega
        have hc4 : (s[k].toNat : Int) ≤ 57 := by omega
        have HT := Lib.hid hts
        generalize hV : val (s.data.toList.take k) = V at hb ⊢
        have hb2 : (V : Int) ≤ 999999999999999999 := by omega
        have HV := Lib.hid hV
        clear hts hV hb hc1 hc2
        go_wp2
        go_round
        case rel => exact ⟨k + 1, by omega, by go_num, by rw [HT.out, HV.out]; congr 1; omega⟩
        case measure => simp [intOf]; omega
      · have hkz : k = s.size := by omega
        have ht : s.data.toList.take k = s.data.toList := List.take_of_length_le (by rw [size_list]; omega)
        have HT := Lib.hid ht
        rw [ht]
        clear ht hkz
        generalize hV : val s.data.toList = V at hv ⊢
        clear hV
        go_wp2
        exact ⟨rfl, rfl, rfl⟩

/-- What a reader holds. -/
abbrev RdAt (B : Nat) (s : ByteArray) (w : World) : Prop := CellsAt B #[.string s] w

set_option maxHeartbeats 4000000 in
theorem end_ok (B : Nat) (w : World) (hc : RdAt B ⟨#[]⟩ w) :
    Calls Tryd.prog 72 #[.pointer (some ⟨B, 0, none⟩)] w fun e w' => e = .returned (.tuple #[]) ∧ w = w' := by
  have h0 := hc.cell 0 _ rfl
  clear hc
  go_enter Tryd.func72, Tryd.ntmps72
  go_wp2
  go_end0
  exact ⟨rfl, rfl⟩
set_option maxHeartbeats 4000000 in
theorem end_bad (B : Nat) (s : ByteArray) (hs : s.data.toList ≠ []) (w : World) (hc : RdAt B s w) :
    Calls Tryd.prog 72 #[.pointer (some ⟨B, 0, none⟩)] w fun e w' => e = PE 2 ∧ w = w' := by
  have h0 := hc.cell 0 _ rfl
  have hn := ne_empty hs
  clear hc hs
  go_enter Tryd.func72, Tryd.ntmps72
  go_wp2
  exact ⟨rfl, rfl, rfl⟩
end Go.Proofs.YtmlgcjfcbokibaaDoor
