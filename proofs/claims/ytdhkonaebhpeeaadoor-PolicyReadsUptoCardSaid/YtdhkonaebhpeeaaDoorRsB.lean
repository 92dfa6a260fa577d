/- The number of digits; the digits that a text begins with; its end. The digits that come next are taken. One byte is taken; a sign. A sign, the digits around a point, an exponent: each by its own contract. -/
import Derived.Test.YtdhkonaebhpeeaaDoorRsA
import Derived.Test.YtdhkonaebhpeeaaDoorCells
import Derived.WalkLawsBesides
import Derived.Deep.LoopGhost
import Derived.LoopTactic
import Derived.IntWalk
import Derived.WalkSpells
import Derived.Test.YtdhkonaebhpeeaaDoorShelf
import Derived.Lib.Hide
namespace Go.Proofs.YtdhkonaebhpeeaaDoor
open Go Go.RowKit

abbrev tx (l : List UInt8) : ByteArray := ⟨l.toArray⟩
/-- What is thrown: an error's number. -/
abbrev PE (k : Int) : Ending := .panicked [{ v := .iface 44 (.int .i64 k), recovered := false }]
theorem tx_list (s : ByteArray) : tx s.data.toList = s := by rcases s with ⟨⟨l⟩⟩; rfl
theorem list_tx (l : List UInt8) : (tx l).data.toList = l := rfl
theorem ne_empty {s : ByteArray} (h : s.data.toList ≠ []) : (!s.toList.isEmpty) = true := by
  rw [Lib.toList_data]
  cases hl : s.data.toList with
  | nil => exact absurd hl h
  | cons => rfl
theorem is_empty {s : ByteArray} (h : s.data.toList = []) : s.toList = [] := by rw [Lib.toList_data]; exact h
theorem size_list (s : ByteArray) : s.data.toList.length = s.size := by rcases s with ⟨⟨l⟩⟩; rfl
theorem drop_at {s : ByteArray} {k : Nat} (h : k < s.size) : s.data.toList.drop k = s[k] :: s.data.toList.drop (k + 1) := by
  rw [List.drop_eq_getElem_cons (by simpa using h)]
  congr 1
theorem take_at {s : ByteArray} {k : Nat} (h : k < s.size) : s.data.toList.take (k + 1) = s.data.toList.take k ++ [s[k]] := by
  rw [List.take_succ_eq_append_getElem (by simpa using h)]; rfl
theorem val_take {s : ByteArray} (hd : AllDig s.data.toList) (k : Nat) (hk : k ≤ 18) : val (s.data.toList.take k) ≤ 999999999999999999 := by
  have h1 := val_lt (l := s.data.toList.take k) (fun c hc => hd c (List.mem_of_mem_take hc))
  have h2 : (s.data.toList.take k).length ≤ 18 := Nat.le_trans (List.length_take_le _ _) hk
  have h3 : 10 ^ (s.data.toList.take k).length ≤ 10 ^ 18 := Nat.pow_le_pow_right (by decide) h2
  have h4 : (10 : Nat) ^ 18 = 1000000000000000000 := by decide
  omega
theorem neg_far (v : Nat) (h : v ≤ 9223372036854775808) : wrap64 (IntKind.u64.wrap (-(v : Int))) = -(v : Int) := by
  unfold wrap64
  simp only [IntKind.wrap, IntKind.bits, IntKind.signed]
  simp
  omega

set_option maxHeartbeats 4000000 in
theorem number_ok (b : Bool) (s : ByteArray) (hd : AllDig s.data.toList) (hl : s.size ≤ 19) (hv : val s.data.toList ≤ most b) (w : World) :
    Calls Tryd.prog 73 #[.bool b, .string s] w fun e w' => e = .returned (.int .i64 (sgn b (val s.data.toList))) ∧ w = w' := by
  have HD := Lib.hid hd
  clear hd
  cases b
  all_goals
    unfold most at hv
    simp at hv
    go_enter Tryd.func73, Tryd.ntmps73
    go_wp2
    go_loop [5, 11] (fun f i => ∃ k : Nat, k ≤ s.size ∧ i = .int .i64 k ∧ f = .int .u64 (val (s.data.toList.take k))) (fun _ i => s.size - (intOf i).toNat)
    case atStart => exact ⟨0, Nat.zero_le _, rfl, rfl⟩
    case round =>
      obtain ⟨k, hk, rfl, rfl⟩ := hrel
      by_cases hlt : k < s.size
      · have hts := val_snoc (s.data.toList.take k) s[k]
        rw [← take_at hlt] at hts
        have hb := val_take HD.out k (by omega)
        have hc := HD.out s[k] (by rw [← List.take_append_drop k s.data.toList, drop_at hlt]; simp)
        simp only [isDig, Bool.and_eq_true, decide_eq_true_eq] at hc
        obtain ⟨hc1, hc2⟩ := hc
        have hc3 : (48 : Int) ≤ (s[k].toNat : Int) := by omega
        have hc4 : (s[k].toNat : Int) ≤ 57 := by omega
        have HT := Lib.hid hts
        generalize hV : val (s.data.toList.take k) = V at hb ⊢
        have hb2 : (V : Int) ≤ 999999999999999999 := by omega
        have HV := Lib.hid hV
        clear hts hV hb hc1 hc2
        go_wp2
        go_round
        case rel => exact ⟨k + 1, by omega, by go_num, by rw [HT.out, HV.out]; congr 1; omega⟩
        case measure => simp [intOf]; omega
      · have hkz : k = s.size := by omega
        have ht : s.data.toList.take k = s.data.toList := List.take_of_length_le (by rw [size_list]; omega)
        have hnf := neg_far (val s.data.toList) (by omega)
        have HT := Lib.hid ht
        rw [ht]
        clear ht hkz
        generalize hV : val s.data.toList = V at hv hnf ⊢
        have HV := Lib.hid hV
        clear hV
        go_wp2
        go_ret
        exact ⟨by rw [HV.out]; first | rfl | (simp [sgn, hnf]), rfl⟩
set_option maxHeartbeats 4000000 in
theorem number_far (b : Bool) (s : ByteArray) (hd : AllDig s.data.toList) (hl : s.size ≤ 19) (hv : ¬ val s.data.toList ≤ most b) (w : World) :
    Calls Tryd.prog 73 #[.bool b, .string s] w fun e w' => e = PE 7 ∧ w = w' := by
  have HD := Lib.hid hd
  clear hd
  cases b
  all_goals
    unfold most at hv
    simp at hv
    go_enter Tryd.func73, Tryd.ntmps73
    go_wp2
    go_loop [5, 11] (fun f i => ∃ k : Nat, k ≤ s.size ∧ i = .int .i64 k ∧ f = .int .u64 (val (s.data.toList.take k))) (fun _ i => s.size - (intOf i).toNat)
    case atStart => exact ⟨0, Nat.zero_le _, rfl, rfl⟩
    case round =>
      obtain ⟨k, hk, rfl, rfl⟩ := hrel
      by_cases hlt : k < s.size
      · have hts := val_snoc (s.data.toList.take k) s[k]
        rw [← take_at hlt] at hts
        have hb := val_take HD.out k (by omega)
        have hc := HD.out s[k] (by rw [← List.take_append_drop k s.data.toList, drop_at hlt]; simp)
        simp only [isDig, Bool.and_eq_true, decide_eq_true_eq] at hc
        obtain ⟨hc1, hc2⟩ := hc
        have hc3 : (48 : Int) ≤ (s[k].toNat : Int) := by omega
        have hc4 : (s[k].toNat : Int) ≤ 57 := by omega
        have HT := Lib.hid hts
        generalize hV : val (s.data.toList.take k) = V at hb ⊢
        have hb2 : (V : Int) ≤ 999999999999999999 := by omega
        have HV := Lib.hid hV
        clear hts hV hb hc1 hc2
        go_wp2
        go_round
        case rel => exact ⟨k + 1, by omega, by go_num, by rw [HT.out, HV.out]; congr 1; omega⟩
        case measure => simp [intOf]; omega
      · have hkz : k = s.size := by omega
        have ht : s.data.toList.take k = s.data.toList := List.take_of_length_le (by rw [size_list]; omega)
        have HT := Lib.hid ht
        rw [ht]
        clear ht hkz
        generalize hV : val s.data.toList = V at hv ⊢
        clear hV
        go_wp2
        exact ⟨rfl, rfl, rfl⟩

/-- What a reader holds. -/
abbrev RdAt (B : Nat) (s : ByteArray) (w : World) : Prop := CellsAt B #[.string s] w

set_option maxHeartbeats 4000000 in
theorem end_ok (B : Nat) (w : World) (hc : RdAt B ⟨#[]⟩ w) :
    Calls Tryd.prog 72 #[.pointer (some ⟨B, 0, none⟩)] w fun e w' => e = .returned (.tuple #[]) ∧ w = w' := by
  have h0 := hc.cell 0 _ rfl
  clear hc
  go_enter Tryd.func72, Tryd.ntmps72
  go_wp2
  go_end0
  exact ⟨rfl, rfl⟩
set_option maxHeartbeats 4000000 in
theorem end_bad (B : Nat) (s : ByteArray) (hs : s.data.toList ≠ []) (w : World) (hc : RdAt B s w) :
    Calls Tryd.prog 72 #[.pointer (some ⟨B, 0, none⟩)] w fun e w' => e = PE 2 ∧ w = w' := by
  have h0 := hc.cell 0 _ rfl
  have hn := ne_empty hs
  clear hc hs
  go_enter Tryd.func72, Tryd.ntmps72
  go_wp2
  exact ⟨rfl, rfl, rfl⟩
end Go.Proofs.YtdhkonaebhpeeaaDoor

namespace Go.Proofs.YtdhkonaebhpeeaaDoor
open Go Go.RowKit

theorem dig_stop {l : List UInt8} {k : Nat} (h : AllDig (l.take k)) (hn : NoDig (l.drop k)) : dig l = l.take k ∧ rst l = l.drop k := by
  have := dig_app h hn
  rwa [List.take_append_drop] at this
theorem AllDig.snoc {l : List UInt8} {c : UInt8} (h : AllDig l) (hc : isDig c = true) : AllDig (l ++ [c]) := h.app fun x hx => by rw [List.mem_singleton.1 hx]; exact hc
theorem ext_take (s : ByteArray) (k : Nat) : s.extract 0 k = tx (s.data.toList.take k) := Lib.extract_upto s k
theorem ext_drop (s : ByteArray) (k : Nat) : s.extract k s.size = tx (s.data.toList.drop k) := Lib.extract_from s k

set_option maxHeartbeats 8000000 in
theorem digits_all (B : Nat) (s : ByteArray) (hs : s.size ≤ maxLen) (lo hi : Nat) (_hlo : lo ≤ 64) (_hhi : hi ≤ 64) (w : World) (hc : RdAt B s w) (R : Ending → World → Prop)
    (hok : lo ≤ (dig s.data.toList).length → (dig s.data.toList).length ≤ hi → R (.returned (.string (tx (dig s.data.toList)))) (w.setCell ⟨B, 0, none⟩ (.string (tx (rst s.data.toList)))))
    (hbad : ¬ (lo ≤ (dig s.data.toList).length ∧ (dig s.data.toList).length ≤ hi) → R (PE 2) w) :
    Calls Tryd.prog 71 #[.pointer (some ⟨B, 0, none⟩), .int .i64 lo, .int .i64 hi] w R := by
  have h0 := hc.cell 0 _ rfl
  have hf := hc.fro 0 _ rfl
  unfold maxLen at hs
  have HOK := Lib.hid hok
  have HBAD := Lib.hid hbad
  clear hc hok hbad
  have fin : ∀ k : Nat, k ≤ s.size → AllDig (s.data.toList.take k) → NoDig (s.data.toList.drop k) →
      Hid ((lo ≤ k → k ≤ hi → R (.returned (.string (s.extract 0 k))) (w.setCell ⟨B, 0, none⟩ (.string (s.extract k s.size)))) ∧ (¬ (lo ≤ k ∧ k ≤ hi) → R (PE 2) w)) := by
    intro k hk h1 h2
    refine Lib.hid ?_
    obtain ⟨e1, e2⟩ := dig_stop h1 h2
    have e3 : (dig s.data.toList).length = k := by rw [e1, List.length_take, size_list]; omega
    have a1 := HOK.out
    have a2 := HBAD.out
    rw [e3, e1, e2, ← ext_take, ← ext_drop] at a1
    rw [e3] at a2
    exact ⟨a1, a2⟩
  have FIN := Lib.hid fin
  clear fin HOK HBAD
  go_enter Tryd.func71, Tryd.ntmps71
  go_wp2
  go_step3
  go_wp2
  go_step3
  go_wp2
  go_loopg [7] s.size (fun g s7 wx => ∃ k : Nat, k + g = s.size ∧ s7 = .int .i64 k ∧ Hid (AllDig (s.data.toList.take k)) ∧ wx = w)
  case atStart => exact ⟨0, by omega, rfl, Lib.hid (fun c hc => by simp at hc), rfl⟩
  case round =>
    obtain ⟨k, hkg, rfl, HA, rfl⟩ := hrel
    cases gk with
    | zero =>
      have hkz : ¬ ((k : Int) < (s.size : Int)) := by omega
      have F := FIN.out k (by omega) HA.out (by rw [List.drop_eq_nil_of_le (by rw [size_list]; omega)]; exact NoDig.nil)
      by_cases h1 : k < lo
      · clear HA
        go_wp2
        exact ⟨rfl, F.out.2 (by omega)⟩
      · by_cases h2 : hi < k
        · clear HA
          go_wp2
          exact ⟨rfl, F.out.2 (by omega)⟩
        · have hks : k ≤ s.size := by omega
          clear HA
          go_wp2
          exact F.out.1 (by omega) (by omega)
    | succ g =>
      have hlt : k < s.size := by omega
      have hkz : (k : Int) < (s.size : Int) := by omega
      obtain ⟨x, hx⟩ : ∃ x : UInt8, s[k] = x := ⟨_, rfl⟩
      have HX := Lib.hid (show s.data.toList.drop k = x :: s.data.toList.drop (k + 1) by rw [drop_at hlt, hx])
      by_cases hd1 : (48 : Int) ≤ (x.toNat : Int)
      · by_cases hd2 : (x.toNat : Int) ≤ 57
        · have HA2 : Hid (AllDig (s.data.toList.take (k + 1))) := Lib.hid (by rw [take_at hlt, hx]; exact HA.out.snoc (by simp [isDig]; omega))
          clear HA HX
          go_wp2
          go_roundg g
          case measure => omega
          case rel => exact ⟨k + 1, by omega, by go_num, HA2, rfl⟩
        · have F := FIN.out k (by omega) HA.out (by rw [HX.out]; exact NoDig.cons (by simp [isDig]; omega))
          clear HX
          by_cases h1 : k < lo
          · clear HA
            go_wp2
            exact ⟨rfl, F.out.2 (by omega)⟩
          · by_cases h2 : hi < k
            · clear HA
              go_wp2
              exact ⟨rfl, F.out.2 (by omega)⟩
            · have hks : k ≤ s.size := by omega
              clear HA
              go_wp2
              exact F.out.1 (by omega) (by omega)
      · have F := FIN.out k (by omega) HA.out (by rw [HX.out]; exact NoDig.cons (by simp [isDig]; omega))
        clear HX
        by_cases h1 : k < lo
        · clear HA
          go_wp2
          exact ⟨rfl, F.out.2 (by omega)⟩
        · by_cases h2 : hi < k
          · clear HA
            go_wp2
            exact ⟨rfl, F.out.2 (by omega)⟩
          · have hks : k ≤ s.size := by omega
            clear HA
            go_wp2
            exact F.out.1 (by omega) (by omega)
end Go.Proofs.YtdhkonaebhpeeaaDoor

namespace Go.Proofs.YtdhkonaebhpeeaaDoor
open Go Go.RowKit

theorem ix_has {bs : List UInt8} {c : UInt8} (h : bs.contains c = true) : 0 ≤ Lib.indexByte bs c := by
  induction bs with
  | nil => simp at h
  | cons b l ih =>
    unfold Lib.indexByte
    by_cases hb : (b == c) = true
    · rw [if_pos hb]; decide
    · rw [if_neg hb]
      have h2 : l.contains c = true := by
        rw [List.contains_cons, Bool.or_eq_true] at h
        rcases h with h | h
        · exact absurd (by rw [beq_iff_eq] at h ⊢; exact h.symm) hb
        · exact h
      have h3 := ih h2
      rw [if_neg (by rw [beq_iff_eq]; omega)]
      omega
theorem ix_not {bs : List UInt8} {c : UInt8} (h : bs.contains c = false) : Lib.indexByte bs c = -1 := by
  induction bs with
  | nil => rfl
  | cons b l ih =>
    rw [List.contains_cons, Bool.or_eq_false_iff] at h
    unfold Lib.indexByte
    rw [if_neg (by rw [beq_iff_eq]; intro hb; subst hb; simp at h), ih h.2]
    rfl
theorem cast_byte (c : UInt8) : ((c.toNat : Int)).toNat.toUInt8 = c := by simp
theorem first_of {s : ByteArray} {c : UInt8} {t : List UInt8} (hl : s.data.toList = c :: t) : ∃ h : 0 < s.size, s[0] = c ∧ s.extract 1 s.size = tx t := by
  have hz : s.size = t.length + 1 := by rw [← size_list, hl]; rfl
  refine ⟨by omega, ?_, ?_⟩
  · have h1 := drop_at (s := s) (k := 0) (by omega)
    rw [List.drop_zero, hl] at h1
    exact (List.cons.inj h1).1.symm
  · rw [ext_drop, hl]; rfl

set_option maxHeartbeats 4000000 in
theorem takes_yes (B : Nat) (s bs : ByteArray) (c : UInt8) (t : List UInt8) (hl : s.data.toList = c :: t) (hs : s.size ≤ maxLen) (hc : bs.data.toList.contains c = true) (w : World) (hR : RdAt B s w) :
    Calls Tryd.prog 82 #[.pointer (some ⟨B, 0, none⟩), .string bs] w fun e w' => e = .returned (.bool true) ∧ w' = w.setCell ⟨B, 0, none⟩ (.string (tx t)) := by
  have h0 := hR.cell 0 _ rfl
  have hf := hR.fro 0 _ rfl
  obtain ⟨hz, hx, he⟩ := first_of hl
  have hn := ne_empty (s := s) (by rw [hl]; simp)
  have hn2 : s.toList.isEmpty = false := by simpa using hn
  have hI := fun w => Tryd.strings_IndexByte bs (c.toNat : Int) w
  rw [cast_byte] at hI
  obtain ⟨i, hi⟩ : ∃ i, Lib.indexByte bs.data.toList c = i := ⟨_, rfl⟩
  have hi0 := ix_has hc
  rw [hi] at hI hi0
  unfold maxLen at hs
  clear hR hl hc hi hn
  have HE := Lib.hid he
  clear he
  go_enter Tryd.func82, Tryd.ntmps82
  go_wp2_with (go_at_call 89; refine (hI _).mono ?_; rintro e w' ⟨rfl, rfl⟩)
  go_ret
  rw [HE.out]
  exact ⟨rfl, rfl⟩
set_option maxHeartbeats 4000000 in
theorem takes_no (B : Nat) (s bs : ByteArray) (h : tkB bs.data.toList s.data.toList = false) (hs : s.size ≤ maxLen) (w : World) (hR : RdAt B s w) :
    Calls Tryd.prog 82 #[.pointer (some ⟨B, 0, none⟩), .string bs] w fun e w' => e = .returned (.bool false) ∧ w' = w := by
  have h0 := hR.cell 0 _ rfl
  cases hl : s.data.toList with
  | nil =>
    have hn := is_empty hl
    clear hR hl h
    go_enter Tryd.func82, Tryd.ntmps82
    go_wp2
    go_ret
    exact ⟨rfl, rfl⟩
  | cons c t =>
    obtain ⟨hz, hx, he⟩ := first_of hl
    have hn := ne_empty (s := s) (by rw [hl]; simp)
    have hn2 : s.toList.isEmpty = false := by simpa using hn
    have hI := fun w => Tryd.strings_IndexByte bs (c.toNat : Int) w
    rw [hl] at h
    rw [cast_byte, ix_not h] at hI
    have hs2 := hs
    unfold maxLen at hs2
    clear hR hl he hn h
    go_enter Tryd.func82, Tryd.ntmps82
    go_wp2_with (go_at_call 89; refine (hI _).mono ?_; rintro e w' ⟨rfl, rfl⟩)
    go_ret
    exact ⟨rfl, rfl⟩
end Go.Proofs.YtdhkonaebhpeeaaDoor

namespace Go.Proofs.YtdhkonaebhpeeaaDoor
open Go Go.RowKit

theorem RdAt.put {B : Nat} {s t : ByteArray} {w : World} (h : RdAt B s w) : RdAt B t (w.setCell ⟨B, 0, none⟩ (.string t)) := by have := h.set 0 (.string t) (by simp); simpa using this
theorem tkR_cons (bs : List UInt8) (c : UInt8) (t : List UInt8) : tkR bs (c :: t) = if bs.contains c = true then t else c :: t := rfl
theorem sgB_cons (bs : List UInt8) (c : UInt8) (t : List UInt8) : sgB bs (c :: t) = (bs.contains c && c == 45) := rfl
theorem below_put {B : Nat} (w : World) (v : Value) : Below B w (w.setCell ⟨B, 0, none⟩ v) := (Below.refl B w).setCell (p := ⟨B, 0, none⟩) (Nat.le_refl B) v
/-- What one of two things ends in: a number, or a thrown error. -/
def EndOf (r : Int × Int) : Ending := if r.2 = 0 then .returned (.int .i64 r.1) else PE r.2
theorem number_any (b : Bool) (s : ByteArray) (hd : AllDig s.data.toList) (hl : s.size ≤ 19) (w : World) :
    Calls Tryd.prog 73 #[.bool b, .string s] w fun e w' => e = EndOf (fitF b (val s.data.toList)) ∧ w = w' := by
  unfold fitF
  by_cases h : val s.data.toList ≤ most b
  · rw [if_pos h]
    exact number_ok b s hd hl h w
  · rw [if_neg h]
    exact number_far b s hd hl h w

set_option maxHeartbeats 4000000 in
theorem takes_any (B : Nat) (s bs : ByteArray) (hs : s.size ≤ maxLen) (w : World) (hR : RdAt B s w) :
    Calls Tryd.prog 82 #[.pointer (some ⟨B, 0, none⟩), .string bs] w fun e w' => e = .returned (.bool (tkB bs.data.toList s.data.toList)) ∧ RdAt B (tx (tkR bs.data.toList s.data.toList)) w' ∧ Below B w w' := by
  by_cases h : tkB bs.data.toList s.data.toList = true
  · rw [h]
    cases hl : s.data.toList with
    | nil => rw [hl] at h; cases h
    | cons c t =>
      rw [hl] at h
      refine (takes_yes B s bs c t hl hs h w hR).mono ?_
      rintro e w' ⟨rfl, rfl⟩
      refine ⟨rfl, ?_, below_put _ _⟩
      rw [tkR_cons, if_pos (show bs.data.toList.contains c = true from h)]
      exact hR.put
  · have h' : tkB bs.data.toList s.data.toList = false := by simpa using h
    rw [h']
    refine (takes_no B s bs h' hs w hR).mono ?_
    rintro e w' ⟨rfl, rfl⟩
    refine ⟨rfl, ?_, Below.refl _ _⟩
    have : tkR bs.data.toList s.data.toList = s.data.toList := by
      cases hl : s.data.toList with
      | nil => rfl
      | cons c t => rw [hl] at h; rw [tkR_cons, if_neg (show ¬ bs.data.toList.contains c = true from h)]
    rw [this, tx_list]
    exact hR

set_option maxHeartbeats 4000000 in
theorem sign_any (B : Nat) (s bs : ByteArray) (hs : s.size ≤ maxLen) (w : World) (hR : RdAt B s w) :
    Calls Tryd.prog 70 #[.pointer (some ⟨B, 0, none⟩), .string bs] w fun e w' => e = .returned (.bool (sgB bs.data.toList s.data.toList)) ∧ RdAt B (tx (tkR bs.data.toList s.data.toList)) w' ∧ Below B w w' := by
  have h0 := hR.cell 0 _ rfl
  have ht := takes_any B s bs hs w hR
  unfold maxLen at hs
  obtain ⟨r, hr⟩ : ∃ r, tx (tkR bs.data.toList s.data.toList) = r := ⟨_, rfl⟩
  rw [hr] at ht ⊢
  cases hl : s.data.toList with
  | nil =>
    rw [hl] at ht
    have e : tkB bs.data.toList [] = false := rfl
    have e2 : sgB bs.data.toList [] = false := rfl
    rw [e] at ht
    rw [e2]
    clear hR hr hl e e2
    go_enter Tryd.func70, Tryd.ntmps70
    go_wp2_with (go_at_call 82; refine ht.mono ?_; rintro e w1 ⟨rfl, hR1, hB⟩)
    go_ret
    exact ⟨rfl, hR1, hB⟩
  | cons c t =>
    obtain ⟨hz, hx, he⟩ := first_of hl
    rw [hl] at ht
    by_cases hc : bs.data.toList.contains c = true
    · have e : tkB bs.data.toList (c :: t) = true := hc
      have e2 : sgB bs.data.toList (c :: t) = (c == 45) := by rw [sgB_cons, hc]; rfl
      rw [e] at ht
      rw [e2]
      by_cases h45 : c = 45
      · have e3 : (c == 45) = true := by rw [h45]; rfl
        have e4 : (c.toNat : Int) = 45 := by rw [h45]; rfl
        rw [e3]
        clear hR hr hl e e2 e3 hc he h45
        go_enter Tryd.func70, Tryd.ntmps70
        go_wp2_with (go_at_call 82; refine ht.mono ?_; rintro e w1 ⟨rfl, hR1, hB⟩)
        go_ret
        exact ⟨rfl, hR1, hB⟩
      · have e3 : (c == 45) = false := by simpa using h45
        have e4 : ((c.toNat : Int) == 45) = false := by
          rw [beq_eq_false_iff_ne]
          intro h
          exact h45 (UInt8.toNat_inj.1 (by have : c.toNat = 45 := by omega
                                           rw [this]; rfl))
        rw [e3]
        clear hR hr hl e e2 e3 hc he h45
        go_enter Tryd.func70, Tryd.ntmps70
        go_wp2_with (go_at_call 82; refine ht.mono ?_; rintro e w1 ⟨rfl, hR1, hB⟩)
        go_ret
        exact ⟨rfl, hR1, hB⟩
    · have hc' : bs.data.toList.contains c = false := by simpa using hc
      have e : tkB bs.data.toList (c :: t) = false := hc'
      have e2 : sgB bs.data.toList (c :: t) = false := by rw [sgB_cons, hc']; rfl
      rw [e] at ht
      rw [e2]
      clear hR hr hl e e2 hc hc' he hx
      go_enter Tryd.func70, Tryd.ntmps70
      go_wp2_with (go_at_call 82; refine ht.mono ?_; rintro e w1 ⟨rfl, hR1, hB⟩)
      go_ret
      exact ⟨rfl, hR1, hB⟩

theorem digits_ok (B : Nat) (s : ByteArray) (hs : s.size ≤ maxLen) (lo hi : Nat) (hlo : lo ≤ 64) (hhi : hi ≤ 64) (h1 : lo ≤ (dig s.data.toList).length) (h2 : (dig s.data.toList).length ≤ hi) (w : World) (hR : RdAt B s w) :
    Calls Tryd.prog 71 #[.pointer (some ⟨B, 0, none⟩), .int .i64 lo, .int .i64 hi] w fun e w' => e = .returned (.string (tx (dig s.data.toList))) ∧ RdAt B (tx (rst s.data.toList)) w' ∧ Below B w w' :=
  digits_all B s hs lo hi hlo hhi w hR _ (fun _ _ => ⟨rfl, hR.put, below_put _ _⟩) (fun h => absurd ⟨h1, h2⟩ h)
theorem digits_bad (B : Nat) (s : ByteArray) (hs : s.size ≤ maxLen) (lo hi : Nat) (hlo : lo ≤ 64) (hhi : hi ≤ 64) (h : ¬ (lo ≤ (dig s.data.toList).length ∧ (dig s.data.toList).length ≤ hi)) (w : World) (hR : RdAt B s w) :
    Calls Tryd.prog 71 #[.pointer (some ⟨B, 0, none⟩), .int .i64 lo, .int .i64 hi] w fun e w' => e = PE 2 ∧ w = w' :=
  digits_all B s hs lo hi hlo hhi w hR _ (fun h1 h2 => absurd ⟨h1, h2⟩ h) (fun _ => ⟨rfl, rfl⟩)
end Go.Proofs.YtdhkonaebhpeeaaDoor

