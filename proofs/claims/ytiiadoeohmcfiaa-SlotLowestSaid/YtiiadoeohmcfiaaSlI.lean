/- The table's calls, each with what it tells; the chapter's examples. -/
import Derived.Test.YtiiadoeohmcfiaaSlG
import Derived.Test.YtiiadoeohmcfiaaSlH
import Derived.Test.YtiiadoeohmcfiaaSlF
import Derived.Test.YtiiadoeohmcfiaaSlN
namespace Go.Proofs.Ytiiadoeohmcfiaa
open Go Go.RowKit

/-- Block B is a table of the keys L, wherever their entries stand. -/
def TabE (B : Nat) (L : List Key) (w : World) : Prop := ∃ en, Tab B L en w
section
variable {B : Nat} {L : List Key} {w w' : World}
theorem TabE.below (h : TabE B L w) (hB : Below w.heap.size w w') : TabE B L w' := h.imp fun _ h => h.below hB
theorem TabE.belowAt (h : TabE B L w) {C : Nat} (hB : Below C w w') (hb : B < C) : TabE B L w' := h.imp fun _ h => h.belowAt hB hb
theorem TabE.chg (h : TabE B L w) {C : Nat} (hC : Chg C w w') (hn : B ≠ C) : TabE B L w' := h.imp fun _ h => h.chg hC hn
theorem TabE.lt (h : TabE B L w) : B < w.heap.size := by obtain ⟨_, h⟩ := h; exact h.tb.lt
theorem TabE.room (h : TabE B L w) : L.length ≤ 256 := by obtain ⟨_, h⟩ := h; exact h.room
theorem TabE.uniq (h : TabE B L w) : Sl.Uniq ([] : Key) (keyOf L) := by obtain ⟨_, h⟩ := h; exact h.inv.uniq
theorem TabE.short (h : TabE B L w) (s : Nat) : (keyOf L s).length ≤ maxLen := by obtain ⟨_, h⟩ := h; exact h.fit s
theorem TabE.chg_below (h : TabE B L w) {N : Nat} (hC : Chg B w w') (hN : N ≤ B) : Below N w w' := hC.below hN (by have := h.lt; omega)
theorem find_e (k : Key) (hk : k.length ≤ maxLen) (h : TabE B L w) :
    Calls Try.prog 13 #[.pointer (some ⟨B, 0, none⟩), .string (tx k)] w fun e w' =>
      e = .returned (.tuple #[.int .i64 (((findK L k).getD 0 : Nat) : Int), .bool (findK L k).isSome]) ∧ Below w.heap.size w w' := by
  obtain ⟨en, h⟩ := h
  exact find_any k hk w h
theorem add_e (k : Key) (hk : k.length ≤ maxLen) (h : TabE B L w) :
    Calls Try.prog 15 #[.pointer (some ⟨B, 0, none⟩), .string (tx k)] w fun e w' =>
      e = .returned (addV (addK L k)) ∧ Chg B w w' ∧ TabE B (addK L k).2.2 w' := by
  obtain ⟨en, h⟩ := h
  unfold addK
  by_cases hw : k = [] ∨ 4096 < k.length
  · rw [if_pos hw]
    refine (add_wrong k hk hw w).mono ?_
    rintro e w' ⟨rfl, rfl⟩
    exact ⟨rfl, Chg.refl _ _, en, h⟩
  · rw [if_neg hw]
    have h0 : k ≠ [] := fun e => hw (.inl e)
    have h4 : k.length ≤ 4096 := by
      rcases Nat.lt_or_ge 4096 k.length with h1 | h1
      · exact absurd (.inr h1) hw
      · exact h1
    cases hf : (findK L k).isSome with
    | true =>
      rw [if_pos rfl]
      refine (add_there k h0 h4 hf w h).mono ?_
      rintro e w' ⟨rfl, hB⟩
      exact ⟨rfl, Chg.of hB, en, h.below hB⟩
    | false =>
      rw [if_neg (by simp)]
      cases hs : idxL [] L with
      | none =>
        refine (add_full k h0 h4 hf hs w h).mono ?_
        rintro e w' ⟨rfl, hB⟩
        exact ⟨rfl, Chg.of hB, en, h.below hB⟩
      | some s =>
        refine (add_new k h0 h4 hf s hs w h).mono ?_
        rintro e w' ⟨rfl, hC, hT⟩
        exact ⟨rfl, hC, hT⟩
theorem drop_e (k : Key) (hk : k.length ≤ maxLen) (h : TabE B L w) :
    Calls Try.prog 11 #[.pointer (some ⟨B, 0, none⟩), .string (tx k)] w fun e w' =>
      e = .returned (.bool (findK L k).isSome) ∧ Chg B w w' ∧ TabE B (dropK L k) w' := by
  obtain ⟨en, h⟩ := h
  unfold dropK
  cases hf : findK L k with
  | none =>
    refine (drop_none k hk hf w h).mono ?_
    rintro e w' ⟨rfl, hB⟩
    exact ⟨rfl, Chg.of hB, en, h.below hB⟩
  | some s =>
    refine (drop_some k hk s hf w h).mono ?_
    rintro e w' ⟨rfl, hC, hT⟩
    exact ⟨rfl, hC, hT⟩
theorem room_e (h : TabE B L w) : Calls Try.prog 20 #[.pointer (some ⟨B, 0, none⟩)] w fun e w' => e = .returned (.int .i64 (L.length : Int)) ∧ w = w' := by
  obtain ⟨en, h⟩ := h
  exact room_any w h
theorem len_e (h : TabE B L w) : Calls Try.prog 19 #[.pointer (some ⟨B, 0, none⟩)] w fun e w' => e = .returned (.int .i64 ((slotsK L).length : Int)) ∧ Below w.heap.size w w' := by
  obtain ⟨en, h⟩ := h
  exact len_any w h
theorem slots_e (h : TabE B L w) : Calls Try.prog 17 #[.pointer (some ⟨B, 0, none⟩)] w fun e w' => ∃ v, e = .returned v ∧ OwnI w.heap.size v (slotsK L) w' ∧ Below w.heap.size w w' := by
  obtain ⟨en, h⟩ := h
  exact slots_any w h
theorem key_e (s : Nat) (hs : s < L.length) (h : TabE B L w) : Calls Try.prog 21 #[.pointer (some ⟨B, 0, none⟩), .int .i64 (s : Int)] w fun e w' => e = .returned (.tuple #[.string (tx (keyOf L s)), .bool (!decide (keyOf L s = []))]) ∧ w = w' := by
  obtain ⟨en, h⟩ := h
  exact key_in s hs w h
theorem key_no (s : Int) (hs : s < 0 ∨ (L.length : Int) ≤ s) (h : TabE B L w) : Calls Try.prog 21 #[.pointer (some ⟨B, 0, none⟩), .int .i64 s] w fun e w' => e = .returned (.tuple #[.string ⟨#[]⟩, .bool false]) ∧ w = w' := by
  obtain ⟨en, h⟩ := h
  exact key_out s hs w h
end
theorem one_fit {k : Key} (h : k.length ≤ 64) : k.length ≤ maxLen := Nat.le_trans h (by unfold maxLen; omega)

set_option maxRecDepth 100000 in
set_option maxHeartbeats 8000000 in
theorem examples_any (w : World) : Calls Try.prog 7 #[] w fun e w' => e = .returned (.bool true) ∧ Below w.heap.size w w' := by
  have hn0 := fun w => new_out 0 (by omega) w
  have hn2 := fun w => new_any 2 (by omega) (by omega) w
  have ha : ∀ B W, TabE B [[], []] W → Calls Try.prog 15 #[.pointer (some ⟨B, 0, none⟩), .string ⟨#[97]⟩] W fun e w' => e = .returned (.tuple #[.int .i64 0, .int .i64 0]) ∧ Chg B W w' ∧ TabE B [[97], []] w' := fun B W h => add_e [97] (one_fit (by simp)) h
  have hb : ∀ B W, TabE B [[97], []] W → Calls Try.prog 15 #[.pointer (some ⟨B, 0, none⟩), .string ⟨#[98]⟩] W fun e w' => e = .returned (.tuple #[.int .i64 1, .int .i64 0]) ∧ Chg B W w' ∧ TabE B [[97], [98]] w' := fun B W h => add_e [98] (one_fit (by simp)) h
  have hc : ∀ B W, TabE B [[97], [98]] W → Calls Try.prog 15 #[.pointer (some ⟨B, 0, none⟩), .string ⟨#[97]⟩] W fun e w' => e = .returned (.tuple #[.int .i64 0, .int .i64 6]) ∧ Chg B W w' ∧ TabE B [[97], [98]] w' := fun B W h => add_e [97] (one_fit (by simp)) h
  have hd : ∀ B W, TabE B [[97], [98]] W → Calls Try.prog 15 #[.pointer (some ⟨B, 0, none⟩), .string ⟨#[99]⟩] W fun e w' => e = .returned (.tuple #[.int .i64 0, .int .i64 4]) ∧ Chg B W w' ∧ TabE B [[97], [98]] w' := fun B W h => add_e [99] (one_fit (by simp)) h
  have he : ∀ B W, TabE B [[97], [98]] W → Calls Try.prog 11 #[.pointer (some ⟨B, 0, none⟩), .string ⟨#[97]⟩] W fun e w' => e = .returned (.bool true) ∧ Chg B W w' ∧ TabE B [[], [98]] w' := fun B W h => drop_e [97] (one_fit (by simp)) h
  have hf : ∀ B W, TabE B [[], [98]] W → Calls Try.prog 15 #[.pointer (some ⟨B, 0, none⟩), .string ⟨#[99]⟩] W fun e w' => e = .returned (.tuple #[.int .i64 0, .int .i64 0]) ∧ Chg B W w' ∧ TabE B [[99], [98]] w' := fun B W h => add_e [99] (one_fit (by simp)) h
  have hk : ∀ B W, TabE B [[99], [98]] W → Calls Try.prog 21 #[.pointer (some ⟨B, 0, none⟩), .int .i64 0] W fun e w' => e = .returned (.tuple #[.string ⟨#[99]⟩, .bool true]) ∧ W = w' := fun B W h => key_e 0 (by decide) h
  have hl : ∀ B W, TabE B [[99], [98]] W → Calls Try.prog 19 #[.pointer (some ⟨B, 0, none⟩)] W fun e w' => e = .returned (.int .i64 2) ∧ Below W.heap.size W w' := fun B W h => len_e h
  have hr : ∀ B W, TabE B [[99], [98]] W → Calls Try.prog 20 #[.pointer (some ⟨B, 0, none⟩)] W fun e w' => e = .returned (.int .i64 2) ∧ W = w' := fun B W h => room_e h
  have hs : ∀ B W, TabE B [[99], [98]] W → Calls Try.prog 17 #[.pointer (some ⟨B, 0, none⟩)] W fun e w' => ∃ p cap, e = .returned (.slice p 2 cap) ∧ Below W.heap.size W w' := fun B W h => (slots_e h).mono fun e w' ⟨v, h1, hO, hB⟩ => by
    obtain ⟨p, cap, rfl⟩ := hO.len
    exact ⟨p, cap, h1, hB⟩
  have HB0 := Lib.hid (Below.refl w.heap.size w)
  go_enter Try.func7, Try.ntmps7
  go_wp2_with fail
  refine (hn0 _).mono ?_
  rintro e w1 ⟨rfl, rfl⟩
  go_wp2_with fail
  refine (hn2 _).mono ?_
  rintro e w2 ⟨rfl, hB, hlt, hT⟩
  have hT2 : TabE w.heap.size [[], []] w2 := hT
  have HT := Lib.hid hT2
  have HB := Lib.hid hB
  clear hn0 hn2 HB0 hB hT hT2
  go_wp2_with fail
  refine (ha _ _ HT.out).mono ?_
  rintro e w3 ⟨rfl, hC, hT⟩
  have HB3 := Lib.hid (HB.out.trans (HT.out.chg_below hC (Nat.le_refl _)))
  have HT3 := Lib.hid hT
  clear HT HB hC hT ha
  go_wp2_with fail
  refine (hb _ _ HT3.out).mono ?_
  rintro e w4 ⟨rfl, hC, hT⟩
  have HB4 := Lib.hid (HB3.out.trans (HT3.out.chg_below hC (Nat.le_refl _)))
  have HT4 := Lib.hid hT
  clear HT3 HB3 hC hT hb
  go_wp2_with fail
  refine (hc _ _ HT4.out).mono ?_
  rintro e w5 ⟨rfl, hC, hT⟩
  have HB5 := Lib.hid (HB4.out.trans (HT4.out.chg_below hC (Nat.le_refl _)))
  have HT5 := Lib.hid hT
  clear HT4 HB4 hC hT hc
  go_wp2_with fail
  refine (hd _ _ HT5.out).mono ?_
  rintro e w6 ⟨rfl, hC, hT⟩
  have HB6 := Lib.hid (HB5.out.trans (HT5.out.chg_below hC (Nat.le_refl _)))
  have HT6 := Lib.hid hT
  clear HT5 HB5 hC hT hd
  go_wp2_with fail
  refine (he _ _ HT6.out).mono ?_
  rintro e w7 ⟨rfl, hC, hT⟩
  have HB7 := Lib.hid (HB6.out.trans (HT6.out.chg_below hC (Nat.le_refl _)))
  have HT7 := Lib.hid hT
  clear HT6 HB6 hC hT he
  go_wp2_with fail
  refine (hf _ _ HT7.out).mono ?_
  rintro e w8 ⟨rfl, hC, hT⟩
  have HB8 := Lib.hid (HB7.out.trans (HT7.out.chg_below hC (Nat.le_refl _)))
  have HT8 := Lib.hid hT
  clear HT7 HB7 hC hT hf
  go_wp2_with fail
  refine (hk _ _ HT8.out).mono ?_
  rintro e w9 ⟨rfl, rfl⟩
  clear hk
  go_wp2_with fail
  refine (hl _ _ HT8.out).mono ?_
  rintro e w9 ⟨rfl, hB⟩
  have HB9 := Lib.hid (HB8.out.trans (hB.mono HB8.out.size))
  have HT9 := Lib.hid (HT8.out.below hB)
  clear HT8 HB8 hB hl
  go_wp2_with fail
  refine (hr _ _ HT9.out).mono ?_
  rintro e w10 ⟨rfl, rfl⟩
  clear hr
  go_wp2_with fail
  refine (hs _ _ HT9.out).mono ?_
  rintro e w10 ⟨p, cap, rfl, hB⟩
  have HB10 := Lib.hid (HB9.out.trans (hB.mono HB9.out.size))
  clear HT9 HB9 hB hs
  go_wp2
  go_ret
  exact ⟨rfl, HB10.out⟩
end Go.Proofs.Ytiiadoeohmcfiaa
