/- Find, Room, Key, the lowest slot that is free. -/
import Derived.Test.YtiiadoeohmcfiaaSlD
namespace Go.Proofs.Ytiiadoeohmcfiaa
open Go Go.RowKit

set_option maxRecDepth 100000 in
set_option maxHeartbeats 2000000 in
theorem find_any {B : Nat} {L : List Key} {en : Nat → Option Nat} (k : Key) (hk : k.length ≤ maxLen) (w : World) (h : Tab B L en w) :
    Calls Try.prog 13 #[.pointer (some ⟨B, 0, none⟩), .string (tx k)] w fun e w' =>
      e = .returned (.tuple #[.int .i64 (((findK L k).getD 0 : Nat) : Int), .bool (findK L k).isSome]) ∧ Below w.heap.size w w' := by
  have hx : ∃ q, q < 512 ∧ en q = none := by obtain ⟨q, h1, _, h2⟩ := h.inv.ent.empty 0; exact ⟨q, h1, h2⟩
  obtain ⟨m, has, hS⟩ := Sl.search_ex (ks := keyOf L) k hx (hsh_lt k)
  have hs := search_at hk hx (fun p s hp he => (h.inv.ent.slot p s hp he).1) hS w h.tb
  obtain ⟨h1, h2⟩ := h.find hS
  have hp := Sl.plc_lt (hsh k) m
  rw [← h2]
  rw [← h2] at h1
  obtain ⟨p, hpe⟩ : ∃ p, Sl.plc (hsh k) m = p := ⟨_, rfl⟩
  rw [hpe] at hs hp h1 ⊢
  clear hpe
  subst h1
  have HT := Lib.hid h.tb
  clear hS h2 h hx hk
  generalize tx k = T at *
  go_enter Try.func13, Try.ntmps13
  go_wp2_with fail
  refine hs.mono ?_
  rintro e w1 ⟨rfl, hB⟩
  have hT := HT.out.below hB
  have c1 := hT.slot p hp
  clear hT
  go_wp2
  go_ret2
  exact ⟨rfl, hB⟩
theorem room_any {B : Nat} {L : List Key} {en : Nat → Option Nat} (w : World) (h : Tab B L en w) :
    Calls Try.prog 20 #[.pointer (some ⟨B, 0, none⟩)] w fun e w' => e = .returned (.int .i64 (L.length : Int)) ∧ w = w' := by
  have c := h.tb.room
  clear h
  go_enter Try.func20, Try.ntmps20
  go_wp2
  go_ret
  exact ⟨rfl, rfl⟩
set_option maxRecDepth 100000 in
set_option maxHeartbeats 2000000 in
theorem key_out {B : Nat} {L : List Key} {en : Nat → Option Nat} (s : Int) (hs : s < 0 ∨ (L.length : Int) ≤ s) (w : World) (h : Tab B L en w) :
    Calls Try.prog 21 #[.pointer (some ⟨B, 0, none⟩), .int .i64 s] w fun e w' => e = .returned (.tuple #[.string ⟨#[]⟩, .bool false]) ∧ w = w' := by
  have c := h.tb.room
  clear h
  generalize L.length = n at *
  by_cases h0 : s < 0
  · clear hs
    go_enter Try.func21, Try.ntmps21
    go_wp2
    go_ret2
    exact ⟨rfl, rfl⟩
  · have h1 : (n : Int) ≤ s := by omega
    have h2 : 0 ≤ s := by omega
    clear hs h0
    go_enter Try.func21, Try.ntmps21
    go_wp2
    go_ret2
    exact ⟨rfl, rfl⟩
set_option maxRecDepth 100000 in
set_option maxHeartbeats 2000000 in
theorem key_in {B : Nat} {L : List Key} {en : Nat → Option Nat} (s : Nat) (hs : s < L.length) (w : World) (h : Tab B L en w) :
    Calls Try.prog 21 #[.pointer (some ⟨B, 0, none⟩), .int .i64 (s : Int)] w fun e w' => e = .returned (.tuple #[.string (tx (keyOf L s)), .bool (!decide (keyOf L s = []))]) ∧ w = w' := by
  have c := h.tb.room
  have hr := h.room
  have hf := free_any B L.length (keyOf L) en s (by omega) w h.tb
  have ck := h.tb.key s (by omega)
  clear h
  generalize keyOf L s = k at *
  generalize L.length = n at *
  by_cases hk : k = []
  · subst hk
    rw [decide_eq_true rfl] at hf ⊢
    have ht : tx [] = ⟨#[]⟩ := rfl
    rw [ht] at ck ⊢
    clear ht
    go_enter Try.func21, Try.ntmps21
    go_wp2_with fail
    refine hf.mono ?_
    rintro e w1 ⟨rfl, rfl⟩
    go_wp2
    go_ret2
    exact ⟨rfl, rfl⟩
  · rw [decide_eq_false hk] at hf ⊢
    generalize tx k = T at *
    clear hk
    go_enter Try.func21, Try.ntmps21
    go_wp2_with fail
    refine hf.mono ?_
    rintro e w1 ⟨rfl, rfl⟩
    go_wp2
    go_ret2
    exact ⟨rfl, rfl⟩
/-- What the lowest free slot is told as. -/
def freeV : Option Nat → Value
  | none => .tuple #[.int .i64 0, .bool false]
  | some s => .tuple #[.int .i64 (s : Int), .bool true]
set_option maxRecDepth 100000 in
set_option maxHeartbeats 2000000 in
theorem free_first {B : Nat} {L : List Key} {en : Nat → Option Nat} (w : World) (h : Tab B L en w) :
    Calls Try.prog 26 #[.pointer (some ⟨B, 0, none⟩)] w fun e w' => e = .returned (freeV (idxL [] L)) ∧ w = w' := by
  have c := h.tb.room
  have hr := h.room
  have hf := fun s hs => free_any B L.length (keyOf L) en s hs w h.tb
  have HI : Hid (∀ s, s < L.length → keyOf L s = [] → (∀ j, j < s → keyOf L j ≠ []) → idxL [] L = some s) := Lib.hid (fun s => idx_is)
  have HN : Hid ((∀ j, j < L.length → keyOf L j ≠ []) → idxL [] L = none) := Lib.hid idx_not
  have HF := Lib.hid hf
  clear h hf
  obtain ⟨n, hn⟩ : ∃ n, L.length = n := ⟨_, rfl⟩
  rw [hn] at c hr HI HN
  clear hn
  go_enter Try.func26, Try.ntmps26
  go_wp2
  go_loopg [4, 9] n (fun g s4 s9 wx => ∃ j : Nat, s9 = .int .i64 (j : Int) ∧ j + g = n ∧ wx = w ∧ Hid (∀ i, i < j → keyOf L i ≠ []))
  case atStart => exact ⟨0, rfl, by omega, rfl, Lib.hid (fun i hi => absurd hi (Nat.not_lt_zero _))⟩
  case round =>
    obtain ⟨j, rfl, hj, rfl, HJ⟩ := hrel
    cases gk with
    | zero =>
      obtain rfl : j = n := by omega
      have hE := Lib.hid (HN.out HJ.out)
      go_wp2
      go_ret2
      exact ⟨by rw [hE.out]; rfl, rfl⟩
    | succ g =>
      have hjn : j < n := by omega
      have hf := HF.out j (by omega)
      by_cases hk : keyOf L j = []
      · rw [decide_eq_true hk] at hf
        have hE := Lib.hid (HI.out j hjn hk HJ.out)
        clear hk
        go_wp2_with fail
        refine hf.mono ?_
        rintro e w1 ⟨rfl, rfl⟩
        go_wp2
        go_ret2
        exact ⟨by rw [hE.out]; rfl, rfl⟩
      · rw [decide_eq_false hk] at hf
        have HJ2 : Hid (∀ i, i < j + 1 → keyOf L i ≠ []) := Lib.hid (fun i hi => by
          rcases Nat.lt_succ_iff_lt_or_eq.1 hi with h1 | rfl
          · exact HJ.out i h1
          · exact hk)
        clear hk
        go_wp2_with fail
        refine hf.mono ?_
        rintro e w1 ⟨rfl, rfl⟩
        go_wp2
        go_roundg g
        case measure => omega
        case rel => exact ⟨j + 1, by go_num, by omega, rfl, HJ2⟩
end Go.Proofs.Ytiiadoeohmcfiaa
