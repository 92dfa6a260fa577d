/- A key is searched: how far from its own place the search ends. -/
import Derived.Test.YtiiadoeohmcfiaaSlA
import Derived.Deep.LoopGhost
import Derived.LoopTactic
import Derived.IntWalk
import Derived.BigQuiet
namespace Go.Proofs.Ytiiadoeohmcfiaa
open Go Go.RowKit

set_option maxRecDepth 100000 in
set_option maxHeartbeats 4000000 in
theorem search_any (B n : Nat) (ks : Nat → Key) (en : Nat → Option Nat) (k : Key) (hk : k.length ≤ maxLen) (hx : ∃ q, q < 512 ∧ en q = none)
    (hsl : ∀ p s, p < 512 → en p = some s → s < 256) (w : World) (h : Tb B n ks en w) :
    Calls Try.prog 24 #[.pointer (some ⟨B, 0, none⟩), .string (tx k)] w fun e w' =>
      ∃ (m : Nat) (has : Bool), e = .returned (.tuple #[.int .i64 (Sl.plc (hsh k) m : Int), .bool has]) ∧ Sl.SearchAt ks en (hsh k) k m has ∧ Below w.heap.size w w' := by
  obtain ⟨m0, hm1, hm2, hm3⟩ := Sl.first_empty hx (hsh_lt k)
  have hf := first_any k hk w
  have hh := hsh_lt k
  have HM3 := Lib.hid hm3
  have HM2 := Lib.hid hm2
  have HS := Lib.hid hsl
  have HT := Lib.hid h
  generalize hsh k = H at *
  clear hm2 hm3 hsl hx h hk
  go_enter Try.func24, Try.ntmps24
  go_wp2
  go_step3
  go_wp2_with fail
  refine hf.mono ?_
  rintro e w1 ⟨rfl, hB⟩
  have HB := Lib.hid hB
  have hp0 : Sl.plc H 0 = H := Sl.plc_zero hh
  clear hf hB
  go_wp2
  go_step3
  go_wp2
  go_loopg [4, 5, 6] m0 (fun g s4 s5 s6 wx => ∃ (j : Nat), s4 = .int .i64 (Sl.plc H j : Int) ∧ s5 = .bool false ∧ j + g = m0 ∧ Hid (∀ i, i < j → ∃ s, en (Sl.plc H i) = some s ∧ ks s ≠ k) ∧ Hid (Below w.heap.size w wx))
  case atStart => exact ⟨0, by rw [hp0], rfl, by omega, Lib.hid (fun i hi => absurd hi (Nat.not_lt_zero _)), HB⟩
  case round =>
    clear HB
    obtain ⟨j, rfl, rfl, hj, HJ, HB⟩ := hrel
    have hT := HT.out.below HB.out
    have hpl := Sl.plc_lt H j
    obtain ⟨p, hp⟩ : ∃ p, Sl.plc H j = p := ⟨_, rfl⟩
    rw [hp] at hpl ⊢
    have c0 := hT.taken p hpl
    have c1 := hT.slot p hpl
    have z0 := hT.lt
    cases he : en p with
    | none =>
      have E1 : (Option.isSome (none : Option Nat)) = false := rfl
      rw [he] at c0 c1
      rw [E1] at c0
      have hS : Sl.SearchAt ks en H k j false := ⟨by omega, HJ.out, by rw [if_neg (by simp), hp]; exact he⟩
      have HE := Lib.hid hS
      have HB1 := Lib.hid (HB.out.alloc HB.out.size (.cells #[.bool false, .int .i64 0] 56))
      have HP := Lib.hid hp
      clear hT he hp HJ HB hS
      go_wp2
      rw [Exit.noGoto_ret]
      go_ret2
      exact ⟨j, false, by rw [HP.out]; rfl, HE.out, HB1.out⟩
    | some s =>
      have E1 : (Option.isSome (some s : Option Nat)) = true := rfl
      have E2 : (Option.getD (some s : Option Nat) 0) = s := rfl
      have hs256 := HS.out p s hpl he
      rw [he] at c0 c1
      rw [E1] at c0
      rw [E2] at c1
      have ck := hT.key s hs256
      have heq := tx_eq (ks s) k
      have HB1 := Lib.hid (HB.out.alloc HB.out.size (.cells #[.bool true, .int .i64 (s : Int)] 56))
      by_cases hks : ks s = k
      · rw [decide_eq_true hks] at heq
        have hS : Sl.SearchAt ks en H k j true := ⟨by omega, HJ.out, by rw [if_pos rfl, hp]; exact ⟨s, he, hks⟩⟩
        have HE := Lib.hid hS
        have HP := Lib.hid hp
        clear hT he hp HJ HB hS hks E1 E2
        generalize tx (ks s) = T1 at *
        generalize tx k = T2 at *
        go_wp2
        go_quiet (fail)
        go_wp2
        rw [Exit.noGoto_ret]
        go_ret2
        exact ⟨j, true, by rw [HP.out]; rfl, HE.out, below_drewN HB1.out _⟩
      · rw [decide_eq_false hks] at heq
        cases gk with
        | zero =>
          obtain rfl : j = m0 := by omega
          rw [← hp] at he
          exact absurd (HM2.out.symm.trans he) (by simp)
        | succ g =>
          have hn := next_any p hpl
          have hpn : (p + 1) % 512 = Sl.plc H (j + 1) := by rw [← hp]; exact Sl.plc_next H j
          rw [hpn] at hn
          have HJ2 : Hid (∀ i, i < j + 1 → ∃ s, en (Sl.plc H i) = some s ∧ ks s ≠ k) := Lib.hid (fun i hi => by
            rcases Nat.lt_succ_iff_lt_or_eq.1 hi with h1 | rfl
            · exact HJ.out i h1
            · exact ⟨s, by rw [hp]; exact he, hks⟩)
          clear hT he hp HJ HB hks E1 E2 hpn
          obtain ⟨p', hp'⟩ : ∃ p', Sl.plc H (j + 1) = p' := ⟨_, rfl⟩
          have HP' := Lib.hid hp'
          rw [hp'] at hn
          clear hp'
          generalize tx (ks s) = T1 at *
          generalize tx k = T2 at *
          go_wp2
          go_quiet (fail)
          go_wp2_with fail
          refine (hn _).mono ?_
          rintro e w2 ⟨rfl, rfl⟩
          go_wp2
          go_roundg g
          case measure => omega
          case rel => exact ⟨j + 1, by rw [HP'.out], rfl, by omega, HJ2, Lib.hid (below_drewN HB1.out _)⟩
/-- The same, where it is known how the search ends. -/
theorem search_at {B n : Nat} {ks : Nat → Key} {en : Nat → Option Nat} {k : Key} (hk : k.length ≤ maxLen) (hx : ∃ q, q < 512 ∧ en q = none)
    (hsl : ∀ p s, p < 512 → en p = some s → s < 256) {m : Nat} {has : Bool} (hS : Sl.SearchAt ks en (hsh k) k m has) (w : World) (h : Tb B n ks en w) :
    Calls Try.prog 24 #[.pointer (some ⟨B, 0, none⟩), .string (tx k)] w fun e w' =>
      e = .returned (.tuple #[.int .i64 (Sl.plc (hsh k) m : Int), .bool has]) ∧ Below w.heap.size w w' := by
  refine (search_any B n ks en k hk hx hsl w h).mono ?_
  rintro e w' ⟨m', has', rfl, hS', hB⟩
  obtain ⟨rfl, rfl⟩ := Sl.search_one hS hS'
  exact ⟨rfl, hB⟩
end Go.Proofs.Ytiiadoeohmcfiaa
