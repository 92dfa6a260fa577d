/- The chapter's own histograms: a new one, how many there are, ranks, quantiles. -/
import Derived.Test.YtklklpccpbhfgaaHiOf
import Derived.Test.YtklklpccpbhfgaaBRbd
import Derived.Laws.OwnMore
import Derived.BigQuiet
namespace Go.Proofs.Ytklklpccpbhfgaa
open Go Go.RowKit

theorem ref_new_out (x : Int) (h : x < 0 ∨ 4 < x) (w : World) :
    Calls Try.prog 12 #[.int .i64 x] w fun e w' => e = .returned (.pointer none) ∧ w = w' := by
  by_cases h1 : x < 0
  · clear h
    go_enter Try.func12, Try.ntmps12
    go_wp2
    go_ret
    exact ⟨rfl, rfl⟩
  · have h2 : 4 < x := by omega
    clear h
    go_enter Try.func12, Try.ntmps12
    go_wp2
    go_ret
    exact ⟨rfl, rfl⟩
theorem ref_new_any (k : Nat) (hk : k ≤ 4) (w : World) :
    Calls Try.prog 12 #[.int .i64 k] w fun e w' => ∃ B, e = .returned (.pointer (some ⟨B, 0, none⟩)) ∧ Below w.heap.size w w' ∧ Hs w.heap.size 83 B k (.slice none 0 0) [] w' := by
  have HK := Lib.hid hk
  have h1 : ¬ ((k : Int) < 0) := by omega
  have h2 : ¬ ((4 : Int) < (k : Int)) := by omega
  clear hk
  go_enter Try.func12, Try.ntmps12
  go_wp2
  go_ret
  have hC := CellsAt.new #[.int .i64 k, .slice none 0 0] 77 w
  exact ⟨w.heap.size, rfl, (Below.refl _ _).alloc (Nat.le_refl _) _, hC.lt, Nat.le_refl _, Inv.nil HK.out, hC.cell 0 _ rfl, hC.cell 1 _ rfl, hC.fro 1 _ rfl, Its.nil _ _ _, by simp [Value.ownBlock]⟩
set_option maxHeartbeats 2000000 in
theorem ref_count_row {B cap : Nat} {p : Option Addr} {l : List Hit} {w : World} {base : Nat} (c1 : w.cell? ⟨B, 1, none⟩ = some (.slice p l.length cap)) (hr : Its base 83 (.slice p l.length cap) l w) (hl : l.length ≤ 65535) (hm : ∀ x ∈ l, x.many < 281474976710656) :
    Calls Try.prog 39 #[.pointer (some ⟨B, 0, none⟩)] w fun e w' => e = .returned (.int .u64 (countH l)) ∧ w = w' := by
  have HL := Lib.hid hr.form
  have hsum : ∀ k, k ≤ l.length → countH (l.take k) ≤ k * 281474976710655 := by
    intro k
    induction k with
    | zero => intro _; simp [countH]
    | succ k ih =>
      intro hk
      have h1 := countH_take_succ l k (by omega)
      have h2 := hm _ (at_mem (show k < l.length by omega))
      have h3 := ih (by omega)
      omega
  have HM := Lib.hid hm
  clear hr hm
  obtain ⟨n, hn⟩ : ∃ n, l.length = n := ⟨_, rfl⟩
  have HN := Lib.hid hn
  rw [hn] at hl c1 hsum
  have HS0 := Lib.hid hsum
  clear hn hsum
  go_enter Try.func39, Try.ntmps39
  go_wp2
  go_loopg [3, 4] (n) (fun g s i wx => ∃ k : Nat, k + g = n ∧ i = .int .i64 k ∧ s = .int .u64 (countH (l.take k)) ∧ w = wx)
  case atStart => exact ⟨0, by omega, rfl, rfl, rfl⟩
  case round =>
    obtain ⟨k, hkg, rfl, rfl, rfl⟩ := hrel
    cases gk with
    | zero =>
      obtain rfl : k = n := by omega
      have HE : Hid (countH (l.take k) = countH l) := Lib.hid (by rw [List.take_of_length_le (by rw [HN.out]; exact Nat.le_refl _)])
      go_wp2
      go_ret
      exact ⟨by rw [HE.out]; rfl, rfl⟩
    | succ g =>
      have hk : k < n := by omega
      rcases HL.out with ⟨_, h0⟩ | ⟨gg, cap', e, _, hg, _, _, hc, _⟩
      · rw [← HN.out, h0] at hk; cases hk
      · simp only [Value.slice.injEq] at e
        obtain ⟨rfl, _, rfl⟩ := e
        obtain ⟨d0, d1⟩ := hc k (by rw [HN.out]; exact hk)
        have hs := countH_take_succ l k (by rw [HN.out]; exact hk)
        have hle := HS0.out k (by omega)
        have hmm := HM.out _ (at_mem (show k < l.length by rw [HN.out]; exact hk))
        have HS := Lib.hid hs
        generalize l[k]!.at_ = nm at *
        generalize l[k]!.many = m at *
        have hsm : countH (l.take k) + m < 18446744073709551616 := by omega
        clear hc hs hle hmm
        generalize countH (l.take k) = q at *
        go_wp2
        go_roundg g
        case measure => omega
        case rel => exact ⟨k + 1, by omega, by go_num, by rw [HS.out]; go_num, rfl⟩
theorem ref_count_any {base B k : Nat} {v : Value} {l : List Hit} {w : World} (h : Hs base 83 B k v l w) :
    Calls Try.prog 39 #[.pointer (some ⟨B, 0, none⟩)] w fun e w' => e = .returned (.int .u64 (countH l)) ∧ w = w' := by
  obtain ⟨p, cap, rfl, hcap, hmax⟩ := h.row.cap
  have h1 := h.inv.len
  have h2 := h.inv.sum
  exact ref_count_row h.c1 h.row (by omega) (fun x hx => by have := many_le_count hx; omega)
set_option maxHeartbeats 2000000 in
theorem ref_rank_zero (B : Nat) (w : World) :
    Calls Try.prog 20 #[.pointer (some ⟨B, 0, none⟩), .int .u64 0] w fun e w' => e = .returned (.tuple #[.int .i64 0, .bool false]) ∧ w = w' := by
  go_enter Try.func20, Try.ntmps20
  go_wp2
  go_ret2
  exact ⟨rfl, rfl⟩
set_option maxHeartbeats 2000000 in
theorem ref_rank_any {base B k : Nat} {v : Value} {l : List Hit} {w : World} (h : Hs base 83 B k v l w) (r : Nat) (hr1 : 1 ≤ r) (hr : r < 18446744073709551616) :
    Calls Try.prog 20 #[.pointer (some ⟨B, 0, none⟩), .int .u64 r] w fun e w' => e = .returned (rkV (rankH l r)) ∧ w = w' := by
  have c1 := h.c1
  have hlen := h.inv.len
  have hz : ¬ ((r : Int) = 0) := by omega
  have hzb : ((r : Int) == 0) = false := beq_false_of_ne hz
  obtain ⟨p, cap, rfl, hcap, hmax⟩ := h.row.cap
  have HL := Lib.hid h.row.form
  have HV := Lib.hid h.inv
  clear h hcap hmax
  obtain ⟨n, hn⟩ : ∃ n, l.length = n := ⟨_, rfl⟩
  have HN := Lib.hid hn
  rw [hn] at c1 hlen
  obtain ⟨R, hR⟩ : ∃ R, rankH l r = R := ⟨_, rfl⟩
  have H0 : Hid (rankH (l.drop 0) r = R) := Lib.hid (by rw [List.drop_zero]; exact hR)
  rw [hR]
  clear hn hR
  go_enter Try.func20, Try.ntmps20
  go_wp2
  try rw [hzb]
  go_loopg [1, 6] (n) (fun g s i wx => ∃ k q : Nat, k + g = n ∧ i = .int .i64 k ∧ s = .int .u64 q ∧ 1 ≤ q ∧ q < 18446744073709551616 ∧ Hid (rankH (l.drop k) q = R) ∧ w = wx)
  case atStart => exact ⟨0, r, by omega, rfl, rfl, hr1, hr, H0, rfl⟩
  case round =>
    clear H0
    obtain ⟨k, q, hkg, rfl, rfl, q1, q2, HQ, rfl⟩ := hrel
    cases gk with
    | zero =>
      obtain rfl : k = n := by omega
      have hq := HQ.out
      rw [List.drop_eq_nil_of_le (by rw [HN.out]; exact Nat.le_refl _)] at hq
      obtain rfl : none = R := hq
      clear HQ
      go_wp2
      go_ret2
      exact ⟨rfl, rfl⟩
    | succ g =>
      have hk : k < n := by omega
      have hkl : k < l.length := by rw [HN.out]; exact hk
      rcases HL.out with ⟨_, h0⟩ | ⟨gg, cap', e, _, hg, _, _, hc, _⟩
      · rw [h0] at hkl; cases hkl
      · simp only [Value.slice.injEq] at e
        obtain ⟨rfl, _, rfl⟩ := e
        obtain ⟨d0, d1⟩ := hc k hkl
        have hq := HQ.out
        rw [rankH_cons hkl] at hq
        obtain ⟨m1, m2⟩ := HV.out.many hkl
        obtain ⟨a, ha⟩ : ∃ a, l[k]!.at_ = a := ⟨_, rfl⟩
        obtain ⟨m, hm⟩ : ∃ m, l[k]!.many = m := ⟨_, rfl⟩
        rw [ha] at d0 hq
        rw [hm] at d1 hq m1 m2
        clear hc ha hm HQ
        by_cases hle : q ≤ m
        · rw [if_pos hle] at hq
          subst hq
          go_wp2
          go_ret2
          exact ⟨rfl, rfl⟩
        · rw [if_neg hle] at hq
          have HQ := Lib.hid hq
          have hle' : ¬ ((q : Int) ≤ (m : Int)) := by omega
          clear hq
          go_wp2
          go_roundg g
          case measure => omega
          case rel => exact ⟨k + 1, q - m, by omega, by go_num, by go_num, by omega, by omega, HQ, rfl⟩
end Go.Proofs.Ytklklpccpbhfgaa
