/- Where a bucket stands among a histogram's items: the library's binary search, with the closure that compares. -/
import Derived.Test.YtklklpccpbhfgaaHiGet
namespace Go.Proofs.Ytklklpccpbhfgaa
open Go Go.RowKit

def cmpI (a b : Int) : Int := if a < b then -1 else if b < a then 1 else 0
set_option maxHeartbeats 1000000 in
theorem compare_any (a b : Int) (w : World) :
    Calls Try.prog 36 #[.int .i64 a, .int .i64 b] w fun e w' => e = .returned (.int .i64 (cmpI a b)) ∧ w = w' := by
  by_cases h1 : a < b
  · rw [show cmpI a b = -1 by unfold cmpI; rw [if_pos h1]]
    go_enter Try.func36, Try.ntmps36
    go_wp2_with go_in
    go_ret
    exact ⟨rfl, rfl⟩
  · by_cases h2 : b < a
    · rw [show cmpI a b = 1 by unfold cmpI; rw [if_neg h1, if_pos h2]]
      go_enter Try.func36, Try.ntmps36
      go_wp2_with go_in
      go_ret
      exact ⟨rfl, rfl⟩
    · rw [show cmpI a b = 0 by unfold cmpI; rw [if_neg h1, if_neg h2]]
      go_enter Try.func36, Try.ntmps36
      go_wp2_with go_in
      go_ret
      exact ⟨rfl, rfl⟩
theorem against_any (a b : Int) (m : Nat) (w : World) :
    Calls Try.prog 35 #[.agg #[.int .i64 a, .int .u64 m], .int .i64 b] w fun e w' => e = .returned (.int .i64 (cmpI a b)) ∧ Below w.heap.size w w' := by
  have hc := fun w => compare_any a b w
  go_enter Try.func35, Try.ntmps35
  go_wp2_with fail
  refine (hc _).mono ?_
  rintro e w1 ⟨rfl, rfl⟩
  go_wp2
  go_ret
  exact ⟨rfl, (Below.refl _ _).alloc (Nat.le_refl _) _⟩
theorem cmpI_lt {a b : Int} : cmpI a b < 0 ↔ a < b := by unfold cmpI; split <;> (try split) <;> omega
theorem cmpI_eq {a b : Int} : cmpI a b = 0 ↔ a = b := by unfold cmpI; split <;> (try split) <;> omega

set_option maxRecDepth 100000 in
set_option maxHeartbeats 4000000 in
/-- At no items. -/
theorem find_nil (p : Option Addr) (cap : Nat) (a : Int) (w : World) :
    Calls Try.prog 37 #[.slice p 0 cap, .int .i64 a, .func (.func 35) #[] #[]] w fun e w' => e = .returned (.tuple #[.int .i64 (0 : Nat), .bool false]) ∧ Below w.heap.size w w' := by
  go_enter Try.func37, Try.ntmps37
  go_wp2
  go_loopg [9, 10] 0 (fun g s9 s10 wx => s9 = .int .i64 0 ∧ s10 = .int .i64 0 ∧ Below w.heap.size w wx)
  case atStart => exact ⟨rfl, rfl, Below.refl _ _⟩
  case round =>
    obtain ⟨rfl, rfl, hB⟩ := hrel
    go_wp2
    go_ret2
    exact ⟨rfl, hB⟩
set_option maxRecDepth 100000 in
set_option maxHeartbeats 4000000 in
theorem find_row {base T g cap : Nat} {l : List Hit} {w : World} (h : Its base T (.slice (some ⟨g, 0, none⟩) l.length cap) l w) (hr : Rising l) (hlen : l.length ≤ 2001) (a : Int) :
    Calls Try.prog 37 #[.slice (some ⟨g, 0, none⟩) l.length cap, .int .i64 a, .func (.func 35) #[] #[]] w fun e w' => e = .returned (.tuple #[.int .i64 (cutH a l : Nat), .bool (decide (cutH a l < l.length) && decide (l[cutH a l]!.at_ = a))]) ∧ Below w.heap.size w w' := by
  rcases h.form with ⟨h0, _⟩ | ⟨g', cap', hv, hb, hg, h1, h2, hcell, hfro⟩
  · cases h0
  simp only [Value.slice.injEq, Option.some.injEq, Addr.mk.injEq, and_true, true_and] at hv
  obtain ⟨rfl, rfl⟩ := hv
  have hiff := fun (i : Nat) (hi : i < l.length) => cut_iff hr a hi
  have hcl := cutH_le a l
  have HC := Lib.hid hcell
  have HI := Lib.hid hiff
  clear h hr hcell hfro hiff h1 h2
  obtain ⟨fin, hfin⟩ : ∃ fin, (decide (cutH a l < l.length) && decide (l[cutH a l]!.at_ = a)) = fin := ⟨_, rfl⟩
  rw [hfin]
  have HF := Lib.hid hfin
  clear hfin
  obtain ⟨c, hc⟩ : ∃ c, cutH a l = c := ⟨_, rfl⟩
  rw [hc] at HI HF hcl ⊢
  clear hc
  obtain ⟨n, hn⟩ : ∃ n, l.length = n := ⟨_, rfl⟩
  rw [hn] at HC HI HF hcl hlen ⊢
  clear hn
  have hag := fun (x : Int) (m : Nat) (W : World) => against_any x a m W
  go_enter Try.func37, Try.ntmps37
  go_wp2
  go_loopg [9, 10] n (fun gk s9 s10 wx => ∃ lo hi : Nat, s9 = .int .i64 lo ∧ s10 = .int .i64 hi ∧ lo ≤ c ∧ c ≤ hi ∧ hi ≤ n ∧ hi - lo ≤ gk ∧ Below w.heap.size w wx)
  case atStart => exact ⟨0, n, rfl, rfl, by omega, hcl, by omega, by omega, Below.refl _ _⟩
  case round =>
    obtain ⟨lo, hi, rfl, rfl, hlo, hhi, hin, hgk, hB⟩ := hrel
    by_cases hlt : lo < hi
    · have hh : (lo + hi) / 2 < n := by omega
      obtain ⟨d0, d1⟩ := HC.out ((lo + hi) / 2) hh
      have e0 := (hB.cell (p := ⟨g, (lo + hi) / 2 * 2, none⟩) hg).trans d0
      have e1 := (hB.cell (p := ⟨g, (lo + hi) / 2 * 2 + 1, none⟩) hg).trans d1
      have hi2 := HI.out ((lo + hi) / 2) hh
      clear d0 d1
      generalize l[(lo + hi) / 2]!.at_ = x at *
      generalize l[(lo + hi) / 2]!.many = m at *
      have hs := hB.size
      by_cases hx : x < a
      · have hx' := cmpI_lt.2 hx
        have hnew := hi2.1 hx
        clear hi2
        go_wp2_with fail
        refine (hag x m _).mono ?_
        rintro e w2 ⟨rfl, hB2⟩
        have hB3 := hB.trans (hB2.mono hs)
        clear hB hB2 e0 e1
        go_wp2
        go_roundg (hi - ((lo + hi) / 2 + 1))
        case measure => omega
        case rel => exact ⟨(lo + hi) / 2 + 1, hi, by go_num, rfl, by omega, hhi, hin, Nat.le_refl _, hB3⟩
      · have hx' : ¬ cmpI x a < 0 := fun h => hx (cmpI_lt.1 h)
        have hnew : ¬ (lo + hi) / 2 < c := fun h => hx (hi2.2 h)
        clear hi2
        go_wp2_with fail
        refine (hag x m _).mono ?_
        rintro e w2 ⟨rfl, hB2⟩
        have hB3 := hB.trans (hB2.mono hs)
        clear hB hB2 e0 e1
        go_wp2
        go_roundg ((lo + hi) / 2 - lo)
        case measure => omega
        case rel => exact ⟨lo, (lo + hi) / 2, rfl, by go_num, hlo, by omega, by omega, Nat.le_refl _, hB3⟩
    · obtain rfl : lo = c := by omega
      obtain rfl : hi = lo := by omega
      by_cases hn : hi < n
      · obtain ⟨d0, d1⟩ := HC.out hi hn
        have e0 := (hB.cell (p := ⟨g, hi * 2, none⟩) hg).trans d0
        have e1 := (hB.cell (p := ⟨g, hi * 2 + 1, none⟩) hg).trans d1
        obtain ⟨x, hx⟩ : ∃ x, l[hi]!.at_ = x := ⟨_, rfl⟩
        obtain ⟨m, hm⟩ : ∃ m, l[hi]!.many = m := ⟨_, rfl⟩
        rw [hx] at e0 HF
        rw [hm] at e1
        clear d0 d1 hx hm
        have hs := hB.size
        have hfe : (decide (hi < n) && decide (x = a)) = decide (cmpI x a = 0) := by
          rw [decide_eq_true hn, Bool.true_and]
          exact decide_eq_decide.2 cmpI_eq.symm
        rw [hfe] at HF
        clear hfe
        go_wp2_with fail
        refine (hag x m _).mono ?_
        rintro e w2 ⟨rfl, hB2⟩
        have hB3 := hB.trans (hB2.mono hs)
        clear hB hB2 e0 e1
        go_wp2
        go_ret2
        refine ⟨by rw [← HF.out]; first | rfl | simp, hB3⟩
      · have hfe : (decide (hi < n) && decide (l[hi]!.at_ = a)) = false := by rw [decide_eq_false hn, Bool.false_and]
        rw [hfe] at HF
        clear hfe
        go_wp2
        go_ret2
        exact ⟨by rw [← HF.out]; rfl, hB⟩
end Go.Proofs.Ytklklpccpbhfgaa
