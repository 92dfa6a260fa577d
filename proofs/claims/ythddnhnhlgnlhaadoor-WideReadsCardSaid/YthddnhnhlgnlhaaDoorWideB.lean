/- The small functions of wide, walked: Of, Add, Neg, Less, Sign. -/
import Derived.Test.YthddnhnhlgnlhaaDoorWideA
import Derived.Test.YthddnhnhlgnlhaaDoorCells
import Derived.Below
import Derived.IntWalk
import Derived.Laws.Bits64
import Derived.Laws.Bits64b
import Derived.Laws.Externs
import Derived.Lib.Hide
import Derived.BigRegion
import Derived.Deep.RegionWith
import Derived.WalkSpells
namespace Go.Proofs.YthddnhnhlgnlhaaDoor
open Go Go.RowKit

theorem add64 (x y c : Int) (hx : 0 ≤ x) (hy : 0 ≤ y) (hc0 : 0 ≤ c) (hc : c ≤ 1) (w : World) : (callFunc 32 #[.int .u64 x, .int .u64 y, .int .u64 c]).run Tryd.prog w =
    .ok (.value (.tuple #[.int .u64 ((x + y + c) % 18446744073709551616), .int .u64 ((x + y + c) / 18446744073709551616)])) w := by
  rw [run_callFunc_extern Tryd.func32 (by kernel_rfl) (by kernel_rfl) (by kernel_rfl) (e := add64Entry) (by kernel_rfl), run_add64 x y c hx hy hc0 hc]
  rfl
theorem add64_0 (x y : Int) (hx : 0 ≤ x) (hy : 0 ≤ y) (w : World) : (callFunc 32 #[.int .u64 x, .int .u64 y, .int .u64 0]).run Tryd.prog w =
    .ok (.value (.tuple #[.int .u64 ((x + y) % 18446744073709551616), .int .u64 ((x + y) / 18446744073709551616)])) w := by
  simpa using add64 x y 0 hx hy (Int.le_refl 0) (by decide) w

theorem of_any (n : Int) (h1 : -9223372036854775808 ≤ n) (h2 : n ≤ 9223372036854775807) (w : World) :
    Calls Tryd.prog 25 #[.int .i64 n] w fun e w' => e = .returned (sv n) ∧ Below w.heap.size w w' := by
  have hs : sv n = .agg #[.int .i64 (n / 9223372036854775808), .int .u64 (IntKind.u64.wrap n)] := by
    unfold sv; rw [shi_of h1 h2, IntKind.wrap_u64]; rfl
  rw [hs]
  clear hs
  go_enter Tryd.func25, Tryd.ntmps25
  go_wp2
  simp [bodyPost, results, Tryd.results25, go_sem]
  exact (Below.refl _ _).alloc (Nat.le_refl _) _

theorem add_any (a b : Int) (ha : InS a) (hb : InS b) (w : World) :
    Calls Tryd.prog 13 #[sv a, sv b] w fun e w' => e = .returned (sv (w128 (a + b))) ∧ Below w.heap.size w w' := by
  have a1 := shi_lo ha
  have a2 := shi_hi ha
  have a3 := slo_lo a
  have a4 := slo_hi a
  have b1 := shi_lo hb
  have b2 := shi_hi hb
  have b3 := slo_lo b
  have b4 := slo_hi b
  have r1 := add_hi a b
  have r2 := add_lo a b
  clear ha hb
  unfold sv
  rw [← r1, ← r2]
  clear r1 r2
  go_enter Tryd.func13, Tryd.ntmps13
  go_wp2_with (simp only [add64_0 (slo a) (slo b) a3 b3])
  simp [bodyPost, results, Tryd.results13, go_sem]
  exact (((Below.refl _ _).alloc (Nat.le_refl _) _).alloc (by simp) _).alloc (by simp; omega) _

theorem less_any (a b : Int) (ha : InS a) (hb : InS b) (w : World) :
    Calls Tryd.prog 17 #[sv a, sv b] w fun e w' => e = .returned (.bool (decide (a < b))) ∧ Below w.heap.size w w' := by
  have a1 := shi_lo ha
  have a2 := shi_hi ha
  have a3 := slo_lo a
  have a4 := slo_hi a
  have b1 := shi_lo hb
  have b2 := shi_hi hb
  have b3 := slo_lo b
  have b4 := slo_hi b
  have hd : decide (a < b) = if (shi a != shi b) then decide (shi a < shi b) else decide (slo a < slo b) := by
    unfold shi slo
    split <;> rename_i h <;> simp at h ⊢ <;> omega
  clear ha hb
  unfold sv
  rw [hd]
  clear hd
  by_cases h : shi a = shi b
  · rw [if_neg (by simp [h])]
    rw [h]
    go_enter Tryd.func17, Tryd.ntmps17
    go_wp2
    go_ret
    exact ⟨rfl, ((Below.refl _ _).alloc (Nat.le_refl _) _).alloc (by simp) _⟩
  · have h' : (shi a != shi b) = true := by simp [h]
    rw [if_pos h']
    go_enter Tryd.func17, Tryd.ntmps17
    go_wp2
    go_ret
    exact ⟨rfl, ((Below.refl _ _).alloc (Nat.le_refl _) _).alloc (by simp) _⟩

theorem sign_any (a : Int) (ha : InS a) (w : World) :
    Calls Tryd.prog 19 #[sv a] w fun e w' => e = .returned (.int .i64 (ssgn a)) ∧ Below w.heap.size w w' := by
  have a1 := shi_lo ha
  have a2 := shi_hi ha
  have a3 := slo_lo a
  have a4 := slo_hi a
  have hd : ssgn a = if shi a = 0 ∧ slo a = 0 then 0 else if shi a < 0 then -1 else 1 := by
    unfold ssgn shi slo
    unfold InS at ha
    repeat' split
    all_goals omega
  clear ha
  unfold sv
  rw [hd]
  clear hd
  by_cases h : shi a = 0 ∧ slo a = 0
  · rw [if_pos h]
    obtain ⟨h1, h2⟩ := h
    rw [h1, h2]
    go_enter Tryd.func19, Tryd.ntmps19
    go_wp2
    go_ret
    exact ⟨rfl, (Below.refl _ _).alloc (Nat.le_refl _) _⟩
  · rw [if_neg h]
    have h' : (shi a == 0 && slo a == 0) = false := by
      by_cases h1 : shi a = 0
      · have : slo a ≠ 0 := fun h2 => h ⟨h1, h2⟩
        simp [h1, this]
      · simp [h1]
    by_cases hn : shi a < 0
    · rw [if_pos hn]
      go_enter Tryd.func19, Tryd.ntmps19
      go_wp2
      all_goals (go_ret; exact ⟨rfl, (Below.refl _ _).alloc (Nat.le_refl _) _⟩)
    · rw [if_neg hn]
      go_enter Tryd.func19, Tryd.ntmps19
      go_wp2
      all_goals (go_ret; exact ⟨rfl, (Below.refl _ _).alloc (Nat.le_refl _) _⟩)

theorem refOf_any (n : Int) (h1 : -9223372036854775808 ≤ n) (h2 : n ≤ 9223372036854775807) (w : World) :
    Calls Tryd.prog 26 #[.int .i64 n] w fun e w' => e = .returned (sv n) ∧ Below w.heap.size w w' := by
  by_cases hn : n < 0
  · have hs : sv n = .agg #[.int .i64 (-1), .int .u64 (IntKind.u64.wrap n)] := by
      unfold sv; rw [show shi n = -1 by unfold shi; omega, IntKind.wrap_u64]; rfl
    rw [hs]
    clear hs
    go_enter Tryd.func26, Tryd.ntmps26
    go_wp2
    simp [bodyPost, results, Tryd.results26, go_sem]
    exact (Below.refl _ _).alloc (Nat.le_refl _) _
  · have hs : sv n = .agg #[.int .i64 0, .int .u64 n] := by
      unfold sv; rw [show shi n = 0 by unfold shi; omega, show slo n = n by unfold slo; omega]
    rw [hs]
    clear hs
    go_enter Tryd.func26, Tryd.ntmps26
    go_wp2
    simp [bodyPost, results, Tryd.results26, go_sem]
    exact (Below.refl _ _).alloc (Nat.le_refl _) _

theorem ref_any (a : Int) (ha : InS a) (w : World) :
    Calls Tryd.prog 12 #[sv a] w fun e w' => e = .returned (sv a) ∧ Below w.heap.size w w' := by
  have a1 := shi_lo ha
  have a2 := shi_hi ha
  have a3 := slo_lo a
  have a4 := slo_hi a
  clear ha
  unfold sv
  go_enter Tryd.func12, Tryd.ntmps12
  go_wp2
  simp [bodyPost, results, Tryd.results12, go_sem]
  exact ((Below.refl _ _).alloc (Nat.le_refl _) _).alloc (by simp) _

theorem refAdd_any (a b : Int) (ha : InS a) (hb : InS b) (w : World) :
    Calls Tryd.prog 14 #[sv a, sv b] w fun e w' => e = .returned (sv (w128 (a + b))) ∧ Below w.heap.size w w' := by
  have a1 := shi_lo ha
  have a2 := shi_hi ha
  have a3 := slo_lo a
  have a4 := slo_hi a
  have b1 := shi_lo hb
  have b2 := shi_hi hb
  have b3 := slo_lo b
  have b4 := slo_hi b
  clear ha hb
  unfold sv
  go_enter Tryd.func14, Tryd.ntmps14
  go_wp2
  · rename_i hlt
    rw [refadd_lo] at hlt
    simp [bodyPost, results, Tryd.results14, go_sem]
    rw [refadd_lo, refadd_hi a b hlt]
    exact ⟨⟨rfl, rfl⟩, (((Below.refl _ _).alloc (Nat.le_refl _) _).alloc (by simp) _).alloc (by simp; omega) _⟩
  · rename_i hlt
    rw [refadd_lo] at hlt
    simp [bodyPost, results, Tryd.results14, go_sem]
    rw [refadd_lo, refadd_hi0 a b (by omega)]
    exact ⟨⟨rfl, rfl⟩, (((Below.refl _ _).alloc (Nat.le_refl _) _).alloc (by simp) _).alloc (by simp; omega) _⟩

theorem refLess_any (a b : Int) (ha : InS a) (hb : InS b) (w : World) :
    Calls Tryd.prog 18 #[sv a, sv b] w fun e w' => e = .returned (.bool (decide (a < b))) ∧ Below w.heap.size w w' := by
  have a1 := shi_lo ha
  have a2 := shi_hi ha
  have a3 := slo_lo a
  have a4 := slo_hi a
  have b1 := shi_lo hb
  have b2 := shi_hi hb
  have b3 := slo_lo b
  have b4 := slo_hi b
  have hd : decide (a < b) = (decide (shi a < shi b) || (shi a == shi b && decide (slo a < slo b))) := by
    rw [Bool.eq_iff_iff]
    simp
    unfold shi slo
    omega
  clear ha hb
  unfold sv
  rw [hd]
  clear hd
  go_enter Tryd.func18, Tryd.ntmps18
  go_wp2
  all_goals (go_ret; refine ⟨?_, ((Below.refl _ _).alloc (Nat.le_refl _) _).alloc (by simp) _⟩; first | rfl | (congr 2; simp [*]))

theorem refSign_any (a : Int) (ha : InS a) (w : World) :
    Calls Tryd.prog 20 #[sv a] w fun e w' => e = .returned (.int .i64 (ssgn a)) ∧ Below w.heap.size w w' := by
  have a1 := shi_lo ha
  have a2 := shi_hi ha
  have a3 := slo_lo a
  have a4 := slo_hi a
  have hd : ssgn a = if shi a < 0 then -1 else if shi a = 0 ∧ slo a = 0 then 0 else 1 := by
    unfold ssgn shi slo
    unfold InS at ha
    repeat' split
    all_goals omega
  clear ha
  rw [hd]
  clear hd
  by_cases h1 : shi a < 0
  · rw [if_pos h1]
    go_enter Tryd.func20, Tryd.ntmps20
    go_wp2
    go_ret
    exact ⟨rfl, (Below.refl _ _).alloc (Nat.le_refl _) _⟩
  · rw [if_neg h1]
    have h1' : decide (shi a < 0) = false := by simpa using h1
    by_cases h2 : shi a = 0
    · by_cases h3 : slo a = 0
      · rw [if_pos ⟨h2, h3⟩]
        rw [show sv a = .agg #[.int .i64 0, .int .u64 0] by unfold sv; rw [h2, h3]]
        clear h1 h1' h2 h3 a1 a2 a3 a4
        go_enter Tryd.func20, Tryd.ntmps20
        go_wp2
        go_ret
        exact ⟨rfl, (Below.refl _ _).alloc (Nat.le_refl _) _⟩
      · rw [if_neg (fun h => h3 h.2)]
        have h3' : (slo a == 0) = false := by simpa using h3
        rw [show sv a = .agg #[.int .i64 0, .int .u64 (slo a)] by unfold sv; rw [h2]]
        clear h1 h1' h2 a1 a2
        go_enter Tryd.func20, Tryd.ntmps20
        go_wp2
        go_ret
        exact ⟨rfl, (Below.refl _ _).alloc (Nat.le_refl _) _⟩
    · rw [if_neg (fun h => h2 h.1)]
      have h2' : (shi a == 0) = false := by simpa using h2
      go_enter Tryd.func20, Tryd.ntmps20
      go_wp2
      go_ret
      exact ⟨rfl, (Below.refl _ _).alloc (Nat.le_refl _) _⟩
end Go.Proofs.YthddnhnhlgnlhaaDoor
