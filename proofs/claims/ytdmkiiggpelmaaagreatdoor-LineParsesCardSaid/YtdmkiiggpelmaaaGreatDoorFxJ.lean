/- What reads, whole. -/
import Derived.Test.YtdmkiiggpelmaaaGreatDoorFxI
namespace Go.Proofs.YtdmkiiggpelmaaaGreatDoor
open Go Go.RowKit

theorem fit_err (b : Bool) (n : Nat) : (fitF b n).2 ≠ 0 → (fitF b n).1 = 0 := by
  unfold fitF
  by_cases h : n ≤ most b
  · rw [if_pos h]; intro h2; exact absurd rfl h2
  · rw [if_neg h]; intro _; rfl
theorem shV_err (b : Bool) (v : Nat) (k : Int) : (shV b v k).2 ≠ 0 → (shV b v k).1 = 0 := by
  unfold shV
  by_cases h0 : v = 0
  · rw [if_pos h0]; intro _; rfl
  · rw [if_neg h0]
    by_cases hk : 0 ≤ k
    · rw [if_pos hk]; exact fit_err _ _
    · rw [if_neg hk]
      by_cases hm : v % 10 ^ (-k).toNat = 0
      · rw [if_pos hm]; exact fit_err _ _
      · rw [if_neg hm]; intro _; rfl
theorem read_err (l : List UInt8) : (readF l).2 ≠ 0 → (readF l).1 = 0 := by
  unfold readF
  by_cases h : 64 < l.length
  · rw [if_pos h]; intro _; rfl
  · rw [if_neg h]
    cases hd : decF (tkR [43, 45] l) with
    | none => intro _; rfl
    | some r =>
      obtain ⟨w, p, m⟩ := r
      simp only
      cases he : expF m with
      | none => intro _; rfl
      | some r =>
        obtain ⟨x, m'⟩ := r
        simp only
        by_cases hm : m' = []
        · rw [if_pos hm]; exact shV_err _ _ _
        · rw [if_neg hm]; intro _; rfl
theorem whole_err (l : List UInt8) : (wholeF l).2 ≠ 0 → (wholeF l).1 = 0 := by
  unfold wholeF
  split
  · intro _; rfl
  · split
    · exact fit_err _ _
    · intro _; rfl

set_option maxHeartbeats 4000000 in
theorem readL_any (l : List UInt8) (hl : l.length ≤ maxLen) (w : World) :
    Calls Tryz.prog 34 #[.string (tx l)] w fun e w' => e = .returned (.tuple #[.int .i64 (readF l).1, .int .i64 (readF l).2]) ∧ Below w.heap.size w w' := by
  have hmf : ∀ (fn : Fn) (first cap : Array Value) (w : World), (Instr.makeFunc fn first cap).run Tryz.prog w = .ok (.func fn first cap) w := fun _ _ _ _ => rfl
  have hE : Below w.heap.size w (w.alloc (.cells #[.string (tx l)] 9)) := (Below.refl _ _).alloc (Nat.le_refl _) _
  have hA : RdAt w.heap.size (tx l) (w.alloc (.cells #[.string (tx l)] 9)) := CellsAt.new _ _ _
  have h1 := caughtRead w.heap.size (readF l) (read_err l) _ (fun W hW => readIn_any w.heap.size l hl W (hA.below hW))
  generalize (readF l).1 = a at h1 ⊢
  generalize (readF l).2 = b at h1 ⊢
  clear hl hA
  generalize tx l = s at h1 hE
  go_enter Tryz.func34, Tryz.ntmps34
  go_wp2_with fail
  refine h1.mono ?_
  rintro e w1 ⟨rfl, hB1⟩
  go_wp2
  go_ret2
  exact ⟨rfl, hE.trans (hB1.mono hE.size)⟩
theorem read_any (s : ByteArray) (hs : s.size ≤ maxLen) (w : World) :
    Calls Tryz.prog 34 #[.string s] w fun e w' => e = .returned (.tuple #[.int .i64 (readF s.data.toList).1, .int .i64 (readF s.data.toList).2]) ∧ Below w.heap.size w w' := by
  have := readL_any s.data.toList (by rw [size_list]; exact hs) w
  rwa [tx_list] at this
set_option maxHeartbeats 4000000 in
theorem wholeL_any (l : List UInt8) (hl : l.length ≤ maxLen) (w : World) :
    Calls Tryz.prog 35 #[.string (tx l)] w fun e w' => e = .returned (.tuple #[.int .i64 (wholeF l).1, .int .i64 (wholeF l).2]) ∧ Below w.heap.size w w' := by
  have hmf : ∀ (fn : Fn) (first cap : Array Value) (w : World), (Instr.makeFunc fn first cap).run Tryz.prog w = .ok (.func fn first cap) w := fun _ _ _ _ => rfl
  have hE : Below w.heap.size w (w.alloc (.cells #[.string (tx l)] 9)) := (Below.refl _ _).alloc (Nat.le_refl _) _
  have hA : RdAt w.heap.size (tx l) (w.alloc (.cells #[.string (tx l)] 9)) := CellsAt.new _ _ _
  have h1 := caughtWhole w.heap.size (wholeF l) (whole_err l) _ (fun W hW => wholeIn_any w.heap.size l hl W (hA.below hW))
  generalize (wholeF l).1 = a at h1 ⊢
  generalize (wholeF l).2 = b at h1 ⊢
  clear hl hA
  generalize tx l = s at h1 hE
  go_enter Tryz.func35, Tryz.ntmps35
  go_wp2_with fail
  refine h1.mono ?_
  rintro e w1 ⟨rfl, hB1⟩
  go_wp2
  go_ret2
  exact ⟨rfl, hE.trans (hB1.mono hE.size)⟩
theorem whole_any (s : ByteArray) (hs : s.size ≤ maxLen) (w : World) :
    Calls Tryz.prog 35 #[.string s] w fun e w' => e = .returned (.tuple #[.int .i64 (wholeF s.data.toList).1, .int .i64 (wholeF s.data.toList).2]) ∧ Below w.heap.size w w' := by
  have := wholeL_any s.data.toList (by rw [size_list]; exact hs) w
  rwa [tx_list] at this
end Go.Proofs.YtdmkiiggpelmaaaGreatDoor
