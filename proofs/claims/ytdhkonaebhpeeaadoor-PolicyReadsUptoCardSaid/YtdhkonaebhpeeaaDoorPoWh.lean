/- A whole number is read. -/
import Derived.Test.YtdhkonaebhpeeaaDoorRsB
import Derived.Tactics2
import Derived.Defers
import Derived.Recover
import Derived.Laws.Pointers
namespace Go.Proofs.YtdhkonaebhpeeaaDoor
open Go Go.RowKit

theorem empty_eq {l : List UInt8} (h : l = []) : (tx l).toList = [] := is_empty (s := tx l) h
theorem tx_ne {l : List UInt8} (h : l ≠ []) : (!(tx l).toList.isEmpty) = true := ne_empty (s := tx l) h
theorem tx_ne2 {l : List UInt8} (h : l ≠ []) : (tx l).toList.isEmpty = false := by simpa using tx_ne h
theorem tx_app (a b : List UInt8) : tx a ++ tx b = tx (a ++ b) := by
  have h : (tx a ++ tx b).data.toList = (tx (a ++ b)).data.toList := by simp [tx]
  rw [← tx_list (tx a ++ tx b), ← tx_list (tx (a ++ b)), h]
theorem dig_le (l : List UInt8) : (dig l).length ≤ l.length := by have := dig_len l; omega
theorem tx_max {l : List UInt8} {n : Nat} (h : l.length ≤ n) (hn : n ≤ 9223372036854775807) : (tx l).size ≤ maxLen := by
  unfold maxLen
  rw [← size_list, list_tx]
  omega
theorem tx_len (l : List UInt8) : (tx l).size = l.length := by rw [← size_list, list_tx]

theorem end_cases (r : Int × Int) : EndOf r = .returned (.int .i64 r.1) ∨ EndOf r = PE r.2 := by
  unfold EndOf
  by_cases h : r.2 = 0
  · rw [if_pos h]; exact .inl rfl
  · rw [if_neg h]; exact .inr rfl
theorem whole_dig {l : List UInt8} (h : (dig (tkR [45] l)).length < 1 ∨ 19 < (dig (tkR [45] l)).length) : EndOf (wholeF l) = PE 2 := by unfold wholeF; rw [if_pos h]; rfl
theorem whole_more {l : List UInt8} (h : ¬ ((dig (tkR [45] l)).length < 1 ∨ 19 < (dig (tkR [45] l)).length)) (hr : rst (tkR [45] l) ≠ []) : EndOf (wholeF l) = PE 2 := by unfold wholeF; rw [if_neg h, if_neg hr]; rfl
theorem whole_yes {l : List UInt8} (h : ¬ ((dig (tkR [45] l)).length < 1 ∨ 19 < (dig (tkR [45] l)).length)) (hr : rst (tkR [45] l) = []) : wholeF l = fitF (sgB [45] l) (val (dig (tkR [45] l))) := by unfold wholeF; rw [if_neg h, if_pos hr]

set_option maxHeartbeats 8000000 in
theorem wholeIn_any (A : Nat) (l : List UInt8) (hl : l.length ≤ maxLen) (w : World) (hA : RdAt A (tx l) w) :
    Calls Tryd.prog 69 #[.pointer (some ⟨A, 0, none⟩)] w fun e w' => e = EndOf (wholeF l) ∧ Below w.heap.size w w' := by
  have a0 := hA.cell 0 _ rfl
  have hsz : (tx l).size = l.length := tx_len l
  have hmx : (tx l).size ≤ maxLen := by rw [hsz]; exact hl
  have hbox : RdAt w.heap.size (tx l) (w.alloc (.cells #[.string (tx l)] 117)) := CellsAt.new _ _ _
  have hbel : Below w.heap.size w (w.alloc (.cells #[.string (tx l)] 117)) := (Below.refl _ _).alloc (Nat.le_refl _) _
  have h1 := sign_any w.heap.size (tx l) (tx [45]) hmx _ hbox
  simp only at h1
  have hk := tkR_len [45] l
  have hmk : (tx (tkR [45] l)).size ≤ maxLen := by rw [tx_len]; omega
  obtain ⟨b, hb⟩ : ∃ b, sgB [45] l = b := ⟨_, rfl⟩
  rw [hb] at h1
  unfold maxLen at hl
  change w.cell? ⟨A, 0, none⟩ = some (.string (tx l)) at a0
  have hA' := hA.lt
  clear hA hsz hbox
  by_cases hd : (dig (tkR [45] l)).length < 1 ∨ 19 < (dig (tkR [45] l)).length
  · rw [whole_dig hd]
    have h2 := fun w' h => digits_bad w.heap.size (tx (tkR [45] l)) hmk 1 19 (by decide) (by decide) (by rw [list_tx]; omega) w' h
    clear hk hb hd hmk hmx
    generalize hs : tx l = s at a0 h1 hbel
    clear hs
    go_enter Tryd.func69, Tryd.ntmps69
    go_wp2_with fail
    refine h1.mono ?_
    rintro e w1 ⟨rfl, hR1, hB1⟩
    go_wp2_with fail
    refine (h2 _ hR1).mono ?_
    rintro e w2 ⟨rfl, rfl⟩
    go_wp2
    exact ⟨rfl, rfl, hbel.trans hB1⟩
  · have h2 := fun w' h => digits_ok w.heap.size (tx (tkR [45] l)) hmk 1 19 (by decide) (by decide) (by rw [list_tx]; omega) (by rw [list_tx]; omega) w' h
    simp only at h2
    by_cases hr : rst (tkR [45] l) = []
    · rw [whole_yes hd hr, hb]
      rw [hr] at h2
      have h3 := fun w' h => end_ok w.heap.size w' h
      have h4 := fun w' => number_any b (tx (dig (tkR [45] l))) (by rw [list_tx]; exact dig_all _) (by rw [tx_len]; omega) w'
      simp only at h4
      clear hk hb hd hmk hmx hr
      generalize tx (dig (tkR [45] l)) = M at h2 h4
      generalize hs : tx l = s at a0 h1 hbel
      clear hs
      rcases end_cases (fitF b (val (dig (tkR [45] l)))) with hE | hE
      all_goals
        rw [hE] at h4 ⊢
        generalize (fitF b (val (dig (tkR [45] l)))).1 = v at h4 ⊢
        generalize (fitF b (val (dig (tkR [45] l)))).2 = u at h4 ⊢
        clear hE
        go_enter Tryd.func69, Tryd.ntmps69
        go_wp2_with fail
        refine h1.mono ?_
        rintro e w1 ⟨rfl, hR1, hB1⟩
        go_wp2_with fail
        refine (h2 _ hR1).mono ?_
        rintro e w2 ⟨rfl, hR2, hB2⟩
        go_wp2_with fail
        refine (h3 _ hR2).mono ?_
        rintro e w3 ⟨rfl, rfl⟩
        go_wp2_with fail
        refine (h4 _).mono ?_
        rintro e w5 ⟨rfl, rfl⟩
        go_wp2
        try go_ret
        first | exact ⟨rfl, hbel.trans (hB1.trans hB2)⟩ | exact ⟨rfl, rfl, hbel.trans (hB1.trans hB2)⟩
    · rw [whole_more hd hr]
      have h3 := fun w' h => end_bad w.heap.size (tx (rst (tkR [45] l))) (by rw [list_tx]; exact hr) w' h
      clear hk hb hd hmk hmx hr
      generalize tx (dig (tkR [45] l)) = M at h2
      generalize hs : tx l = s at a0 h1 hbel
      clear hs
      go_enter Tryd.func69, Tryd.ntmps69
      go_wp2_with fail
      refine h1.mono ?_
      rintro e w1 ⟨rfl, hR1, hB1⟩
      go_wp2_with fail
      refine (h2 _ hR1).mono ?_
      rintro e w2 ⟨rfl, hR2, hB2⟩
      go_wp2_with fail
      refine (h3 _ hR2).mono ?_
      rintro e w3 ⟨rfl, rfl⟩
      go_wp2
      exact ⟨rfl, rfl, hbel.trans (hB1.trans hB2)⟩
theorem assert_yes (k : Int) (w : World) : (Sem.run Tryd.prog (Instr.typeAssert (Value.iface 44 (Value.int IntKind.i64 k)) 20 44 true) w) = .ok (.tuple #[.int .i64 k, .bool true]) w := by
  kernel_rfl
theorem assert_no (w : World) : (Sem.run Tryd.prog (Instr.typeAssert Value.nilIface 20 44 true) w) = .ok (.tuple #[.int .i64 0, .bool false]) w := by
  kernel_rfl
set_option maxRecDepth 100000 in
theorem catch_thrown (p : Addr) (x k : Int) (older : List PanicEntry) (w : World) (hc : w.cell? p = some (.int .i64 x)) (hz : w.frozen? p = false) :
    CallsD Tryd.prog 81 #[.pointer (some p)] (.panicking ({ v := .iface 44 (.int .i64 k), recovered := false } :: older)) w fun e u' w' =>
      e = .returned (.tuple #[]) ∧ u' = .panicking ({ v := .iface 44 (.int .i64 k), recovered := true } :: older) ∧ w' = w.setCell p (.int .i64 k) := by

  refine callsD_of_wpS Tryd.func81 rfl fun c₀ cs hu => ?_
  apply wpS_seq
  apply wpS_region
  simp [wpOpsS, go_sem, recoverD, hu, Tryd.ntmps81, Exit.thenS, assert_yes]
  apply wpS_seq
  apply wpS_region
  simp [wpOpsS, go_sem, Exit.thenS]
  refine wpS_cond (t := true) (by simp [Act.eval, Array.replicate]) ?_
  simp only [if_true]
  apply wpS_region
  simp [wpOpsS, go_sem, hc, hz, bodyPostS, results, Tryd.results81]

set_option maxRecDepth 100000 in
theorem catch_none (p : Addr) (w : World) :
    CallsD Tryd.prog 81 #[.pointer (some p)] .returning w fun e u' w' => e = .returned (.tuple #[]) ∧ u' = .returning ∧ w' = w := by
  refine callsD_of_wpS Tryd.func81 rfl fun c₀ cs hu => ?_
  apply wpS_seq
  apply wpS_region
  simp [wpOpsS, go_sem, recoverD, hu, Tryd.ntmps81, Exit.thenS, assert_no]
  apply wpS_seq
  apply wpS_region
  simp [wpOpsS, go_sem, Exit.thenS]
  refine wpS_cond (t := false) (by simp [Act.eval, Array.replicate]) ?_
  simp only [Bool.false_eq_true, if_false]
  refine wpS_of_wp (wp_skip ?_)
  cases c₀
  simp_all [bodyPostS, results, Tryd.results81]

theorem frozen_new (W : World) (xs : Array Value) (T : TypeId) (i : Nat) : (W.alloc (.cells xs T)).frozen? ⟨W.heap.size, i, none⟩ = false := World.frozen?_alloc_new _ _ _ _
set_option maxHeartbeats 4000000 in
theorem caughtWhole (A : Nat) (r : Int × Int) (hr : r.2 ≠ 0 → r.1 = 0) (w : World)
    (hw : ∀ W, Below w.heap.size w W → Calls Tryd.prog 69 #[.pointer (some ⟨A, 0, none⟩)] W fun e w' => e = EndOf r ∧ Below W.heap.size W w') :
    Calls Tryd.prog 68 #[.func (.func 69) #[] #[.pointer (some ⟨A, 0, none⟩)]] w fun e w' => e = .returned (.tuple #[.int .i64 r.1, .int .i64 r.2]) ∧ Below w.heap.size w w' := by
  have hmf : ∀ (fn : Fn) (first cap : Array Value) (w : World), (Instr.makeFunc fn first cap).run Tryd.prog w = .ok (.func fn first cap) w := fun _ _ _ _ => rfl
  have h1 := hw _ (((Below.refl _ _).alloc (Nat.le_refl _) (.cells #[.int .i64 0] 44)))
  have hC := CellsAt.new #[.int .i64 0] 44 w
  have hE0 : Below w.heap.size w (w.alloc (.cells #[.int .i64 0] 44)) := (Below.refl _ _).alloc (Nat.le_refl _) _
  obtain ⟨a, b⟩ := r
  by_cases hb : b = 0
  · have hE : EndOf (a, b) = .returned (.int .i64 a) := by unfold EndOf; rw [if_pos hb]
    rw [hE] at h1
    subst hb
    clear hE hr hw
    go_enter_defers Tryd.func68, Tryd.ntmps68
    go_wp2_with fail
    refine h1.mono ?_
    rintro e w1 ⟨rfl, hB1⟩
    have hC1 := hC.below hB1
    have hE1 := hE0.trans (hB1.mono hE0.size)
    have c0 := hC1.cell 0 _ rfl
    have f0 := hC1.fro 0 _ rfl
    go_wp2
    have hD := hC1.set 0 (.int .i64 0) (by simp)
    have d0 := hD.cell 0 (.int .i64 0) rfl
    refine leaves_cons (f := 81) (args := #[.pointer (some ⟨w.heap.size, 0, none⟩)]) (by simp) (by simp [go_sem]) ?_
    refine (catch_none ⟨w.heap.size, 0, none⟩ _).mono ?_
    rintro e u' w'' ⟨rfl, rfl, rfl⟩
    simp [Leaves, settle, results, Tryd.results68, go_sem, d0]
    exact hE1.setCell (p := ⟨w.heap.size, 0, none⟩) (Nat.le_refl _) _
  · have hE : EndOf (a, b) = PE b := by unfold EndOf; rw [if_neg hb]
    rw [hE] at h1
    obtain rfl : a = 0 := hr hb
    clear hE hr hw
    go_enter_defers Tryd.func68, Tryd.ntmps68
    go_wp2_with fail
    refine h1.mono ?_
    rintro e w1 ⟨rfl, hB1⟩
    have hC1 := hC.below hB1
    have hE1 := hE0.trans (hB1.mono hE0.size)
    have c0 := hC1.cell 0 _ rfl
    have f0 := hC1.fro 0 _ rfl
    go_wp2
    have hD := hC1.set 0 (.int .i64 b) (by simp)
    have d0 := hD.cell 0 (.int .i64 b) rfl
    refine leaves_cons (f := 81) (args := #[.pointer (some ⟨w.heap.size, 0, none⟩)]) (by simp) (by simp [go_sem]) ?_
    refine (catch_thrown ⟨w.heap.size, 0, none⟩ 0 b [] _ c0 f0).mono ?_
    rintro e u' w'' ⟨rfl, rfl, rfl⟩
    simp [Leaves, settle, results, Tryd.results68, go_sem, d0]
    exact hE1.setCell (p := ⟨w.heap.size, 0, none⟩) (Nat.le_refl _) _

theorem fit_err (b : Bool) (n : Nat) : (fitF b n).2 ≠ 0 → (fitF b n).1 = 0 := by
  unfold fitF
  by_cases h : n ≤ most b
  · rw [if_pos h]; intro h2; exact absurd rfl h2
  · rw [if_neg h]; intro _; rfl
theorem whole_err (l : List UInt8) : (wholeF l).2 ≠ 0 → (wholeF l).1 = 0 := by
  unfold wholeF
  split
  · intro _; rfl
  · split
    · exact fit_err _ _
    · intro _; rfl

set_option maxHeartbeats 4000000 in
theorem wholeL_any (l : List UInt8) (hl : l.length ≤ maxLen) (w : World) :
    Calls Tryd.prog 58 #[.string (tx l)] w fun e w' => e = .returned (.tuple #[.int .i64 (wholeF l).1, .int .i64 (wholeF l).2]) ∧ Below w.heap.size w w' := by
  have hmf : ∀ (fn : Fn) (first cap : Array Value) (w : World), (Instr.makeFunc fn first cap).run Tryd.prog w = .ok (.func fn first cap) w := fun _ _ _ _ => rfl
  have hE : Below w.heap.size w (w.alloc (.cells #[.string (tx l)] 9)) := (Below.refl _ _).alloc (Nat.le_refl _) _
  have hA : RdAt w.heap.size (tx l) (w.alloc (.cells #[.string (tx l)] 9)) := CellsAt.new _ _ _
  have h1 := caughtWhole w.heap.size (wholeF l) (whole_err l) _ (fun W hW => wholeIn_any w.heap.size l hl W (hA.below hW))
  generalize (wholeF l).1 = a at h1 ⊢
  generalize (wholeF l).2 = b at h1 ⊢
  clear hl hA
  generalize tx l = s at h1 hE
  go_enter Tryd.func58, Tryd.ntmps58
  go_wp2_with fail
  refine h1.mono ?_
  rintro e w1 ⟨rfl, hB1⟩
  go_wp2
  go_ret2
  exact ⟨rfl, hE.trans (hB1.mono hE.size)⟩
theorem whole_any (s : ByteArray) (hs : s.size ≤ maxLen) (w : World) :
    Calls Tryd.prog 58 #[.string s] w fun e w' => e = .returned (.tuple #[.int .i64 (wholeF s.data.toList).1, .int .i64 (wholeF s.data.toList).2]) ∧ Below w.heap.size w w' := by
  have := wholeL_any s.data.toList (by rw [size_list]; exact hs) w
  rwa [tx_list] at this
end Go.Proofs.YtdhkonaebhpeeaaDoor

