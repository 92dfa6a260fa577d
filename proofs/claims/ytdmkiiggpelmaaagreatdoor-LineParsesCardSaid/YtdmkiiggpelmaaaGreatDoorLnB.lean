/- Readers of lines: a name; what is sure; rows of labels. -/
import Derived.Test.YtdmkiiggpelmaaaGreatDoorLnA
namespace Go.Proofs.YtdmkiiggpelmaaaGreatDoor.Lx
open Go Go.RowKit

section
variable (B : Nat) (l : List UInt8) (y : Int) (st : ByteArray)
set_option maxHeartbeats 2000000 in
theorem name_no (hst : (92 : UInt8) ∉ st.data.toList) (hl : l.length ≤ 1024) (h : nameP st.data.toList l = none) (w : World) (hR : LrAt B l y w) :
    Calls Tryz.prog 30 #[.pointer (some ⟨B, 0, none⟩), .string st] w fun e w' => e = PE 2 ∧ Mov (fun j => j = B) w w' := by
  rcases name_none h with hc | ⟨x, r, z, hc, h64⟩
  · have hw := fun w h => word_no B l y st hst hl hc w h
    have HR := Lib.hid hR
    clear hc h hst hl hR
    go_enter Tryz.func30, Tryz.ntmps30
    go_wp2_with fail
    refine (hw _ HR.out).mono ?_
    rintro e w1 ⟨rfl, hB⟩
    go_wp2
    exact ⟨rfl, rfl, Mov.ofB hB⟩
  · have hw := fun w h => word_yes B l y st hst hl hc w h
    have HR := Lib.hid hR
    rcases h64 with rfl | ⟨h0, h64⟩
    · clear hc h hst hl hR
      change ∀ w, LrAt B l y w → Calls _ _ _ w fun e w' => e = .returned (.string ⟨#[]⟩) ∧ LrAt B r z w' ∧ Mov (fun j => j = B) w w' at hw
      go_enter Tryz.func30, Tryz.ntmps30
      go_wp2_with fail
      refine (hw _ HR.out).mono ?_
      rintro e w1 ⟨rfl, hR1, hM⟩
      have HR1 := Lib.hid hR1
      clear hR1 hw
      go_wp2
      exact ⟨rfl, rfl, hM⟩
    have he1 := txt_no h0
    have hs : 64 < (tx x).size := by rw [tx_len]; exact h64
    have hs2 : (tx x).size ≤ 1024 := by have := word_len hc; rw [tx_len]; omega
    clear hc h hst hl hR h64 h0
    generalize tx x = s at hw hs hs2 he1
    go_enter Tryz.func30, Tryz.ntmps30
    go_wp2_with fail
    refine (hw _ HR.out).mono ?_
    rintro e w1 ⟨rfl, hR1, hM⟩
    have HR1 := Lib.hid hR1
    clear hR1 hw
    go_wp2
    exact ⟨rfl, rfl, hM⟩
set_option maxHeartbeats 2000000 in
theorem name_yes (hst : (92 : UInt8) ∉ st.data.toList) (hl : l.length ≤ 1024) {x t : List UInt8} {k : Int} (h : nameP st.data.toList l = some (x, t, k)) (w : World) (hR : LrAt B l y w) :
    Calls Tryz.prog 30 #[.pointer (some ⟨B, 0, none⟩), .string st] w fun e w' => e = .returned (.string (tx x)) ∧ LrAt B t k w' ∧ Mov (fun j => j = B) w w' := by
  obtain ⟨hc, h0, h64⟩ := name_spec h
  have hw := fun w h => word_yes B l y st hst hl hc w h
  have HR := Lib.hid hR
  have he1 := txt_no h0
  have hs : (tx x).size ≤ 64 := by rw [tx_len]; exact h64
  clear hc h hst hl hR h64 h0
  generalize tx x = s at hw hs he1 ⊢
  go_enter Tryz.func30, Tryz.ntmps30
  go_wp2_with fail
  refine (hw _ HR.out).mono ?_
  rintro e w1 ⟨rfl, hR1, hM⟩
  have HR1 := Lib.hid hR1
  clear hR1 hw
  go_wp2
  go_ret
  exact ⟨rfl, HR1.out, hM⟩
end
theorem sure_yes (n : Int) (w : World) : Calls Tryz.prog 33 #[.int .i64 n, .int .i64 0] w fun e w' => e = .returned (.int .i64 n) ∧ w' = w := by
  go_enter Tryz.func33, Tryz.ntmps33
  go_wp2
  go_ret
  exact ⟨rfl, rfl⟩
theorem sure_no (n k : Int) (hk : k ≠ 0) (w : World) : Calls Tryz.prog 33 #[.int .i64 n, .int .i64 k] w fun e w' => e = PE k ∧ w' = w := by
  have h1 : (k != 0) = true := by rw [bne_iff_ne]; exact hk
  go_enter Tryz.func33, Tryz.ntmps33
  go_wp2
  exact ⟨rfl, rfl, rfl⟩

/-- The cells of labels. -/
def flatL (ls : List Lab) : List Value := ls.flatMap fun x => [.string (tx x.1), .string (tx x.2)]
theorem flatL_len (ls : List Lab) : (flatL ls).length = ls.length * 2 := by
  induction ls with
  | nil => rfl
  | cons x r ih => simp only [flatL, List.flatMap_cons, List.length_append, List.length_cons, List.length_nil] at ih ⊢; rw [ih]; omega
theorem flatL_append (a b : List Lab) : flatL (a ++ b) = flatL a ++ flatL b := by simp [flatL]
theorem flatL_at : ∀ (ls : List Lab) (k : Nat) (hk : k < ls.length), (flatL ls)[k * 2]? = some (.string (tx ls[k].1)) ∧ (flatL ls)[k * 2 + 1]? = some (.string (tx ls[k].2))
  | [], k, hk => by simp at hk
  | x :: r, 0, hk => ⟨rfl, rfl⟩
  | x :: r, k + 1, hk => by
    have ih := flatL_at r k (by simpa using hk)
    have e1 : (k + 1) * 2 = k * 2 + 2 := by omega
    rw [e1]
    exact ih
theorem flatL_one (ls : List Lab) : ∀ u ∈ flatL ls, u.oneCell' = true := by
  intro u hu
  unfold flatL at hu
  obtain ⟨x, _, hx⟩ := List.mem_flatMap.1 hu
  simp only [List.mem_cons, List.not_mem_nil, or_false] at hx
  rcases hx with rfl | rfl <;> rfl
theorem info_lab : (Tryz.prog.info? 46).map (fun i => (i.zero, i.size, i.bytes)) = some (some (.agg #[.string ⟨#[]⟩, .string ⟨#[]⟩]), 2, 32) := by kernel_rfl
theorem info_parts2 {P : Program} {t : TypeId} {z : Value} {size bytes : Nat} (h : (P.info? t).map (fun i => (i.zero, i.size, i.bytes)) = some (some z, size, bytes)) : ∃ i, P.info? t = some i ∧ i.zero = some z ∧ i.size = size ∧ i.bytes = bytes := by
  obtain ⟨i, hi, hz⟩ := Option.map_eq_some_iff.1 h
  simp only [Prod.mk.injEq] at hz
  exact ⟨i, hi, hz⟩
/-- A slice of labels that lies in a block from B on. -/
def OwnL (B : Nat) (v : Value) (ls : List Lab) (w : World) : Prop := w.ownsRow B 46 2 v ls.length (flatL ls)
section
variable {B N : Nat} {u v v' v'' : Value} {ls ms : List Lab} {w w' w'' : World}
theorem OwnL.nil (B : Nat) (w : World) : OwnL B (.slice none 0 0) [] w := World.ownsRow_nil _ _ _ _
theorem OwnL.lt (h : OwnL B v ls w) {g : Nat} (hg : v.ownBlock = some g) : B ≤ g ∧ g < w.heap.size := World.ownsRow.lt h g hg
theorem OwnL.mov {S : Nat → Prop} (h : OwnL B v ls w) (hM : Mov S w w') (hn : ∀ g, v.ownBlock = some g → ¬ S g) : OwnL B v ls w' := hM.row h hn
theorem OwnL.below (h : OwnL B v ls w) (hB : Below w.heap.size w w') : OwnL B v ls w' := h.mov (Mov.of hB) fun g hg => by have := (h.lt hg).2; omega
theorem OwnL.form (h : OwnL B v ls w) : (v = .slice none 0 0 ∧ ls = []) ∨ ∃ g cap, v = .slice (some ⟨g, 0, none⟩) ls.length cap ∧ B ≤ g ∧ g < w.heap.size ∧ ls.length ≤ cap ∧
    ∀ k (hk : k < ls.length), w.cell? ⟨g, k * 2, none⟩ = some (.string (tx ls[k].1)) ∧ w.cell? ⟨g, k * 2 + 1, none⟩ = some (.string (tx ls[k].2)) := by
  rcases h.2 with ⟨rfl, h0⟩ | ⟨g, cap, cur, rfl, hb, hg, hn, _⟩
  · exact .inl ⟨rfl, List.eq_nil_of_length_eq_zero h0⟩
  · refine .inr ⟨g, cap, rfl, hb, (Array.getElem?_eq_some_iff.1 hg).1, hn, fun k hk => ?_⟩
    obtain ⟨h1, h2⟩ := flatL_at ls k hk
    rw [World.ownsRow.cellAt h (k * 2) (by omega), World.ownsRow.cellAt h (k * 2 + 1) (by omega)]
    exact ⟨h1, h2⟩
theorem OwnL.sub (h : OwnL B v ls w) (hN : N ≤ B) : OwnL N v ls w := by
  refine ⟨h.1, ?_⟩
  rcases h.2 with h0 | ⟨g, cap, cur, hv, hb, rest⟩
  · exact .inl h0
  · exact .inr ⟨g, cap, cur, hv, by omega, rest⟩
/-- What a row of labels with others behind it is. -/
def GrewL (B : Nat) (v : Value) (ls : List Lab) (w : World) (v' : Value) (w' : World) : Prop :=
  OwnL B v' ls w' ∧ Mov (fun j => v.ownBlock = some j) w w' ∧ ∀ g, v'.ownBlock = some g → v.ownBlock = some g ∨ w.heap.size ≤ g
/-- append of one label. -/
theorem append_label (ty : TypeId) (hO : OwnL B v ls w) (x : Lab) (hlen : ls.length + 1 ≤ 1000000) (hB : B ≤ w.heap.size) :
    ∃ v' w', (Builtin.append_ #[22, 22] ty #[v, .slice (some ⟨w.heap.size, 0, none⟩) 1 1]).run Tryz.prog (w.alloc (.cells #[.string (tx x.1), .string (tx x.2)] 46)) = .ok v' w' ∧ GrewL B v (ls ++ [x]) w v' w' := by
  obtain ⟨i, hi, hz0, hz1, hz2⟩ := info_parts2 info_lab
  obtain ⟨v', w', h1, h2, h3, h4⟩ := run_append_at (P := Tryz.prog) (w.alloc (.cells #[.string (tx x.1), .string (tx x.2)] 46)) B 22 ty 46 i (.agg #[.string ⟨#[]⟩, .string ⟨#[]⟩]) 2 32 Tryz.underlying22 hi hz0 hz1 hz2 rfl (by decide) v ls.length (flatL ls) (World.ownsRow.alloc hO _) ⟨w.heap.size, 0, none⟩ 1 1 (flatL [x]) rfl (new_row (flatL [x]) 46 w)
    (flatL_one _) (by unfold maxLen; omega) (by omega) (by simp; omega)
  refine ⟨v', w', h1, ?_, ((Mov.refl _ _).alloc _).trans (Mov.grown h3) (fun _ _ h => h), fun g hg => (h4 g hg).imp id fun e => by simp at e; omega⟩
  unfold OwnL
  rw [List.length_append, flatL_append]
  exact h2
end
end Go.Proofs.YtdmkiiggpelmaaaGreatDoor.Lx
