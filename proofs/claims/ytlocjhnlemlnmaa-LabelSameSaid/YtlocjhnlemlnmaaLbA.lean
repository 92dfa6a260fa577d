/- Rows of labels; two texts held against one another; names. -/
import Derived.Test.YtlocjhnlemlnmaaLxE
import Derived.Test.YtlocjhnlemlnmaaLbKeyM
import Derived.BigQuiet
namespace Go.Proofs.Ytlocjhnlemlnmaa.Lx
open Go Go.RowKit

theorem cells_mov {b : Nat} {vs : Array Value} {w w' : World} {S : Nat → Prop} (h : CellsAt b vs w) (hM : Mov S w w') (hb : ¬ S b) : CellsAt b vs w' :=
  ⟨Nat.lt_of_lt_of_le h.lt hM.size, fun i v hi => (hM.cell h.lt hb).trans (h.cell i v hi), fun i v hi => (hM.frozen h.lt hb).trans (h.fro i v hi)⟩
theorem txt_empty : (tx []).toList = [] := by rw [Lib.toList_data, list_tx]
theorem txt_no {l : List UInt8} (h : l ≠ []) : (tx l).toList.isEmpty = false := by
  rw [Lib.toList_data, list_tx]
  cases l with
  | nil => exact absurd rfl h
  | cons => rfl
theorem txt_ne {l : List UInt8} (h : l ≠ []) : (!(tx l).toList.isEmpty) = true := by rw [txt_no h]; rfl
theorem tx_inj {a b : List UInt8} (h : tx a = tx b) : a = b := by
  have := congrArg (fun s => s.data.toList) h
  rwa [list_tx, list_tx] at this
theorem tx_eq (a b : List UInt8) : ((tx a).toList == (tx b).toList) = decide (a = b) := by
  rw [Lib.toList_data, Lib.toList_data, list_tx, list_tx, Bool.eq_iff_iff]
  simp
theorem tx_append (a b : List UInt8) : tx a ++ tx b = tx (a ++ b) := by
  apply ByteArray.ext
  simp [tx, ByteArray.data_append]

/-- The cells of labels. -/
def flatL (ls : List LabB) : List Value := ls.flatMap fun x => [.string (tx x.1), .string (tx x.2)]
theorem flatL_len (ls : List LabB) : (flatL ls).length = ls.length * 2 := by
  induction ls with
  | nil => rfl
  | cons x r ih => simp only [flatL, List.flatMap_cons, List.length_append, List.length_cons, List.length_nil] at ih ⊢; rw [ih]; omega
theorem flatL_append (a b : List LabB) : flatL (a ++ b) = flatL a ++ flatL b := by simp [flatL]
theorem flatL_at : ∀ (ls : List LabB) (k : Nat) (hk : k < ls.length), (flatL ls)[k * 2]? = some (.string (tx ls[k].1)) ∧ (flatL ls)[k * 2 + 1]? = some (.string (tx ls[k].2))
  | [], k, hk => by simp at hk
  | x :: r, 0, hk => ⟨rfl, rfl⟩
  | x :: r, k + 1, hk => by
    have ih := flatL_at r k (by simpa using hk)
    have e1 : (k + 1) * 2 = k * 2 + 2 := by omega
    rw [e1]
    exact ih
theorem flatL_one (ls : List LabB) : ∀ u ∈ flatL ls, u.oneCell' = true := by
  intro u hu
  unfold flatL at hu
  obtain ⟨x, _, hx⟩ := List.mem_flatMap.1 hu
  simp only [List.mem_cons, List.not_mem_nil, or_false] at hx
  rcases hx with rfl | rfl <;> rfl
theorem info_lab : (Try.prog.info? 47).map (fun i => (i.zero, i.size, i.bytes)) = some (some (.agg #[.string ⟨#[]⟩, .string ⟨#[]⟩]), 2, 32) := by kernel_rfl
theorem info_parts2 {P : Program} {t : TypeId} {z : Value} {size bytes : Nat} (h : (P.info? t).map (fun i => (i.zero, i.size, i.bytes)) = some (some z, size, bytes)) : ∃ i, P.info? t = some i ∧ i.zero = some z ∧ i.size = size ∧ i.bytes = bytes := by
  obtain ⟨i, hi, hz⟩ := Option.map_eq_some_iff.1 h
  simp only [Prod.mk.injEq] at hz
  exact ⟨i, hi, hz⟩
/-- As many labels as a slice may have. -/
abbrev maxLab : Nat := 4398046511104
/-- A slice of labels that lies in a block from B on. -/
def OwnL (B : Nat) (v : Value) (ls : List LabB) (w : World) : Prop := w.ownsRow B 47 2 v ls.length (flatL ls)
section
variable {B N : Nat} {u v v' v'' : Value} {ls ms : List LabB} {w w' w'' : World}
theorem OwnL.nil (B : Nat) (w : World) : OwnL B (.slice none 0 0) [] w := World.ownsRow_nil _ _ _ _
theorem OwnL.lt (h : OwnL B v ls w) {g : Nat} (hg : v.ownBlock = some g) : B ≤ g ∧ g < w.heap.size := World.ownsRow.lt h g hg
theorem OwnL.mov {S : Nat → Prop} (h : OwnL B v ls w) (hM : Mov S w w') (hn : ∀ g, v.ownBlock = some g → ¬ S g) : OwnL B v ls w' := hM.row h hn
theorem OwnL.below (h : OwnL B v ls w) (hB : Below w.heap.size w w') : OwnL B v ls w' := h.mov (Mov.of hB) fun g hg => by have := (h.lt hg).2; omega
theorem OwnL.form (h : OwnL B v ls w) : (v = .slice none 0 0 ∧ ls = []) ∨ ∃ g cap, v = .slice (some ⟨g, 0, none⟩) ls.length cap ∧ B ≤ g ∧ g < w.heap.size ∧ ls.length ≤ cap ∧
    ∀ k (hk : k < ls.length), w.cell? ⟨g, k * 2, none⟩ = some (.string (tx ls[k].1)) ∧ w.cell? ⟨g, k * 2 + 1, none⟩ = some (.string (tx ls[k].2)) := by
  rcases h.2 with ⟨rfl, h0⟩ | ⟨g, cap, cur, rfl, hb, hg, hn, _⟩
  · exact .inl ⟨rfl, List.eq_nil_of_length_eq_zero h0⟩
  · refine .inr ⟨g, cap, rfl, hb, (Array.getElem?_eq_some_iff.1 hg).1, hn, fun k hk => ?_⟩
    obtain ⟨h1, h2⟩ := flatL_at ls k hk
    rw [World.ownsRow.cellAt h (k * 2) (by omega), World.ownsRow.cellAt h (k * 2 + 1) (by omega)]
    exact ⟨h1, h2⟩
theorem OwnL.sub (h : OwnL B v ls w) (hN : N ≤ B) : OwnL N v ls w := by
  refine ⟨h.1, ?_⟩
  rcases h.2 with h0 | ⟨g, cap, cur, hv, hb, rest⟩
  · exact .inl h0
  · exact .inr ⟨g, cap, cur, hv, by omega, rest⟩
theorem OwnL.len (h : OwnL B v ls w) : ∃ p cap, v = .slice p ls.length cap := by
  rcases h.form with ⟨rfl, rfl⟩ | ⟨g, cap, rfl, _⟩
  · exact ⟨none, 0, rfl⟩
  · exact ⟨_, _, rfl⟩
/-- What a row of labels with others behind it is. -/
def GrewL (B : Nat) (v : Value) (ls : List LabB) (w : World) (v' : Value) (w' : World) : Prop :=
  OwnL B v' ls w' ∧ Mov (fun j => v.ownBlock = some j) w w' ∧ ∀ g, v'.ownBlock = some g → v.ownBlock = some g ∨ w.heap.size ≤ g
theorem GrewL.refl (h : OwnL B v ls w) : GrewL B v ls w v w := ⟨h, Mov.refl _ _, fun _ hg => .inl hg⟩
theorem GrewL.trans (h : GrewL B v ls w v' w') (k : GrewL B v' ms w' v'' w'') : GrewL B v ms w v'' w'' :=
  ⟨k.1, h.2.1.trans k.2.1 (fun i hi hT => by
    rcases h.2.2 i hT with e | e
    · exact e
    · omega), fun g hg => by
    rcases k.2.2 g hg with e | e
    · exact h.2.2 g e
    · exact .inr (Nat.le_trans h.2.1.size e)⟩
theorem GrewL.past (h : GrewL B v ls w v' w') (hB : Below w'.heap.size w' w'') : GrewL B v ls w v' w'' :=
  h.trans ⟨h.1.below hB, Mov.ofB hB, fun _ hg => .inl hg⟩
theorem GrewL.low (h : GrewL B v ls w v' w') (hv : ∀ g, v.ownBlock = some g → N ≤ g) (hN : N ≤ w.heap.size) : Below N w w' := h.2.1.below hv hN
theorem rowL_of {A : List LabB} {x : List LabB} {n : Nat} (hn : x.length = n) (h : w.ownsRow N 47 2 v (A.length + n) (flatL A ++ flatL x)) : OwnL N v (A ++ x) w := by
  unfold OwnL
  rw [List.length_append, flatL_append, hn]
  exact h
/-- append of one label. -/
theorem append_label (ty : TypeId) (hO : OwnL B v ls w) (x : LabB) (hlen : ls.length + 1 ≤ maxLab) (hB : B ≤ w.heap.size) :
    ∃ v' w', (Builtin.append_ #[23, 23] ty #[v, .slice (some ⟨w.heap.size, 0, none⟩) 1 1]).run Try.prog (w.alloc (.cells #[.string (tx x.1), .string (tx x.2)] 47)) = .ok v' w' ∧ GrewL B v (ls ++ [x]) w v' w' := by
  unfold maxLab at hlen
  obtain ⟨i, hi, hz0, hz1, hz2⟩ := info_parts2 info_lab
  obtain ⟨v', w', h1, h2, h3, h4⟩ := run_append_at (P := Try.prog) (w.alloc (.cells #[.string (tx x.1), .string (tx x.2)] 47)) B 23 ty 47 i (.agg #[.string ⟨#[]⟩, .string ⟨#[]⟩]) 2 32 Try.underlying23 hi hz0 hz1 hz2 rfl (by decide) v ls.length (flatL ls) (World.ownsRow.alloc hO _) ⟨w.heap.size, 0, none⟩ 1 1 (flatL [x]) rfl (new_row (flatL [x]) 47 w)
    (flatL_one _) (by unfold maxLen; omega) (by omega) (by simp; omega)
  exact ⟨v', w', h1, rowL_of rfl h2, ((Mov.refl _ _).alloc _).trans (Mov.grown h3) (fun _ _ h => h), fun g hg => (h4 g hg).imp id fun e => by simp at e; omega⟩
end

/-- Labels that lie somewhere. -/
def LbAt (p : Option Addr) (ls : List LabB) (w : World) : Prop :=
  ∀ k (hk : k < ls.length), ∃ C off, p = some ⟨C, off, none⟩ ∧ C < w.heap.size ∧ w.cell? ⟨C, off + k * 2, none⟩ = some (.string (tx ls[k].1)) ∧ w.cell? ⟨C, off + k * 2 + 1, none⟩ = some (.string (tx ls[k].2)) ∧ ls[k].1.length ≤ maxLen ∧ ls[k].2.length ≤ maxLen
/-- No text is longer than a text may be. -/
def Short (ls : List LabB) : Prop := ∀ x ∈ ls, x.1.length ≤ maxLen ∧ x.2.length ≤ maxLen
section
variable {p : Option Addr} {ls : List LabB} {w w' : World}
theorem LbAt.below (h : LbAt p ls w) (hB : Below w.heap.size w w') : LbAt p ls w' := fun k hk => by
  obtain ⟨C, off, h1, h2, h3, h4, h5, h6⟩ := h k hk
  exact ⟨C, off, h1, Nat.lt_of_lt_of_le h2 hB.size, (hB.cell (p := ⟨C, off + k * 2, none⟩) h2).trans h3, (hB.cell (p := ⟨C, off + k * 2 + 1, none⟩) h2).trans h4, h5, h6⟩
theorem LbAt.mov {S : Nat → Prop} (h : LbAt p ls w) (hM : Mov S w w') (hn : ∀ C off, p = some ⟨C, off, none⟩ → ¬ S C) : LbAt p ls w' := fun k hk => by
  obtain ⟨C, off, h1, h2, h3, h4, h5, h6⟩ := h k hk
  exact ⟨C, off, h1, Nat.lt_of_lt_of_le h2 hM.size, (hM.cell h2 (hn C off h1)).trans h3, (hM.cell h2 (hn C off h1)).trans h4, h5, h6⟩
theorem LbAt.nil (p : Option Addr) (w : World) : LbAt p [] w := fun k hk => by simp at hk
theorem LbAt.short (h : LbAt p ls w) : Short ls := fun x hx => by
  obtain ⟨k, hk, rfl⟩ := List.mem_iff_getElem.1 hx
  obtain ⟨_, _, _, _, _, _, h5, h6⟩ := h k hk
  exact ⟨h5, h6⟩
theorem Short.perm {ms : List LabB} (h : Short ls) (hp : ms.Perm ls) : Short ms := fun x hx => h x (hp.mem_iff.1 hx)
theorem LbAt.take (h : LbAt p ls w) (j : Nat) : LbAt p (ls.take j) w := fun k hk => by
  rw [List.length_take] at hk
  obtain ⟨C, off, h1, h2, h3, h4, h5, h6⟩ := h k (by omega)
  simp only [List.getElem_take]
  exact ⟨C, off, h1, h2, h3, h4, h5, h6⟩
theorem LbAt.drop {C off : Nat} (h : LbAt (some ⟨C, off, none⟩) ls w) (j : Nat) : LbAt (some ⟨C, off + j * 2, none⟩) (ls.drop j) w := fun k hk => by
  rw [List.length_drop] at hk
  obtain ⟨C', off', h1, h2, h3, h4, h5, h6⟩ := h (j + k) (by omega)
  simp only [Option.some.injEq, Addr.mk.injEq, and_true] at h1
  obtain ⟨rfl, rfl⟩ := h1
  simp only [List.getElem_drop]
  refine ⟨C, off + j * 2, rfl, h2, ?_, ?_, h5, h6⟩
  · rw [show off + j * 2 + k * 2 = off + (j + k) * 2 by omega]; exact h3
  · rw [show off + j * 2 + k * 2 + 1 = off + (j + k) * 2 + 1 by omega]; exact h4
theorem LbAt.head {x : LabB} {r : List LabB} (h : LbAt p (x :: r) w) : ∃ C off, p = some ⟨C, off, none⟩ ∧ C < w.heap.size ∧ w.cell? ⟨C, off, none⟩ = some (.string (tx x.1)) ∧ w.cell? ⟨C, off + 1, none⟩ = some (.string (tx x.2)) ∧ x.1.length ≤ maxLen ∧ x.2.length ≤ maxLen ∧ LbAt (some ⟨C, off + 2, none⟩) r w := by
  obtain ⟨C, off, rfl, h2, h3, h4, h5, h6⟩ := h 0 (by simp)
  exact ⟨C, off, rfl, h2, h3, h4, h5, h6, h.drop 1⟩
/-- All cells of them. -/
theorem LbAt.flat {C off : Nat} (h : LbAt (some ⟨C, off, none⟩) ls w) : ∀ j u, (flatL ls)[j]? = some u → w.cell? ((⟨C, off, none⟩ : Addr).add j) = some u := fun j u hj => by
  have hl : j < ls.length * 2 := by
    have := (List.getElem?_eq_some_iff.1 hj).1
    rwa [flatL_len] at this
  obtain ⟨C', off', h1, h2, h3, h4, _⟩ := h (j / 2) (by omega)
  simp only [Option.some.injEq, Addr.mk.injEq, and_true] at h1
  obtain ⟨rfl, rfl⟩ := h1
  obtain ⟨f1, f2⟩ := flatL_at ls (j / 2) (by omega)
  rw [Addr.add_lit]
  rcases Nat.mod_two_eq_zero_or_one j with h0 | h0
  · have e : j / 2 * 2 = j := by omega
    rw [e] at h3 f1
    rw [h3, ← f1, hj]
  · have e : j / 2 * 2 + 1 = j := by omega
    rw [e] at f2
    rw [show off + j / 2 * 2 + 1 = off + j by omega] at h4
    rw [h4, ← f2, hj]
end
theorem OwnL.lies {B : Nat} {p : Option Addr} {n cap : Nat} {ls : List LabB} {w : World} (h : OwnL B (.slice p n cap) ls w) (hb : Short ls) : LbAt p ls w := fun k hk => by
  rcases h.form with ⟨_, rfl⟩ | ⟨g, cap', hv, _, hg, _, hc⟩
  · simp at hk
  · simp only [Value.slice.injEq] at hv
    obtain ⟨rfl, _, _⟩ := hv
    obtain ⟨c1, c2⟩ := hc k hk
    obtain ⟨b1, b2⟩ := hb _ (List.getElem_mem hk)
    exact ⟨g, 0, rfl, hg, by rw [Nat.zero_add]; exact c1, by rw [Nat.zero_add]; exact c2, b1, b2⟩

/-- A world in which nothing has turned that lay there in w. -/
structure Beh (w : World) where
  u : World
  h : Below w.heap.size w u
instance (w : World) : Inhabited (Beh w) := ⟨⟨w, Below.refl _ _⟩⟩
theorem wp_region_beh {P : Program} {id : Nat} {Q : Exit → Act → World → Prop} {a : Act} {w : World} {l : List Oper} (hm : P.follows .mixedOrders = true) (hB : Region.lexB .any l.toArray = true)
    (h : wpQuiet P l.toArray (fun w' => ∃ p : Beh w, w' = p.u) (fun a' => ∀ w', (∃ p : Beh w, w' = p.u) → Q .normal a' w') l a) : (Code.region id l.toArray true).wp P Q a w :=
  wp_region_quiet (C := fun w' => ∃ p : Beh w, w' = p.u) hm hB ⟨⟨{ w with drawn := w.drawn + 1 }, ⟨rfl, rfl, rfl, Nat.le_refl _, fun _ _ => rfl⟩⟩, rfl⟩ (by simpa using h)
theorem calls_beh {P : Program} {f : FuncId} {args : Array Value} {w : World} {v : Value} (p : Beh w) (h : Calls P f args p.u fun e w' => e = .returned v ∧ Below p.u.heap.size p.u w') : Calls P f args p.u fun e w'' => e = .returned v ∧ ∃ q : Beh w, w'' = q.u :=
  h.mono fun _ w' ⟨he, hB⟩ => ⟨he, ⟨w', p.h.trans (hB.mono p.h.size)⟩, rfl⟩
theorem calls_same {P : Program} {f : FuncId} {args : Array Value} {w : World} {v : Value} (p : Beh w) (h : Calls P f args p.u fun e w' => e = .returned v ∧ w' = p.u) : Calls P f args p.u fun e w'' => e = .returned v ∧ ∃ q : Beh w, w'' = q.u :=
  h.mono fun _ w' ⟨he, hB⟩ => ⟨he, ⟨w', by rw [hB]; exact p.h⟩, rfl⟩
theorem Beh.cell {w : World} {b i : Nat} {v : Value} (hb : b < w.heap.size) (h : w.cell? ⟨b, i, none⟩ = some v) (p : Beh w) : p.u.cell? ⟨b, i, none⟩ = some v := (p.h.cell (p := ⟨b, i, none⟩) hb).trans h

/-- How two texts stand to one another. -/
theorem cmp_is : ∀ a b : List UInt8, Lib.compareBytes a b = if ltB a b then -1 else if ltB b a then 1 else 0
  | [], [] => rfl
  | [], _ :: _ => rfl
  | _ :: _, [] => rfl
  | x :: a, y :: b => by
    unfold Lib.compareBytes ltB
    rw [cmp_is a b]
    simp only [UInt8.lt_iff_toNat_lt]
    by_cases h1 : x.toNat < y.toNat
    · rw [if_pos h1, if_pos h1, if_pos rfl]
    · rw [if_neg h1, if_neg h1]
      by_cases h2 : y.toNat < x.toNat
      · rw [if_pos h2, if_pos h2, if_pos h2, if_neg (by decide), if_pos rfl]
      · rw [if_neg h2, if_neg h2, if_neg h2, if_neg h1]
theorem cmp_same (a : List UInt8) : Lib.compareBytes a a = 0 := by rw [cmp_is, ltB_irrefl]; rfl
theorem cmp_gt {a b : List UInt8} (h : ltB b a = true) : Lib.compareBytes a b = 1 := by rw [cmp_is, ltB_asymm h, h]; rfl
theorem cmp_lt {a b : List UInt8} (h : ltB a b = true) : Lib.compareBytes a b = -1 := by rw [cmp_is, h]; rfl

set_option maxHeartbeats 2000000 in
theorem isname_any (l : List UInt8) (hl : l.length ≤ maxLen) (w : World) :
    Calls Try.prog 30 #[.string (tx l)] w fun e w' => e = .returned (.bool (namedL l)) ∧ w' = w := by
  have hs : (tx l).size = l.length := tx_len l
  have hp := fun w => plains_ok (tx l) (by rw [tx_len]; exact hl) w
  rw [list_tx] at hp
  unfold maxLen at hl
  by_cases h0 : l = []
  · subst h0
    have he := txt_empty
    rw [named_empty]
    clear hp hl
    have hs0 : (tx []).size ≤ 0 := by rw [tx_len]; exact Nat.le_refl _
    clear hs
    generalize tx [] = T at he hs0 ⊢
    go_enter Try.func30, Try.ntmps30
    go_wp2
    go_ret
    exact ⟨rfl, rfl⟩
  · have he1 := txt_no h0
    have he2 := txt_ne h0
    by_cases h : 64 < l.length
    · rw [named_long h]
      rw [← hs] at h hl
      clear hp hs
      generalize tx l = T at he1 he2 h hl ⊢
      go_enter Try.func30, Try.ntmps30
      go_wp2
      go_ret
      exact ⟨rfl, rfl⟩
    · rw [named_mid h0 (by omega)]
      have h : l.length ≤ 64 := by omega
      rw [← hs] at h
      clear hs hl
      generalize plainL l = q at hp ⊢
      generalize tx l = T at he1 he2 h hp ⊢
      go_enter Try.func30, Try.ntmps30
      go_wp2_with fail
      refine (hp _).mono ?_
      rintro e w1 ⟨rfl, rfl⟩
      go_wp2
      go_ret
      exact ⟨rfl, rfl⟩
theorem ref_named (l : List UInt8) (hl : l.length ≤ maxLen) (w : World) :
    Calls Try.prog 32 #[.string (tx l)] w fun e w' => e = .returned (.bool (namedL l)) ∧ w' = w := by
  have hs : (tx l).size = l.length := tx_len l
  have hp := fun w => ref_plain (tx l) (by rw [tx_len]; exact hl) w
  rw [list_tx] at hp
  unfold maxLen at hl
  have hn : namedL l = (plainL l && (decide (1 ≤ l.length) && decide (l.length ≤ 64))) := by
    unfold namedL shortL
    cases l <;> simp
  rw [hn, ← hs]
  have hz : (tx l).size ≤ 9223372036854775807 := by omega
  clear hs hl hn
  generalize tx l = T at *
  generalize plainL l = q at *
  obtain ⟨R, hR⟩ : ∃ R, (q && (decide (1 ≤ T.size) && decide (T.size ≤ 64))) = R := ⟨_, rfl⟩
  rw [hR]
  have HR := Lib.hid hR
  clear hR
  go_enter Try.func32, Try.ntmps32
  go_wp2_with fail
  refine (hp _).mono ?_
  rintro e w1 ⟨rfl, rfl⟩
  clear hp
  have hr := HR.out
  clear HR
  cases q
  · obtain rfl : R = false := hr.symm.trans rfl
    go_wp2
    go_ret
    exact ⟨rfl, rfl⟩
  · by_cases h1 : 1 ≤ T.size
    · by_cases h2 : T.size ≤ 64
      · rw [decide_eq_true h1, decide_eq_true h2] at hr
        obtain rfl : R = true := hr.symm.trans rfl
        have e1 : decide (1 ≤ (T.size : Int)) = true := decide_eq_true (by omega)
        have e2 : decide ((T.size : Int) ≤ 64) = true := decide_eq_true (by omega)
        clear hr
        go_wp2
        go_ret
        exact ⟨rfl, rfl⟩
      · rw [decide_eq_true h1, decide_eq_false h2] at hr
        obtain rfl : R = false := hr.symm.trans rfl
        have e1 : decide (1 ≤ (T.size : Int)) = true := decide_eq_true (by omega)
        have e2 : decide ((T.size : Int) ≤ 64) = false := decide_eq_false (by omega)
        have h2 : 64 < T.size := by omega
        clear hr
        go_wp2
        go_ret
        exact ⟨rfl, rfl⟩
    · rw [decide_eq_false h1] at hr
      obtain rfl : R = false := hr.symm.trans rfl
      have e1 : decide (1 ≤ (T.size : Int)) = false := decide_eq_false (by omega)
      have h1 : T.size = 0 := by omega
      clear hr
      go_wp2
      go_ret
      exact ⟨rfl, rfl⟩
end Go.Proofs.Ytlocjhnlemlnmaa.Lx
