/- Policies, their tiers, their parts: what lies where. -/
import Derived.Test.YtcgkgdhbipbnfaaGreatDoorPoN
import Derived.Laws.AppendOwnNone
namespace Go.Proofs.YtcgkgdhbipbnfaaGreatDoor.Po
open Go Go.RowKit

/-! Rows of int64s. -/
theorem info_I : (Tryz.prog.info? 2).map (fun i => (i.zero, i.size, i.bytes)) = some (some (.int .i64 0), 1, 8) := by kernel_rfl
def valsI (l : List (Int)) : List Value := l.map fun x => Value.int .i64 x
theorem valsI_append (a b : List (Int)) : valsI (a ++ b) = valsI a ++ valsI b := List.map_append
theorem valsI_at (l : List (Int)) (k : Nat) (hk : k < l.length) : (valsI l)[k]? = some (Value.int .i64 (l[k])) := by
  unfold valsI
  rw [List.getElem?_map, List.getElem?_eq_getElem hk]
  rfl
/-- A slice that lies in a block from B on. -/
def OwnI (B : Nat) (v : Value) (l : List (Int)) (w : World) : Prop := w.ownsRow B 2 1 v l.length (valsI l)
section
variable {B N : Nat} {v v' v'' : Value} {l m : List (Int)} {w w' w'' : World}
theorem OwnI.nil (B : Nat) (w : World) : OwnI B (.slice none 0 0) [] w := World.ownsRow_nil _ _ _ _
theorem OwnI.lt (h : OwnI B v l w) {g : Nat} (hg : v.ownBlock = some g) : B ≤ g ∧ g < w.heap.size := World.ownsRow.lt h g hg
theorem OwnI.mov {S : Nat → Prop} (h : OwnI B v l w) (hM : Mov S w w') (hn : ∀ g, v.ownBlock = some g → ¬ S g) : OwnI B v l w' := hM.row h hn
theorem OwnI.below (h : OwnI B v l w) (hB : Below w.heap.size w w') : OwnI B v l w' := h.mov (Mov.of hB) fun g hg => by have := (h.lt hg).2; omega
theorem OwnI.sub (h : OwnI B v l w) (hN : N ≤ B) : OwnI N v l w := by
  refine ⟨h.1, ?_⟩
  rcases h.2 with h0 | ⟨g, cap, cur, hv, hb, rest⟩
  · exact .inl h0
  · exact .inr ⟨g, cap, cur, hv, by omega, rest⟩
theorem OwnI.form (h : OwnI B v l w) : (v = .slice none 0 0 ∧ l = []) ∨ ∃ g cap, v = .slice (some ⟨g, 0, none⟩) l.length cap ∧ B ≤ g ∧ g < w.heap.size ∧ l.length ≤ cap ∧ cap ≤ maxLen ∧
    ∀ k (hk : k < l.length), w.cell? ⟨g, k, none⟩ = some (Value.int .i64 (l[k])) := by
  rcases h.2 with ⟨rfl, h0⟩ | ⟨g, cap, cur, rfl, hb, hg, hn, hm, _, _⟩
  · exact .inl ⟨rfl, List.eq_nil_of_length_eq_zero h0⟩
  · refine .inr ⟨g, cap, rfl, hb, (Array.getElem?_eq_some_iff.1 hg).1, hn, hm, fun k hk => ?_⟩
    rw [World.ownsRow.cellAt h k (by omega)]
    exact valsI_at l k hk
theorem OwnI.len (h : OwnI B v l w) : ∃ p cap, v = .slice p l.length cap := by
  rcases h.form with ⟨rfl, rfl⟩ | ⟨g, cap, rfl, _⟩
  · exact ⟨none, 0, rfl⟩
  · exact ⟨_, _, rfl⟩
/-- What a row with others behind it is. -/
def GrewI (B : Nat) (v : Value) (l : List (Int)) (w : World) (v' : Value) (w' : World) : Prop :=
  OwnI B v' l w' ∧ Mov (fun j => v.ownBlock = some j) w w' ∧ ∀ g, v'.ownBlock = some g → v.ownBlock = some g ∨ w.heap.size ≤ g
theorem GrewI.refl (h : OwnI B v l w) : GrewI B v l w v w := ⟨h, Mov.refl _ _, fun _ hg => .inl hg⟩
theorem GrewI.trans (h : GrewI B v l w v' w') (k : GrewI B v' m w' v'' w'') : GrewI B v m w v'' w'' :=
  ⟨k.1, h.2.1.trans k.2.1 (fun i hi hT => by
    rcases h.2.2 i hT with e | e
    · exact e
    · omega), fun g hg => by
    rcases k.2.2 g hg with e | e
    · exact h.2.2 g e
    · exact .inr (Nat.le_trans h.2.1.size e)⟩
theorem GrewI.past (h : GrewI B v l w v' w') (hB : Below w'.heap.size w' w'') : GrewI B v l w v' w'' :=
  h.trans ⟨h.1.below hB, Mov.ofB hB, fun _ hg => .inl hg⟩
theorem GrewI.low (h : GrewI B v l w v' w') (hv : ∀ g, v.ownBlock = some g → N ≤ g) (hN : N ≤ w.heap.size) : Below N w w' := h.2.1.below hv hN
/-- append of one. -/
theorem append_I (ty : TypeId) (hO : OwnI B v l w) (x : Int) (hlen : l.length + 1 ≤ 17592186044416) (hB : B ≤ w.heap.size) :
    ∃ v' w', (Builtin.append_ #[22, 22] ty #[v, .slice (some ⟨w.heap.size, 0, none⟩) 1 1]).run Tryz.prog (w.alloc (.cells #[Value.int .i64 x] 2)) = .ok v' w' ∧ GrewI B v (l ++ [x]) w v' w' := by
  obtain ⟨i, hi, hz0, hz1, hz2⟩ := info_parts info_I
  obtain ⟨v', w', h1, h2, h3, h4⟩ := run_append_at (P := Tryz.prog) (w.alloc (.cells #[Value.int .i64 x] 2)) B 22 ty 2 i (.int .i64 0) 1 8 Tryz.underlying22 hi hz0 hz1 hz2 rfl (by decide) v l.length (valsI l) (World.ownsRow.alloc hO _) ⟨w.heap.size, 0, none⟩ 1 1 (valsI [x]) (by simp [valsI]) (new_row (valsI [x]) 2 w)
    (fun u hu => by obtain ⟨y, _, rfl⟩ := List.mem_map.1 hu; rfl) (by unfold maxLen; omega) (by omega) (by simp; omega)
  refine ⟨v', w', h1, ?_, ((Mov.refl _ _).alloc _).trans (Mov.grown h3) (fun _ _ h => h), fun g hg => (h4 g hg).imp id fun e => by simp at e; omega⟩
  unfold OwnI
  rw [List.length_append, valsI_append]
  exact h2
end

/-! Rows of strings. -/
theorem info_T : (Tryz.prog.info? 9).map (fun i => (i.zero, i.size, i.bytes)) = some (some (.string ⟨#[]⟩), 1, 16) := by kernel_rfl
def valsT (l : List (List UInt8)) : List Value := l.map fun x => Value.string (tx x)
theorem valsT_append (a b : List (List UInt8)) : valsT (a ++ b) = valsT a ++ valsT b := List.map_append
theorem valsT_at (l : List (List UInt8)) (k : Nat) (hk : k < l.length) : (valsT l)[k]? = some (Value.string (tx (l[k]))) := by
  unfold valsT
  rw [List.getElem?_map, List.getElem?_eq_getElem hk]
  rfl
/-- A slice that lies in a block from B on. -/
def OwnT (B : Nat) (v : Value) (l : List (List UInt8)) (w : World) : Prop := w.ownsRow B 9 1 v l.length (valsT l)
section
variable {B N : Nat} {v v' v'' : Value} {l m : List (List UInt8)} {w w' w'' : World}
theorem OwnT.nil (B : Nat) (w : World) : OwnT B (.slice none 0 0) [] w := World.ownsRow_nil _ _ _ _
theorem OwnT.lt (h : OwnT B v l w) {g : Nat} (hg : v.ownBlock = some g) : B ≤ g ∧ g < w.heap.size := World.ownsRow.lt h g hg
theorem OwnT.mov {S : Nat → Prop} (h : OwnT B v l w) (hM : Mov S w w') (hn : ∀ g, v.ownBlock = some g → ¬ S g) : OwnT B v l w' := hM.row h hn
theorem OwnT.below (h : OwnT B v l w) (hB : Below w.heap.size w w') : OwnT B v l w' := h.mov (Mov.of hB) fun g hg => by have := (h.lt hg).2; omega
theorem OwnT.sub (h : OwnT B v l w) (hN : N ≤ B) : OwnT N v l w := by
  refine ⟨h.1, ?_⟩
  rcases h.2 with h0 | ⟨g, cap, cur, hv, hb, rest⟩
  · exact .inl h0
  · exact .inr ⟨g, cap, cur, hv, by omega, rest⟩
theorem OwnT.form (h : OwnT B v l w) : (v = .slice none 0 0 ∧ l = []) ∨ ∃ g cap, v = .slice (some ⟨g, 0, none⟩) l.length cap ∧ B ≤ g ∧ g < w.heap.size ∧ l.length ≤ cap ∧ cap ≤ maxLen ∧
    ∀ k (hk : k < l.length), w.cell? ⟨g, k, none⟩ = some (Value.string (tx (l[k]))) := by
  rcases h.2 with ⟨rfl, h0⟩ | ⟨g, cap, cur, rfl, hb, hg, hn, hm, _, _⟩
  · exact .inl ⟨rfl, List.eq_nil_of_length_eq_zero h0⟩
  · refine .inr ⟨g, cap, rfl, hb, (Array.getElem?_eq_some_iff.1 hg).1, hn, hm, fun k hk => ?_⟩
    rw [World.ownsRow.cellAt h k (by omega)]
    exact valsT_at l k hk
theorem OwnT.len (h : OwnT B v l w) : ∃ p cap, v = .slice p l.length cap := by
  rcases h.form with ⟨rfl, rfl⟩ | ⟨g, cap, rfl, _⟩
  · exact ⟨none, 0, rfl⟩
  · exact ⟨_, _, rfl⟩
/-- What a row with others behind it is. -/
def GrewT (B : Nat) (v : Value) (l : List (List UInt8)) (w : World) (v' : Value) (w' : World) : Prop :=
  OwnT B v' l w' ∧ Mov (fun j => v.ownBlock = some j) w w' ∧ ∀ g, v'.ownBlock = some g → v.ownBlock = some g ∨ w.heap.size ≤ g
theorem GrewT.refl (h : OwnT B v l w) : GrewT B v l w v w := ⟨h, Mov.refl _ _, fun _ hg => .inl hg⟩
theorem GrewT.trans (h : GrewT B v l w v' w') (k : GrewT B v' m w' v'' w'') : GrewT B v m w v'' w'' :=
  ⟨k.1, h.2.1.trans k.2.1 (fun i hi hT => by
    rcases h.2.2 i hT with e | e
    · exact e
    · omega), fun g hg => by
    rcases k.2.2 g hg with e | e
    · exact h.2.2 g e
    · exact .inr (Nat.le_trans h.2.1.size e)⟩
theorem GrewT.past (h : GrewT B v l w v' w') (hB : Below w'.heap.size w' w'') : GrewT B v l w v' w'' :=
  h.trans ⟨h.1.below hB, Mov.ofB hB, fun _ hg => .inl hg⟩
theorem GrewT.low (h : GrewT B v l w v' w') (hv : ∀ g, v.ownBlock = some g → N ≤ g) (hN : N ≤ w.heap.size) : Below N w w' := h.2.1.below hv hN
end

/-! Numbers that lie somewhere, in no block of S. -/
def Tr (S : Nat → Prop) (v : Value) (t : List Int) (w : World) : Prop :=
  ∃ p cap, v = .slice p t.length cap ∧ t.length ≤ cap ∧ cap ≤ maxLen ∧ (p = none → cap = 0) ∧ (∀ x ∈ t, In64 x) ∧
    ∀ k (h : k < t.length), ∃ C off, p = some ⟨C, off, none⟩ ∧ C < w.heap.size ∧ ¬ S C ∧ w.cell? ⟨C, off + k, none⟩ = some (.int .i64 t[k])
section
variable {S S' M : Nat → Prop} {v : Value} {t : List Int} {w w' : World}
theorem Tr.mov (h : Tr S v t w) (hM : Mov M w w') (hn : ∀ j, M j → j < w.heap.size → S j) : Tr S v t w' := by
  obtain ⟨p, cap, h1, h2, h3, h4, h5, h6⟩ := h
  refine ⟨p, cap, h1, h2, h3, h4, h5, fun k hk => ?_⟩
  obtain ⟨C, off, g1, g2, g3, g4⟩ := h6 k hk
  exact ⟨C, off, g1, Nat.lt_of_lt_of_le g2 hM.size, g3, (hM.cell g2 fun hm => g3 (hn C hm g2)).trans g4⟩
theorem Tr.below (h : Tr S v t w) (hB : Below w.heap.size w w') : Tr S v t w' := h.mov (Mov.of hB) fun j hj hl => by omega
theorem Tr.weak (h : Tr S v t w) (hS : ∀ j, S' j → j < w.heap.size → S j) : Tr S' v t w := by
  obtain ⟨p, cap, h1, h2, h3, h4, h5, h6⟩ := h
  refine ⟨p, cap, h1, h2, h3, h4, h5, fun k hk => ?_⟩
  obtain ⟨C, off, g1, g2, g3, g4⟩ := h6 k hk
  exact ⟨C, off, g1, g2, fun hm => g3 (hS C hm g2), g4⟩
theorem Tr.nil (S : Nat → Prop) (w : World) : Tr S (.slice none 0 0) [] w := ⟨none, 0, rfl, Nat.le_refl _, Nat.zero_le _, fun _ => rfl, fun x hx => (by simp at hx), fun k hk => (by simp at hk)⟩
theorem Tr.len (h : Tr S v t w) : ∃ p cap, v = .slice p t.length cap := by
  obtain ⟨p, cap, h1, _⟩ := h
  exact ⟨p, cap, h1⟩
theorem Tr.in64 (h : Tr S v t w) : ∀ x ∈ t, In64 x := by
  obtain ⟨_, _, _, _, _, _, h, _⟩ := h
  exact h
theorem Tr.short (h : Tr S v t w) : t.length ≤ maxLen := by
  obtain ⟨_, _, _, h1, h2, _⟩ := h
  omega
theorem OwnI.tr {B : Nat} (h : OwnI B v t w) (hS : ∀ g, B ≤ g → ¬ S g) (ht : ∀ x ∈ t, In64 x) : Tr S v t w := by
  rcases h.form with ⟨rfl, rfl⟩ | ⟨g, cap, rfl, h1, h2, h3, h4, h5⟩
  · exact Tr.nil _ _
  · exact ⟨_, cap, rfl, h3, h4, fun e => (by cases e), ht, fun k hk => ⟨g, 0, rfl, h2, hS g h1, (by rw [Nat.zero_add]; exact h5 k hk)⟩⟩
/-- Where a slice of them lies, its cells. -/
theorem Tr.at {p : Option Addr} {n cap : Nat} (h : Tr S (.slice p n cap) t w) : n = t.length ∧ n ≤ cap ∧ cap ≤ maxLen ∧ (p = none → cap = 0) ∧
    ∀ k (h : k < t.length), ∃ C off, p = some ⟨C, off, none⟩ ∧ C < w.heap.size ∧ w.cell? ⟨C, off + k, none⟩ = some (.int .i64 t[k]) := by
  obtain ⟨p', cap', h1, h2, h3, h4, h5, h6⟩ := h
  simp only [Value.slice.injEq] at h1
  obtain ⟨rfl, rfl, rfl⟩ := h1
  exact ⟨rfl, h2, h3, h4, fun k hk => by
    obtain ⟨C, off, g1, g2, g3, g4⟩ := h6 k hk
    exact ⟨C, off, g1, g2, g4⟩⟩
/-- One number that is made. -/
theorem Tr.one (x : Int) (hx : In64 x) (hS : ¬ S w.heap.size) : Tr S (.slice (some ⟨w.heap.size, 0, none⟩) 1 1) [x] (w.alloc (.cells #[.int .i64 x] 2)) :=
  ⟨_, 1, rfl, Nat.le_refl _, (by unfold maxLen; omega), fun e => (by cases e), fun y hy => (by rw [List.mem_singleton.1 hy]; exact hx), fun k hk => by
    obtain rfl : k = 0 := by simpa using hk
    exact ⟨w.heap.size, 0, rfl, by simp, hS, (CellsAt.new #[.int .i64 x] 2 w).cell 0 _ rfl⟩⟩
/-- append of numbers that lie somewhere. -/
theorem append_tr {B : Nat} {u : Value} {l : List Int} (ty : TypeId) (hO : OwnI B u l w) (hT : Tr S v t w) (hlen : l.length + t.length ≤ 17592186044416) (hB : B ≤ w.heap.size) :
    ∃ v' w', (Builtin.append_ #[22, 22] ty #[u, v]).run Tryz.prog w = .ok v' w' ∧ GrewI B u (l ++ t) w v' w' := by
  obtain ⟨i, hi, hz0, hz1, hz2⟩ := info_parts info_I
  obtain ⟨p, c, rfl, h2, h3, h4, h5, h6⟩ := hT
  cases p with
  | none =>
    obtain rfl : c = 0 := h4 rfl
    have h0 : t = [] := List.eq_nil_of_length_eq_zero (by omega)
    subst h0
    refine ⟨u, w, run_append_owned_none (P := Tryz.prog) (w := w) B 22 ty 2 i 1 Tryz.underlying22 hi u l.length (valsI l) hO, ?_⟩
    rw [List.append_nil]
    exact GrewI.refl hO
  | some ad =>
    obtain ⟨v', w', h1, h2, h3, h4⟩ := run_append_at (P := Tryz.prog) w B 22 ty 2 i (.int .i64 0) 1 8 Tryz.underlying22 hi hz0 hz1 hz2 rfl (by decide) u l.length (valsI l) hO ad t.length c (valsI t) (by simp [valsI]) (by
        intro j y hj
        have hjt : j < t.length := by
          have := (List.getElem?_eq_some_iff.1 hj).1
          simpa [valsI] using this
        obtain ⟨C, off, e, g2, g3, g4⟩ := h6 j hjt
        cases e
        rw [Addr.add_lit, g4, ← hj]
        exact (valsI_at t j hjt).symm) (fun y hy => by obtain ⟨z, _, rfl⟩ := List.mem_map.1 hy; rfl) (by unfold maxLen; omega) (by omega) hB
    refine ⟨v', w', h1, ?_, Mov.grown h3, h4⟩
    unfold OwnI
    rw [List.length_append, valsI_append]
    exact h2
end

/-! A policy's cells. -/
def valsP (n : List Int) (v : Value) : Array Value := ((n.map fun x => Value.int .i64 x) ++ [v]).toArray
theorem valsP_at (n : List Int) (v : Value) (k : Nat) (hk : k < n.length) : (valsP n v)[k]? = some (.int .i64 (n.getD k 0)) := by
  unfold valsP
  rw [List.getElem?_toArray, List.getElem?_append_left (by simpa using hk), List.getElem?_map, List.getD_eq_getElem?_getD, List.getElem?_eq_getElem hk]
  rfl
theorem valsP_last (n : List Int) (v : Value) (hn : n.length = 10) : (valsP n v)[10]? = some v := by
  unfold valsP
  rw [List.getElem?_toArray, List.getElem?_append_right (by simp [hn])]
  simp [hn]
theorem valsP_size (n : List Int) (v : Value) : (valsP n v).size = n.length + 1 := by simp [valsP]
theorem valsP_set (n : List Int) (v : Value) (k : Nat) (x : Int) (hk : k < n.length) : (valsP n v).setIfInBounds k (.int .i64 x) = valsP (n.set k x) v := by
  unfold valsP
  rw [List.setIfInBounds_toArray, List.set_append, if_pos (by simpa using hk), List.map_set]
theorem valsP_setT (n : List Int) (v u : Value) (hn : n.length = 10) : (valsP n v).setIfInBounds 10 u = valsP n u := by
  unfold valsP
  rw [List.setIfInBounds_toArray, List.set_append, if_neg (by simp [hn])]
  simp [hn]
theorem ten_of {n : List Int} (hn : n.length = 10) : ∃ a b c d e f g i j k, n = [a, b, c, d, e, f, g, i, j, k] := by
  match n, hn with
  | [a, b, c, d, e, f, g, i, j, k], _ => exact ⟨a, b, c, d, e, f, g, i, j, k, rfl⟩
/-- A policy that lies in a block. -/
abbrev PolAt (P : Nat) (n : List Int) (v : Value) (w : World) : Prop := CellsAt P (valsP n v) w

/-! A policy's parts. -/
def cntP (P k : Nat) : Option Addr := if k < 7 then some ⟨P, k, none⟩ else none
def timP (P k : Nat) : Option Addr := if 7 ≤ k ∧ k < 10 then some ⟨P, k, none⟩ else none
def tieP (P k : Nat) : Option Addr := if k = 10 then some ⟨P, k, none⟩ else none
def fieldL (P k : Nat) : List Value := [.string (tx (tellN k)), .int .i64 (loN k), .int .i64 (hiN k), .pointer (cntP P k), .pointer (timP P k), .pointer (tieP P k)]
/-- One part. -/
def fieldV (P k : Nat) : Value := .agg #[.string (tx (tellN k)), .int .i64 (loN k), .int .i64 (hiN k), .pointer (cntP P k), .pointer (timP P k), .pointer (tieP P k)]
def flatP (P : Nat) (u : List Nat) : List Value := u.flatMap (fieldL P)
theorem flatP_len (P : Nat) (u : List Nat) : (flatP P u).length = u.length * 6 := by
  induction u with
  | nil => rfl
  | cons x r ih => simp only [flatP, List.flatMap_cons, List.length_append, fieldL, List.length_cons, List.length_nil] at ih ⊢; omega
theorem flatP_at (P : Nat) : ∀ (u : List Nat) (i j : Nat) (hi : i < u.length) (_ : j < 6), (flatP P u)[i * 6 + j]? = (fieldL P u[i])[j]?
  | [], i, j, hi, _ => by simp at hi
  | x :: r, 0, j, hi, hj => by
    unfold flatP
    rw [List.flatMap_cons, List.getElem?_append_left (by simp [fieldL]; omega)]
    simp
  | x :: r, i + 1, j, hi, hj => by
    have ih := flatP_at P r i j (by simpa using hi) hj
    unfold flatP at ih ⊢
    rw [List.flatMap_cons, List.getElem?_append_right (by simp [fieldL]; omega)]
    have e : (i + 1) * 6 + j - (fieldL P x).length = i * 6 + j := by simp [fieldL]; omega
    rw [e, ih]
    simp
/-- Parts that lie in a block, from its beginning on. -/
def PartsAt (F P : Nat) (u : List Nat) (w : World) : Prop := CellsAt F (flatP P u).toArray w
theorem PartsAt.cell {F P : Nat} {u : List Nat} {w : World} (h : PartsAt F P u w) (i : Nat) (hi : i < u.length) (j : Nat) (hj : j < 6) {x : Value} (hx : (fieldL P u[i])[j]? = some x) : w.cell? ⟨F, i * 6 + j, none⟩ = some x ∧ w.frozen? ⟨F, i * 6 + j, none⟩ = false := by
  have h1 : ((flatP P u).toArray)[i * 6 + j]? = some x := by rw [List.getElem?_toArray, flatP_at P u i j hi hj]; exact hx
  exact ⟨CellsAt.cell h _ _ h1, CellsAt.fro h _ _ h1⟩
end Go.Proofs.YtcgkgdhbipbnfaaGreatDoor.Po

