/- The plain mathematics of a top: who goes, who comes, who is told first. A top in memory: its room, and its items in a row of its own; what stays of it in later worlds. -/
import GoSem.Op.String
import Derived.Lib.Strings
import Derived.Sort.Statements
import Derived.Test.YtcgkgdhbipbnfaaGreatDoorChecked
import Derived.Test.YtcgkgdhbipbnfaaGreatDoorCells
import Derived.Laws.AppendOwn
import Derived.Laws.OwnMore
import Derived.WalkKit
import Derived.Below
import Derived.Lib.Hide
import Derived.Deep.Quiet
namespace Go.Proofs.YtcgkgdhbipbnfaaGreatDoor.Tq
open Go

structure Itm where
  name : ByteArray
  many : Nat
  over : Nat
instance : Inhabited Itm := ⟨⟨⟨#[]⟩, 0, 0⟩⟩

def lessN (a b : ByteArray) : Bool := Op.bytesLess a.toList b.toList
theorem bl_eq : ∀ (x y : List UInt8), Op.bytesLess x y = decide (x < y)
  | [], [] => by simp [Op.bytesLess]
  | _ :: _, [] => by simp [Op.bytesLess]
  | [], _ :: _ => by simp [Op.bytesLess]
  | a :: x, b :: y => by
    rw [Op.bytesLess, bl_eq x y]
    simp only [List.cons_lt_cons_iff]
    by_cases h1 : a < b <;> by_cases h2 : a = b <;> by_cases h3 : x < y <;> simp [h1, h2, h3]
theorem name_ext {a b : ByteArray} (h : a.toList = b.toList) : a = b := by
  rw [Lib.toList_data, Lib.toList_data] at h
  exact ByteArray.ext (Array.toList_inj.1 h)
theorem eqN (a b : ByteArray) : (a.toList == b.toList) = decide (a = b) := by
  by_cases h : a = b
  · subst h; simp
  · have : a.toList ≠ b.toList := fun e => h (name_ext e)
    simp [h, this]
theorem lessN_irrefl (a : ByteArray) : lessN a a = false := by
  unfold lessN; rw [bl_eq]; simp [List.lt_irrefl]
theorem lessN_trans {a b c : ByteArray} (h1 : lessN a b = true) (h2 : lessN b c = true) : lessN a c = true := by
  unfold lessN at *; rw [bl_eq, decide_eq_true_eq] at *; exact List.lt_trans h1 h2
theorem lessN_asymm {a b : ByteArray} (h1 : lessN a b = true) : lessN b a = false := by
  cases h : lessN b a with
  | false => rfl
  | true => have := lessN_trans h1 h; rw [lessN_irrefl] at this; cases this
theorem lessN_ntrans {a b c : ByteArray} (h1 : lessN a b = false) (h2 : lessN b c = false) : lessN a c = false := by
  unfold lessN at *; rw [bl_eq, decide_eq_false_iff_not, List.not_lt] at *; exact List.le_trans h2 h1
theorem lessN_tri {a b : ByteArray} (h1 : lessN a b = false) (h2 : lessN b a = false) : a = b := by
  unfold lessN at *; rw [bl_eq, decide_eq_false_iff_not, List.not_lt] at *; exact name_ext (List.le_antisymm h2 h1)

/-- a goes ahead of b. -/
def goes (a b : Itm) : Bool := decide (a.many < b.many) || (decide (a.many = b.many) && lessN a.name b.name)
/-- a is told ahead of b. -/
def tells (a b : Itm) : Bool := decide (b.many < a.many) || (decide (a.many = b.many) && lessN a.name b.name)
theorem goes_iff {a b : Itm} : goes a b = true ↔ a.many < b.many ∨ (a.many = b.many ∧ lessN a.name b.name = true) := by unfold goes; simp
theorem tells_iff {a b : Itm} : tells a b = true ↔ b.many < a.many ∨ (a.many = b.many ∧ lessN a.name b.name = true) := by unfold tells; simp
theorem goes_not {a b : Itm} : goes a b = false ↔ b.many < a.many ∨ (a.many = b.many ∧ lessN a.name b.name = false) := by
  rw [← Bool.not_eq_true, goes_iff]
  cases lessN a.name b.name <;> simp <;> omega
theorem tells_not {a b : Itm} : tells a b = false ↔ a.many < b.many ∨ (a.many = b.many ∧ lessN a.name b.name = false) := by
  rw [← Bool.not_eq_true, tells_iff]
  cases lessN a.name b.name <;> simp <;> omega
theorem goes_irrefl (a : Itm) : goes a a = false := goes_not.2 (.inr ⟨rfl, lessN_irrefl _⟩)
theorem goes_trans {a b c : Itm} (h1 : goes a b = true) (h2 : goes b c = true) : goes a c = true := by
  rw [goes_iff] at *
  rcases h1 with h1 | ⟨h1, h1'⟩ <;> rcases h2 with h2 | ⟨h2, h2'⟩
  · exact .inl (by omega)
  · exact .inl (by omega)
  · exact .inl (by omega)
  · exact .inr ⟨by omega, lessN_trans h1' h2'⟩
theorem goes_many {a b : Itm} (h : goes a b = false) : b.many ≤ a.many := by
  rcases goes_not.1 h with h | ⟨h, _⟩ <;> omega
theorem goes_tri {a b : Itm} (h1 : goes a b = false) (h2 : goes b a = false) : a.many = b.many ∧ a.name = b.name := by
  rcases goes_not.1 h1 with h1 | ⟨h1, h1'⟩ <;> rcases goes_not.1 h2 with h2 | ⟨h2, h2'⟩
  · omega
  · omega
  · omega
  · exact ⟨h1, lessN_tri h1' h2'⟩
theorem tells_irrefl (a : Itm) : tells a a = false := tells_not.2 (.inr ⟨rfl, lessN_irrefl _⟩)
theorem tells_trans {a b c : Itm} (h1 : tells a b = true) (h2 : tells b c = true) : tells a c = true := by
  rw [tells_iff] at *
  rcases h1 with h1 | ⟨h1, h1'⟩ <;> rcases h2 with h2 | ⟨h2, h2'⟩
  · exact .inl (by omega)
  · exact .inl (by omega)
  · exact .inl (by omega)
  · exact .inr ⟨by omega, lessN_trans h1' h2'⟩
theorem tells_ntrans {a b c : Itm} (h1 : tells a b = false) (h2 : tells b c = false) : tells a c = false := by
  rw [tells_not] at *
  rcases h1 with h1 | ⟨h1, h1'⟩ <;> rcases h2 with h2 | ⟨h2, h2'⟩
  · exact .inl (by omega)
  · exact .inl (by omega)
  · exact .inl (by omega)
  · exact .inr ⟨by omega, lessN_ntrans h1' h2'⟩
theorem tells_asymm {a b : Itm} (h1 : tells a b = true) : tells b a = false := by
  cases h : tells b a with
  | false => rfl
  | true => have := tells_trans h1 h; rw [tells_irrefl] at this; cases this
theorem tells_tri {a b : Itm} (h1 : tells a b = false) (h2 : tells b a = false) : a.many = b.many ∧ a.name = b.name := by
  rcases tells_not.1 h1 with h1 | ⟨h1, h1'⟩ <;> rcases tells_not.1 h2 with h2 | ⟨h2, h2'⟩
  · omega
  · omega
  · omega
  · exact ⟨h1, lessN_tri h1' h2'⟩
theorem swo_tells : Sort.SWO tells := ⟨tells_irrefl, fun _ _ _ => tells_trans, fun _ _ _ => tells_ntrans⟩

/-- The search of the one that goes: n places from i on, m the one found so far. -/
def scanW (l : List Itm) : Nat → Nat → Nat → Nat
  | 0, m, _ => m
  | n + 1, m, i => scanW l n (if goes l[i]! l[m]! then i else m) (i + 1)
/-- The place of the one that goes. -/
def worst (l : List Itm) : Nat := scanW l (l.length - 1) 0 1
theorem scanW_step (l : List Itm) (m i : Nat) (h : i < l.length) : scanW l (l.length - i) m i = scanW l (l.length - (i + 1)) (if goes l[i]! l[m]! then i else m) (i + 1) := by
  rw [show l.length - i = (l.length - (i + 1)) + 1 by omega]
  rfl
theorem scanW_end (l : List Itm) (m i : Nat) (h : l.length ≤ i) : scanW l (l.length - i) m i = m := by
  rw [show l.length - i = 0 by omega]
  rfl
theorem worst_zero (l : List Itm) : scanW l (l.length - 0) 0 0 = worst l := by
  by_cases h : 0 < l.length
  · rw [scanW_step l 0 0 h, goes_irrefl]
    rfl
  · rw [scanW_end l 0 0 (by omega)]
    unfold worst
    rw [show l.length - 1 = 0 by omega]
    rfl
theorem scanW_spec (l : List Itm) : ∀ n m i, m < i → i + n = l.length → (∀ j, j < i → goes l[j]! l[m]! = false) → scanW l n m i < l.length ∧ ∀ j, j < l.length → goes l[j]! l[scanW l n m i]! = false
  | 0, m, i, h1, h2, h3 => ⟨by unfold scanW; omega, fun j hj => h3 j (by omega)⟩
  | n + 1, m, i, h1, h2, h3 => by
    unfold scanW
    split
    · rename_i hg
      refine scanW_spec l n i (i + 1) (by omega) (by omega) fun j hj => ?_
      by_cases e : j = i
      · subst e; exact goes_irrefl _
      · cases h : goes l[j]! l[i]! with
        | false => rfl
        | true => have := goes_trans h hg; rw [h3 j (by omega)] at this; cases this
    · rename_i hg
      refine scanW_spec l n m (i + 1) (by omega) (by omega) fun j hj => ?_
      by_cases e : j = i
      · subst e; simpa using hg
      · exact h3 j (by omega)
theorem worst_spec (l : List Itm) (h : 0 < l.length) : worst l < l.length ∧ ∀ j, j < l.length → goes l[j]! l[worst l]! = false :=
  scanW_spec l _ 0 1 (by omega) (by omega) fun j hj => by rw [show j = 0 by omega]; exact goes_irrefl _
theorem worst_lt {l : List Itm} (h : 0 < l.length) : worst l < l.length := (worst_spec l h).1
theorem getE (l : List Itm) (i : Nat) (h : i < l.length) : l[i]! = l[i] := getElem!_pos l i h
theorem mem_at {l : List Itm} {i : Nat} (h : i < l.length) : l[i]! ∈ l := by rw [getE l i h]; exact List.getElem_mem h
theorem at_mem {l : List Itm} {x : Itm} (h : x ∈ l) : ∃ i, i < l.length ∧ l[i]! = x := by
  obtain ⟨i, hi, rfl⟩ := List.getElem_of_mem h
  exact ⟨i, hi, getE l i hi⟩
theorem worst_le {l : List Itm} {x : Itm} (h : x ∈ l) : l[worst l]!.many ≤ x.many := by
  obtain ⟨i, hi, rfl⟩ := at_mem h
  exact goes_many ((worst_spec l (by omega)).2 i hi)

/-- Where an item of that name stands. -/
def plc (name : ByteArray) (l : List Itm) : Option Nat := l.findIdx? fun x => decide (x.name = name)
theorem plc_some {name : ByteArray} {l : List Itm} {i : Nat} (h : plc name l = some i) : i < l.length ∧ l[i]!.name = name ∧ ∀ j, j < i → l[j]!.name ≠ name := by
  unfold plc at h
  rw [List.findIdx?_eq_some_iff_getElem] at h
  obtain ⟨hi, h1, h2⟩ := h
  refine ⟨hi, by rw [getE l i hi]; simpa using h1, fun j hj => ?_⟩
  rw [getE l j (by omega)]
  simpa using h2 j hj
theorem plc_none {name : ByteArray} {l : List Itm} (h : plc name l = none) : ∀ x ∈ l, x.name ≠ name := by
  unfold plc at h
  rw [List.findIdx?_eq_none_iff] at h
  intro x hx
  simpa using h x hx
theorem plc_of_mem {l : List Itm} {x : Itm} (h : x ∈ l) : ∃ i, plc x.name l = some i := by
  cases hp : plc x.name l with
  | some i => exact ⟨i, rfl⟩
  | none => exact absurd rfl (plc_none hp x h)
theorem plc_at {name : ByteArray} {l : List Itm} {i : Nat} (hi : i < l.length) (h1 : l[i]!.name = name) (h2 : ∀ j, j < i → l[j]!.name ≠ name) : plc name l = some i := by
  unfold plc
  rw [List.findIdx?_eq_some_iff_getElem]
  refine ⟨hi, by rw [← getE l i hi]; simpa using h1, fun j hj => ?_⟩
  rw [← getE l j (by omega)]
  simpa using h2 j hj
theorem plc_no {name : ByteArray} {l : List Itm} (h : ∀ j, j < l.length → l[j]!.name ≠ name) : plc name l = none := by
  unfold plc
  rw [List.findIdx?_eq_none_iff]
  intro x hx
  obtain ⟨i, hi, rfl⟩ := at_mem hx
  simpa using h i hi

/-- How many came in all. -/
def seen (l : List Itm) : Nat := (l.map (·.many)).sum
theorem seen_nil : seen [] = 0 := rfl
theorem seen_cons (x : Itm) (l : List Itm) : seen (x :: l) = x.many + seen l := by simp [seen]
theorem seen_append (l m : List Itm) : seen (l ++ m) = seen l + seen m := by simp [seen]
theorem seen_one (x : Itm) : seen [x] = x.many := by simp [seen]
theorem seen_set : ∀ (l : List Itm) (i : Nat) (x : Itm), i < l.length → seen (l.set i x) + l[i]!.many = seen l + x.many
  | [], _, _, h => absurd h (Nat.not_lt_zero _)
  | y :: l, 0, x, _ => by rw [List.set_cons_zero, seen_cons, seen_cons]; simp; omega
  | y :: l, i + 1, x, h => by
    have := seen_set l i x (by simpa using h)
    rw [List.set_cons_succ, seen_cons, seen_cons, show (y :: l)[i + 1]! = l[i]! by simp]
    omega
theorem many_le_seen {l : List Itm} {x : Itm} (h : x ∈ l) : x.many ≤ seen l := by
  induction l with
  | nil => cases h
  | cons y l ih =>
    rw [seen_cons]
    rcases List.mem_cons.1 h with rfl | h
    · omega
    · have := ih h; omega
theorem seen_take_le (l : List Itm) (k : Nat) : seen (l.take k) ≤ seen l := by
  have : seen l = seen (l.take k) + seen (l.drop k) := by rw [← seen_append, List.take_append_drop]
  omega
theorem seen_snoc (l : List Itm) (k : Nat) (h : k < l.length) : seen (l.take (k + 1)) = seen (l.take k) + l[k]!.many := by
  rw [List.take_add_one, List.getElem?_eq_getElem h, seen_append, getE l k h]
  simp [seen]

/-- A name comes. -/
def addL (room : Nat) (name : ByteArray) (b : Nat) (l : List Itm) : List Itm :=
  match plc name l with
  | some i => l.set i ⟨l[i]!.name, l[i]!.many + b, l[i]!.over⟩
  | none => if l.length < room then l ++ [⟨name, b, 0⟩] else l.set (worst l) ⟨name, l[worst l]!.many + b, l[worst l]!.many⟩
theorem addL_some {room : Nat} {name : ByteArray} {b : Nat} {l : List Itm} {i : Nat} (h : plc name l = some i) : addL room name b l = l.set i ⟨l[i]!.name, l[i]!.many + b, l[i]!.over⟩ := by unfold addL; rw [h]
theorem addL_room {room : Nat} {name : ByteArray} {b : Nat} {l : List Itm} (h : plc name l = none) (hr : l.length < room) : addL room name b l = l ++ [⟨name, b, 0⟩] := by unfold addL; rw [h]; simp [hr]
theorem addL_full {room : Nat} {name : ByteArray} {b : Nat} {l : List Itm} (h : plc name l = none) (hr : ¬ l.length < room) : addL room name b l = l.set (worst l) ⟨name, l[worst l]!.many + b, l[worst l]!.many⟩ := by unfold addL; rw [h]; simp [hr]
theorem addL_length {room : Nat} {name : ByteArray} {b : Nat} {l : List Itm} (h : l.length ≤ room) : (addL room name b l).length ≤ room ∧ l.length ≤ (addL room name b l).length := by
  unfold addL
  split
  · simpa using h
  · split
    · simp; omega
    · simpa using h

/-- Items as a top has them. -/
structure Inv (room : Nat) (l : List Itm) : Prop where
  lo : 1 ≤ room
  hi : room ≤ 16
  len : l.length ≤ room
  nd : (l.map (·.name)).Nodup
  names : ∀ x ∈ l, x.name.size ≤ 64
  over : ∀ x ∈ l, x.over < x.many
  full : ∀ x ∈ l, x.over = 0 ∨ (l.length = room ∧ ∀ y ∈ l, x.over ≤ y.many)
  sum : seen l ≤ 4611686018427387904
theorem inv_nil {room : Nat} (lo : 1 ≤ room) (hi : room ≤ 16) : Inv room [] :=
  ⟨lo, hi, by simp, by simp, by simp, by simp, by simp, by simp [seen]⟩
theorem nodup_set {α : Type} : ∀ (l : List α) (i : Nat) (x : α), l.Nodup → x ∉ l → (l.set i x).Nodup
  | [], _, _, _, _ => by simp
  | a :: r, 0, x, h, hx => by
    rw [List.nodup_cons] at h
    simp only [List.mem_cons, not_or] at hx
    rw [List.set_cons_zero, List.nodup_cons]
    exact ⟨hx.2, h.2⟩
  | a :: r, i + 1, x, h, hx => by
    rw [List.nodup_cons] at h
    simp only [List.mem_cons, not_or] at hx
    rw [List.set_cons_succ, List.nodup_cons]
    refine ⟨fun hm => ?_, nodup_set r i x h.2 hx.2⟩
    rcases List.mem_or_eq_of_mem_set hm with hm | hm
    · exact h.1 hm
    · exact hx.1 hm.symm
theorem set_self {α : Type} [Inhabited α] (l : List α) (i : Nat) (h : i < l.length) : l.set i l[i]! = l := by
  rw [getElem!_pos l i h]; exact List.set_getElem_self h
theorem seen_addL {room : Nat} {name : ByteArray} {b : Nat} {l : List Itm} (h0 : 1 ≤ room) : seen (addL room name b l) = seen l + b := by
  cases h : plc name l with
  | some i =>
    rw [addL_some h]
    have := seen_set l i ⟨l[i]!.name, l[i]!.many + b, l[i]!.over⟩ (plc_some h).1
    simp only at this
    omega
  | none =>
    by_cases hr : l.length < room
    · rw [addL_room h hr, seen_append, seen_one]
    · rw [addL_full h hr]
      have := seen_set l (worst l) ⟨name, l[worst l]!.many + b, l[worst l]!.many⟩ (worst_lt (by omega))
      simp only at this
      omega
theorem inv_add {room : Nat} {name : ByteArray} {b : Nat} {l : List Itm} (hI : Inv room l) (hn : name.size ≤ 64) (hb : 1 ≤ b) (hs : seen l + b ≤ 4611686018427387904) : Inv room (addL room name b l) := by
  have hsum := seen_addL (room := room) (name := name) (b := b) (l := l) hI.lo
  have hlen := (addL_length (room := room) (name := name) (b := b) hI.len).1
  cases h : plc name l with
  | some i =>
    rw [addL_some h] at hsum hlen ⊢
    obtain ⟨hi, hnm, _⟩ := plc_some h
    have hm := mem_at hi
    refine ⟨hI.lo, hI.hi, hlen, ?_, ?_, ?_, ?_, by omega⟩
    · rw [List.map_set]
      have : l[i]!.name = (l.map (·.name))[i]! := by rw [getE l i hi, getElem!_pos _ i (by simpa using hi)]; simp
      simp only
      rw [this, set_self _ i (by simpa using hi)]
      exact hI.nd
    · intro x hx
      rcases List.mem_or_eq_of_mem_set hx with hx | rfl
      · exact hI.names x hx
      · exact hI.names l[i]! hm
    · intro x hx
      rcases List.mem_or_eq_of_mem_set hx with hx | rfl
      · exact hI.over x hx
      · have := hI.over _ hm; simp only; omega
    · intro x hx
      have key : ∀ z ∈ l, z.over = 0 ∨ ((l.set i ⟨l[i]!.name, l[i]!.many + b, l[i]!.over⟩).length = room ∧ ∀ y ∈ l.set i ⟨l[i]!.name, l[i]!.many + b, l[i]!.over⟩, z.over ≤ y.many) := by
        intro z hz
        rcases hI.full z hz with h0 | ⟨h1, h2⟩
        · exact .inl h0
        · refine .inr ⟨by simpa using h1, fun y hy => ?_⟩
          rcases List.mem_or_eq_of_mem_set hy with hy | rfl
          · exact h2 y hy
          · have := h2 _ hm; simp only; omega
      rcases List.mem_or_eq_of_mem_set hx with hx | rfl
      · exact key x hx
      · exact key l[i]! hm
  | none =>
    have hno := plc_none h
    have hnn : name ∉ l.map (·.name) := by
      intro hm
      obtain ⟨x, hx, e⟩ := List.mem_map.1 hm
      exact hno x hx e
    by_cases hr : l.length < room
    · rw [addL_room h hr] at hsum hlen ⊢
      have hz : ∀ x ∈ l, x.over = 0 := fun x hx => (hI.full x hx).resolve_right fun h => by omega
      refine ⟨hI.lo, hI.hi, hlen, ?_, ?_, ?_, ?_, by omega⟩
      · rw [List.map_append, List.nodup_append]
        refine ⟨hI.nd, by simp, ?_⟩
        intro a ha c hc
        simp at hc
        subst hc
        intro e
        exact hnn (e ▸ ha)
      · intro x hx
        rcases List.mem_append.1 hx with hx | hx
        · exact hI.names x hx
        · simp at hx; subst hx; exact hn
      · intro x hx
        rcases List.mem_append.1 hx with hx | hx
        · exact hI.over x hx
        · simp at hx; subst hx; simp only; omega
      · intro x hx
        rcases List.mem_append.1 hx with hx | hx
        · exact .inl (hz x hx)
        · simp at hx; subst hx; exact .inl rfl
    · rw [addL_full h hr] at hsum hlen ⊢
      have hl : l.length = room := by have := hI.len; omega
      have hw := worst_lt (l := l) (by have := hI.lo; omega)
      have hm := mem_at hw
      refine ⟨hI.lo, hI.hi, hlen, ?_, ?_, ?_, ?_, by omega⟩
      · rw [List.map_set]
        exact nodup_set _ _ _ hI.nd hnn
      · intro x hx
        rcases List.mem_or_eq_of_mem_set hx with hx | rfl
        · exact hI.names x hx
        · exact hn
      · intro x hx
        rcases List.mem_or_eq_of_mem_set hx with hx | rfl
        · exact hI.over x hx
        · simp only; omega
      · intro x hx
        rcases List.mem_or_eq_of_mem_set hx with hx | rfl
        · rcases hI.full x hx with h0 | ⟨h1, h2⟩
          · exact .inl h0
          · refine .inr ⟨by simpa using h1, fun y hy => ?_⟩
            rcases List.mem_or_eq_of_mem_set hy with hy | rfl
            · exact h2 y hy
            · have := h2 _ hm; simp only; omega
        · refine .inr ⟨by simpa using hl, fun y hy => ?_⟩
          rcases List.mem_or_eq_of_mem_set hy with hy | rfl
          · exact worst_le hy
          · simp only; omega

/-- Rising as they are told: none is told ahead of one that stands ahead of it. -/
def Told (s : List Itm) : Prop := s.Pairwise fun a b => tells b a = false
theorem item_of_name {l : List Itm} (h : (l.map (·.name)).Nodup) {x y : Itm} (hx : x ∈ l) (hy : y ∈ l) (e : x.name = y.name) : x = y := by
  induction l with
  | nil => cases hx
  | cons a l ih =>
    rw [List.map_cons, List.nodup_cons] at h
    rcases List.mem_cons.1 hx with e1 | hx'
    · rcases List.mem_cons.1 hy with e2 | hy'
      · rw [e1, e2]
      · exact (h.1 (List.mem_map.2 ⟨y, hy', by rw [← e1, e]⟩)).elim
    · rcases List.mem_cons.1 hy with e2 | hy'
      · exact (h.1 (List.mem_map.2 ⟨x, hx', by rw [← e2, e]⟩)).elim
      · exact ih h.2 hx' hy'
theorem told_unique {s t : List Itm} (h1 : Told s) (h2 : Told t) (hp : s.Perm t) (hn : (s.map (·.name)).Nodup) : s = t := by
  refine List.Perm.eq_of_pairwise (le := fun a b => tells b a = false) ?_ h1 h2 hp
  intro a b ha hb h h'
  exact item_of_name hn ha (hp.mem_iff.2 hb) (tells_tri h' h).2
theorem seen_perm {l m : List Itm} (h : l.Perm m) : seen l = seen m := by
  unfold seen
  exact (h.map _).sum_nat
theorem set_perm {α : Type} [Inhabited α] : ∀ (l : List α) (i : Nat) (x : α), i < l.length → (l.set i x).Perm (x :: l.eraseIdx i) ∧ l.Perm (l[i]! :: l.eraseIdx i)
  | [], _, _, h => absurd h (Nat.not_lt_zero _)
  | a :: r, 0, x, _ => by simp
  | a :: r, i + 1, x, h => by
    have ⟨h1, h2⟩ := set_perm r i x (by simpa using h)
    rw [List.set_cons_succ, List.eraseIdx_cons_succ, show (a :: r)[i + 1]! = r[i]! by simp]
    exact ⟨(h1.cons a).trans (List.Perm.swap _ _ _), (h2.cons a).trans (List.Perm.swap _ _ _)⟩
theorem set_perm_of {l m : List Itm} (hp : l.Perm m) {i k : Nat} (hi : i < l.length) (hk : k < m.length) (e : l[i]! = m[k]!) (x : Itm) : (l.set i x).Perm (m.set k x) := by
  obtain ⟨a1, a2⟩ := set_perm l i x hi
  obtain ⟨b1, b2⟩ := set_perm m k x hk
  have h : (l[i]! :: l.eraseIdx i).Perm (m[k]! :: m.eraseIdx k) := a2.symm.trans (hp.trans b2)
  rw [e] at h
  exact a1.trans ((h.cons_inv.cons x).trans b1.symm)
theorem addL_perm {room : Nat} {name : ByteArray} {b : Nat} {l m : List Itm} (h0 : 1 ≤ room) (hp : l.Perm m) (hn : (l.map (·.name)).Nodup) : (addL room name b l).Perm (addL room name b m) := by
  have hlen := hp.length_eq
  cases h : plc name l with
  | some i =>
    obtain ⟨hi, hnm, _⟩ := plc_some h
    obtain ⟨k, hk⟩ := plc_of_mem (hp.mem_iff.1 (mem_at hi))
    rw [hnm] at hk
    obtain ⟨hk1, hk2, _⟩ := plc_some hk
    have e : l[i]! = m[k]! := item_of_name hn (mem_at hi) (hp.mem_iff.2 (mem_at hk1)) (hnm.trans hk2.symm)
    rw [addL_some h, addL_some hk, e]
    exact set_perm_of hp hi hk1 e _
  | none =>
    have hm : plc name m = none := by
      cases hm : plc name m with
      | none => rfl
      | some k =>
        obtain ⟨hk1, hk2, _⟩ := plc_some hm
        exact absurd hk2 (plc_none h _ (hp.mem_iff.2 (mem_at hk1)))
    by_cases hr : l.length < room
    · rw [addL_room h hr, addL_room hm (by omega)]
      exact hp.append_right _
    · rw [addL_full h hr, addL_full hm (by omega)]
      have hw := worst_spec l (by omega)
      have hv := worst_spec m (by omega)
      obtain ⟨j, hj, ej⟩ := at_mem (hp.mem_iff.1 (mem_at hw.1))
      obtain ⟨k, hk, ek⟩ := at_mem (hp.mem_iff.2 (mem_at hv.1))
      have h1 := hv.2 j hj
      have h2 := hw.2 k hk
      rw [ej] at h1
      rw [ek] at h2
      have e := item_of_name hn (mem_at hw.1) (hp.mem_iff.2 (mem_at hv.1)) (goes_tri h1 h2).2
      rw [e]
      exact set_perm_of hp hw.1 hv.1 e _
theorem inv_perm {room : Nat} {l m : List Itm} (hI : Inv room l) (hp : l.Perm m) : Inv room m :=
  ⟨hI.lo, hI.hi, by rw [← hp.length_eq]; exact hI.len, (hp.map _).nodup_iff.1 hI.nd, fun x hx => hI.names x (hp.mem_iff.2 hx), fun x hx => hI.over x (hp.mem_iff.2 hx),
    fun x hx => (hI.full x (hp.mem_iff.2 hx)).imp id fun ⟨h1, h2⟩ => ⟨by rw [← hp.length_eq]; exact h1, fun y hy => h2 y (hp.mem_iff.2 hy)⟩, by rw [← seen_perm hp]; exact hI.sum⟩
/-- How often one that is not among them may have come. -/
def leastL (room : Nat) (l : List Itm) : Nat := if l.length < room then 0 else l[worst l]!.many
theorem least_perm {room : Nat} {l m : List Itm} (h0 : 1 ≤ room) (hp : l.Perm m) : leastL room l = leastL room m := by
  have hlen := hp.length_eq
  unfold leastL
  by_cases hr : l.length < room
  · rw [if_pos hr, if_pos (by omega)]
  · rw [if_neg hr, if_neg (by omega)]
    have hw := worst_spec l (by omega)
    have hv := worst_spec m (by omega)
    have h1 := worst_le (hp.mem_iff.1 (mem_at hw.1))
    have h2 := worst_le (hp.mem_iff.2 (mem_at hv.1))
    omega
end Go.Proofs.YtcgkgdhbipbnfaaGreatDoor.Tq

namespace Go.Proofs.YtcgkgdhbipbnfaaGreatDoor.Tq
open Go Go.RowKit

/-- All but the blocks of S is as it was. -/
structure Mov (S : Nat → Prop) (w w' : World) : Prop where
  os : w'.os = w.os
  tape : w'.tape = w.tape
  output : w'.output = w.output
  size : w.heap.size ≤ w'.heap.size
  block : ∀ k, k < w.heap.size → ¬ S k → w'.heap[k]? = w.heap[k]?
section
variable {S T : Nat → Prop} {w w' a b c : World}
theorem Mov.refl (S : Nat → Prop) (w : World) : Mov S w w := ⟨rfl, rfl, rfl, Nat.le_refl _, fun _ _ _ => rfl⟩
theorem Mov.trans (h : Mov S a b) (k : Mov T b c) (hT : ∀ i, i < a.heap.size → T i → S i) : Mov S a c :=
  ⟨k.os.trans h.os, k.tape.trans h.tape, k.output.trans h.output, Nat.le_trans h.size k.size, fun i hi hn => (k.block i (Nat.lt_of_lt_of_le hi h.size) (fun ht => hn (hT i hi ht))).trans (h.block i hi hn)⟩
theorem Mov.of {N : Nat} (h : Below N w w') : Mov (fun k => N ≤ k) w w' := ⟨h.os, h.tape, h.output, h.size, fun k _ hn => h.block k (Nat.lt_of_not_le hn)⟩
theorem Mov.ofB (h : Below w.heap.size w w') : Mov S w w' := ⟨h.os, h.tape, h.output, h.size, fun k hk _ => h.block k hk⟩
theorem Mov.below {N : Nat} (h : Mov S w w') (hS : ∀ k, S k → N ≤ k) (hN : N ≤ w.heap.size) : Below N w w' :=
  ⟨h.os, h.tape, h.output, h.size, fun k hk => h.block k (by omega) (fun hs => by have := hS k hs; omega)⟩
theorem Mov.cell (h : Mov S w w') {k i : Nat} (hk : k < w.heap.size) (hn : ¬ S k) : w'.cell? ⟨k, i, none⟩ = w.cell? ⟨k, i, none⟩ := World.cell?_of_block (h.block k hk hn)
theorem Mov.frozen (h : Mov S w w') {k i : Nat} (hk : k < w.heap.size) (hn : ¬ S k) : w'.frozen? ⟨k, i, none⟩ = w.frozen? ⟨k, i, none⟩ := World.frozen?_of_block (h.block k hk hn)
theorem Mov.drew (h : Mov S a w) : Mov S a w.drew := ⟨h.os, h.tape, h.output, h.size, h.block⟩
theorem Mov.drewN (h : Mov S a w) (n : Nat) : Mov S a (w.drewN n) := ⟨h.os, h.tape, h.output, h.size, h.block⟩
theorem Mov.set (h : Mov S a w) {k : Nat} (hk : S k) (i : Nat) (v : Value) : Mov S a (w.setCell ⟨k, i, none⟩ v) :=
  ⟨h.os, h.tape, h.output, by have := h.size; simpa [World.setCell] using this, fun j hj hn => by rw [Below.heap_setCell _ _ _ _ (by intro e; subst e; exact hn hk)]; exact h.block j hj hn⟩
theorem Mov.row {base T size n : Nat} {v : Value} {xs : List Value} (h : Mov S w w') (hr : w.ownsRow base T size v n xs) (hn : ∀ g, v.ownBlock = some g → ¬ S g) : w'.ownsRow base T size v n xs := by
  refine ⟨hr.1, hr.2.imp id ?_⟩
  rintro ⟨g, cap, cur, rfl, hb, hg, rest⟩
  exact ⟨g, cap, cur, rfl, hb, by rw [h.block g (Array.getElem?_eq_some_iff.1 hg).1 (hn g rfl)]; exact hg, rest⟩
end

/-- An item's cells. -/
def encI (x : Itm) : List Value := [.string x.name, .int .u64 x.many, .int .u64 x.over]
/-- The cells of items, one behind the other. -/
def flat (l : List Itm) : List Value := l.flatMap encI
theorem flat_nil : flat [] = [] := rfl
theorem flat_cons (x : Itm) (l : List Itm) : flat (x :: l) = encI x ++ flat l := rfl
theorem flat_append (l m : List Itm) : flat (l ++ m) = flat l ++ flat m := by simp [flat]
theorem flat_length (l : List Itm) : (flat l).length = l.length * 3 := by
  induction l with
  | nil => rfl
  | cons x l ih => rw [flat_cons, List.length_append, ih, List.length_cons]; simp [encI]; omega
theorem flat_at : ∀ (l : List Itm) (i j : Nat), i < l.length → j < 3 → (flat l)[i * 3 + j]? = (encI l[i]!)[j]?
  | [], _, _, h, _ => absurd h (Nat.not_lt_zero _)
  | x :: l, 0, j, _, hj => by rw [flat_cons, Nat.zero_mul, Nat.zero_add, List.getElem?_append_left (by simpa [encI] using hj)]; rfl
  | x :: l, i + 1, j, h, hj => by
    rw [flat_cons, List.getElem?_append_right (by simp [encI]; omega), show (i + 1) * 3 + j - (encI x).length = i * 3 + j by simp [encI]; omega, show (x :: l)[i + 1]! = l[i]! by simp]
    exact flat_at l i j (by simpa using h) hj
theorem flat_inj {l m : List Itm} (h : l.length = m.length) (e : flat l = flat m) : l = m := by
  induction l generalizing m with
  | nil => cases m with | nil => rfl | cons y m => cases h
  | cons x l ih =>
    cases m with
    | nil => cases h
    | cons y m =>
      rw [flat_cons, flat_cons] at e
      obtain ⟨nx, mx, ox⟩ := x
      obtain ⟨ny, my, oy⟩ := y
      simp only [encI, List.cons_append, List.nil_append, List.cons.injEq, Value.string.injEq, Value.int.injEq, true_and] at e
      obtain ⟨rfl, e2, e3, e4⟩ := e
      obtain rfl : mx = my := by omega
      obtain rfl : ox = oy := by omega
      rw [ih (by simpa using h) e4]
theorem flat_one (x : Itm) : flat [x] = encI x := by simp [flat]
theorem flat_set : ∀ (l : List Itm) (i : Nat) (x : Itm), i < l.length → flat (l.set i x) = (((flat l).set (i * 3) (.string x.name)).set (i * 3 + 1) (.int .u64 x.many)).set (i * 3 + 2) (.int .u64 x.over)
  | [], _, _, h => absurd h (Nat.not_lt_zero _)
  | y :: l, 0, x, _ => by simp [flat_cons, encI]
  | y :: l, i + 1, x, h => by
    rw [List.set_cons_succ, flat_cons, flat_cons, flat_set l i x (by simpa using h)]
    rw [show (i + 1) * 3 = i * 3 + 3 by omega]
    simp [encI]
theorem oneCells (l : List Itm) : ∀ u ∈ flat l, u.oneCell' = true := by
  intro u hu
  obtain ⟨x, _, hx⟩ := List.mem_flatMap.1 hu
  simp [encI] at hx
  rcases hx with rfl | rfl | rfl <;> rfl

/-- Items in a row of the call's own. -/
def Its (base T : Nat) (v : Value) (l : List Itm) (w : World) : Prop := w.ownsRow base T 3 v l.length (flat l)
section
variable {base T B room : Nat} {v : Value} {l : List Itm} {w w' : World} {S : Nat → Prop}
theorem Its.mov (h : Its base T v l w) (hM : Mov S w w') (hn : ∀ g, v.ownBlock = some g → ¬ S g) : Its base T v l w' := hM.row h hn
theorem Its.lt (h : Its base T v l w) {g : Nat} (hg : v.ownBlock = some g) : base ≤ g ∧ g < w.heap.size := World.ownsRow.lt h g hg
theorem Its.below (h : Its base T v l w) (hB : Below w.heap.size w w') : Its base T v l w' := h.mov (Mov.of hB) fun g hg => by have := (h.lt hg).2; omega
theorem Its.drew (h : Its base T v l w) : Its base T v l w.drew := h
theorem Its.mono (h : Its base T v l w) {base' : Nat} (hb : base' ≤ base) : Its base' T v l w :=
  ⟨h.1, h.2.imp id fun ⟨g, cap, cur, e, hbb, rest⟩ => ⟨g, cap, cur, e, Nat.le_trans hb hbb, rest⟩⟩
theorem Its.nil (base T : Nat) (w : World) : Its base T (.slice none 0 0) [] w := World.ownsRow_nil w base T 3
/-- What a row of items is: a block, and its cells. -/
theorem Its.form (h : Its base T v l w) : (v = .slice none 0 0 ∧ l = []) ∨ ∃ g cap, v = .slice (some ⟨g, 0, none⟩) l.length cap ∧ base ≤ g ∧ g < w.heap.size ∧ l.length ≤ cap ∧ cap ≤ maxLen ∧
    (∀ i, i < l.length → w.cell? ⟨g, i * 3, none⟩ = some (.string l[i]!.name) ∧ w.cell? ⟨g, i * 3 + 1, none⟩ = some (.int .u64 l[i]!.many) ∧ w.cell? ⟨g, i * 3 + 2, none⟩ = some (.int .u64 l[i]!.over)) ∧
    (∀ j, w.frozen? ⟨g, j, none⟩ = false) := by
  rcases h.2 with ⟨h1, h2⟩ | ⟨g, cap, cur, hv, hb, hg, h1, h2, h3, h4⟩
  · exact .inl ⟨h1, List.eq_nil_of_length_eq_zero h2⟩
  · subst hv
    refine .inr ⟨g, cap, rfl, hb, (Array.getElem?_eq_some_iff.1 hg).1, h1, h2, fun i hi => ?_, fun j => World.ownsRow.frozenAt h j⟩
    have k0 := World.ownsRow.cellAt h (i * 3) (by omega)
    have k1 := World.ownsRow.cellAt h (i * 3 + 1) (by omega)
    have k2 := World.ownsRow.cellAt h (i * 3 + 2) (by omega)
    have e0 := flat_at l i 0 hi (by omega)
    rw [Nat.add_zero] at e0
    rw [e0] at k0
    rw [flat_at l i 1 hi (by omega)] at k1
    rw [flat_at l i 2 hi (by omega)] at k2
    exact ⟨k0, k1, k2⟩
theorem Its.form_pos (h : Its base T v l w) (hl : 0 < l.length) : ∃ g cap, v = .slice (some ⟨g, 0, none⟩) l.length cap ∧ base ≤ g ∧ g < w.heap.size ∧ l.length ≤ cap ∧ cap ≤ maxLen ∧
    (∀ i, i < l.length → w.cell? ⟨g, i * 3, none⟩ = some (.string l[i]!.name) ∧ w.cell? ⟨g, i * 3 + 1, none⟩ = some (.int .u64 l[i]!.many) ∧ w.cell? ⟨g, i * 3 + 2, none⟩ = some (.int .u64 l[i]!.over)) ∧
    (∀ j, w.frozen? ⟨g, j, none⟩ = false) := by
  rcases h.form with ⟨_, rfl⟩ | h
  · cases hl
  · exact h
theorem Its.cap (h : Its base T v l w) : ∃ p cap, v = .slice p l.length cap ∧ l.length ≤ cap ∧ cap ≤ maxLen := by
  rcases h.form with ⟨rfl, rfl⟩ | ⟨g, cap, rfl, _, _, h1, h2, _⟩
  · exact ⟨none, 0, rfl, Nat.le_refl _, Nat.zero_le _⟩
  · exact ⟨_, cap, rfl, h1, h2⟩

/-- Block B is a top of that room, with those items in row v. -/
structure Tp (base B room : Nat) (v : Value) (l : List Itm) (w : World) : Prop where
  lt : B < w.heap.size
  lo : base ≤ B
  inv : Inv room l
  c0 : w.cell? ⟨B, 0, none⟩ = some (.int .i64 room)
  c1 : w.cell? ⟨B, 1, none⟩ = some v
  f1 : w.frozen? ⟨B, 1, none⟩ = false
  row : Its base 79 v l w
  ne : v.ownBlock ≠ some B
theorem Tp.mov (h : Tp base B room v l w) (hM : Mov S w w') (hB : ¬ S B) (hn : ∀ g, v.ownBlock = some g → ¬ S g) : Tp base B room v l w' :=
  ⟨Nat.lt_of_lt_of_le h.lt hM.size, h.lo, h.inv, (hM.cell h.lt hB).trans h.c0, (hM.cell h.lt hB).trans h.c1, (hM.frozen h.lt hB).trans h.f1, h.row.mov hM hn, h.ne⟩
theorem Tp.below (h : Tp base B room v l w) (hB : Below w.heap.size w w') : Tp base B room v l w' :=
  h.mov (Mov.of hB) (by have := h.lt; omega) fun g hg => by have := (h.row.lt hg).2; omega
theorem Tp.belowOn (h : Tp base B room v l w) {N : Nat} (hB : Below N w w') (hN : w.heap.size ≤ N := by exact Nat.le_refl _) : Tp base B room v l w' :=
  h.mov (Mov.of hB) (by have := h.lt; omega) fun g hg => by have := (h.row.lt hg).2; omega
theorem Tp.drew (h : Tp base B room v l w) : Tp base B room v l w.drew := ⟨h.lt, h.lo, h.inv, h.c0, h.c1, h.f1, h.row, h.ne⟩
theorem Tp.drewN (h : Tp base B room v l w) (n : Nat) : Tp base B room v l (w.drewN n) := ⟨h.lt, h.lo, h.inv, h.c0, h.c1, h.f1, h.row, h.ne⟩
theorem Tp.mono (h : Tp base B room v l w) {base' : Nat} (hb : base' ≤ base) : Tp base' B room v l w := ⟨h.lt, Nat.le_trans hb h.lo, h.inv, h.c0, h.c1, h.f1, h.row.mono hb, h.ne⟩
end
theorem below_drewN {B : Nat} {a w : World} (h : Below B a w) (n : Nat) : Below B a (w.drewN n) := h.trans ⟨rfl, rfl, rfl, Nat.le_refl _, fun _ _ => rfl⟩
theorem below_on {B : Nat} {w a c : World} (h : Below B w a) (hC : Below a.heap.size a c) (h2 : B ≤ w.heap.size) : Below B w c := h.trans (hC.mono (Nat.le_trans h2 h.size))
theorem below_mov {B : Nat} {S : Nat → Prop} {w a c : World} (h : Below B w a) (hC : Mov S a c) (hS : ∀ k, S k → B ≤ k) (h2 : B ≤ w.heap.size) : Below B w c := h.trans (hC.below hS (Nat.le_trans h2 h.size))
/-- The blocks of a top. -/
def OwnT (B : Nat) (v : Value) (k : Nat) : Prop := k = B ∨ v.ownBlock = some k
end Go.Proofs.YtcgkgdhbipbnfaaGreatDoor.Tq

