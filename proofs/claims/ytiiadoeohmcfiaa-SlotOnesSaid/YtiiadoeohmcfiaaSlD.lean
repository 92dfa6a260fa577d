/- A table as a list of keys by their slots: what is found, added, dropped. No walk in this text. -/
import Derived.Test.YtiiadoeohmcfiaaSlC
namespace Go.Proofs.Ytiiadoeohmcfiaa
open Go Go.RowKit

def idxL (k : Key) : List Key → Option Nat
  | [] => none
  | x :: r => if x = k then some 0 else (idxL k r).map (· + 1)
theorem keyOf_zero (x : Key) (r : List Key) : keyOf (x :: r) 0 = x := rfl
theorem keyOf_succ (x : Key) (r : List Key) (s : Nat) : keyOf (x :: r) (s + 1) = keyOf r s := rfl
theorem keyOf_at (L : List Key) {s : Nat} (h : s < L.length) : keyOf L s = L[s] := by
  unfold keyOf
  rw [List.getD_eq_getElem?_getD, List.getElem?_eq_getElem h]
  rfl
theorem keyOf_out (L : List Key) {s : Nat} (h : L.length ≤ s) : keyOf L s = [] := by
  unfold keyOf
  rw [List.getD_eq_getElem?_getD, List.getElem?_eq_none h]
  rfl
theorem idx_some {k : Key} : ∀ {L : List Key} {s : Nat}, idxL k L = some s → s < L.length ∧ keyOf L s = k ∧ ∀ j, j < s → keyOf L j ≠ k
  | [], _, h => by cases h
  | x :: r, s, h => by
    unfold idxL at h
    split at h
    · rename_i hx
      cases h
      exact ⟨by simp, hx, fun j hj => absurd hj (Nat.not_lt_zero _)⟩
    · rename_i hx
      obtain ⟨t, ht, rfl⟩ := Option.map_eq_some_iff.1 h
      obtain ⟨h1, h2, h3⟩ := idx_some ht
      refine ⟨by simpa using h1, h2, fun j hj => ?_⟩
      cases j with
      | zero => exact hx
      | succ j => exact h3 j (by omega)
theorem idx_none {k : Key} : ∀ {L : List Key}, idxL k L = none → ∀ j, j < L.length → keyOf L j ≠ k
  | [], _, j, hj => absurd hj (Nat.not_lt_zero _)
  | x :: r, h, j, hj => by
    unfold idxL at h
    split at h
    · cases h
    · rename_i hx
      cases j with
      | zero => exact hx
      | succ j => exact idx_none (by simpa using h) j (by simpa using hj)
theorem idx_is {k : Key} {L : List Key} {s : Nat} (h1 : s < L.length) (h2 : keyOf L s = k) (h3 : ∀ j, j < s → keyOf L j ≠ k) : idxL k L = some s := by
  cases h : idxL k L with
  | none => exact absurd h2 (idx_none h s h1)
  | some t =>
    obtain ⟨g1, g2, g3⟩ := idx_some h
    rcases Nat.lt_trichotomy s t with hc | hc | hc
    · exact absurd h2 (g3 s hc)
    · rw [hc]
    · exact absurd g2 (h3 t hc)
theorem idx_not {k : Key} {L : List Key} (h : ∀ j, j < L.length → keyOf L j ≠ k) : idxL k L = none := by
  cases h2 : idxL k L with
  | none => rfl
  | some t =>
    obtain ⟨g1, g2, _⟩ := idx_some h2
    exact absurd g2 (h t g1)
def findK (L : List Key) (k : Key) : Option Nat := if k = [] then none else idxL k L
def dropK (L : List Key) (k : Key) : List Key := match findK L k with
  | some s => L.set s []
  | none => L
def addK (L : List Key) (k : Key) : Nat × Nat × List Key :=
  if k = [] ∨ 4096 < k.length then (0, 1, L) else if (findK L k).isSome then (0, 6, L) else match idxL [] L with
    | none => (0, 4, L)
    | some s => (s, 0, L.set s k)
theorem findK_some {L : List Key} {k : Key} {s : Nat} (h : findK L k = some s) : k ≠ [] ∧ s < L.length ∧ keyOf L s = k := by
  unfold findK at h
  split at h
  · cases h
  · rename_i hk
    obtain ⟨h1, h2, _⟩ := idx_some h
    exact ⟨hk, h1, h2⟩
theorem dropK_len (L : List Key) (k : Key) : (dropK L k).length = L.length := by
  unfold dropK
  split
  · rw [List.length_set]
  · rfl
theorem addK_len (L : List Key) (k : Key) : (addK L k).2.2.length = L.length := by
  unfold addK
  split
  · rfl
  · split
    · rfl
    · split
      · rfl
      · rw [List.length_set]
theorem keyOf_set {L : List Key} {s : Nat} (k : Key) (h : s < L.length) : keyOf (L.set s k) = Sl.putK (keyOf L) s k := by
  funext t
  by_cases hts : t = s
  · subst hts
    rw [Sl.putK_same, keyOf_at _ (by rw [List.length_set]; exact h), List.getElem_set_self]
  · rw [Sl.putK_other _ _ hts]
    by_cases ht : t < L.length
    · rw [keyOf_at _ (by rw [List.length_set]; exact ht), keyOf_at _ ht, List.getElem_set_ne (Ne.symm hts)]
    · rw [keyOf_out _ (by rw [List.length_set]; omega), keyOf_out _ (by omega)]

/-- Block B is a table of the keys L. -/
structure Tab (B : Nat) (L : List Key) (en : Nat → Option Nat) (w : World) : Prop where
  tb : Tb B L.length (keyOf L) en w
  inv : Sl.Inv ([] : Key) hsh (keyOf L) en
  room : L.length ≤ 256
  short : ∀ s, (keyOf L s).length ≤ 4096
section
variable {B : Nat} {L : List Key} {en : Nat → Option Nat} {w w' : World}
theorem Tab.below (h : Tab B L en w) (hB : Below w.heap.size w w') : Tab B L en w' := ⟨h.tb.below hB, h.inv, h.room, h.short⟩
theorem Tab.belowAt (h : Tab B L en w) {C : Nat} (hB : Below C w w') (hb : B < C) : Tab B L en w' := ⟨h.tb.belowAt hB hb, h.inv, h.room, h.short⟩
theorem Tab.chg (h : Tab B L en w) {C : Nat} (hC : Chg C w w') (hn : B ≠ C) : Tab B L en w' := ⟨h.tb.chg hC hn, h.inv, h.room, h.short⟩
theorem Tab.fit (h : Tab B L en w) (s : Nat) : (keyOf L s).length ≤ maxLen := Nat.le_trans (h.short s) (by unfold maxLen; omega)
theorem Tab.find (h : Tab B L en w) {k : Key} {m : Nat} {has : Bool} (hS : Sl.SearchAt (keyOf L) en (hsh k) k m has) :
    has = (findK L k).isSome ∧ en (Sl.plc (hsh k) m) = findK L k := by
  cases has with
  | true =>
    obtain ⟨s, e1, e2, e3, e4⟩ := h.inv.has hS
    have hs : s < L.length := by
      rcases Nat.lt_or_ge s L.length with h1 | h1
      · exact h1
      · exact absurd (e3.symm.trans (keyOf_out L h1)) e4
    have hf : findK L k = some s := by
      unfold findK
      rw [if_neg e4]
      exact idx_is hs e3 (fun j hj hk => by
        have := h.inv.uniq j s (by omega) e2 (hk.trans e3.symm) (hk ▸ e4)
        omega)
    rw [hf]
    exact ⟨rfl, e1⟩
  | false =>
    have hf : findK L k = none := by
      unfold findK
      split
      · rfl
      · rename_i hk
        have := h.inv.hasNot (hsh_lt k) hS hk
        exact idx_not fun j hj => this j (by have := h.room; omega)
    have h3 := hS.2.2
    rw [if_neg (by simp)] at h3
    rw [hf]
    exact ⟨rfl, h3⟩
end
end Go.Proofs.Ytiiadoeohmcfiaa
