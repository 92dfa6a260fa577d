/- A table beside a map of numbers to slots: what both tell of each number, and how many there are. No walk in this text. -/
import Derived.Test.YtiiadoeohmcfiaaSlJ
import Derived.Maps.OwnSet
import Derived.Maps.OwnOps
namespace Go.Proofs.Ytiiadoeohmcfiaa
open Go Go.RowKit Go.Maps

/-- The key of a number. -/
def okK (k : Nat) : Key := [120, UInt8.ofNat (k / 256), UInt8.ofNat k]
theorem okK_ne (k : Nat) : okK k ≠ [] := by simp [okK]
theorem okK_inj {i j : Nat} (hi : i < 65536) (hj : j < 65536) (h : okK i = okK j) : i = j := by
  unfold okK at h
  simp only [List.cons.injEq, and_true, true_and] at h
  have h1 := congrArg UInt8.toNat h.1
  have h2 := congrArg UInt8.toNat h.2
  rw [UInt8.toNat_ofNat', UInt8.toNat_ofNat'] at h1 h2
  omega
section
variable {L : List Key} {k k' : Key} {s : Nat}
/-- A slot of which neither the old nor the new key is k' is nothing to it. -/
theorem find_other (hs : s < L.length) (h1 : keyOf L s ≠ k') (h2 : k ≠ k') : findK (L.set s k) k' = findK L k' := by
  unfold findK
  split
  · rfl
  · have e : ∀ j, keyOf (L.set s k) j = k' ↔ keyOf L j = k' := fun j => by
      rw [keyOf_set k hs]
      unfold Sl.putK
      split
      · rename_i h
        rw [h]
        exact ⟨fun h => absurd h h2, fun h => absurd h h1⟩
      · exact Iff.rfl
    cases h : idxL k' L with
    | none =>
      have := idx_none h
      exact idx_not fun j hj => by rw [List.length_set] at hj; exact fun h3 => this j hj ((e j).1 h3)
    | some t =>
      obtain ⟨g1, g2, g3⟩ := idx_some h
      exact idx_is (by rw [List.length_set]; exact g1) ((e t).2 g2) fun j hj h3 => g3 j hj ((e j).1 h3)
theorem find_none {k : Key} (h : findK L k = none) (hk : k ≠ []) : ∀ j, j < L.length → keyOf L j ≠ k := by
  unfold findK at h
  rw [if_neg hk] at h
  exact idx_none h
theorem find_new (hk : k ≠ []) (hs : s < L.length) (h : findK L k = none) : findK (L.set s k) k = some s := by
  have hn := find_none h hk
  unfold findK
  rw [if_neg hk]
  refine idx_is (by rw [List.length_set]; exact hs) (by rw [keyOf_set k hs, Sl.putK_same]) fun j hj => ?_
  rw [keyOf_set k hs, Sl.putK_other _ _ (by omega)]
  exact hn j (by omega)
theorem find_gone (hL : L.length ≤ 256) (hu : Sl.Uniq ([] : Key) (keyOf L)) (h : findK L k = some s) : findK (L.set s []) k = none := by
  obtain ⟨hk, hs, he⟩ := findK_some h
  unfold findK
  rw [if_neg hk]
  refine idx_not fun j hj => ?_
  rw [List.length_set] at hj
  rw [keyOf_set [] hs]
  unfold Sl.putK
  split
  · exact hk.symm
  · rename_i hne
    intro h2
    exact hne (hu j s (by omega) (by omega) (h2.trans he.symm) (by rw [h2]; exact hk))
/-- Who has a slot is found there. -/
theorem find_own (hL : L.length ≤ 256) (hu : Sl.Uniq ([] : Key) (keyOf L)) (hs : s < L.length) (hk : keyOf L s ≠ []) : findK L (keyOf L s) = some s := by
  unfold findK
  rw [if_neg hk]
  refine idx_is hs rfl fun j hj h2 => ?_
  have := hu j s (by omega) (by omega) h2 (by rw [h2]; exact hk)
  omega
end
/-- How many slots below n are not free. -/
def cntF (f : Nat → Key) (n : Nat) : Nat := ((List.range n).filter fun s => !decide (f s = [])).length
theorem slots_cnt (L : List Key) : (slotsK L).length = cntF (keyOf L) L.length := rfl
theorem cnt_succ (f : Nat → Key) (n : Nat) : cntF f (n + 1) = cntF f n + if f n = [] then 0 else 1 := by
  unfold cntF
  rw [List.range_succ, List.filter_append, List.length_append]
  by_cases h : f n = []
  · simp [h]
  · simp [h]
theorem cnt_put {f : Nat → Key} {s : Nat} {k : Key} (h0 : f s = []) (hk : k ≠ []) : ∀ n, cntF (Sl.putK f s k) n = cntF f n + if s < n then 1 else 0
  | 0 => rfl
  | n + 1 => by
    rw [cnt_succ, cnt_succ, cnt_put h0 hk n]
    by_cases hs : n = s
    · subst hs
      rw [Sl.putK_same, if_neg hk, h0, if_pos rfl, if_neg (by omega), if_pos (by omega)]
    · rw [Sl.putK_other _ _ hs]
      by_cases h1 : s < n
      · rw [if_pos h1, if_pos (show s < n + 1 by omega)]; omega
      · rw [if_neg h1, if_neg (show ¬ s < n + 1 by omega)]; omega
theorem cnt_le (f : Nat → Key) (n : Nat) : cntF f n ≤ n := Nat.le_trans (List.length_filter_le _ _) (by rw [List.length_range]; exact Nat.le_refl _)
theorem cnt_full {f : Nat → Key} {n : Nat} (h : ∀ j, j < n → f j ≠ []) : cntF f n = n := by
  unfold cntF
  rw [List.filter_eq_self.2 (fun j hj => by simp [h j (by simpa using hj)]), List.length_range]
theorem cnt_lt {f : Nat → Key} {n s : Nat} (hs : s < n) (h0 : f s = []) : cntF f n < n := by
  have h1 := cnt_put h0 (k := [0]) (by simp) n
  have h2 := cnt_le (Sl.putK f s [0]) n
  rw [if_pos hs] at h1
  omega
theorem slots_add {L : List Key} {s : Nat} {k : Key} (hs : s < L.length) (h0 : keyOf L s = []) (hk : k ≠ []) : (slotsK (L.set s k)).length = (slotsK L).length + 1 := by
  rw [slots_cnt, slots_cnt, List.length_set, keyOf_set k hs, cnt_put h0 hk, if_pos hs]
theorem slots_drop {L : List Key} {s : Nat} (hs : s < L.length) (hk : keyOf L s ≠ []) : (slotsK (L.set s [])).length + 1 = (slotsK L).length := by
  have h := slots_add (L := L.set s []) (s := s) (k := keyOf L s) (by rw [List.length_set]; exact hs) (by rw [keyOf_set [] hs, Sl.putK_same]) hk
  rw [← h, slots_cnt, slots_cnt, List.length_set, List.length_set]
  congr 1
  rw [keyOf_set _ (by rw [List.length_set]; exact hs), keyOf_set [] hs]
  funext j
  unfold Sl.putK
  split
  · rename_i h; rw [h]
  · rfl
/-- The slots rise. -/
theorem slots_rise (L : List Key) : (slotsK L).Pairwise (· < ·) := List.Pairwise.filter _ (List.pairwise_lt_range)

abbrev lk (k : Nat) : Lit := .int .u16 (k : Int)
theorem lk_ne {k k' : Nat} (h : k' ≠ k) : lk k' ≠ lk k := fun e => h (by injection e with _ e; omega)
/-- The map tells of each number below 400 what the table tells of its key. -/
structure Ones (L : List Key) (D : DataW Unit) : Prop where
  tidy : Tidy D
  has : ∀ k, k < 400 → Maps.has D (lk k) = (findK L (okK k)).isSome
  at_ : ∀ k s, k < 400 → findK L (okK k) = some s → D.atKey (lk k) (.lit (.int .i64 0)) = .lit (.int .i64 (s : Int))
  size : Maps.size D = (slotsK L).length
theorem Ones.start (n : Nat) : Ones (tabF n fun _ => []) (.map []) := by
  have hf : ∀ k, findK (tabF n fun _ => []) (okK k) = none := fun k => findF_no fun j _ e => okK_ne k e.symm
  refine ⟨tidy_empty, fun k _ => by rw [hf]; rfl, (fun k s _ h => by rw [hf] at h; cases h), ?_⟩
  rw [slots_below (m := 0) (Nat.zero_le _) (fun j hj => absurd hj (Nat.not_lt_zero _)) (fun j _ => rfl)]
  rfl
theorem Ones.drop {L : List Key} {D : DataW Unit} (h : Ones L D) (hL : L.length ≤ 256) (hu : Sl.Uniq ([] : Key) (keyOf L)) {k s : Nat} (hk : k < 400) (hf : findK L (okK k) = some s) : Ones (L.set s []) (D.del (lk k)) := by
  obtain ⟨h0, hs, he⟩ := findK_some hf
  have hoth : ∀ k', k' < 400 → k' ≠ k → findK (L.set s []) (okK k') = findK L (okK k') := fun k' h1 h2 =>
    find_other hs (by rw [he]; exact fun e => h2 (okK_inj (by omega) (by omega) e).symm) (okK_ne k').symm
  refine ⟨h.tidy.del _, fun k' h1 => ?_, fun k' s' h1 h2 => ?_, ?_⟩
  · by_cases hkk : k' = k
    · subst hkk
      rw [has_del_same, find_gone hL hu hf]
      rfl
    · rw [has_del_other (lk_ne hkk), h.has k' h1, hoth k' h1 hkk]
  · by_cases hkk : k' = k
    · subst hkk
      rw [find_gone hL hu hf] at h2
      cases h2
    · rw [hoth k' h1 hkk] at h2
      rw [atKey_del_other (lk_ne hkk), h.at_ k' s' h1 h2]
  · have h3 := size_del h.tidy (k := lk k)
    rw [h.has k hk, hf, h.size] at h3
    simp only [Option.isSome_some, if_true] at h3
    have h4 := slots_drop hs (by rw [he]; exact h0)
    omega
theorem Ones.add {L : List Key} {D : DataW Unit} (h : Ones L D) {k s : Nat} (hk : k < 400) (hf : findK L (okK k) = none) (hs : s < L.length) (h0 : keyOf L s = []) : Ones (L.set s (okK k)) (D.put (lk k) (.lit (.int .i64 (s : Int)))) := by
  have hoth : ∀ k', k' < 400 → k' ≠ k → findK (L.set s (okK k)) (okK k') = findK L (okK k') := fun k' h1 h2 =>
    find_other hs (by rw [h0]; exact (okK_ne k').symm) (fun e => h2 (okK_inj (by omega) (by omega) e).symm)
  refine ⟨h.tidy.put (k := lk k) trivial _, fun k' h1 => ?_, fun k' s' h1 h2 => ?_, ?_⟩
  · by_cases hkk : k' = k
    · subst hkk
      rw [has_put_same (k := lk k') h.tidy.isMap trivial, find_new (okK_ne _) hs hf]
      rfl
    · rw [has_put_other (lk_ne hkk), h.has k' h1, hoth k' h1 hkk]
  · by_cases hkk : k' = k
    · subst hkk
      rw [find_new (okK_ne _) hs hf] at h2
      cases h2
      exact atKey_put_same (k := lk k') h.tidy.isMap trivial _ _
    · rw [hoth k' h1 hkk] at h2
      rw [atKey_put_other (lk_ne hkk), h.at_ k' s' h1 h2]
  · rw [size_put h.tidy, h.has k hk, hf, slots_add hs h0 (okK_ne k), h.size]
    rfl
/-- What Add comes to at a number that is not there. -/
theorem ones_add {L : List Key} {k : Nat} (hf : findK L (okK k) = none) :
    (addK L (okK k) = (0, 4, L) ∧ (slotsK L).length = L.length) ∨ ∃ s, addK L (okK k) = (s, 0, L.set s (okK k)) ∧ s < L.length ∧ keyOf L s = [] ∧ (slotsK L).length < L.length := by
  have e : addK L (okK k) = match idxL [] L with
      | none => (0, 4, L)
      | some s => (s, 0, L.set s (okK k)) := by
    unfold addK
    rw [if_neg (by rintro (h | h); exact okK_ne k h; simp [okK] at h), hf, if_neg (by simp)]
    cases idxL [] L <;> rfl
  cases hi : idxL [] L with
  | none =>
    rw [hi] at e
    exact .inl ⟨e, cnt_full (idx_none hi)⟩
  | some s =>
    rw [hi] at e
    obtain ⟨h1, h2, _⟩ := idx_some hi
    exact .inr ⟨s, e, h1, h2, cnt_lt h1 h2⟩
end Go.Proofs.Ytiiadoeohmcfiaa
