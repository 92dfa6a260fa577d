/- Which items are a top's: the plain mathematics. -/
import Derived.Test.YtnkhieackclniaaTAny
namespace Go.Proofs.Ytnkhieackclniaa
open Go

/-- None is told ahead of the one that stands ahead of it. -/
def SortA (l : List Itm) : Prop := ∀ i, i + 1 < l.length → tells l[i + 1]! l[i]! = false
/-- An item of which nothing is over. -/
def zo (x : Itm) : Itm := ⟨x.name, x.many, 0⟩
/-- Items added one behind the other. -/
def addsL (room : Nat) (acc : List Itm) : List Itm → Option (List Itm)
  | [] => some acc
  | x :: r => if addC x.name x.many acc = 0 then addsL room (addL room x.name x.many acc) r else none
theorem addC_zero_iff {name : ByteArray} {b : Nat} {l : List Itm} : addC name b l = 0 ↔ name.size ≤ 64 ∧ 1 ≤ b ∧ seen l + b ≤ 4611686018427387904 := by
  unfold addC
  constructor
  · intro h
    split at h
    · cases h
    · split at h
      · cases h
      · omega
  · rintro ⟨h1, h2, h3⟩
    rw [if_neg (by omega), if_neg (by omega)]
theorem adds_some {room : Nat} (h0 : 1 ≤ room) : ∀ (r acc a : List Itm), acc.length + r.length ≤ room → addsL room acc r = some a →
    a.length ≤ acc.length + r.length ∧ seen a = seen acc + seen r ∧
    (a.length = acc.length + r.length → a = acc ++ r.map zo ∧ (∀ x ∈ r, x.name.size ≤ 64 ∧ 1 ≤ x.many) ∧ (r ≠ [] → seen acc + seen r ≤ 4611686018427387904) ∧ ((acc.map (·.name)).Nodup → ((acc ++ r).map (·.name)).Nodup))
  | [], acc, a, hl, h => by
    simp only [addsL, Option.some.injEq] at h
    subst h
    refine ⟨by simp, by simp [seen], fun _ => ⟨by simp, by simp, by simp, by simp⟩⟩
  | x :: r, acc, a, hl, h => by
    unfold addsL at h
    split at h
    · rename_i hc
      obtain ⟨c1, c2, c3⟩ := addC_zero_iff.1 hc
      have hlen : (addL room x.name x.many acc).length ≤ acc.length + 1 ∧ ((addL room x.name x.many acc).length = acc.length + 1 → plc x.name acc = none ∧ addL room x.name x.many acc = acc ++ [zo x]) := by
        cases hp : plc x.name acc with
        | some i => rw [addL_some hp]; simp
        | none =>
          have hr : acc.length < room := by simp at hl; omega
          rw [addL_room hp hr]
          simp [zo]
      have hse := seen_addL (room := room) (name := x.name) (b := x.many) (l := acc) h0
      obtain ⟨i1, i2, i3⟩ := adds_some h0 r _ a (by simp at hl; omega) h
      rw [hse] at i2 i3
      refine ⟨by simp; omega, by rw [i2, seen_cons]; omega, fun he => ?_⟩
      simp only [List.length_cons] at he
      obtain ⟨hp, ha⟩ := hlen.2 (by omega)
      obtain ⟨j1, j2, j3, j4⟩ := i3 (by omega)
      rw [ha] at j1 j4
      refine ⟨by rw [j1]; simp, ?_, ?_, ?_⟩
      · intro y hy
        rcases List.mem_cons.1 hy with rfl | hy
        · exact ⟨c1, c2⟩
        · exact j2 y hy
      · intro _
        rw [seen_cons]
        by_cases hr : r = []
        · subst hr; simp [seen] at *; omega
        · have := j3 hr; omega
      · intro hn
        have hno := plc_none hp
        have h1 : ((acc ++ [zo x]).map (·.name)).Nodup := by
          rw [List.map_append, List.nodup_append]
          refine ⟨hn, by simp, ?_⟩
          intro b hb c hc e
          simp [zo] at hc
          subst hc
          obtain ⟨y, hy, rfl⟩ := List.mem_map.1 hb
          exact hno y hy e
        have := j4 h1
        simpa [zo] using this
    · cases h
theorem adds_ok {room : Nat} : ∀ (r acc : List Itm), acc.length + r.length ≤ room → ((acc ++ r).map (·.name)).Nodup → (∀ x ∈ r, x.name.size ≤ 64 ∧ 1 ≤ x.many) → seen acc + seen r ≤ 4611686018427387904 → addsL room acc r = some (acc ++ r.map zo)
  | [], acc, _, _, _, _ => by simp [addsL]
  | x :: r, acc, hl, hn, hx, hs => by
    rw [seen_cons] at hs
    have hx1 := hx x (by simp)
    unfold addsL
    rw [if_pos (addC_zero_iff.2 ⟨hx1.1, hx1.2, by omega⟩)]
    have hp : plc x.name acc = none := by
      apply plc_no
      intro j hj e
      rw [List.map_append, List.nodup_append] at hn
      exact hn.2.2 _ (List.mem_map.2 ⟨_, mem_at hj, rfl⟩) x.name (by simp) e
    have hr : acc.length < room := by simp at hl; omega
    rw [addL_room hp hr]
    have := adds_ok (room := room) r (acc ++ [⟨x.name, x.many, 0⟩]) (by simp at hl ⊢; omega) (by simpa using hn) (fun y hy => hx y (by simp [hy])) (by rw [seen_append, seen_one]; simp only; omega)
    rw [this]
    simp [zo]
/-- The items are those of a top of that room, to which so many came. -/
def OkOf (room sn : Nat) (l : List Itm) : Prop := l.length ≤ room ∧ SortA l ∧ (∀ x ∈ l, x.name.size ≤ 64 ∧ 1 ≤ x.many) ∧ (l.map (·.name)).Nodup ∧ seen l ≤ 4611686018427387904 ∧ seen l = sn ∧ ∀ x ∈ l, x.over < x.many ∧ x.over ≤ leastL room l
theorem scanW_zo (l : List Itm) : ∀ n m i, m < l.length → i + n ≤ l.length → scanW (l.map zo) n m i = scanW l n m i
  | 0, _, _, _, _ => rfl
  | n + 1, m, i, hm, hi => by
    unfold scanW
    have h1 : (l.map zo)[i]! = zo l[i]! := by rw [getE _ _ (by simp; omega), getE l i (by omega)]; simp
    have h2 : (l.map zo)[m]! = zo l[m]! := by rw [getE _ _ (by simpa using hm), getE l m hm]; simp
    rw [h1, h2, show goes (zo l[i]!) (zo l[m]!) = goes l[i]! l[m]! from rfl]
    split
    · exact scanW_zo l n i (i + 1) (by omega) (by omega)
    · exact scanW_zo l n m (i + 1) hm (by omega)
theorem least_zo (room : Nat) (h0 : 1 ≤ room) (l : List Itm) : leastL room (l.map zo) = leastL room l := by
  unfold leastL
  rw [List.length_map]
  split
  · rfl
  · have hpos : 0 < l.length := by omega
    have hw : worst (l.map zo) = worst l := by
      unfold worst
      rw [List.length_map]
      exact scanW_zo l _ 0 1 hpos (by omega)
    rw [hw, getE _ _ (by simpa using worst_lt hpos), getE l _ (worst_lt hpos)]
    simp [zo]
theorem seen_zo (l : List Itm) : seen (l.map zo) = seen l := by
  unfold seen
  rw [List.map_map]
  rfl
/-- The first i with what is over of them, the others without. -/
def mixO (i : Nat) (l : List Itm) : List Itm := l.take i ++ (l.drop i).map zo
theorem mixO_zero (l : List Itm) : mixO 0 l = l.map zo := by simp [mixO]
theorem mixO_all (l : List Itm) : mixO l.length l = l := by simp [mixO]
theorem mixO_length (i : Nat) (l : List Itm) : (mixO i l).length = l.length := by simp [mixO]; omega
theorem mixO_at (i : Nat) (l : List Itm) (hi : i < l.length) : (mixO i l)[i]! = zo l[i]! := by
  rw [getE _ _ (by rw [mixO_length]; exact hi), getE l i hi]
  unfold mixO
  rw [List.getElem_append_right (by simp; omega)]
  simp [Nat.min_eq_left (Nat.le_of_lt hi)]
theorem mixO_step (i : Nat) (l : List Itm) (hi : i < l.length) : (mixO i l).set i ⟨l[i]!.name, l[i]!.many, l[i]!.over⟩ = mixO (i + 1) l := by
  unfold mixO
  rw [List.set_append_right _ _ (by simp; omega)]
  rw [List.drop_eq_getElem_cons hi, List.map_cons]
  have ht : l.take (i + 1) = l.take i ++ [l[i]] := by rw [List.take_add_one, List.getElem?_eq_getElem hi]; rfl
  rw [show i - (l.take i).length = 0 by simp; omega, List.set_cons_zero, ht, getE l i hi, List.append_assoc]
  rfl
theorem mixO_map (i : Nat) (l : List Itm) : (mixO i l).map (·.name) = l.map (·.name) ∧ (mixO i l).map (·.many) = l.map (·.many) := by
  unfold mixO
  constructor
  · rw [List.map_append, List.map_map, show ((fun x : Itm => x.name) ∘ zo) = (fun x => x.name) from rfl, ← List.map_append, List.take_append_drop]
  · rw [List.map_append, List.map_map, show ((fun x : Itm => x.many) ∘ zo) = (fun x => x.many) from rfl, ← List.map_append, List.take_append_drop]
theorem mixO_mem {i : Nat} {l : List Itm} {x : Itm} (h : x ∈ mixO i l) : (∃ j, j < i ∧ j < l.length ∧ x = l[j]!) ∨ ∃ y ∈ l, x = zo y := by
  unfold mixO at h
  rcases List.mem_append.1 h with h | h
  · left
    obtain ⟨j, hj, rfl⟩ := List.getElem_of_mem h
    simp at hj
    exact ⟨j, by omega, by omega, by rw [getE l j (by omega)]; simp⟩
  · right
    obtain ⟨y, hy, rfl⟩ := List.mem_map.1 h
    exact ⟨y, List.mem_of_mem_drop hy, rfl⟩
/-- Items of which all but what is over is right are a top's, as far as what is over was looked at. -/
theorem inv_mix {room i : Nat} {l : List Itm} (h1 : 1 ≤ room) (h16 : room ≤ 16) (hl : l.length ≤ room) (hx : ∀ x ∈ l, x.name.size ≤ 64 ∧ 1 ≤ x.many) (hn : (l.map (·.name)).Nodup) (hs : seen l ≤ 4611686018427387904)
    (ho : ∀ j, j < i → j < l.length → l[j]!.over < l[j]!.many ∧ l[j]!.over ≤ leastL room l) : Inv room (mixO i l) := by
  obtain ⟨m1, m2⟩ := mixO_map i l
  have hmem : ∀ x ∈ mixO i l, ∃ y ∈ l, x.name = y.name ∧ x.many = y.many := fun x hx => by
    rcases mixO_mem hx with ⟨j, _, hj, rfl⟩ | ⟨y, hy, rfl⟩
    · exact ⟨_, mem_at hj, rfl, rfl⟩
    · exact ⟨y, hy, rfl, rfl⟩
  have hov : ∀ x ∈ mixO i l, x.over < x.many ∧ x.over ≤ leastL room l := fun x hx' => by
    rcases mixO_mem hx' with ⟨j, hj, hjl, rfl⟩ | ⟨y, hy, rfl⟩
    · exact ho j hj hjl
    · have := (hx y hy).2
      exact ⟨by show 0 < y.many; omega, Nat.zero_le _⟩
  refine ⟨h1, h16, by rw [mixO_length]; exact hl, by rw [m1]; exact hn, fun x hxm => ?_, fun x hxm => (hov x hxm).1, fun x hxm => ?_, by unfold seen; rw [m2]; exact hs⟩
  · obtain ⟨y, hy, e, _⟩ := hmem x hxm
    rw [e]; exact (hx y hy).1
  · by_cases hr : l.length < room
    · have := (hov x hxm).2
      unfold leastL at this
      rw [if_pos hr] at this
      exact .inl (by omega)
    · refine .inr ⟨by rw [mixO_length]; omega, fun z hz => ?_⟩
      obtain ⟨y, hy, _, e⟩ := hmem z hz
      rw [e]
      refine Nat.le_trans (hov x hxm).2 ?_
      unfold leastL
      rw [if_neg hr]
      exact worst_le hy
theorem okOf_inv {room sn : Nat} {l : List Itm} (h1 : 1 ≤ room) (h16 : room ≤ 16) (h : OkOf room sn l) : Inv room l := by
  obtain ⟨a, _, c, d, e, _, g⟩ := h
  have := inv_mix (i := l.length) h1 h16 a c d e (fun j hj _ => g _ (mem_at hj))
  rwa [mixO_all] at this
theorem sortA_told {l : List Itm} (h : SortA l) : Told l := by
  unfold Told
  rw [List.pairwise_iff_getElem]
  have key : ∀ d i, i + d + 1 < l.length → tells l[i + d + 1]! l[i]! = false := by
    intro d
    induction d with
    | zero => intro i hi; exact h i hi
    | succ d ih =>
      intro i hi
      exact tells_ntrans (h (i + d + 1) (by omega)) (ih i (by omega))
  intro i j hi hj hij
  obtain ⟨d, rfl⟩ : ∃ d, j = i + d + 1 := ⟨j - i - 1, by omega⟩
  have := key d i hj
  rwa [getE l _ hj, getE l _ hi] at this
theorem told_sortA {l : List Itm} (h : Told l) : SortA l := by
  unfold Told at h
  rw [List.pairwise_iff_getElem] at h
  intro i hi
  rw [getE l _ hi, getE l i (by omega)]
  exact h i (i + 1) (by omega) hi (by omega)
/-- What is told of a top is items of it. -/
theorem okOf_told {room : Nat} {l s : List Itm} (h : Inv room l) (hp : s.Perm l) (ht : Told s) : OkOf room (seen l) s := by
  have hI := inv_perm h hp.symm
  refine ⟨hI.len, told_sortA ht, fun x hx => ⟨hI.names x hx, by have := hI.over x hx; omega⟩, hI.nd, hI.sum, seen_perm hp, fun x hx => ⟨hI.over x hx, ?_⟩⟩
  rcases hI.full x hx with h0 | ⟨h1, h2⟩
  · omega
  · unfold leastL
    have := h.lo
    rw [if_neg (by omega)]
    exact h2 _ (mem_at (worst_lt (by omega)))
end Go.Proofs.Ytnkhieackclniaa
