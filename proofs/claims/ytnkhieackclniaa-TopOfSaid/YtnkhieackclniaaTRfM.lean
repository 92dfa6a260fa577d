/- Items that may be a top, asked one by one. -/
import Derived.Test.YtnkhieackclniaaTRfD
namespace Go.Proofs.Ytnkhieackclniaa
open Go Go.RowKit

/-- What is asked of item j. -/
structure OkAt (r : Nat) (l : List Itm) (j : Nat) : Prop where
  nm : l[j]!.name.size ≤ 64
  ov : l[j]!.over < l[j]!.many
  mx : l[j]!.many ≤ 4611686018427387904
  la : l[j]!.over ≤ l[l.length - 1]!.many
  z : l.length < r → l[j]!.over = 0
  t : 0 < j → tells l[j - 1]! l[j]! = true
  d : ∀ k, k < j → l[k]!.name ≠ l[j]!.name
  s : seen (l.take (j + 1)) ≤ 4611686018427387904
theorem nodup_at {l : List Itm} : (l.map (·.name)).Nodup ↔ ∀ j, j < l.length → ∀ k, k < j → l[k]!.name ≠ l[j]!.name := by
  unfold List.Nodup
  rw [List.pairwise_iff_getElem]
  constructor
  · intro h j hj k hk
    have := h k j (by simpa using (by omega : k < l.length)) (by simpa using hj) hk
    rw [getE l k (by omega), getE l j hj]
    simpa using this
  · intro h i j hi hj hij
    rw [List.length_map] at hi hj
    have := h j hj i hij
    rw [getE l i hi, getE l j hj] at this
    simpa using this
theorem okOf_at {r sn : Nat} {l : List Itm} (h : OkOf r sn l) : ∀ j, j < l.length → OkAt r l j := by
  obtain ⟨a, b, c, d, e, f, g⟩ := h
  intro j hj
  have hm := mem_at hj
  have hd := nodup_at.1 d
  have hlast : l.length - 1 < l.length := by omega
  have hle := (g _ hm).2
  refine ⟨(c _ hm).1, (g _ hm).1, Nat.le_trans (many_le_seen hm) e, ?_, fun hr => ?_, fun h0 => ?_, hd j hj, Nat.le_trans (seen_take_le _ _) e⟩
  · unfold leastL at hle
    split at hle
    · omega
    · exact Nat.le_trans hle (worst_le (mem_at hlast))
  · unfold leastL at hle
    rw [if_pos hr] at hle
    omega
  · have h1 := b (j - 1) (by omega)
    rw [show j - 1 + 1 = j by omega] at h1
    cases h2 : tells l[j - 1]! l[j]! with
    | true => rfl
    | false => exact absurd (tells_tri h2 h1).2 (hd j hj (j - 1) (by omega))
theorem okOf_of {r sn : Nat} {l : List Itm} (hlen : l.length ≤ r) (h : ∀ j, j < l.length → OkAt r l j) (hs : seen l = sn) : OkOf r sn l := by
  have hdec : ∀ j i, i ≤ j → j < l.length → l[j]!.many ≤ l[i]!.many := by
    intro j
    induction j with
    | zero => intro i hi hj; obtain rfl : i = 0 := by omega
              exact Nat.le_refl _
    | succ j ih =>
      intro i hi hj
      by_cases e : i = j + 1
      · rw [e]; exact Nat.le_refl _
      · have h1 := ih i (by omega) (by omega)
        have h2 := (h (j + 1) hj).t (by omega)
        rw [show j + 1 - 1 = j by omega] at h2
        rcases tells_iff.1 h2 with h3 | h3
        · omega
        · omega
  refine ⟨hlen, fun i hi => ?_, fun x hx => ?_, nodup_at.2 fun j hj => (h j hj).d, ?_, hs, fun x hx => ?_⟩
  · have := (h (i + 1) hi).t (by omega)
    rw [show i + 1 - 1 = i by omega] at this
    exact tells_asymm this
  · obtain ⟨j, hj, rfl⟩ := at_mem hx
    exact ⟨(h j hj).nm, by have := (h j hj).ov; omega⟩
  · by_cases h0 : l.length = 0
    · rw [List.eq_nil_of_length_eq_zero h0]; decide
    · have := (h (l.length - 1) (by omega)).s
      rw [show l.length - 1 + 1 = l.length by omega, List.take_length] at this
      exact this
  · obtain ⟨j, hj, rfl⟩ := at_mem hx
    refine ⟨(h j hj).ov, ?_⟩
    unfold leastL
    split
    · rename_i hr
      rw [(h j hj).z hr]
      exact Nat.le_refl _
    · exact Nat.le_trans (h j hj).la (hdec _ _ (by have := worst_lt (l := l) (by omega); omega) (by omega))
end Go.Proofs.Ytnkhieackclniaa
