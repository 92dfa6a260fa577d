/- A key with a byte more, or less, is none; keys of few labels. No walk in this text. -/
import Derived.Test.YtlocjhnlemlnmaaLbZ
namespace Go.Proofs.Ytlocjhnlemlnmaa.Lx
open Go Go.RowKit

theorem read_more {n s : List UInt8} {ls : List LabB} (h : IsKey n ls s) (r : List UInt8) : readP (s ++ r) = (n, ls) := by
  obtain ⟨h1, h2, rfl⟩ := h
  obtain ⟨g1, g2, g3, _⟩ := keyE_ok h1
  have hn := (named_short g2).2
  have e : keyK n ls ++ r = txK n ++ (UInt8.ofNat ls.length :: (ls.flatMap labK ++ r)) := by simp [keyK]
  unfold readP
  rw [e, takeK_tx (by omega)]
  simp only [numK]
  rw [ofNat_small (by omega), takesK_back ls (all_fit g3)]
theorem key_more {n s : List UInt8} {ls : List LabB} (h : IsKey n ls s) (x : UInt8) : splitP (s ++ [x]) = none := by
  cases hR : splitP (s ++ [x]) with
  | none => rfl
  | some y =>
    obtain ⟨m, ts⟩ := y
    have k := splitP_some hR
    have e := read_more h [x]
    rw [k.read.2.1] at e
    simp only [Prod.mk.injEq] at e
    obtain ⟨rfl, rfl⟩ := e
    have hl := congrArg List.length (k.2.2.trans h.2.2.symm)
    rw [List.length_append, List.length_singleton] at hl
    omega
theorem key_less {n s : List UInt8} {ls : List LabB} (h : IsKey n ls s) : splitP (s.take (s.length - 1)) = none := by
  cases hR : splitP (s.take (s.length - 1)) with
  | none => rfl
  | some y =>
    obtain ⟨m, ts⟩ := y
    have k := splitP_some hR
    have hne : s ≠ [] := by
      rw [h.2.2]
      simp [keyK, txK]
    have hpos := List.length_pos_iff.2 hne
    have e : s = s.take (s.length - 1) ++ [s[s.length - 1]'(by omega)] := by
      have := List.take_succ_eq_append_getElem (l := s) (i := s.length - 1) (by omega)
      rw [← this, show s.length - 1 + 1 = s.length by omega, List.take_length]
    have g := key_more k (s[s.length - 1]'(by omega))
    rw [← e, splitP_of h] at g
    cases g
theorem plain_take {l : List UInt8} (h : plainL l = true) (k : Nat) : plainL (l.take k) = true := by
  unfold plainL at *
  rw [List.all_eq_true] at *
  exact fun x hx => h x (List.mem_of_mem_take hx)
theorem fewAt_ok {l : List ItemV} {k : Nat} (h : k < l.length) : okL (fewAt l k) = true ∧ (fewAt l k).1.length ≤ 13 ∧ (fewAt l k).2.length ≤ 13 := by
  rw [fewAt_of h]
  have h1 := wordS_len l[k].xs
  have h2 := wordS_len (l[l.length - 1 - k]'(by omega)).xs
  refine ⟨?_, by rw [List.length_take]; omega, h2⟩
  unfold okL
  rw [Bool.and_eq_true]
  refine ⟨?_, wordS_named _⟩
  rw [named_mid (by simp [wordS]) (by rw [List.length_take]; omega)]
  exact plain_take (wordS_plain _) 3
theorem fewS_ok (l : List ItemV) : (fewS l).all okL = true ∧ ∀ x ∈ fewS l, x.1.length ≤ 13 ∧ x.2.length ≤ 13 := by
  constructor
  · rw [List.all_eq_true]
    intro x hx
    obtain ⟨k, hk, rfl⟩ := List.mem_map.1 hx
    rw [List.mem_range] at hk
    exact (fewAt_ok (by omega)).1
  · intro x hx
    obtain ⟨k, hk, rfl⟩ := List.mem_map.1 hx
    rw [List.mem_range] at hk
    exact (fewAt_ok (by omega)).2
theorem labs_small : ∀ (ls : List LabB), (∀ x ∈ ls, x.1.length ≤ 13 ∧ x.2.length ≤ 13) → (ls.flatMap labK).length ≤ 28 * ls.length
  | [], _ => by simp
  | x :: t, h => by
    have ih := labs_small t fun y hy => h y (by simp [hy])
    obtain ⟨h1, h2⟩ := h x (by simp)
    simp only [List.flatMap_cons, List.length_append, labK, txK, List.length_cons]
    omega
theorem few_none {N : List UInt8} {ls : List LabB} (hN : namedL N = true) (hl : ls.length ≤ 16) (hk : ls.all okL = true) (h : sortK ls = none) : keyE N ls = .error 11 := by
  rw [keyE_fine hl hN hk, h]
theorem few_some {N : List UInt8} {ls s : List LabB} (hN : namedL N = true) (hN2 : N.length ≤ 13) (hl : ls.length ≤ 16) (hk : ls.all okL = true) (hf : ∀ x ∈ ls, x.1.length ≤ 13 ∧ x.2.length ≤ 13) (h : sortK ls = some s) : keyE N ls = .ok (keyK N s) ∧ IsKey N s (keyK N s) := by
  obtain ⟨h1, h2⟩ := sortK_some h
  have hs := labs_small s fun x hx => hf x (h2.mem_iff.1 hx)
  have hsl := h2.length_eq
  have e : keyE N ls = .ok (keyK N s) := by
    rw [keyE_fine hl hN hk, h]
    have : ¬ 2048 < (keyK N s).length := by
      simp only [keyK, txK, List.length_append, List.length_cons]
      omega
    simp only [this, if_false]
  exact ⟨e, by rw [← keyE_perm h2.symm]; exact e, h1, rfl⟩
end Go.Proofs.Ytlocjhnlemlnmaa.Lx
