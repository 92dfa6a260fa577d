/- A key, or why there is none; what a key's bytes tell; both ways to read them tell the same. No model in this text. -/
import Derived.Test.YtlocjhnlemlnmaaLbSort
namespace Go.Proofs.Ytlocjhnlemlnmaa

def shortL (n : List UInt8) : Bool := !n.isEmpty && decide (n.length ≤ 64)
def namedL (n : List UInt8) : Bool := plainL n && shortL n
theorem named_empty : namedL [] = false := rfl
theorem named_long {l : List UInt8} (h : 64 < l.length) : namedL l = false := by
  unfold namedL shortL
  rw [decide_eq_false (by omega)]
  simp
theorem named_mid {l : List UInt8} (h0 : l ≠ []) (h : l.length ≤ 64) : namedL l = plainL l := by
  unfold namedL shortL
  rw [decide_eq_true h]
  cases l with
  | nil => exact absurd rfl h0
  | cons => simp
theorem named_short {l : List UInt8} (h : namedL l = true) : 1 ≤ l.length ∧ l.length ≤ 64 := by
  unfold namedL shortL at h
  simp only [Bool.and_eq_true, decide_eq_true_eq] at h
  refine ⟨?_, h.2.2⟩
  cases l with
  | nil => simp at h
  | cons => simp
def okL (x : LabB) : Bool := namedL x.1 && namedL x.2
theorem okL_fit {x : LabB} (h : okL x = true) : x.1.length ≤ 64 ∧ x.2.length ≤ 64 := by
  unfold okL at h
  rw [Bool.and_eq_true] at h
  exact ⟨(named_short h.1).2, (named_short h.2).2⟩
theorem all_fit {ls : List LabB} (h : ls.all okL = true) : ∀ x ∈ ls, FitK x := fun x hx => by
  have := okL_fit (List.all_eq_true.1 h x hx)
  exact ⟨by omega, by omega⟩
/-- The key, or the error's number. -/
def keyE (n : List UInt8) (ls : List LabB) : Except Nat (List UInt8) :=
  if 16 < ls.length || !namedL n || !ls.all okL then .error 1
  else match sortK ls with
    | none => .error 11
    | some s => if 2048 < (keyK n s).length then .error 3 else .ok (keyK n s)
theorem keyE_many {n : List UInt8} {ls : List LabB} (h : 16 < ls.length) : keyE n ls = .error 1 := by simp [keyE, h]
theorem keyE_name {n : List UInt8} {ls : List LabB} (h : namedL n = false) : keyE n ls = .error 1 := by simp [keyE, h]
theorem keyE_all {n : List UInt8} {ls : List LabB} (h : ls.all okL = false) : keyE n ls = .error 1 := by unfold keyE; rw [h]; simp
theorem keyE_fine {n : List UInt8} {ls : List LabB} (h1 : ls.length ≤ 16) (h2 : namedL n = true) (h3 : ls.all okL = true) : keyE n ls = match sortK ls with
    | none => .error 11
    | some s => if 2048 < (keyK n s).length then .error 3 else .ok (keyK n s) := by
  unfold keyE
  rw [h2, h3]
  simp only [Bool.not_true, Bool.or_false]
  rw [if_neg (by simp; omega)]
theorem keyE_ok {n k : List UInt8} {ls : List LabB} (h : keyE n ls = .ok k) : ls.length ≤ 16 ∧ namedL n = true ∧ ls.all okL = true ∧ ∃ s, sortK ls = some s ∧ k = keyK n s ∧ k.length ≤ 2048 := by
  unfold keyE at h
  split at h
  · cases h
  rename_i hc
  simp only [Bool.or_eq_true, Bool.not_eq_true', decide_eq_true_eq, not_or, Bool.not_eq_false] at hc
  refine ⟨by omega, hc.1.2, hc.2, ?_⟩
  split at h
  · cases h
  · rename_i s hs
    split at h
    · cases h
    · rename_i h3
      obtain rfl := Except.ok.inj h
      exact ⟨s, hs, rfl, by omega⟩
theorem keyE_perm {n : List UInt8} {l m : List LabB} (h : l.Perm m) : keyE n l = keyE n m := by
  unfold keyE
  rw [h.length_eq, sortK_perm h]
  have : l.all okL = m.all okL := by
    rw [Bool.eq_iff_iff, List.all_eq_true, List.all_eq_true]
    exact ⟨fun g x hx => g x (h.mem_iff.2 hx), fun g x hx => g x (h.mem_iff.1 hx)⟩
  rw [this]

/-- A number off the front: 0 of nothing. -/
def numK : List UInt8 → Nat × List UInt8
  | [] => (0, [])
  | c :: r => (c.toNat, r)
/-- What is read of any bytes. -/
def readP (s : List UInt8) : List UInt8 × List LabB := ((takeK s).1, (takesK (numK (takeK s).2).1 (numK (takeK s).2).2).1)
def okIs (s : List UInt8) : Except Nat (List UInt8) → Bool
  | .ok k => decide (k = s)
  | .error _ => false
theorem okIs_iff {s : List UInt8} {e : Except Nat (List UInt8)} : okIs s e = true ↔ e = .ok s := by
  cases e with
  | ok k => simp [okIs]
  | error k => simp [okIs]
def splitP (s : List UInt8) : Option (List UInt8 × List LabB) := if okIs s (keyE (readP s).1 (readP s).2) then some (readP s) else none
/-- The chapter's way. -/
def readR (s : List UInt8) : List UInt8 × List LabB := ((takeK s).1, (takesK (min (numK (takeK s).2).1 17) (numK (takeK s).2).2).1)
def splitR (s : List UInt8) : Option (List UInt8 × List LabB) := if (takeK s).2 = [] then none else if okIs s (keyE (readR s).1 (readR s).2) then some (readR s) else none
/-- A key's own parts. -/
def IsKey (n : List UInt8) (ls : List LabB) (s : List UInt8) : Prop := keyE n ls = .ok s ∧ SortedK ls ∧ s = keyK n ls
theorem IsKey.read {n s : List UInt8} {ls : List LabB} (h : IsKey n ls s) : (takeK s).2 ≠ [] ∧ readP s = (n, ls) ∧ readR s = (n, ls) := by
  obtain ⟨h1, h2, rfl⟩ := h
  obtain ⟨g1, g2, g3, _⟩ := keyE_ok h1
  obtain ⟨p1, p2, p3⟩ := keyK_parts (n := n) (ls := ls) (by have := named_short g2; omega) (by omega) (all_fit g3)
  unfold readP readR
  rw [p1]
  simp only [numK, p2]
  rw [Nat.min_eq_left (by omega), p3]
  exact ⟨by simp, rfl, rfl⟩
theorem isKey_of {n s : List UInt8} {ls : List LabB} (h : keyE n ls = .ok s) : ∃ t, IsKey n t s ∧ t.Perm ls := by
  obtain ⟨g1, g2, g3, t, ht, hs, h4⟩ := keyE_ok h
  obtain ⟨k1, k2⟩ := sortK_some ht
  exact ⟨t, ⟨by rw [keyE_perm k2]; exact h, k1, hs⟩, k2⟩
theorem splitP_some {s n : List UInt8} {ls : List LabB} (h : splitP s = some (n, ls)) : IsKey n ls s := by
  unfold splitP at h
  split at h
  · rename_i hk
    rw [okIs_iff] at hk
    obtain ⟨t, ht, _⟩ := isKey_of hk
    obtain ⟨_, r, _⟩ := ht.read
    rw [Option.some.inj h] at hk ht r
    simp only [Prod.mk.injEq, true_and] at r
    rw [r]
    exact ht
  · cases h
theorem splitP_of {s n : List UInt8} {ls : List LabB} (h : IsKey n ls s) : splitP s = some (n, ls) := by
  unfold splitP
  rw [h.read.2.1, if_pos (okIs_iff.2 h.1)]
theorem splitR_some {s n : List UInt8} {ls : List LabB} (h : splitR s = some (n, ls)) : IsKey n ls s := by
  unfold splitR at h
  split at h
  · cases h
  split at h
  · rename_i hk
    rw [okIs_iff] at hk
    obtain ⟨t, ht, _⟩ := isKey_of hk
    obtain ⟨_, _, r⟩ := ht.read
    rw [Option.some.inj h] at hk ht r
    simp only [Prod.mk.injEq, true_and] at r
    rw [r]
    exact ht
  · cases h
theorem splitR_of {s n : List UInt8} {ls : List LabB} (h : IsKey n ls s) : splitR s = some (n, ls) := by
  unfold splitR
  rw [if_neg h.read.1, h.read.2.2, if_pos (okIs_iff.2 h.1)]
theorem split_same (s : List UInt8) : splitP s = splitR s := by
  cases h : splitP s with
  | some x =>
    obtain ⟨n, ls⟩ := x
    exact (splitR_of (splitP_some h)).symm
  | none =>
    cases g : splitR s with
    | none => rfl
    | some x =>
      obtain ⟨n, ls⟩ := x
      rw [splitP_of (splitR_some g)] at h
      cases h
/-- A key as a line begins with it. -/
def labT (x : LabB) : List UInt8 := 44 :: (escL x.1 ++ 61 :: escL x.2)
def textK (n : List UInt8) (ls : List LabB) : List UInt8 := escL n ++ ls.flatMap labT
def textS (s : List UInt8) : List UInt8 := match splitP s with
  | none => []
  | some x => textK x.1 x.2
def metricS (s : List UInt8) : List UInt8 := match splitP s with
  | none => []
  | some x => x.1
theorem takesK_len : ∀ (k : Nat) (l : List UInt8), (takesK k l).1.length = k
  | 0, _ => rfl
  | k + 1, l => by simp only [takesK, List.length_cons, takesK_len k]
/-- The value of the first of that name. -/
def getK (l : List LabB) (n : List UInt8) : Option (List UInt8) := (l.find? fun x => decide (x.1 = n)).map (·.2)
theorem getK_cons (x : LabB) (r : List LabB) (n : List UInt8) : getK (x :: r) n = if x.1 = n then some x.2 else getK r n := by
  unfold getK
  by_cases h : x.1 = n
  · simp [h]
  · simp [h]
theorem getK_none {l : List LabB} {n : List UInt8} (h : ∀ x ∈ l, x.1 ≠ n) : getK l n = none := by
  induction l with
  | nil => rfl
  | cons x r ih =>
    rw [getK_cons, if_neg (h x (by simp)), ih fun y hy => h y (by simp [hy])]
theorem getK_once {l : List LabB} (ho : OnceK l) {x : LabB} (hx : x ∈ l) : getK l x.1 = some x.2 := by
  induction l with
  | nil => simp at hx
  | cons y r ih =>
    obtain ⟨h1, h2⟩ := List.pairwise_cons.1 ho
    rw [getK_cons]
    rcases List.mem_cons.1 hx with rfl | hx
    · rw [if_pos rfl]
    · rw [if_neg (h1 x hx), ih h2 hx]
end Go.Proofs.Ytlocjhnlemlnmaa
