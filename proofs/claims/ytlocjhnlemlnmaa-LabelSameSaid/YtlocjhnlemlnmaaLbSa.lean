/- LabelSame's lists: labels of two letters, each name once; two lists with the same labels. No walk in this text. -/
import Derived.Test.YtlocjhnlemlnmaaLbKb
namespace Go.Proofs.Ytlocjhnlemlnmaa.Lx
open Go Go.RowKit

def letB (x : Nat) : LabB := ([UInt8.ofNat (97 + x % 5)], [UInt8.ofNat (97 + x / 5 % 3)])
def listG : List LabB → List Nat → List LabB
  | out, [] => out
  | out, x :: r => listG (if (getK out (letB x).1).isSome then out else out ++ [letB x]) r
def listS (hs : List Nat) : List LabB := listG [] (hs.take 6)
theorem listG_append : ∀ (l m : List Nat) (out : List LabB), listG out (l ++ m) = listG (listG out l) m
  | [], _, _ => rfl
  | x :: r, m, out => by
    rw [List.cons_append]
    exact listG_append r m _
theorem getK_mem {l : List LabB} {n v : List UInt8} (h : getK l n = some v) : (n, v) ∈ l := by
  induction l with
  | nil => cases h
  | cons x r ih =>
    rw [getK_cons] at h
    split at h
    · rename_i hx
      have := Option.some.inj h
      subst hx this
      exact List.mem_cons_self
    · exact List.mem_cons_of_mem _ (ih h)
theorem getK_no {l : List LabB} {n : List UInt8} (h : (getK l n).isSome = false) : ∀ x ∈ l, x.1 ≠ n := by
  induction l with
  | nil => intro x hx; cases hx
  | cons y r ih =>
    rw [getK_cons] at h
    split at h
    · cases h
    · rename_i hy
      intro x hx
      rcases List.mem_cons.1 hx with rfl | hx
      · exact hy
      · exact ih h x hx
/-- What each of these lists is. -/
structure Lets (l : List LabB) : Prop where
  once : OnceK l
  ok : l.all okL = true
  fit : ∀ x ∈ l, x.1.length ≤ 13 ∧ x.2.length ≤ 13
theorem letB_ok (x : Nat) : okL (letB x) = true := by
  have h : ∀ i, i < 18 → namedL [UInt8.ofNat (97 + i)] = true := fun i hi => by
    rw [named_mid (by simp) (by simp)]
    unfold plainL
    simp only [List.all_cons, List.all_nil, Bool.and_true]
    rw [okB_nat, ofNat_small (by omega)]
    simp
    omega
  unfold okL letB
  rw [Bool.and_eq_true]
  exact ⟨h _ (by omega), h _ (by omega)⟩
theorem Lets.nil : Lets [] := ⟨List.Pairwise.nil, rfl, fun x hx => by cases hx⟩
theorem Lets.next {l : List LabB} (h : Lets l) {x : Nat} (hn : (getK l (letB x).1).isSome = false) : Lets (l ++ [letB x]) := by
  refine ⟨?_, ?_, fun y hy => ?_⟩
  · unfold OnceK
    rw [List.pairwise_append]
    exact ⟨h.once, List.pairwise_singleton _ _, fun a ha b hb => by rw [List.mem_singleton.1 hb]; exact getK_no hn a ha⟩
  · rw [List.all_append, h.ok]
    simp [letB_ok]
  · rcases List.mem_append.1 hy with hy | hy
    · exact h.fit y hy
    · rw [List.mem_singleton.1 hy]
      simp [letB]
theorem listG_lets : ∀ (l : List Nat) (out : List LabB), Lets out → Lets (listG out l) ∧ (listG out l).length ≤ out.length + l.length
  | [], out, h => ⟨h, Nat.le_refl _⟩
  | x :: r, out, h => by
    unfold listG
    by_cases hx : (getK out (letB x).1).isSome
    · rw [if_pos hx]
      obtain ⟨h1, h2⟩ := listG_lets r out h
      exact ⟨h1, by rw [List.length_cons]; omega⟩
    · rw [if_neg hx]
      obtain ⟨h1, h2⟩ := listG_lets r _ (h.next (by simpa using hx))
      exact ⟨h1, by rw [List.length_append, List.length_singleton] at h2; rw [List.length_cons]; omega⟩
theorem listS_lets (hs : List Nat) : Lets (listS hs) ∧ (listS hs).length ≤ 6 := by
  obtain ⟨h1, h2⟩ := listG_lets (hs.take 6) [] Lets.nil
  exact ⟨h1, by rw [List.length_take, List.length_nil] at h2; unfold listS; omega⟩
/-- Of as many labels as y has each is in y: then x is y, in whatever order. -/
theorem perm_of_in : ∀ (x y : List LabB), OnceK x → (∀ a ∈ x, a ∈ y) → x.length = y.length → x.Perm y
  | [], y, _, _, hl => by rw [List.eq_nil_of_length_eq_zero hl.symm]
  | a :: r, y, ho, hi, hl => by
    obtain ⟨y1, y2, rfl⟩ := List.append_of_mem (hi a List.mem_cons_self)
    obtain ⟨o1, o2⟩ := List.pairwise_cons.1 ho
    have hr := perm_of_in r (y1 ++ y2) o2 (fun b hb => by
      have := hi b (List.mem_cons_of_mem _ hb)
      have hne : b ≠ a := fun e => o1 b hb (by rw [e])
      simp only [List.mem_append, List.mem_cons] at this ⊢
      rcases this with h | h | h
      · exact .inl h
      · exact absurd h hne
      · exact .inr h) (by simp only [List.length_cons, List.length_append] at hl ⊢; omega)
    exact (hr.cons a).trans List.perm_middle.symm
theorem alike_perm {x y : List LabB} (hx : OnceK x) (hy : OnceK y) : (x.length = y.length ∧ ∀ a ∈ x, getK y a.1 = some a.2) ↔ x.Perm y := by
  constructor
  · rintro ⟨h1, h2⟩
    exact perm_of_in x y hx (fun a ha => getK_mem (h2 a ha)) h1
  · intro h
    exact ⟨h.length_eq, fun a ha => getK_once hy (h.mem_iff.1 ha)⟩
theorem lets_key {N : List UInt8} {l : List LabB} (hN : namedL N = true) (hN2 : N.length ≤ 13) (h : Lets l) (hl : l.length ≤ 6) : ∃ s, sortK l = some s ∧ keyE N l = .ok (keyK N s) := by
  cases hs : sortK l with
  | none => exact absurd h.once (sortK_none hs)
  | some s => exact ⟨s, rfl, (few_some hN hN2 (by omega) h.ok h.fit hs).1⟩
theorem lets_same {n m : List UInt8} {l k s t : List LabB} (hn : n.length ≤ 13) (hm : m.length ≤ 13) (h : Lets l) (g : Lets k) (hl : l.length ≤ 6) (hk : k.length ≤ 6) (hs : sortK l = some s) (ht : sortK k = some t) : keyK n s = keyK m t ↔ n = m ∧ l.length = k.length ∧ ∀ a ∈ l, getK k a.1 = some a.2 := by
  rw [alike_perm h.once g.once]
  exact key_same hs ht (by omega) (by omega) (by omega) (by omega) (fun x hx => by have := h.fit x hx; exact ⟨by omega, by omega⟩) (fun x hx => by have := g.fit x hx; exact ⟨by omega, by omega⟩)
end Go.Proofs.Ytlocjhnlemlnmaa.Lx
