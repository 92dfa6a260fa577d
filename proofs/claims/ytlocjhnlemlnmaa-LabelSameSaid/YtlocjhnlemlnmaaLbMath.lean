/- Labels in order, and the key they make, as lists of bytes: what is sorted, that the order is one alone, that a key is split into what it was made of. No model in this text. -/
import Derived.Test.YtlocjhnlemlnmaaLxMath
namespace Go.Proofs.Ytlocjhnlemlnmaa

abbrev LabB := List UInt8 × List UInt8
/-- Byte by byte. -/
def ltB : List UInt8 → List UInt8 → Bool
  | [], [] => false
  | [], _ :: _ => true
  | _ :: _, [] => false
  | a :: r, b :: t => if a.toNat < b.toNat then true else if b.toNat < a.toNat then false else ltB r t
theorem ltB_irrefl : ∀ l, ltB l l = false
  | [] => rfl
  | a :: r => by simp only [ltB]; rw [if_neg (by omega), if_neg (by omega)]; exact ltB_irrefl r
theorem ltB_trans : ∀ {a b c : List UInt8}, ltB a b = true → ltB b c = true → ltB a c = true
  | [], [], _, h, _ => by simp [ltB] at h
  | [], _ :: _, [], _, h => by simp [ltB] at h
  | [], _ :: _, _ :: _, _, _ => rfl
  | _ :: _, [], _, h, _ => by simp [ltB] at h
  | _ :: _, _ :: _, [], _, h => by simp [ltB] at h
  | x :: a, y :: b, z :: c, h, g => by
    simp only [ltB] at h g ⊢
    by_cases h1 : x.toNat < y.toNat
    · by_cases g1 : y.toNat < z.toNat
      · rw [if_pos (by omega)]
      · rw [if_neg g1] at g
        by_cases g2 : z.toNat < y.toNat
        · rw [if_pos g2] at g; cases g
        · rw [if_pos (by omega)]
    · rw [if_neg h1] at h
      by_cases h2 : y.toNat < x.toNat
      · rw [if_pos h2] at h; cases h
      · rw [if_neg h2] at h
        by_cases g1 : y.toNat < z.toNat
        · rw [if_pos (by omega)]
        · rw [if_neg g1] at g
          by_cases g2 : z.toNat < y.toNat
          · rw [if_pos g2] at g; cases g
          · rw [if_neg g2] at g
            rw [if_neg (by omega), if_neg (by omega)]
            exact ltB_trans h g
theorem ltB_asymm {a b : List UInt8} (h : ltB a b = true) : ltB b a = false := by
  by_cases g : ltB b a = true
  · have := ltB_trans h g
    rw [ltB_irrefl] at this
    cases this
  · simpa using g
theorem ltB_tri : ∀ {a b : List UInt8}, ltB a b = false → ltB b a = false → a = b
  | [], [], _, _ => rfl
  | [], _ :: _, h, _ => by simp [ltB] at h
  | _ :: _, [], _, h => by simp [ltB] at h
  | x :: a, y :: b, h, g => by
    simp only [ltB] at h g
    by_cases h1 : x.toNat < y.toNat
    · rw [if_pos h1] at h; cases h
    · rw [if_neg h1] at h
      by_cases h2 : y.toNat < x.toNat
      · rw [if_pos h2] at g; cases g
      · rw [if_neg h2] at h g
        rw [if_neg h1] at g
        rw [ltB_tri h g, UInt8.toNat_inj.1 (show x.toNat = y.toNat by omega)]
theorem ltB_ne {a b : List UInt8} (h : ltB a b = true) : a ≠ b := by
  rintro rfl
  rw [ltB_irrefl] at h
  cases h

/-- Put in its place: none, if its name is there. -/
def insK (x : LabB) : List LabB → Option (List LabB)
  | [] => some [x]
  | y :: r => if ltB y.1 x.1 then (insK x r).map (y :: ·) else if y.1 = x.1 then none else some (x :: y :: r)
def sortG : List LabB → List LabB → Option (List LabB)
  | acc, [] => some acc
  | acc, x :: r => match insK x acc with
    | none => none
    | some a => sortG a r
def sortK (l : List LabB) : Option (List LabB) := sortG [] l
def SortedK (l : List LabB) : Prop := l.Pairwise (fun a b => ltB a.1 b.1 = true)
/-- No name comes twice. -/
def OnceK (l : List LabB) : Prop := l.Pairwise (fun a b => a.1 ≠ b.1)
theorem SortedK.once {l : List LabB} (h : SortedK l) : OnceK l := List.Pairwise.imp (fun h => ltB_ne h) h
theorem OnceK.perm {l m : List LabB} (h : OnceK l) (hp : l.Perm m) : OnceK m := List.Perm.pairwise hp h (fun h => Ne.symm h)

theorem insK_some : ∀ {x : LabB} {l s : List LabB}, SortedK l → insK x l = some s → SortedK s ∧ s.Perm (x :: l)
  | x, [], s, _, h => by
    simp only [insK, Option.some.injEq] at h
    subst h
    exact ⟨List.pairwise_singleton _ _, List.Perm.refl _⟩
  | x, y :: r, s, hl, h => by
    obtain ⟨h1, h2⟩ := List.pairwise_cons.1 hl
    simp only [insK] at h
    by_cases c : ltB y.1 x.1 = true
    · rw [if_pos c] at h
      cases hi : insK x r with
      | none => rw [hi] at h; cases h
      | some t =>
        rw [hi] at h
        obtain rfl := Option.some.inj h
        obtain ⟨g1, g2⟩ := insK_some h2 hi
        refine ⟨List.pairwise_cons.2 ⟨fun z hz => ?_, g1⟩, (List.Perm.cons y g2).trans (List.Perm.swap _ _ _)⟩
        rcases List.mem_cons.1 (g2.mem_iff.1 hz) with rfl | hz
        · exact c
        · exact h1 z hz
    · rw [if_neg c] at h
      by_cases e : y.1 = x.1
      · rw [if_pos e] at h; cases h
      · rw [if_neg e] at h
        obtain rfl := Option.some.inj h
        have hxy : ltB x.1 y.1 = true := by
          by_cases g : ltB x.1 y.1 = true
          · exact g
          · exact absurd (ltB_tri (by simpa using c) (by simpa using g)) e
        refine ⟨List.pairwise_cons.2 ⟨fun z hz => ?_, hl⟩, List.Perm.refl _⟩
        rcases List.mem_cons.1 hz with rfl | hz
        · exact hxy
        · exact ltB_trans hxy (h1 z hz)
theorem insK_none : ∀ {x : LabB} {l : List LabB}, insK x l = none → ∃ y ∈ l, y.1 = x.1
  | x, [], h => by simp [insK] at h
  | x, y :: r, h => by
    simp only [insK] at h
    by_cases c : ltB y.1 x.1 = true
    · rw [if_pos c] at h
      cases hi : insK x r with
      | none => obtain ⟨z, hz, e⟩ := insK_none hi; exact ⟨z, List.mem_cons_of_mem _ hz, e⟩
      | some t => rw [hi] at h; cases h
    · rw [if_neg c] at h
      by_cases e : y.1 = x.1
      · exact ⟨y, List.mem_cons_self, e⟩
      · rw [if_neg e] at h; cases h
theorem sortG_some : ∀ {l acc s : List LabB}, SortedK acc → sortG acc l = some s → SortedK s ∧ s.Perm (l ++ acc)
  | [], acc, s, ha, h => by
    simp only [sortG, Option.some.injEq] at h
    subst h
    exact ⟨ha, List.Perm.refl _⟩
  | x :: r, acc, s, ha, h => by
    simp only [sortG] at h
    cases hi : insK x acc with
    | none => rw [hi] at h; cases h
    | some t =>
      rw [hi] at h
      obtain ⟨g1, g2⟩ := insK_some ha hi
      obtain ⟨k1, k2⟩ := sortG_some g1 h
      exact ⟨k1, k2.trans ((List.Perm.append_left r g2).trans List.perm_middle)⟩
theorem sortG_none : ∀ {l acc : List LabB}, SortedK acc → sortG acc l = none → ¬ OnceK (l ++ acc)
  | [], acc, ha, h => by simp [sortG] at h
  | x :: r, acc, ha, h => fun ho => by
    simp only [sortG] at h
    obtain ⟨h1, h2⟩ := List.pairwise_cons.1 ho
    cases hi : insK x acc with
    | none =>
      obtain ⟨y, hy, e⟩ := insK_none hi
      exact h1 y (List.mem_append_right _ hy) e.symm
    | some t =>
      rw [hi] at h
      obtain ⟨g1, g2⟩ := insK_some ha hi
      exact sortG_none g1 h (OnceK.perm ho ((List.perm_middle.symm).trans (List.Perm.append_left r g2.symm)))
theorem sortK_some {l s : List LabB} (h : sortK l = some s) : SortedK s ∧ s.Perm l := by
  have := sortG_some (l := l) (acc := []) List.Pairwise.nil h
  rwa [List.append_nil] at this
theorem sortK_none {l : List LabB} (h : sortK l = none) : ¬ OnceK l := by
  have := sortG_none (l := l) (acc := []) List.Pairwise.nil h
  rwa [List.append_nil] at this
theorem sortK_once {l s : List LabB} (h : sortK l = some s) : OnceK l := (sortK_some h).1.once.perm (sortK_some h).2
/-- The order is one alone. -/
theorem sorted_one : ∀ {a b : List LabB}, SortedK a → SortedK b → a.Perm b → a = b
  | [], b, _, _, hp => (List.Perm.nil_eq hp)
  | x :: r, [], _, _, hp => by simp at hp
  | x :: r, y :: t, ha, hb, hp => by
    obtain ⟨h1, h2⟩ := List.pairwise_cons.1 ha
    obtain ⟨g1, g2⟩ := List.pairwise_cons.1 hb
    have hxy : x = y := by
      rcases List.mem_cons.1 (hp.mem_iff.1 (List.mem_cons_self (a := x))) with e | hx
      · exact e
      · rcases List.mem_cons.1 (hp.mem_iff.2 (List.mem_cons_self (a := y))) with e | hy
        · exact e.symm
        · have := ltB_asymm (g1 x hx)
          rw [h1 y hy] at this
          cases this
    subst hxy
    rw [sorted_one h2 g2 (List.Perm.cons_inv hp)]
/-- What is sorted one way is sorted any way. -/
theorem sortK_is {l s : List LabB} (hs : SortedK s) (hp : s.Perm l) : sortK l = some s := by
  cases h : sortK l with
  | none => exact absurd (hs.once.perm hp) (sortK_none h)
  | some t =>
    obtain ⟨h1, h2⟩ := sortK_some h
    rw [sorted_one h1 hs (h2.trans hp.symm)]
theorem sortK_perm {l m : List LabB} (hp : l.Perm m) : sortK l = sortK m := by
  cases h : sortK m with
  | none =>
    cases g : sortK l with
    | none => rfl
    | some t => exact absurd ((sortK_once g).perm hp) (sortK_none h)
  | some t =>
    obtain ⟨h1, h2⟩ := sortK_some h
    exact sortK_is h1 (h2.trans hp.symm)

/-- A text behind a byte of how long it is. -/
def txK (s : List UInt8) : List UInt8 := UInt8.ofNat s.length :: s
def labK (x : LabB) : List UInt8 := txK x.1 ++ txK x.2
/-- The key of a name and of labels that are sorted. -/
def keyK (n : List UInt8) (ls : List LabB) : List UInt8 := txK n ++ UInt8.ofNat ls.length :: ls.flatMap labK
/-- A text off the front. -/
def takeK : List UInt8 → List UInt8 × List UInt8
  | [] => ([], [])
  | c :: r => (r.take c.toNat, r.drop c.toNat)
def takesK : Nat → List UInt8 → List LabB × List UInt8
  | 0, l => ([], l)
  | k + 1, l => (((takeK l).1, (takeK (takeK l).2).1) :: (takesK k (takeK (takeK l).2).2).1, (takesK k (takeK (takeK l).2).2).2)
theorem ofNat_small {n : Nat} (h : n ≤ 255) : (UInt8.ofNat n).toNat = n := by
  rw [UInt8.toNat_ofNat']
  omega
theorem takeK_tx {s : List UInt8} (h : s.length ≤ 255) (r : List UInt8) : takeK (txK s ++ r) = (s, r) := by
  simp only [txK, List.cons_append, takeK]
  rw [ofNat_small h, List.take_left' rfl, List.drop_left' rfl]
def FitK (x : LabB) : Prop := x.1.length ≤ 255 ∧ x.2.length ≤ 255
theorem takesK_back : ∀ (ls : List LabB), (∀ x ∈ ls, FitK x) → ∀ r, takesK ls.length (ls.flatMap labK ++ r) = (ls, r)
  | [], _, r => rfl
  | x :: t, h, r => by
    obtain ⟨h1, h2⟩ := h x (by simp)
    have ih := takesK_back t (fun y hy => h y (by simp [hy])) r
    simp only [List.length_cons, takesK, List.flatMap_cons, labK, List.append_assoc]
    rw [takeK_tx h1]
    simp only
    rw [takeK_tx h2]
    simp only
    rw [ih]
/-- What a key holds is what it was made of. -/
theorem keyK_parts {n : List UInt8} {ls : List LabB} (hn : n.length ≤ 255) (hl : ls.length ≤ 255) (h : ∀ x ∈ ls, FitK x) :
    takeK (keyK n ls) = (n, UInt8.ofNat ls.length :: ls.flatMap labK) ∧ (UInt8.ofNat ls.length).toNat = ls.length ∧ takesK ls.length (ls.flatMap labK) = (ls, []) := by
  refine ⟨takeK_tx hn _, ofNat_small hl, ?_⟩
  have := takesK_back ls h []
  rwa [List.append_nil] at this
theorem keyK_inj {n m : List UInt8} {ls ts : List LabB} (hn : n.length ≤ 255) (hm : m.length ≤ 255) (hl : ls.length ≤ 255) (ht : ts.length ≤ 255) (h : ∀ x ∈ ls, FitK x) (g : ∀ x ∈ ts, FitK x) (e : keyK n ls = keyK m ts) : n = m ∧ ls = ts := by
  obtain ⟨a1, a2, a3⟩ := keyK_parts hn hl h
  obtain ⟨b1, b2, b3⟩ := keyK_parts hm ht g
  rw [e, b1] at a1
  simp only [Prod.mk.injEq, List.cons.injEq] at a1
  obtain ⟨rfl, c1, c2⟩ := a1
  have hlen : ls.length = ts.length := by rw [← a2, ← b2, c1]
  rw [← c2, hlen, b3] at a3
  simp only [Prod.mk.injEq, and_true] at a3
  exact ⟨rfl, a3.symm⟩
/-- Two keys of names and of labels that are sorted. -/
theorem key_same {n m : List UInt8} {l k ls ts : List LabB} (hs : sortK l = some ls) (ht : sortK k = some ts) (hn : n.length ≤ 255) (hm : m.length ≤ 255) (hl : l.length ≤ 255) (hk : k.length ≤ 255) (h : ∀ x ∈ l, FitK x) (g : ∀ x ∈ k, FitK x) : keyK n ls = keyK m ts ↔ n = m ∧ l.Perm k := by
  obtain ⟨h1, h2⟩ := sortK_some hs
  obtain ⟨g1, g2⟩ := sortK_some ht
  constructor
  · intro e
    obtain ⟨e1, e2⟩ := keyK_inj hn hm (by rw [h2.length_eq]; exact hl) (by rw [g2.length_eq]; exact hk) (fun x hx => h x (h2.mem_iff.1 hx)) (fun x hx => g x (g2.mem_iff.1 hx)) e
    subst e2
    exact ⟨e1, h2.symm.trans g2⟩
  · rintro ⟨rfl, hp⟩
    rw [sortK_perm hp, ht] at hs
    rw [Option.some.inj hs]
theorem labs_len2 : ∀ (ls : List LabB) (k : Nat), (∀ x ∈ ls, x.1.length = k ∧ x.2.length = k) → (ls.flatMap labK).length = 2 * ls.length * (k + 1)
  | [], k, _ => by simp
  | x :: t, k, h => by
    have ih := labs_len2 t k fun y hy => h y (by simp [hy])
    obtain ⟨h1, h2⟩ := h x (by simp)
    simp only [List.flatMap_cons, List.length_append, ih, labK, txK, List.length_cons, h1, h2]
    rw [show 2 * (t.length + 1) = 2 * t.length + 2 by omega, Nat.add_mul]
    omega
theorem keyK_len (n : List UInt8) (ls : List LabB) : (keyK n ls).length = n.length + 2 + (ls.flatMap labK).length := by
  simp only [keyK, txK, List.length_append, List.length_cons]
  omega
theorem getK_sorted {l : List LabB} (hs : SortedK l) {x y : LabB} (hx : x ∈ l) (hy : y ∈ l) (e : x.1 = y.1) : x = y := by
  induction l with
  | nil => simp at hx
  | cons z r ih =>
    obtain ⟨h1, h2⟩ := List.pairwise_cons.1 hs
    rcases List.mem_cons.1 hx with rfl | hx1
    · rcases List.mem_cons.1 hy with rfl | hy1
      · rfl
      · exact absurd e (ltB_ne (h1 y hy1))
    · rcases List.mem_cons.1 hy with rfl | hy1
      · exact absurd e.symm (ltB_ne (h1 x hx1))
      · exact ih h2 hx1 hy1
end Go.Proofs.Ytlocjhnlemlnmaa
