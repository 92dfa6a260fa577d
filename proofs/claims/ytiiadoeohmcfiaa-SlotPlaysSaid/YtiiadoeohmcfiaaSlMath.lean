/- Places of keys by their sums: what a search finds, and how the places behind a gap close up. No model in this text. -/
namespace Sl

/-- The place so far behind another one, of 512, round. -/
def plc (h j : Nat) : Nat := (h + j) % 512
/-- How far place p is behind place h. -/
def dst (h p : Nat) : Nat := (p + 512 - h) % 512
theorem plc_lt (h j : Nat) : plc h j < 512 := Nat.mod_lt _ (by omega)
theorem dst_lt (h p : Nat) : dst h p < 512 := Nat.mod_lt _ (by omega)
theorem plc_dst {h p : Nat} (hh : h < 512) (hp : p < 512) : plc h (dst h p) = p := by unfold plc dst; omega
theorem dst_plc {h j : Nat} (hh : h < 512) (hj : j < 512) : dst h (plc h j) = j := by unfold plc dst; omega
theorem plc_inj {h i j : Nat} (hi : i < 512) (hj : j < 512) (e : plc h i = plc h j) : i = j := by unfold plc at e; omega
theorem plc_zero {h : Nat} (hh : h < 512) : plc h 0 = h := by unfold plc; omega
theorem plc_next (h j : Nat) : (plc h j + 1) % 512 = plc h (j + 1) := by unfold plc; omega

/-- More numbers than there are below n: two are the same. -/
theorem pigeon : ∀ (n : Nat) (f : Nat → Nat), (∀ i, i < n + 1 → f i < n) → ∃ i j, i < j ∧ j < n + 1 ∧ f i = f j
  | 0, f, h => absurd (h 0 (by omega)) (Nat.not_lt_zero _)
  | n + 1, f, h => by
    by_cases hc : ∃ i, i < n + 1 ∧ f i = f (n + 1)
    · obtain ⟨i, h1, h2⟩ := hc
      exact ⟨i, n + 1, h1, by omega, h2⟩
    · have hne : ∀ i, i < n + 1 → f i ≠ f (n + 1) := fun i hi e => hc ⟨i, hi, e⟩
      obtain ⟨i, j, h1, h2, h3⟩ := pigeon n (fun i => if f i < f (n + 1) then f i else f i - 1) (fun i hi => by
        have a := h i (by omega)
        have b := h (n + 1) (by omega)
        have c := hne i hi
        show (if f i < f (n + 1) then f i else f i - 1) < n
        split <;> omega)
      have c1 := hne i (by omega)
      have c2 := hne j (by omega)
      refine ⟨i, j, h1, by omega, ?_⟩
      split at h3 <;> split at h3 <;> omega

section
variable {S : Type} (z : S)

/-- Which slot a place has. -/
abbrev En := Nat → Option Nat

/-- Each entry is a slot that has a key, and stands once; there is an empty place. -/
structure Ent (ks : Nat → S) (en : En) : Prop where
  slot : ∀ p s, p < 512 → en p = some s → s < 256 ∧ ks s ≠ z
  once : ∀ p q s, p < 512 → q < 512 → en p = some s → en q = some s → p = q
/-- All keys have one slot. -/
def Uniq (ks : Nat → S) : Prop := ∀ s t, s < 256 → t < 256 → ks s = ks t → ks s ≠ z → s = t
/-- The places between a key's own and its entry's are not empty. -/
def Path (hs : S → Nat) (ks : Nat → S) (en : En) : Prop := ∀ p s, p < 512 → en p = some s → ∀ j, j < dst (hs (ks s)) p → en (plc (hs (ks s)) j) ≠ none
def All (ks : Nat → S) (en : En) : Prop := ∀ s, s < 256 → ks s ≠ z → ∃ p, p < 512 ∧ en p = some s
structure Inv (hs : S → Nat) (ks : Nat → S) (en : En) : Prop where
  ent : Ent z ks en
  uniq : Uniq z ks
  all : All z ks en
  path : Path hs ks en

/-- A search ends at that far from the key's own place. -/
def SearchAt (ks : Nat → S) (en : En) (h : Nat) (key : S) (n : Nat) (has : Bool) : Prop :=
  n < 512 ∧ (∀ j, j < n → ∃ s, en (plc h j) = some s ∧ ks s ≠ key) ∧ (if has then ∃ s, en (plc h n) = some s ∧ ks s = key else en (plc h n) = none)

variable {z : S} {hs : S → Nat} {ks : Nat → S} {en : En}

theorem Ent.empty (h : Ent z ks en) (g : Nat) : ∃ q, q < 512 ∧ q ≠ g ∧ en q = none := by
  apply Classical.byContradiction
  intro hn
  have hall : ∀ q, q < 512 → q ≠ g → ∃ s, en q = some s := fun q hq hg => by
    cases he : en q with
    | none => exact absurd ⟨q, hq, hg, he⟩ hn
    | some s => exact ⟨s, rfl⟩
  let pl : Nat → Nat := fun i => if i < g then i else i + 1
  have hpl : ∀ i, i < 257 → pl i < 512 ∧ pl i ≠ g := fun i hi => by
    show (if i < g then i else i + 1) < 512 ∧ (if i < g then i else i + 1) ≠ g
    split <;> omega
  obtain ⟨i, j, h1, h2, h3⟩ := pigeon 256 (fun i => (en (pl i)).getD 0) (fun i hi => by
    obtain ⟨s, hs⟩ := hall (pl i) (hpl i hi).1 (hpl i hi).2
    simp only [hs, Option.getD_some]
    exact (h.slot _ _ (hpl i hi).1 hs).1)
  obtain ⟨s, e1⟩ := hall (pl i) (hpl i (by omega)).1 (hpl i (by omega)).2
  obtain ⟨t, e2⟩ := hall (pl j) (hpl j (by omega)).1 (hpl j (by omega)).2
  simp only [e1, e2, Option.getD_some] at h3
  subst h3
  have := h.once _ _ _ (hpl i (by omega)).1 (hpl j (by omega)).1 e1 e2
  have h5 : (if i < g then i else i + 1) = (if j < g then j else j + 1) := this
  split at h5 <;> split at h5 <;> omega

/-- How far the first empty place is. -/
theorem first_empty (hx : ∃ q, q < 512 ∧ en q = none) {h : Nat} (hh : h < 512) : ∃ m, m < 512 ∧ en (plc h m) = none ∧ ∀ j, j < m → en (plc h j) ≠ none := by
  obtain ⟨q, hq, he⟩ := hx
  have hd : en (plc h (dst h q)) = none := by rw [plc_dst hh hq]; exact he
  have : ∀ n, n ≤ dst h q → (∃ m, m < 512 ∧ en (plc h m) = none ∧ ∀ j, j < m → en (plc h j) ≠ none) ∨ ∀ j, j < n → en (plc h j) ≠ none := by
    intro n
    induction n with
    | zero => intro _; exact .inr (fun j hj => absurd hj (Nat.not_lt_zero _))
    | succ n ih =>
      intro hn
      rcases ih (by omega) with h1 | h1
      · exact .inl h1
      · by_cases hc : en (plc h n) = none
        · exact .inl ⟨n, by have := dst_lt h q; omega, hc, h1⟩
        · exact .inr fun j hj => by
            rcases Nat.lt_succ_iff_lt_or_eq.1 hj with h2 | rfl
            · exact h1 j h2
            · exact hc
  rcases this _ (Nat.le_refl _) with h1 | h1
  · exact h1
  · exact ⟨_, dst_lt _ _, hd, h1⟩

/-- A search ends, and in one way alone. -/
theorem search_ex [DecidableEq S] (key : S) (hx : ∃ q, q < 512 ∧ en q = none) {h : Nat} (hh : h < 512) : ∃ m has, SearchAt ks en h key m has := by
  obtain ⟨m0, h1, h2, h3⟩ := first_empty hx hh
  have : ∀ n, n ≤ m0 → (∃ m has, SearchAt ks en h key m has) ∨ ∀ j, j < n → ∃ s, en (plc h j) = some s ∧ ks s ≠ key := by
    intro n
    induction n with
    | zero => intro _; exact .inr (fun j hj => absurd hj (Nat.not_lt_zero _))
    | succ n ih =>
      intro hn
      rcases ih (by omega) with h4 | h4
      · exact .inl h4
      · obtain ⟨s, hs⟩ := Option.ne_none_iff_exists'.1 (h3 n (by omega))
        by_cases hk : ks s = key
        · exact .inl ⟨n, true, by omega, h4, by rw [if_pos rfl]; exact ⟨s, hs, hk⟩⟩
        · refine .inr fun j hj => ?_
          rcases Nat.lt_succ_iff_lt_or_eq.1 hj with h5 | rfl
          · exact h4 j h5
          · exact ⟨s, hs, hk⟩
  rcases this _ (Nat.le_refl _) with h4 | h4
  · exact h4
  · exact ⟨m0, false, h1, h4, by rw [if_neg (by simp)]; exact h2⟩
theorem search_not {key : S} {h m n : Nat} {b c : Bool} (hS : SearchAt ks en h key m b) (hT : SearchAt ks en h key n c) : ¬ m < n := by
  intro hlt
  obtain ⟨s, e1, e2⟩ := hT.2.1 m hlt
  have h3 := hS.2.2
  cases b with
  | false =>
    rw [if_neg (by simp), e1] at h3
    cases h3
  | true =>
    rw [if_pos rfl] at h3
    obtain ⟨t, e3, e4⟩ := h3
    rw [e1] at e3
    cases e3
    exact e2 e4
theorem search_one {key : S} {h m n : Nat} {b c : Bool} (hS : SearchAt ks en h key m b) (hT : SearchAt ks en h key n c) : m = n ∧ b = c := by
  have h1 := search_not hS hT
  have h2 := search_not hT hS
  obtain rfl : m = n := by omega
  refine ⟨rfl, ?_⟩
  have h3 := hS.2.2
  have h4 := hT.2.2
  cases b <;> cases c
  · rfl
  · rw [if_neg (by simp)] at h3
    rw [if_pos rfl, h3] at h4
    obtain ⟨t, e, _⟩ := h4
    cases e
  · rw [if_neg (by simp)] at h4
    rw [if_pos rfl, h4] at h3
    obtain ⟨t, e, _⟩ := h3
    cases e
  · rfl

/-- The search tells whether a slot has the key. -/
theorem Inv.has (h : Inv z hs ks en) {key : S} {n : Nat} (hS : SearchAt ks en (hs key) key n true) :
    ∃ s, en (plc (hs key) n) = some s ∧ s < 256 ∧ ks s = key ∧ key ≠ z := by
  obtain ⟨_, _, h3⟩ := hS
  rw [if_pos rfl] at h3
  obtain ⟨s, e1, e2⟩ := h3
  have := h.ent.slot _ _ (plc_lt _ _) e1
  exact ⟨s, e1, this.1, e2, e2 ▸ this.2⟩
theorem Inv.hasNot (h : Inv z hs ks en) {key : S} {n : Nat} (hr : hs key < 512) (hS : SearchAt ks en (hs key) key n false) (hk : key ≠ z) :
    ∀ s, s < 256 → ks s ≠ key := by
  intro s hs2 hk2
  obtain ⟨h1, h2, h3⟩ := hS
  rw [if_neg (by simp)] at h3
  obtain ⟨p, hp, he⟩ := h.all s hs2 (by rw [hk2]; exact hk)
  have hpa := h.path p s hp he
  rw [hk2] at hpa
  have hpd := plc_dst hr hp
  rcases Nat.lt_trichotomy (dst (hs key) p) n with hc | hc | hc
  · obtain ⟨t, e1, e2⟩ := h2 _ hc
    rw [hpd, he] at e1
    cases e1
    exact e2 hk2
  · rw [← hc, hpd, he] at h3
    cases h3
  · exact hpa _ hc h3

/-- One place is another one. -/
def put (en : En) (p : Nat) (x : Option Nat) : En := fun q => if q = p then x else en q
def putK (ks : Nat → S) (s : Nat) (k : S) : Nat → S := fun t => if t = s then k else ks t
theorem put_same (en : En) (p : Nat) (x : Option Nat) : put en p x p = x := if_pos rfl
theorem put_other (en : En) {p q : Nat} (x : Option Nat) (h : q ≠ p) : put en p x q = en q := if_neg h
theorem putK_same (ks : Nat → S) (s : Nat) (k : S) : putK ks s k s = k := if_pos rfl
theorem putK_other (ks : Nat → S) {s t : Nat} (k : S) (h : t ≠ s) : putK ks s k t = ks t := if_neg h

/-- A key that comes: its slot was free, its place empty. -/
theorem Inv.add (h : Inv z hs ks en) {key : S} {n s : Nat} (hr : ∀ k, hs k < 512) (hS : SearchAt ks en (hs key) key n false) (hk : key ≠ z) (hs2 : s < 256) (hf : ks s = z) :
    Inv z hs (putK ks s key) (put en (plc (hs key) n) (some s)) := by
  have hno := h.hasNot (hr _) hS hk
  obtain ⟨h1, h2, h3⟩ := hS
  rw [if_neg (by simp)] at h3
  have hns : ∀ p, p < 512 → en p ≠ some s := fun p hp e => (h.ent.slot p s hp e).2 hf
  refine ⟨⟨fun p t hp e => ?_, fun p q t hp hq e1 e2 => ?_⟩, fun a b ha hb e1 e2 => ?_, fun t ht e => ?_, fun p t hp e j hj => ?_⟩
  · by_cases hc : p = plc (hs key) n
    · rw [hc, put_same] at e
      cases e
      exact ⟨hs2, by rw [putK_same]; exact hk⟩
    · rw [put_other _ _ hc] at e
      have hts : t ≠ s := fun e2 => hns p hp (e2 ▸ e)
      rw [putK_other _ _ hts]
      exact h.ent.slot p t hp e
  · by_cases hc : p = plc (hs key) n
    · by_cases hd : q = plc (hs key) n
      · rw [hc, hd]
      · rw [hc, put_same] at e1
        cases e1
        rw [put_other _ _ hd] at e2
        exact absurd e2 (hns q hq)
    · rw [put_other _ _ hc] at e1
      by_cases hd : q = plc (hs key) n
      · rw [hd, put_same] at e2
        cases e2
        exact absurd e1 (hns p hp)
      · rw [put_other _ _ hd] at e2
        exact h.ent.once p q t hp hq e1 e2
  · by_cases hc : a = s
    · subst hc
      rw [putK_same] at e1
      by_cases hd : b = a
      · exact hd.symm
      · rw [putK_other _ _ hd] at e1
        exact absurd e1.symm (hno b hb)
    · rw [putK_other _ _ hc] at e1 e2
      by_cases hd : b = s
      · subst hd
        rw [putK_same] at e1
        exact absurd e1 (hno a ha)
      · rw [putK_other _ _ hd] at e1
        exact h.uniq a b ha hb e1 e2
  · by_cases hc : t = s
    · subst hc
      exact ⟨_, plc_lt _ _, put_same _ _ _⟩
    · rw [putK_other _ _ hc] at e
      obtain ⟨p, hp, he⟩ := h.all t ht e
      exact ⟨p, hp, by rw [put_other _ _ (fun e2 => by rw [e2, h3] at he; cases he)]; exact he⟩
  · have hne : ∀ q, en q ≠ none → put en (plc (hs key) n) (some s) q ≠ none := fun q hq => by
      by_cases hd : q = plc (hs key) n
      · rw [hd, put_same]; simp
      · rw [put_other _ _ hd]; exact hq
    by_cases hc : p = plc (hs key) n
    · rw [hc, put_same] at e
      cases e
      rw [putK_same] at hj ⊢
      rw [hc, dst_plc (hr _) h1] at hj
      obtain ⟨u, e1, _⟩ := h2 j hj
      exact hne _ (by rw [e1]; simp)
    · rw [put_other _ _ hc] at e
      have hts : t ≠ s := fun e2 => hns p hp (e2 ▸ e)
      rw [putK_other _ _ hts] at hj ⊢
      exact hne _ (h.path p t hp e j hj)

/-- While the places behind a gap g close up: those that are i to m - 1 behind it have still to be looked at; what lies there may want what is no more. -/
structure Clo (z : S) (hs : S → Nat) (ks : Nat → S) (g m i : Nat) (en : En) : Prop where
  ent : Ent z ks en
  uniq : Uniq z ks
  all : All z ks en
  mlt : m < 512
  le : i ≤ m
  glt : g < 512
  pos : 1 ≤ i
  last : en (plc g m) = none
  left : ∀ j, i ≤ j → j < m → en (plc g j) ≠ none
  path : ∀ p s, p < 512 → en p = some s → ∀ j, j < dst (hs (ks s)) p → en (plc (hs (ks s)) j) ≠ none ∨ (i ≤ dst g p ∧ dst g p < m ∧ dst g (plc (hs (ks s)) j) < i)

/-- Who goes leaves a gap. -/
theorem Inv.drop (h : Inv z hs ks en) (hr : ∀ k, hs k < 512) {p s : Nat} (hp : p < 512) (he : en p = some s) :
    ∃ m, 1 ≤ m ∧ Clo z hs (putK ks s z) p m 1 (put en p none) := by
  obtain ⟨hs2, hkz⟩ := h.ent.slot p s hp he
  have hent : Ent z (putK ks s z) (put en p none) := by
    refine ⟨fun q t hq e => ?_, fun q r t hq hr e1 e2 => ?_⟩
    · by_cases hc : q = p
      · rw [hc, put_same] at e; cases e
      · rw [put_other _ _ hc] at e
        have hts : t ≠ s := fun e2 => hc (h.ent.once q p s hq hp (e2 ▸ e) he)
        rw [putK_other _ _ hts]
        exact h.ent.slot q t hq e
    · by_cases hc : q = p
      · rw [hc, put_same] at e1; cases e1
      · by_cases hd : r = p
        · rw [hd, put_same] at e2; cases e2
        · rw [put_other _ _ hc] at e1
          rw [put_other _ _ hd] at e2
          exact h.ent.once q r t hq hr e1 e2
  obtain ⟨q, hq, hqp, hqe⟩ := h.ent.empty p
  -- the first empty place behind p
  obtain ⟨m0, hm0, he0, hl0⟩ := first_empty (en := en) ⟨q, hq, hqe⟩ (h := plc p 1) (plc_lt _ _)
  have hpl : ∀ j, plc (plc p 1) j = plc p (1 + j) := fun j => by unfold plc; omega
  have hm1 : m0 + 1 < 512 := by
    apply Classical.byContradiction
    intro hn
    have h511 : m0 = 511 := by omega
    have hd : dst (plc p 1) q < 512 := dst_lt _ _
    have hd2 : dst (plc p 1) q ≠ 511 := fun e => by
      apply hqp
      have := plc_dst (plc_lt p 1) hq
      rw [e, hpl] at this
      unfold plc at this
      omega
    exact hl0 (dst (plc p 1) q) (by omega) (by rw [plc_dst (plc_lt _ _) hq]; exact hqe)
  refine ⟨m0 + 1, by omega, hent, fun a b ha hb e1 e2 => ?_, fun t ht e => ?_, hm1, by omega, hp, Nat.le_refl _, ?_, fun j h1 h2 => ?_, fun r t hr2 e j hj => ?_⟩
  · by_cases hc : a = s
    · subst hc; rw [putK_same] at e2; exact absurd rfl e2
    · rw [putK_other _ _ hc] at e1 e2
      by_cases hd : b = s
      · subst hd; rw [putK_same] at e1; exact absurd e1 e2
      · rw [putK_other _ _ hd] at e1
        exact h.uniq a b ha hb e1 e2
  · by_cases hc : t = s
    · subst hc; rw [putK_same] at e; exact absurd rfl e
    · rw [putK_other _ _ hc] at e
      obtain ⟨r, hr2, e2⟩ := h.all t ht e
      exact ⟨r, hr2, by rw [put_other _ _ (fun e3 => hc (by rw [e3, he] at e2; cases e2; rfl))]; exact e2⟩
  · rw [hpl, Nat.add_comm] at he0
    rw [put_other _ _ (fun e => by unfold plc at e; omega)]
    exact he0
  · have := hl0 (j - 1) (by omega)
    rw [hpl, show 1 + (j - 1) = j by omega] at this
    rw [put_other _ _ (fun e => by unfold plc at e; omega)]
    exact this
  · have hrp : r ≠ p := fun e2 => by rw [e2, put_same] at e; cases e
    rw [put_other _ _ hrp] at e
    have hts : t ≠ s := fun e2 => hrp (h.ent.once r p s hr2 hp (e2 ▸ e) he)
    rw [putK_other _ _ hts] at hj ⊢
    have hpa := h.path r t hr2 e
    have hH := hr (ks t)
    generalize hs (ks t) = H at *
    by_cases hc : plc H j = p
    · refine .inr ⟨?_, ?_, ?_⟩
      · unfold dst; omega
      · apply Classical.byContradiction
        intro hn
        -- the empty place behind p is on the way
        rw [hpl] at he0
        have hdm : dst p r ≠ 1 + m0 := fun e2 => by rw [← e2, plc_dst hp hr2, e] at he0; cases he0
        have hx := hpa (j + (m0 + 1)) (by unfold dst plc at *; omega)
        apply hx
        have : plc H (j + (m0 + 1)) = plc p (1 + m0) := by rw [← hc]; unfold plc; omega
        rw [this]; exact he0
      · rw [hc]; unfold dst; omega
    · rw [put_other _ _ hc]
      exact .inl (hpa j hj)

/-- The next entry is taken away: it is found no more, and its key has an empty place. -/
theorem Clo.taken {g m i : Nat} (h : Clo z hs ks g m i en) :
    Ent z ks (put en (plc g i) none) := by
  refine ⟨fun q t hq e => ?_, fun q r t hq hr e1 e2 => ?_⟩
  · by_cases hc : q = plc g i
    · rw [hc, put_same] at e; cases e
    · rw [put_other _ _ hc] at e; exact h.ent.slot q t hq e
  · by_cases hc : q = plc g i
    · rw [hc, put_same] at e1; cases e1
    · by_cases hd : r = plc g i
      · rw [hd, put_same] at e2; cases e2
      · rw [put_other _ _ hc] at e1
        rw [put_other _ _ hd] at e2
        exact h.ent.once q r t hq hr e1 e2
theorem Clo.gone {g m i : Nat} (h : Clo z hs ks g m i en) {s : Nat} (he : en (plc g i) = some s) {q t : Nat} (hq : q < 512) (e : put en (plc g i) none q = some t) : ks t ≠ ks s := by
  intro hk
  have hc : q ≠ plc g i := fun e2 => by rw [e2, put_same] at e; cases e
  rw [put_other _ _ hc] at e
  have h1 := h.ent.slot q t hq e
  have h2 := h.ent.slot _ s (plc_lt _ _) he
  have := h.uniq t s h1.1 h2.1 hk h1.2
  subst this
  exact hc (h.ent.once _ _ _ hq (plc_lt _ _) e he)
/-- And it is put where the search ended. -/
theorem Clo.moved {g m i : Nat} (h : Clo z hs ks g m i en) (hr : ∀ k, hs k < 512) (hi : i < m) {s n : Nat} (he : en (plc g i) = some s)
    (hS : SearchAt ks (put en (plc g i) none) (hs (ks s)) (ks s) n false) :
    Clo z hs ks g m (i + 1) (put (put en (plc g i) none) (plc (hs (ks s)) n) (some s)) := by
  obtain ⟨h1, h2, h3⟩ := hS
  rw [if_neg (by simp)] at h3
  have hg := h.glt
  have hm := h.mlt
  have hpos := h.pos
  have hH := hr (ks s)
  have hpath := h.path (plc g i) s (plc_lt _ _) he
  obtain ⟨hsl, hsk⟩ := h.ent.slot _ s (plc_lt _ _) he
  -- not beyond its old place
  have hle : n ≤ dst (hs (ks s)) (plc g i) := by
    apply Classical.byContradiction
    intro hn
    obtain ⟨t, e, _⟩ := h2 (dst (hs (ks s)) (plc g i)) (by omega)
    rw [plc_dst hH (plc_lt _ _), put_same] at e
    cases e
  -- not the last place
  have hq : plc (hs (ks s)) n ≠ plc g m := fun e => by
    have hlt : n < dst (hs (ks s)) (plc g i) := by
      rcases Nat.lt_or_eq_of_le hle with h4 | h4
      · exact h4
      · exfalso
        rw [h4, plc_dst hH (plc_lt _ _)] at e
        have := plc_inj (by omega) (by omega) e
        omega
    rcases hpath n hlt with h4 | ⟨_, _, h4⟩
    · exact h4 (by rw [e]; exact h.last)
    · rw [e, dst_plc hg hm] at h4; have := h.le; omega
  generalize hqd : plc (hs (ks s)) n = q at *
  have hq5 : q < 512 := hqd ▸ plc_lt _ _
  have hnotl : ∀ j, i < j → j < m → q ≠ plc g j := fun j hj1 hj2 e => by
    have := h.left j (by omega) hj2
    rw [e, put_other _ _ (fun e2 => by have := plc_inj (by omega) (by omega) e2; omega)] at h3
    exact this h3
  have hne : ∀ p, p ≠ plc g i → en p ≠ none → put (put en (plc g i) none) q (some s) p ≠ none := fun p hp hx => by
    by_cases hc : p = q
    · rw [hc, put_same]; simp
    · rw [put_other _ _ hc, put_other _ _ hp]; exact hx
  have hold : ∀ p t, p ≠ q → put (put en (plc g i) none) q (some s) p = some t → p ≠ plc g i ∧ en p = some t := fun p t hp e => by
    rw [put_other _ _ hp] at e
    by_cases hc : p = plc g i
    · rw [hc, put_same] at e; cases e
    · rw [put_other _ _ hc] at e; exact ⟨hc, e⟩
  refine ⟨⟨fun p t hp e => ?_, fun p r t hp hr2 e1 e2 => ?_⟩, h.uniq, fun t ht e => ?_, hm, by omega, hg, by omega, ?_, fun j hj1 hj2 => ?_, fun p t hp e j hj => ?_⟩
  · by_cases hc : p = q
    · rw [hc, put_same] at e; cases e; exact ⟨hsl, hsk⟩
    · exact h.ent.slot p t hp (hold p t hc e).2
  · by_cases hc : p = q
    · by_cases hd : r = q
      · rw [hc, hd]
      · rw [hc, put_same] at e1
        cases e1
        obtain ⟨a, b⟩ := hold r s hd e2
        exact absurd (h.ent.once _ _ _ hr2 (plc_lt _ _) b he) a
    · obtain ⟨a, b⟩ := hold p t hc e1
      by_cases hd : r = q
      · rw [hd, put_same] at e2
        cases e2
        exact absurd (h.ent.once _ _ _ hp (plc_lt _ _) b he) a
      · exact h.ent.once _ _ _ hp hr2 b (hold r t hd e2).2
  · by_cases hc : t = s
    · subst hc
      exact ⟨q, hq5, put_same _ _ _⟩
    · obtain ⟨p, hp, e2⟩ := h.all t ht e
      have hpi : p ≠ plc g i := fun e3 => by rw [e3, he] at e2; cases e2; exact hc rfl
      refine ⟨p, hp, ?_⟩
      rw [put_other _ _ (fun e3 => by rw [← e3, put_other _ _ hpi, e2] at h3; cases h3), put_other _ _ hpi]
      exact e2
  · rw [put_other _ _ (Ne.symm hq), put_other _ _ (fun e => by have := plc_inj (by omega) (by omega) e; omega)]
    exact h.last
  · exact hne _ (fun e => by have := plc_inj (by omega) (by omega) e; omega) (h.left j (by omega) hj2)
  · by_cases hc : p = q
    · rw [hc, put_same] at e
      cases e
      rw [hc] at hj
      have hd : dst (hs (ks s)) q = n := by rw [← hqd, dst_plc hH h1]
      rw [hd] at hj
      obtain ⟨u, e1, _⟩ := h2 j hj
      refine .inl ?_
      by_cases hx : plc (hs (ks s)) j = q
      · rw [hx, put_same]; simp
      · rw [put_other _ _ hx, e1]; simp
    · obtain ⟨a, b⟩ := hold p t hc e
      have hK := hr (ks t)
      by_cases hx : plc (hs (ks t)) j = plc g i
      · -- the place that was taken away is on the way
        by_cases hun : i + 1 ≤ dst g p ∧ dst g p < m
        · exact .inr ⟨hun.1, hun.2, by rw [hx, dst_plc hg (by omega)]; omega⟩
        · exfalso
          have hdi : dst g p ≠ i := fun e2 => a (by rw [← e2, plc_dst hg hp])
          have hdm : dst g p ≠ m := fun e2 => by
            have := h.last
            rw [← e2, plc_dst hg hp, b] at this
            cases this
          have hway := h.path p t hp b (j + (m - i)) (by
            generalize hs (ks t) = H at *
            unfold dst plc at *
            omega)
          have hpl : plc (hs (ks t)) (j + (m - i)) = plc g m := by
            generalize hs (ks t) = H at *
            unfold plc at *
            omega
          rw [hpl] at hway
          rcases hway with h4 | ⟨h4, h5, _⟩
          · exact h4 h.last
          · omega
      · rcases h.path p t hp b j hj with h4 | ⟨h4, h5, h6⟩
        · exact .inl (hne _ hx h4)
        · have hdi : dst g p ≠ i := fun e2 => a (by rw [← e2, plc_dst hg hp])
          exact .inr ⟨by omega, h5, by omega⟩
/-- No more is to be looked at. -/
theorem Clo.done {g m i : Nat} (h : Clo z hs ks g m i en) (hi : en (plc g i) = none) : i = m := by
  have := h.le
  rcases Nat.lt_or_eq_of_le this with h1 | h1
  · exact absurd hi (h.left i (Nat.le_refl _) h1)
  · exact h1
theorem Clo.inv {g m : Nat} (h : Clo z hs ks g m m en) : Inv z hs ks en :=
  ⟨h.ent, h.uniq, h.all, fun p s hp e j hj => by
    rcases h.path p s hp e j hj with h4 | ⟨h4, h5, _⟩
    · exact h4
    · omega⟩
end
end Sl
