/- The same answers, as one finds them who keeps a list of what is untold. No model in this text. -/
import Derived.Test.YtcgkgdhbipbnfaaGreatDoorPoMath
namespace Go.Proofs.YtcgkgdhbipbnfaaGreatDoor.Po
open Go

/-! Words. -/
def nameN (k : Nat) : List UInt8 := namesZ.getD k []
def tellN (k : Nat) : List UInt8 := nameN k ++ [61]
/-- What stands behind a head, if it is there. -/
def cutP (p w : List UInt8) : Option (List UInt8) := if p.isPrefixOf w then some (w.drop p.length) else none
def readN (k : Nat) (text : List UInt8) : Option (List Int) :=
  match wholesZ (cutB 47 text) with
  | none => none
  | some ns => if k = 10 ∨ ns.length = 1 then some ns else none
def hitN (w : List UInt8) (k : Nat) : Option (List Int) :=
  match cutP (tellN k) w with
  | none => none
  | some v => readN k v
/-- Where the first of the untold stands that the word is of, which it is, its numbers. -/
def findN (w : List UInt8) : List Nat → Option (Nat × Nat × List Int)
  | [] => none
  | k :: r => match hitN w k with
    | some ns => some (0, k, ns)
    | none => (findN w r).map fun x => (x.1 + 1, x.2)
def setN (n : List Int) (k : Nat) (ns : List Int) : List Int := if k = 10 then n else n.set k (ns.headD 0)
def setT (t : List Int) (k : Nat) (ns : List Int) : List Int := if k = 10 then ns else t
def wordsN : List Int → List Int → List Nat → List (List UInt8) → Option (List Int × List Int)
  | n, t, _, [] => some (n, t)
  | n, t, u, w :: r => match findN w u with
    | none => none
    | some x => wordsN (setN n x.2.1 x.2.2) (setT t x.2.1 x.2.2) (u.eraseIdx x.1) r
/-- What a text is read as, right or not. -/
def allN (s : List UInt8) : Option (List Int × List Int) := if s = [] then some (baseZ.n, baseZ.t) else wordsN baseZ.n baseZ.t (List.range 11) (cutB 32 s)

theorem whole_chars {l : List UInt8} (h : (wholeF l).2 = 0) : ∀ c ∈ l, c = 45 ∨ isDig c = true := by
  unfold wholeF at h
  split at h
  · cases h
  · split at h
    · rename_i h1
      have hd := dig_rst (tkR [45] l)
      rw [h1, List.append_nil] at hd
      have ha := dig_all (tkR [45] l)
      rw [hd] at ha
      intro c hc
      cases l with
      | nil => cases hc
      | cons x t =>
        have e : tkR [45] (x :: t) = if ([45] : List UInt8).contains x = true then t else x :: t := rfl
        rw [e] at ha
        by_cases hx : x = 45
        · subst hx
          rcases List.mem_cons.1 hc with rfl | hc
          · exact .inl rfl
          · exact .inr (ha c (by simpa using hc))
        · have hf : ([45] : List UInt8).contains x = false := by simpa using hx
          rw [hf] at ha
          exact .inr (ha c (by simpa using hc))
    · cases h
theorem whole_not {l : List UInt8} {c : UInt8} (hc : c ∈ l) (h1 : c ≠ 45) (h2 : isDig c = false) : (wholeF l).2 ≠ 0 := fun h => by
  rcases whole_chars h c hc with e | e
  · exact h1 e
  · rw [h2] at e; cases e
theorem mem_cut {b c : UInt8} (hbc : c ≠ b) : ∀ {l : List UInt8}, c ∈ l → ∃ x ∈ cutB b l, c ∈ x
  | [], h => by cases h
  | a :: r, h => by
    unfold cutB
    by_cases ha : a = b
    · rw [if_pos ha]
      rcases List.mem_cons.1 h with rfl | h
      · exact absurd ha hbc
      · obtain ⟨x, h1, h2⟩ := mem_cut hbc h
        exact ⟨x, List.mem_cons_of_mem _ h1, h2⟩
    · rw [if_neg ha]
      split
      · rename_i h0; exact absurd h0 (cutB_ne b r)
      · rename_i x xs hx
        rcases List.mem_cons.1 h with rfl | h
        · exact ⟨_, List.mem_cons_self, List.mem_cons_self⟩
        · obtain ⟨y, h1, h2⟩ := mem_cut hbc h
          rw [hx] at h1
          rcases List.mem_cons.1 h1 with rfl | h1
          · exact ⟨_, List.mem_cons_self, List.mem_cons_of_mem _ h2⟩
          · exact ⟨y, List.mem_cons_of_mem _ h1, h2⟩
theorem split_at {b : UInt8} : ∀ {l : List UInt8}, b ∈ l → ∃ x y, l = x ++ b :: y ∧ b ∉ x
  | [], h => by cases h
  | a :: r, h => by
    by_cases ha : a = b
    · exact ⟨[], r, by rw [ha]; rfl, by simp⟩
    · rcases List.mem_cons.1 h with rfl | h
      · exact absurd rfl ha
      · obtain ⟨x, y, h1, h2⟩ := split_at h
        exact ⟨a :: x, y, by rw [h1]; rfl, fun e => by
          rcases List.mem_cons.1 e with e | e
          · exact ha e.symm
          · exact h2 e⟩
theorem wholes_mem {ws : List (List UInt8)} {x : List UInt8} (hx : x ∈ ws) (h : (wholeF x).2 ≠ 0) : wholesZ ws = none := by
  induction ws with
  | nil => cases hx
  | cons y r ih =>
    unfold wholesZ
    by_cases hy : (wholeF y).2 = 0
    · rw [if_pos hy]
      rcases List.mem_cons.1 hx with rfl | hx
      · exact absurd hy h
      · rw [ih hx]; rfl
    · rw [if_neg hy]
theorem wholes_len : ∀ {ws : List (List UInt8)} {ns : List Int}, wholesZ ws = some ns → ns.length = ws.length
  | [], ns, h => by cases h; rfl
  | x :: r, ns, h => by
    unfold wholesZ at h
    split at h
    · obtain ⟨m, h1, rfl⟩ := Option.map_eq_some_iff.1 h
      rw [List.length_cons, List.length_cons, wholes_len h1]
    · cases h
theorem read_eq {k : Nat} {v : List UInt8} (h : (61 : UInt8) ∈ v) : readN k v = none := by
  obtain ⟨x, h1, h2⟩ := mem_cut (b := 47) (by decide) h
  unfold readN
  rw [wholes_mem h1 (whole_not h2 (by decide) (by decide))]
theorem read_one {k : Nat} (hk : k ≠ 10) (v : List UInt8) : readN k v = if (wholeF v).2 = 0 then some [(wholeF v).1] else none := by
  unfold readN
  by_cases h : (47 : UInt8) ∈ v
  · rw [if_neg (whole_not h (by decide) (by decide))]
    obtain ⟨x, y, rfl, hx⟩ := split_at h
    rw [cutB_app _ hx]
    cases hw : wholesZ (x :: cutB 47 y) with
    | none => rfl
    | some ns =>
      have := wholes_len hw
      have h2 : (cutB 47 y).length ≠ 0 := fun e => cutB_ne 47 y (List.eq_nil_of_length_eq_zero e)
      simp only [List.length_cons] at this
      simp only [hk, false_or]
      rw [if_neg (by omega)]
  · rw [cutB_plain h]
    unfold wholesZ
    by_cases h2 : (wholeF v).2 = 0
    · simp [h2, hk, wholesZ]
    · simp [h2]
theorem read_ten (v : List UInt8) : readN 10 v = wholesZ (cutB 47 v) := by
  unfold readN
  cases wholesZ (cutB 47 v) with
  | none => rfl
  | some ns => simp
theorem names_len : namesZ.length = 11 := rfl
theorem name_no : ∀ k, (61 : UInt8) ∉ nameN k := fun k => by
  unfold nameN
  rw [List.getD_eq_getElem?_getD]
  by_cases h : k < 11
  · have : ∀ k : Fin 11, (61 : UInt8) ∉ namesZ[k]?.getD [] := by decide +kernel
    exact this ⟨k, h⟩
  · rw [List.getElem?_eq_none (by rw [names_len]; omega)]
    simp
theorem name_inj : ∀ {i j : Nat}, i < 11 → j < 11 → nameN i = nameN j → i = j := fun {i j} hi hj h => by
  have : ∀ i j : Fin 11, nameN i = nameN j → i = j := by decide +kernel
  exact congrArg Fin.val (this ⟨i, hi⟩ ⟨j, hj⟩ h)
theorem pos_some {a : List UInt8} {k : Nat} (h : posZ a = some k) : k < 11 ∧ nameN k = a := by
  unfold posZ at h
  obtain ⟨h1, h2, _⟩ := List.findIdx?_eq_some_iff_getElem.1 h
  refine ⟨by rw [← names_len]; exact h1, ?_⟩
  unfold nameN
  rw [List.getD_eq_getElem?_getD, List.getElem?_eq_getElem h1]
  simpa using h2
theorem pos_none {a : List UInt8} (h : posZ a = none) : ∀ k, k < 11 → nameN k ≠ a := fun k hk e => by
  unfold posZ at h
  rw [List.findIdx?_eq_none_iff] at h
  have := h a (by
    rw [← e]
    unfold nameN
    rw [List.getD_eq_getElem?_getD, List.getElem?_eq_getElem (by rw [names_len]; exact hk)]
    exact List.getElem_mem _)
  simp at this
theorem cutP_some {p w v : List UInt8} (h : cutP p w = some v) : w = p ++ v := by
  unfold cutP at h
  split at h
  · rename_i h1
    obtain ⟨r, hr⟩ := List.isPrefixOf_iff_prefix.1 h1
    cases h
    rw [← hr, List.drop_left]
  · cases h
theorem cutP_app (p v : List UInt8) : cutP p (p ++ v) = some v := by
  unfold cutP
  rw [if_pos (List.isPrefixOf_iff_prefix.2 ⟨v, rfl⟩), List.drop_left]
theorem app_mid {b : UInt8} : ∀ {x y x' y' : List UInt8}, b ∉ x → b ∉ x' → x ++ b :: y = x' ++ b :: y' → x = x' ∧ y = y'
  | [], y, [], y', _, _, h => ⟨rfl, by simpa using h⟩
  | [], y, c :: x', y', _, h2, h => by
    simp only [List.nil_append, List.cons_append, List.cons.injEq] at h
    exact absurd (by rw [h.1]; exact List.mem_cons_self) h2
  | c :: x, y, [], y', h1, _, h => by
    simp only [List.nil_append, List.cons_append, List.cons.injEq] at h
    exact absurd (by rw [h.1]; exact List.mem_cons_self) h1
  | c :: x, y, d :: x', y', h1, h2, h => by
    simp only [List.cons_append, List.cons.injEq] at h
    obtain ⟨rfl, h⟩ := h
    obtain ⟨rfl, rfl⟩ := app_mid (fun e => h1 (List.mem_cons_of_mem _ e)) (fun e => h2 (List.mem_cons_of_mem _ e)) h
    exact ⟨rfl, rfl⟩
/-- A word with a head: it is the one whose name is the head. -/
theorem cutP_tell {a v : List UInt8} (ha : (61 : UInt8) ∉ a) (k : Nat) : cutP (tellN k) (a ++ 61 :: v) = if nameN k = a then some v else none := by
  by_cases h : nameN k = a
  · rw [if_pos h, ← h, show nameN k ++ 61 :: v = tellN k ++ v by simp [tellN], cutP_app]
  · rw [if_neg h]
    cases hc : cutP (tellN k) (a ++ 61 :: v) with
    | none => rfl
    | some x =>
      have := cutP_some hc
      rw [show tellN k ++ x = nameN k ++ 61 :: x by simp [tellN]] at this
      exact absurd (app_mid ha (name_no k) this).1.symm h
theorem cutP_no {w : List UInt8} (h : (61 : UInt8) ∉ w) (k : Nat) : cutP (tellN k) w = none := by
  cases hc : cutP (tellN k) w with
  | none => rfl
  | some x =>
    rw [cutP_some hc] at h
    exact absurd (by simp [tellN]) h
theorem find_none {w : List UInt8} : ∀ {u : List Nat}, (∀ k ∈ u, hitN w k = none) → findN w u = none
  | [], _ => rfl
  | k :: r, h => by
    unfold findN
    rw [h k (by simp), find_none (fun j hj => h j (List.mem_cons_of_mem _ hj))]
    rfl
theorem find_some {w : List UInt8} {k : Nat} {ns : List Int} (hk : hitN w k = some ns) : ∀ {u : List Nat}, k ∈ u → (∀ j ∈ u, j ≠ k → hitN w j = none) → ∃ i, findN w u = some (i, k, ns) ∧ u[i]? = some k
  | [], h, _ => by cases h
  | j :: r, h, ho => by
    unfold findN
    by_cases hj : j = k
    · subst hj
      rw [hk]
      exact ⟨0, rfl, rfl⟩
    · rw [ho j (by simp) hj]
      rcases List.mem_cons.1 h with rfl | h
      · exact absurd rfl hj
      · obtain ⟨i, h1, h2⟩ := find_some hk h (fun x hx => ho x (List.mem_cons_of_mem _ hx))
        exact ⟨i + 1, by rw [h1]; rfl, h2⟩
theorem find_at {w : List UInt8} : ∀ {u : List Nat} {i k : Nat} {ns : List Int}, findN w u = some (i, k, ns) → u[i]? = some k ∧ hitN w k = some ns ∧ ∀ j, j < i → ∃ x, u[j]? = some x ∧ hitN w x = none
  | [], i, k, ns, h => by cases h
  | j :: r, i, k, ns, h => by
    unfold findN at h
    split at h
    · rename_i x hx
      cases h
      exact ⟨rfl, hx, fun j hj => by omega⟩
    · rename_i hx
      obtain ⟨y, h1, h2⟩ := Option.map_eq_some_iff.1 h
      obtain ⟨y1, y2, y3⟩ := y
      cases h2
      obtain ⟨g1, g2, g3⟩ := find_at h1
      refine ⟨g1, g2, fun q hq => ?_⟩
      cases q with
      | zero => exact ⟨j, rfl, hx⟩
      | succ q => exact g3 q (by omega)
/-- What is untold: all that was not met, each once. -/
structure Untold (u met : List Nat) : Prop where
  nodup : u.Nodup
  lt : ∀ k ∈ u, k < 11
  mem : ∀ k, k < 11 → (k ∈ u ↔ k ∉ met)
theorem Untold.base : Untold (List.range 11) [] := ⟨List.nodup_range, fun k hk => List.mem_range.1 hk, fun k hk => by simp; exact hk⟩
theorem Untold.drop {u met : List Nat} (h : Untold u met) {i k : Nat} (hi : u[i]? = some k) : Untold (u.eraseIdx i) (k :: met) := by
  obtain ⟨hlt, hk⟩ := List.getElem?_eq_some_iff.1 hi
  refine ⟨h.nodup.eraseIdx i, fun j hj => h.lt j (List.mem_of_mem_eraseIdx hj), fun j hj => ?_⟩
  rw [List.mem_cons, List.mem_eraseIdx_iff_getElem]
  constructor
  · rintro ⟨q, hq, hqi, rfl⟩ hm
    rcases hm with hm | hm
    · rw [← hk] at hm
      exact hqi ((List.getElem_inj h.nodup).1 hm)
    · exact (h.mem _ hj).1 (List.getElem_mem hq) hm
  · intro hm
    obtain ⟨q, hq, e⟩ := List.getElem_of_mem ((h.mem j hj).2 fun h2 => hm (.inr h2))
    exact ⟨q, hq, fun e2 => hm (.inl (by subst e2; rw [← e, hk])), e⟩
theorem word_same {st : StZ} {u : List Nat} (hu : Untold u st.met) (w : List UInt8) :
    (wordZ st w = none ∧ findN w u = none) ∨ ∃ i k ns, findN w u = some (i, k, ns) ∧ u[i]? = some k ∧ wordZ st w = some ⟨setN st.n k ns, setT st.t k ns, k :: st.met⟩ := by
  by_cases h61 : (61 : UInt8) ∈ w
  · obtain ⟨a, v, rfl, ha⟩ := split_at h61
    have hc : cutB 61 (a ++ 61 :: v) = a :: cutB 61 v := cutB_app v ha
    have hhit : ∀ k, hitN (a ++ 61 :: v) k = if nameN k = a then readN k v else none := fun k => by
      unfold hitN
      rw [cutP_tell ha]
      by_cases h : nameN k = a
      · rw [if_pos h, if_pos h]
      · rw [if_neg h, if_neg h]
    by_cases hv : (61 : UInt8) ∈ v
    · refine .inl ⟨?_, find_none fun k _ => by rw [hhit, read_eq hv]; simp⟩
      obtain ⟨x, y, rfl, hx⟩ := split_at hv
      have h2 : cutB 61 y ≠ [] := cutB_ne 61 y
      unfold wordZ
      rw [hc, cutB_app _ hx]
      cases hy : cutB 61 y with
      | nil => exact absurd hy h2
      | cons z zs => rfl
    · have hc2 : cutB 61 (a ++ 61 :: v) = [a, v] := by rw [hc, cutB_plain hv]
      cases hp : posZ a with
      | none =>
        refine .inl ⟨by unfold wordZ; rw [hc2]; simp only [hp], find_none fun k hk => ?_⟩
        rw [hhit, if_neg (pos_none hp k (hu.lt k hk))]
      | some k =>
        obtain ⟨hk, hn⟩ := pos_some hp
        have hother : ∀ j ∈ u, j ≠ k → hitN (a ++ 61 :: v) j = none := fun j hj hjk => by
          rw [hhit, if_neg fun e => hjk (name_inj (hu.lt j hj) hk (e.trans hn.symm))]
        by_cases hm : k ∈ st.met
        · refine .inl ⟨by unfold wordZ; rw [hc2]; simp only [hp, if_pos hm], find_none fun j hj => hother j hj fun e => ?_⟩
          rw [e] at hj
          exact (hu.mem k hk).1 hj hm
        · have hku := (hu.mem k hk).2 hm
          have hkh := hhit k
          rw [if_pos hn] at hkh
          have hw : wordZ st (a ++ 61 :: v) = (readN k v).map fun ns => ⟨setN st.n k ns, setT st.t k ns, k :: st.met⟩ := by
            unfold wordZ
            rw [hc2]
            simp only [hp, if_neg hm]
            by_cases h10 : k = 10
            · subst h10
              rw [if_pos rfl, read_ten]
              rfl
            · rw [if_neg h10, read_one h10]
              by_cases h2 : (wholeF v).2 = 0
              · rw [if_pos h2, if_pos h2]
                simp [setN, setT, h10]
              · rw [if_neg h2, if_neg h2]
                rfl
          cases hr : readN k v with
          | none =>
            rw [hr] at hw hkh
            refine .inl ⟨hw, find_none fun j hj => ?_⟩
            by_cases hjk : j = k
            · rw [hjk, hkh]
            · exact hother j hj hjk
          | some ns =>
            rw [hr] at hw hkh
            obtain ⟨i, h1, h2⟩ := find_some hkh hku hother
            exact .inr ⟨i, k, ns, h1, h2, hw⟩
  · refine .inl ⟨by unfold wordZ; rw [cutB_plain h61], find_none fun k _ => ?_⟩
    unfold hitN
    rw [cutP_no h61]
theorem words_same2 : ∀ {ws : List (List UInt8)} {st : StZ} {u : List Nat}, Untold u st.met → wordsN st.n st.t u ws = (wordsZ st ws).map fun s => (s.n, s.t)
  | [], st, u, _ => rfl
  | w :: r, st, u, hu => by
    unfold wordsN wordsZ
    rcases word_same hu w with ⟨h1, h2⟩ | ⟨i, k, ns, h1, h2, h3⟩
    · rw [h1, h2]
      rfl
    · rw [h1, h3]
      exact words_same2 (st := ⟨setN st.n k ns, setT st.t k ns, k :: st.met⟩) (hu.drop h2)
/-- What is read, from what is read right or not. -/
theorem readZ_all (s : List UInt8) : readZ s = match allN s with
    | none => (zeroN, [], 2)
    | some x => if rightZ x.1 x.2 then (x.1, x.2, 0) else (zeroN, [], 1) := by
  unfold readZ allN
  by_cases h : s = []
  · subst h
    have : rightZ baseZ.n baseZ.t = true := by decide +kernel
    simp [this]
  · rw [if_neg h, if_neg h]
    have h2 := words_same2 (ws := cutB 32 s) (st := baseZ) Untold.base
    rw [h2]
    cases wordsZ baseZ (cutB 32 s) with
    | none => rfl
    | some st => rfl
theorem cut_len (b : UInt8) (l : List UInt8) : (cutB b l).length ≤ l.length + 1 := by
  induction l with
  | nil => simp [cutB]
  | cons c r ih =>
    unfold cutB
    split
    · simpa using ih
    · split
      · rename_i h; rw [h] at ih; simp
      · rename_i x xs h; rw [h] at ih; simpa using Nat.le_succ_of_le ih
theorem cut_part (b : UInt8) : ∀ (l : List UInt8), ∀ x ∈ cutB b l, x.length ≤ l.length
  | [], x, h => by simp [cutB] at h; subst h; simp
  | c :: r, x, h => by
    unfold cutB at h
    have ih := cut_part b r
    split at h
    · rcases List.mem_cons.1 h with rfl | h
      · simp
      · exact Nat.le_succ_of_le (ih x h)
    · split at h
      · rename_i h0; exact absurd h0 (cutB_ne b r)
      · rename_i y ys hy
        rcases List.mem_cons.1 h with rfl | h
        · have := ih y (by rw [hy]; simp)
          simp only [List.length_cons]
          omega
        · have := ih x (by rw [hy]; exact List.mem_cons_of_mem _ h)
          simp only [List.length_cons]
          omega

/-! What is right. -/
def numsN (n t : List Int) (k : Nat) : List Int := if k = 10 then t else [n.getD k 0]
def loN (k : Nat) : Int := [1, 0, 0, 1, 4, 0, 1, 1, 0, 0, 1].getD k 0
def hiN (k : Nat) : Int := [256, 1000000, 1000000, 16, 10, 4, 100, 1000000000, 1000000000, 1000000000, 1000000000].getD k 0
def okN (k : Nat) (l : List Int) : Bool := l.all fun x => inZ x (loN k) (hiN k)
def chainN : List Int → Bool
  | x :: y :: r => decide (x < y) && decide (y % x = 0) && chainN (y :: r)
  | _ => true
def areN (t : List Int) : Bool := decide (1 ≤ t.length) && decide (t.length ≤ 3) && chainN t
def okFrom (n t : List Int) : Nat → Nat → Bool
  | _, 0 => true
  | k, m + 1 => okN k (numsN n t k) && okFrom n t (k + 1) m
def rightN (n t : List Int) : Bool := okFrom n t 0 11 && (decide (n.getD 1 0 ≤ n.getD 2 0) && areN t)
theorem tiers_chain : ∀ (t : List Int) (p : Option Int), tiersZ p t = ((t.all fun x => inZ x 1 1000000000) && chainN t && match p, t with
    | some y, x :: _ => decide (y < x) && decide (x % y = 0)
    | _, _ => true)
  | [], p => by cases p <;> rfl
  | [x], p => by
    cases p <;> simp [tiersZ, chainN]
  | x :: y :: r, p => by
    have e : tiersZ p (x :: y :: r) = (inZ x 1 1000000000 && (match p with | none => true | some y => decide (y < x) && decide (x % y = 0)) && tiersZ (some x) (y :: r)) := by cases p <;> rfl
    rw [e, tiers_chain (y :: r) (some x)]
    rw [Bool.eq_iff_iff]
    cases p <;> simp [chainN] <;> grind
theorem right_same (n t : List Int) (hn : n.length = 10) : rightN n t = rightZ n t := by
  obtain ⟨a, b, c, d, e, f, g, i, j, k, rfl⟩ : ∃ a b c d e f g i j k, n = [a, b, c, d, e, f, g, i, j, k] := by
    match n, hn with
    | [a, b, c, d, e, f, g, i, j, k], _ => exact ⟨a, b, c, d, e, f, g, i, j, k, rfl⟩
  unfold rightZ rightN areN
  rw [tiers_chain]
  simp only [okFrom, okN, numsN, loN, hiN, boundZ]
  rw [Bool.eq_iff_iff]
  simp [inZ]
  grind

/-! What is told. -/
theorem join_snoc (b : UInt8) : ∀ (ws : List (List UInt8)) (x : List UInt8), joinB b (ws ++ [x]) = if ws = [] then x else joinB b ws ++ b :: x
  | [], x => rfl
  | [y], x => by simp [joinB]
  | y :: z :: r, x => by
    have ih := join_snoc b (z :: r) x
    rw [if_neg (by simp)] at ih ⊢
    simp only [List.cons_append] at ih ⊢
    rw [joinB, ih, joinB]
    simp
theorem join_heads (b : UInt8) (ws : List (List UInt8)) (x : List UInt8) : joinB b (ws ++ [x]) = (ws.flatMap fun y => y ++ [b]) ++ x := by
  induction ws with
  | nil => rfl
  | cons y r ih =>
    rw [join_snoc, if_neg (by simp)]
    rw [join_snoc] at ih
    by_cases h : r = []
    · subst h
      simp [joinB]
    · rw [if_neg h] at ih
      obtain ⟨z, q, rfl⟩ := List.exists_cons_of_ne_nil h
      rw [joinB, List.flatMap_cons]
      rw [List.append_assoc (y ++ [b]), ← ih]
      simp
def oneN (n t : List Int) (k : Nat) : List UInt8 := tellN k ++ joinB 47 ((numsN n t k).map digF)
def someN (n t : List Int) (k : Nat) : List UInt8 := joinB 32 ((List.range k).map (oneN n t))
theorem someN_succ (n t : List Int) (k : Nat) : someN n t (k + 1) = if k = 0 then oneN n t k else someN n t k ++ 32 :: oneN n t k := by
  unfold someN
  rw [List.range_succ, List.map_append, List.map_singleton, join_snoc]
  cases k with
  | zero => rfl
  | succ k => rw [if_neg (by simp), if_neg (by simp)]
theorem oneN_ne (n t : List Int) (k : Nat) : oneN n t k ≠ [] := by simp [oneN, tellN]
theorem someN_ne (n t : List Int) (k : Nat) : someN n t (k + 1) ≠ [] := by
  rw [someN_succ]
  split
  · exact oneN_ne n t k
  · simp
theorem text_some (n t : List Int) (hn : n.length = 10) : textZ n t = someN n t 11 := by
  obtain ⟨a, b, c, d, e, f, g, i, j, k, rfl⟩ : ∃ a b c d e f g i j k, n = [a, b, c, d, e, f, g, i, j, k] := by
    match n, hn with
    | [a, b, c, d, e, f, g, i, j, k], _ => exact ⟨a, b, c, d, e, f, g, i, j, k, rfl⟩
  unfold textZ someN tellsZ
  congr 1
def headN (n : List Int) (k : Nat) : List UInt8 := (List.range k).flatMap fun j => nameN j ++ 61 :: (digF (n.getD j 0) ++ [32])
theorem headN_succ (n : List Int) (k : Nat) : headN n (k + 1) = headN n k ++ (nameN k ++ 61 :: (digF (n.getD k 0) ++ [32])) := by
  unfold headN
  rw [List.range_succ, List.flatMap_append]
  simp
theorem text_heads (n t : List Int) (hn : n.length = 10) : textZ n t = headN n 10 ++ ([116, 105, 101, 114, 115, 61] ++ joinB 47 (t.map digF)) := by
  rw [text_some n t hn]
  unfold someN
  rw [List.range_succ, List.map_append, List.map_singleton, join_heads]
  have h1 : oneN n t 10 = [116, 105, 101, 114, 115, 61] ++ joinB 47 (t.map digF) := rfl
  rw [h1]
  congr 1
def slashN (t : List Int) (k : Nat) : List UInt8 := joinB 47 ((t.take k).map digF)
theorem slashN_succ (t : List Int) (k : Nat) (hk : k < t.length) : slashN t (k + 1) = if k = 0 then digF t[k] else slashN t k ++ 47 :: digF t[k] := by
  unfold slashN
  rw [List.take_succ_eq_append_getElem hk, List.map_append, List.map_singleton, join_snoc]
  cases k with
  | zero => simp
  | succ k => rw [if_neg (by cases t with | nil => simp at hk | cons => simp), if_neg (by simp)]
theorem slashN_all (t : List Int) : slashN t t.length = joinB 47 (t.map digF) := by unfold slashN; rw [List.take_length]
theorem dig_len21 {n : Int} (h : In64 n) : (digF n).length ≤ 20 := by
  unfold digF
  rw [List.length_append]
  have := dec_19 (far_le h)
  unfold sgL
  split
  · simp only [List.length_singleton]; omega
  · simp only [List.length_nil]; omega
theorem slashN_len (t : List Int) (h : ∀ x ∈ t, In64 x) : ∀ k, (slashN t k).length ≤ 21 * k
  | 0 => by simp [slashN, joinB]
  | k + 1 => by
    have ih := slashN_len t h k
    by_cases hk : k < t.length
    · rw [slashN_succ t k hk]
      have := dig_len21 (h _ (List.getElem_mem hk))
      split
      · omega
      · rw [List.length_append, List.length_cons]; omega
    · have e : slashN t (k + 1) = slashN t k := by
        unfold slashN
        rw [List.take_of_length_le (by omega), List.take_of_length_le (by omega)]
      rw [e]; omega
theorem head_len (n : List Int) (h : ∀ x ∈ n, In64 x) : ∀ k, (headN n k).length ≤ 28 * k
  | 0 => by simp [headN]
  | k + 1 => by
    have ih := head_len n h k
    rw [headN_succ, List.length_append, List.length_append, List.length_cons, List.length_append]
    have h1 : (nameN k).length ≤ 6 := by
      unfold nameN
      rw [List.getD_eq_getElem?_getD]
      by_cases hk : k < 11
      · have : ∀ k : Fin 11, (namesZ[k]?.getD []).length ≤ 6 := by decide +kernel
        exact this ⟨k, hk⟩
      · rw [List.getElem?_eq_none (by rw [names_len]; omega)]
        simp
    have h2 : (digF (n.getD k 0)).length ≤ 20 := by
      apply dig_len21
      rw [List.getD_eq_getElem?_getD]
      by_cases hk : k < n.length
      · rw [List.getElem?_eq_getElem hk]
        exact h _ (List.getElem_mem hk)
      · rw [List.getElem?_eq_none (by omega)]
        unfold In64
        simp
    simp only [List.length_singleton]
    omega
theorem text_len {n t : List Int} (hn : n.length = 10) (h1 : ∀ x ∈ n, In64 x) (h2 : ∀ x ∈ t, In64 x) : (textZ n t).length ≤ 286 + 21 * t.length := by
  rw [text_heads n t hn, List.length_append, List.length_append, ← slashN_all]
  have a := head_len n h1 10
  have b := slashN_len t h2 t.length
  simp only [List.length_cons, List.length_nil]
  omega
end Go.Proofs.YtcgkgdhbipbnfaaGreatDoor.Po

