/- What adding a sum makes of the registers. -/
import Derived.Test.YtdcjfefnkjdchaaDoorHRank
namespace Go.Proofs.YtdcjfefnkjdchaaDoor
open Go Go.RowKit

/-- The rank that h brings: at most 26. -/
def hr (b h : Nat) : Nat := min (rk b h) 26
/-- The register that h goes to. -/
def hp (b h : Nat) : Nat := h % 2 ^ b
theorem hr_lo (b h : Nat) : 1 ≤ hr b h := by have := rk_lo b h; unfold hr; omega
theorem hr_hi (b h : Nat) : hr b h ≤ 26 := by unfold hr; omega
theorem hp_lt (b h : Nat) : hp b h < 2 ^ b := Nat.mod_lt _ (Nat.pow_pos (by decide))
def addB (b h : Nat) (l : List UInt8) : Bool := decide ((l.getD (hp b h) 0).toNat < hr b h)
def addL (b h : Nat) (l : List UInt8) : List UInt8 := if addB b h l = true then l.set (hp b h) (UInt8.ofNat (hr b h)) else l
theorem addL_length (b h : Nat) (l : List UInt8) : (addL b h l).length = l.length := by unfold addL; split <;> simp
theorem ofNat_toNat {n : Nat} (h : n ≤ 26) : (UInt8.ofNat n).toNat = n := by rw [UInt8.toNat_ofNat']; omega
/-- Register i behind it. -/
theorem addL_at (b h : Nat) (l : List UInt8) (hl : l.length = 2 ^ b) (i : Nat) :
    ((addL b h l).getD i 0).toNat = max (l.getD i 0).toNat (if hp b h = i then hr b h else 0) := by
  have hp' := hp_lt b h
  have hh := hr_hi b h
  unfold addL addB
  by_cases hc : (l.getD (hp b h) 0).toNat < hr b h
  · rw [if_pos (by simpa using hc)]
    by_cases hi : hp b h = i
    · subst hi
      rw [if_pos rfl, List.getD_eq_getElem?_getD, List.getElem?_set_self (by omega), Option.getD_some, ofNat_toNat hh]
      omega
    · rw [if_neg hi, List.getD_eq_getElem?_getD, List.getElem?_set_ne hi, ← List.getD_eq_getElem?_getD]
      omega
  · rw [if_neg (by simpa using hc)]
    by_cases hi : hp b h = i
    · subst hi
      rw [if_pos rfl]
      omega
    · rw [if_neg hi]
      omega
/-- No register is above 26. -/
def Low (l : List UInt8) : Prop := ∀ x ∈ l, x.toNat ≤ 26
theorem Low.add {l : List UInt8} (h : Low l) (b x : Nat) : Low (addL b x l) := by
  unfold addL
  split
  · intro y hy
    rcases List.mem_or_eq_of_mem_set hy with h1 | h1
    · exact h y h1
    · rw [h1, ofNat_toNat (hr_hi b x)]; exact hr_hi b x
  · exact h
theorem Low.zero (n : Nat) : Low (List.replicate n 0) := fun x hx => by rw [List.eq_of_mem_replicate hx]; decide
/-- All that are added. -/
def addAll (b : Nat) (hs : List Nat) (l : List UInt8) : List UInt8 := hs.foldl (fun l h => addL b h l) l
theorem addAll_length (b : Nat) (hs : List Nat) : ∀ l : List UInt8, (addAll b hs l).length = l.length := by
  induction hs with
  | nil => intro l; rfl
  | cons h t ih => intro l; rw [addAll, List.foldl_cons, ← addAll, ih, addL_length]
theorem addAll_low (b : Nat) (hs : List Nat) : ∀ l : List UInt8, Low l → Low (addAll b hs l) := by
  induction hs with
  | nil => intro l h; exact h
  | cons x t ih => intro l h; rw [addAll, List.foldl_cons, ← addAll]; exact ih _ (h.add b x)
theorem addAll_snoc (b : Nat) (hs : List Nat) (x : Nat) (l : List UInt8) : addAll b (hs ++ [x]) l = addL b x (addAll b hs l) := by
  simp [addAll]
/-- The greatest rank that came to register i. -/
def mx (b i : Nat) : List Nat → Nat
  | [] => 0
  | h :: t => max (if hp b h = i then hr b h else 0) (mx b i t)
theorem addAll_at (b : Nat) (i : Nat) (hs : List Nat) : ∀ l : List UInt8, l.length = 2 ^ b → ((addAll b hs l).getD i 0).toNat = max (l.getD i 0).toNat (mx b i hs) := by
  induction hs with
  | nil => intro l hl; simp [addAll, mx]
  | cons h t ih =>
    intro l hl
    rw [addAll, List.foldl_cons, ← addAll, ih _ (by rw [addL_length]; exact hl), addL_at b h l hl, mx]
    omega
theorem mx_append (b i : Nat) (a c : List Nat) : mx b i (a ++ c) = max (mx b i a) (mx b i c) := by
  induction a with
  | nil => simp [mx]
  | cons h t ih => rw [List.cons_append, mx, mx, ih]; omega
theorem mx_le_of_sub (b i : Nat) {a c : List Nat} (h : ∀ x ∈ a, x ∈ c) : mx b i a ≤ mx b i c := by
  have key : ∀ (c : List Nat) (x : Nat), x ∈ c → (if hp b x = i then hr b x else 0) ≤ mx b i c := by
    intro c x hx
    induction c with
    | nil => cases hx
    | cons y t ih =>
      rw [mx]
      rcases List.mem_cons.1 hx with rfl | h1
      · omega
      · have := ih h1; omega
  induction a with
  | nil => simp [mx]
  | cons y t ih =>
    rw [mx]
    have h1 := key c y (h y (by simp))
    have h2 := ih (fun x hx => h x (by simp [hx]))
    omega
theorem mx_eq_of_same (b i : Nat) {a c : List Nat} (h : ∀ x, x ∈ a ↔ x ∈ c) : mx b i a = mx b i c :=
  Nat.le_antisymm (mx_le_of_sub b i fun x hx => (h x).1 hx) (mx_le_of_sub b i fun x hx => (h x).2 hx)
/-- Registers that are the same one by one. -/
theorem regs_ext {a c : List UInt8} (hl : a.length = c.length) (h : ∀ i, (a.getD i 0).toNat = (c.getD i 0).toNat) : a = c := by
  refine List.ext_getElem hl fun i h1 h2 => ?_
  have := h i
  simp only [List.getD_eq_getElem?_getD, List.getElem?_eq_getElem h1, List.getElem?_eq_getElem h2, Option.getD_some] at this
  exact UInt8.toNat_inj.1 this
/-- The registers of a sketch to which all of hs was added. -/
def regs (b : Nat) (hs : List Nat) : List UInt8 := addAll b hs (List.replicate (2 ^ b) 0)
theorem regs_length (b : Nat) (hs : List Nat) : (regs b hs).length = 2 ^ b := by unfold regs; rw [addAll_length]; simp
theorem regs_low (b : Nat) (hs : List Nat) : Low (regs b hs) := addAll_low _ _ _ (Low.zero _)
theorem zeros_at (n i : Nat) : ((List.replicate n (0 : UInt8)).getD i 0).toNat = 0 := by
  rw [List.getD_eq_getElem?_getD, List.getElem?_replicate]
  split <;> rfl
theorem regs_at (b : Nat) (hs : List Nat) (i : Nat) : ((regs b hs).getD i 0).toNat = mx b i hs := by
  unfold regs
  rw [addAll_at b i hs _ (by simp), zeros_at]
  omega
theorem regs_snoc (b : Nat) (hs : List Nat) (x : Nat) : addL b x (regs b hs) = regs b (hs ++ [x]) := (addAll_snoc b hs x _).symm
theorem regs_same (b : Nat) {a c : List Nat} (h : ∀ x, x ∈ a ↔ x ∈ c) : regs b a = regs b c :=
  regs_ext (by rw [regs_length, regs_length]) fun i => by rw [regs_at, regs_at]; exact mx_eq_of_same b i h
/-- Merged registers. -/
def mergeL (l t : List UInt8) : List UInt8 := l.zipWith (fun x y => if x.toNat ≤ y.toNat then y else x) t
theorem mergeL_length {l t : List UInt8} (h : l.length = t.length) : (mergeL l t).length = l.length := by simp [mergeL, h]
theorem mergeL_at {l t : List UInt8} (h : l.length = t.length) (i : Nat) : ((mergeL l t).getD i 0).toNat = max (l.getD i 0).toNat (t.getD i 0).toNat := by
  unfold mergeL
  simp only [List.getD_eq_getElem?_getD, List.getElem?_zipWith]
  by_cases hi : i < l.length
  · rw [List.getElem?_eq_getElem hi, List.getElem?_eq_getElem (by omega)]
    simp only [Option.getD_some]
    split <;> omega
  · rw [List.getElem?_eq_none (by omega), List.getElem?_eq_none (by omega)]
    rfl
theorem mergeL_self (l : List UInt8) : mergeL l l = l :=
  regs_ext (mergeL_length rfl) fun i => by rw [mergeL_at rfl]; omega
theorem mergeL_regs (b : Nat) (a c : List Nat) : mergeL (regs b a) (regs b c) = regs b (a ++ c) :=
  regs_ext (by rw [mergeL_length (by rw [regs_length, regs_length]), regs_length, regs_length]) fun i => by
    rw [mergeL_at (by rw [regs_length, regs_length]), regs_at, regs_at, regs_at, mx_append]
theorem mergeL_low {l t : List UInt8} (hl : Low l) (ht : Low t) : Low (mergeL l t) := by
  intro x hx
  unfold mergeL at hx
  obtain ⟨i, hi, rfl⟩ := List.mem_iff_getElem.1 hx
  rw [List.getElem_zipWith]
  rw [List.length_zipWith] at hi
  split
  · exact ht _ (List.getElem_mem _)
  · exact hl _ (List.getElem_mem _)
end Go.Proofs.YtdcjfefnkjdchaaDoor
