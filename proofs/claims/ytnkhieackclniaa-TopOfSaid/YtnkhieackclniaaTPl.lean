/- A top and the chapter's own, that live side by side; deeds that come in. -/
import Derived.Test.YtnkhieackclniaaTRfs
import Derived.Test.YtnkhieackclniaaTBak
import Derived.Test.YtnkhieackclniaaReg2
import Derived.Deep.Slices
import Derived.Deep.Fields
namespace Go.Proofs.Ytnkhieackclniaa
open Go Go.RowKit

/-- One deed, as its three cells hold it. -/
structure DeedV where
  k : Nat
  s : ByteArray
  b : Nat
def DeedV.vals (d : DeedV) : List Value := [.int .u8 d.k, .string d.s, .int .u64 d.b]
/-- A slice of n deeds. -/
def Deeds (p : Option Addr) (n : Nat) (w : World) : Prop :=
  ∀ i, i < n → ∃ (D off : Nat) (d : DeedV), p = some ⟨D, off, none⟩ ∧ D < w.heap.size ∧ w.cell? ⟨D, off + i * 3, none⟩ = some (.int .u8 d.k) ∧ w.cell? ⟨D, off + i * 3 + 1, none⟩ = some (.string d.s) ∧ w.cell? ⟨D, off + i * 3 + 2, none⟩ = some (.int .u64 d.b) ∧ d.k < 256 ∧ d.s.size ≤ maxLen ∧ d.b < 18446744073709551616

/-- A top and the chapter's own, side by side, in a world that comes of w0. -/
structure Two (B P room : Nat) (v u : Value) (l m : List Itm) (w0 w : World) : Prop where
  t : Tp w0.heap.size B room v l w
  x : RTp w0.heap.size P room u m w
  a : Ap B v P u
  b : Below w0.heap.size w0 w
section
variable {B P room : Nat} {v u v' u' : Value} {l m l' m' : List Itm} {w0 w w' : World}
theorem Two.size (h : Two B P room v u l m w0 w) : w0.heap.size ≤ w.heap.size := h.b.size
theorem Two.below (h : Two B P room v u l m w0 w) (hB : Below w.heap.size w w') : Two B P room v u l m w0 w' := ⟨h.t.below hB, h.x.below hB, h.a, h.b.trans (hB.mono h.b.size)⟩
theorem Two.drewN (h : Two B P room v u l m w0 w) (n : Nat) : Two B P room v u l m w0 (w.drewN n) := h.below (below_drewN (Below.refl _ _) n)
theorem Two.drew (h : Two B P room v u l m w0 w) : Two B P room v u l m w0 w.drew := h.below (Below.refl _ _).drew
theorem Two.stepT (h : Two B P room v u l m w0 w) (hT : Tp w0.heap.size B room v' l' w') (hM : Mov (OwnT B v) w w') (hat : ∀ g, v'.ownBlock = some g → v.ownBlock = some g ∨ w.heap.size ≤ g) : Two B P room v' u l' m w0 w' := by
  have h1 := h.x.lt
  refine ⟨hT, h.x.mov hM h.a.not.1 h.a.not.2, ⟨h.a.b, fun e => (hat P e).elim h.a.c (fun h1 => by omega), h.a.d, fun g e hg => (hat g e).elim (fun h1 => h.a.e g h1 hg) (fun h1 => by have := (h.x.row.lt hg).2; omega)⟩, h.b.trans (hM.below ?_ h.b.size)⟩
  rintro k (rfl | hk)
  · exact h.t.lo
  · exact (h.t.row.lt hk).1
theorem Two.stepX (h : Two B P room v u l m w0 w) (hX : RTp w0.heap.size P room u' m' w') (hM : Mov (OwnT P u) w w') (hat : ∀ g, u'.ownBlock = some g → u.ownBlock = some g ∨ w.heap.size ≤ g) : Two B P room v u' l m' w0 w' := by
  have h1 := h.t.lt
  refine ⟨h.t.mov hM h.a.symm.not.1 h.a.symm.not.2, hX, ⟨h.a.b, h.a.c, fun e => (hat B e).elim h.a.d (fun h1 => by omega), fun g e hg => (hat g hg).elim (fun h1 => h.a.e g e h1) (fun h1 => by have := (h.t.row.lt e).2; omega)⟩, h.b.trans (hM.below ?_ h.b.size)⟩
  rintro k (rfl | hk)
  · exact h.x.lo
  · exact (h.x.row.lt hk).1
/-- Both begin. -/
theorem Two.start {w1 w2 : World} (hb : Below w0.heap.size w0 w1) (hT : Tp w1.heap.size B room v l w2) (hB1 : Below w1.heap.size w1 w2) (hX : RTp w2.heap.size P room u m w') (hB2 : Below w2.heap.size w2 w') : Two B P room v u l m w0 w' := by
  have h1 := hT.lt
  have h2 := hX.lo
  refine ⟨(hT.below hB2).mono hb.size, hX.mono (Nat.le_trans hb.size hB1.size), ⟨by omega, fun e => ?_, fun e => ?_, fun g e1 e2 => ?_⟩, (hb.trans (hB1.mono hb.size)).trans (hB2.mono (Nat.le_trans hb.size hB1.size))⟩
  · have := (hT.row.lt e).2; omega
  · have := (hX.row.lt e).1; omega
  · have := (hT.row.lt e1).2; have := (hX.row.lt e2).1; omega
end
/-- What the world is, by what is done. -/
def PlPsi (B P room : Nat) (v u : Value) (l l' : List Itm) (w0 : World) (ls : Array Bool) (w : World) : Prop :=
  if ls[7]? = some true then (if ls[15]? = some true then ∃ v' u', Two B P room v' u' l' l' w0 w else ∃ v', Two B P room v' u l' l w0 w) else Two B P room v u l l w0 w
section
variable {B P room : Nat} {v u : Value} {l l' : List Itm} {w0 w w' : World} {ls : Array Bool}
theorem PlPsi.b (h : PlPsi B P room v u l l' w0 ls w) : Below w0.heap.size w0 w := by
  unfold PlPsi at h
  split at h
  · split at h
    · obtain ⟨_, _, h⟩ := h; exact h.b
    · obtain ⟨_, h⟩ := h; exact h.b
  · exact h.b
theorem PlPsi.keep (h : PlPsi B P room v u l l' w0 ls w) (hB : Below w.heap.size w w') (k : Nat) (h7 : k ≠ 7) (h15 : k ≠ 15) : PlPsi B P room v u l l' w0 (ls.setIfInBounds k true) w' := by
  unfold PlPsi at h ⊢
  rw [Array.getElem?_setIfInBounds_ne h7, Array.getElem?_setIfInBounds_ne h15]
  split at h
  · split at h
    · rename_i h1 h2
      rw [if_pos h1, if_pos h2]
      obtain ⟨v', u', h⟩ := h
      exact ⟨v', u', h.below hB⟩
    · rename_i h1 h2
      rw [if_pos h1, if_neg h2]
      obtain ⟨v', h⟩ := h
      exact ⟨v', h.below hB⟩
  · rename_i h1
    rw [if_neg h1]
    exact h.below hB
theorem PlPsi.stay (h : PlPsi B P room v u l l' w0 ls w) (k : Nat) (h7 : k ≠ 7) (h15 : k ≠ 15) : PlPsi B P room v u l l' w0 (ls.setIfInBounds k true) w := h.keep (Below.refl _ _) k h7 h15
theorem PlPsi.at0 (h : PlPsi B P room v u l l' w0 ls w) (h7 : ls[7]? = some false) : Two B P room v u l l w0 w := by
  unfold PlPsi at h; rw [if_neg (by rw [h7]; simp)] at h; exact h
theorem PlPsi.at1 (h : PlPsi B P room v u l l' w0 ls w) (h7 : ls[7]? = some true) (h15 : ls[15]? = some false) : ∃ v', Two B P room v' u l' l w0 w := by
  unfold PlPsi at h; rw [if_pos h7, if_neg (by rw [h15]; simp)] at h; exact h
theorem PlPsi.at2 (h : PlPsi B P room v u l l' w0 ls w) (h7 : ls[7]? = some true) (h15 : ls[15]? = some true) : ∃ v' u', Two B P room v' u' l' l' w0 w := by
  unfold PlPsi at h; rw [if_pos h7, if_pos h15] at h; exact h
theorem PlPsi.zero (m : Nat) (h : Two B P room v u l l w0 w) : PlPsi B P room v u l l' w0 (Array.replicate m false) w := by
  unfold PlPsi
  rw [if_neg (by rw [Array.getElem?_replicate]; split <;> simp)]
  exact h
theorem PlPsi.to1 {v' : Value} (hls : ls.size = 33) (h15 : ls[15]? = some false) (h : Two B P room v' u l' l w0 w) : PlPsi B P room v u l l' w0 (ls.setIfInBounds 7 true) w := by
  unfold PlPsi
  rw [if_pos (by simp [hls]), Array.getElem?_setIfInBounds_ne (by decide), if_neg (by rw [h15]; simp)]
  exact ⟨v', h⟩
theorem PlPsi.to2 {v' u' : Value} (hls : ls.size = 33) (h7 : ls[7]? = some true) (h : Two B P room v' u' l' l' w0 w) : PlPsi B P room v u l l' w0 (ls.setIfInBounds 15 true) w := by
  unfold PlPsi
  rw [Array.getElem?_setIfInBounds_ne (by decide), if_pos h7, if_pos (by simp [hls])]
  exact ⟨v', u', h⟩
end
end Go.Proofs.Ytnkhieackclniaa
