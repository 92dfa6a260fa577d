/- What TopOf's walk leans on: a deed's region, the relation between its parts, the parts of its code. -/
import Derived.Test.YtnkhieackclniaaTRfO
import Derived.Test.YtnkhieackclniaaTPl
import Derived.Test.YtnkhieackclniaaTDi
import Derived.Deep.Cut
import Derived.Deep.CutBlock
namespace Go.Proofs.Ytnkhieackclniaa
open Go Go.RowKit

def OfPhi (D o j nd cap2 P dk db b5 b : Nat) (ds dn : ByteArray) (c : Int) : Nat → Value → World → Prop
  | i, v, _ => v = ([.pointer (some ⟨P, 0, none⟩), .slice (some ⟨D, o, none⟩) nd cap2, .int .i64 j, .pointer (some ⟨D, o + j * 3, none⟩), .agg #[.int .u8 dk, .string ds, .int .u64 db], .string dn, .slice (some ⟨D, o, none⟩) nd cap2, .int .i64 j, .pointer (some ⟨D, o + j * 3, none⟩), .pointer (some ⟨D, o + j * 3 + 2, none⟩), .int .u64 db, .int .u64 b5, .int .u64 b, .int .i64 c] : List Value).getD i undef
theorem OfPhi.stays {D o j nd cap2 P dk db b5 b : Nat} {ds dn : ByteArray} {c : Int} : ∀ i v wx wy, OfPhi D o j nd cap2 P dk db b5 b ds dn c i v wx → OfPhi D o j nd cap2 P dk db b5 b ds dn c i v wy := fun _ _ _ _ h => h
theorem radd_is {base P room : Nat} {v : Value} {l l' : List Itm} {code : Int} {w : World} (h : RTp base P room v l w) (name : ByteArray) (b : Nat) (hn : name.size ≤ maxLen) (hb : b < 18446744073709551616) (hs : addS room name b l = l') (hc : addC name b l = code) :
    Calls Try.prog 14 #[.pointer (some ⟨P, 0, none⟩), .string name, .int .u64 b] w (RAdded base P room v l' code w) := by
  subst hs hc
  exact radd_any h name b hn hb
/-- What the world is, by whether the name has come. -/
def OfPsi (P room : Nat) (u : Value) (m m' : List Itm) (w0 : World) (ls : Array Bool) (w : World) : Prop :=
  if ls[13]? = some true then ∃ u', RTp w0.heap.size P room u' m' w ∧ Below w0.heap.size w0 w else RTp w0.heap.size P room u m w ∧ Below w0.heap.size w0 w
section
variable {P room : Nat} {u : Value} {m m' : List Itm} {w0 w w' : World} {ls : Array Bool}
theorem OfPsi.b (h : OfPsi P room u m m' w0 ls w) : Below w0.heap.size w0 w := by
  unfold OfPsi at h
  split at h
  · obtain ⟨_, _, h⟩ := h; exact h
  · exact h.2
theorem OfPsi.keep (h : OfPsi P room u m m' w0 ls w) (hB : Below w.heap.size w w') (k : Nat) (hk : k ≠ 13) : OfPsi P room u m m' w0 (ls.setIfInBounds k true) w' := by
  unfold OfPsi at h ⊢
  rw [Array.getElem?_setIfInBounds_ne hk]
  split at h
  · rename_i h1
    rw [if_pos h1]
    obtain ⟨u', h2, h3⟩ := h
    exact ⟨u', h2.below hB, h3.trans (hB.mono h3.size)⟩
  · rename_i h1
    rw [if_neg h1]
    exact ⟨h.1.below hB, h.2.trans (hB.mono h.2.size)⟩
theorem OfPsi.stay (h : OfPsi P room u m m' w0 ls w) (k : Nat) (hk : k ≠ 13) : OfPsi P room u m m' w0 (ls.setIfInBounds k true) w := h.keep (Below.refl _ _) k hk
theorem OfPsi.at0 (h : OfPsi P room u m m' w0 ls w) (h13 : ls[13]? = some false) : RTp w0.heap.size P room u m w ∧ Below w0.heap.size w0 w := by
  unfold OfPsi at h; rw [if_neg (by rw [h13]; simp)] at h; exact h
theorem OfPsi.at1 (h : OfPsi P room u m m' w0 ls w) (h13 : ls[13]? = some true) : ∃ u', RTp w0.heap.size P room u' m' w ∧ Below w0.heap.size w0 w := by
  unfold OfPsi at h; rw [if_pos h13] at h; exact h
theorem OfPsi.zero (k : Nat) (h : RTp w0.heap.size P room u m w) (hB : Below w0.heap.size w0 w) : OfPsi P room u m m' w0 (Array.replicate k false) w := by
  unfold OfPsi
  rw [if_neg (by rw [Array.getElem?_replicate]; split <;> simp)]
  exact ⟨h, hB⟩
theorem OfPsi.to1 {u' : Value} (hls : ls.size = 14) (h : RTp w0.heap.size P room u' m' w) (hB : Below w0.heap.size w0 w) : OfPsi P room u m m' w0 (ls.setIfInBounds 13 true) w := by
  unfold OfPsi
  rw [if_pos (by simp [hls])]
  exact ⟨u', h, hB⟩
end

/-- What the items, their room and how many came may be behind the first part. -/
def OfRel (w : World) (x0 x1 x2 : Value) (wx : World) : Prop :=
  ∃ (x' : Int) (sn' : Nat) (p' : Option Addr) (l' : List Itm) (cap' : Nat), x0 = .int .i64 x' ∧ x1 = .int .u64 sn' ∧ x2 = .slice p' l'.length cap' ∧ sn' < 18446744073709551616 ∧ l'.length ≤ cap' ∧ cap' ≤ 9223372036854775807 ∧ l'.length * 32 ≤ 140737488355328 ∧ Fit l' ∧ Rd p' l' wx ∧ Below w.heap.size w wx
theorem inv_fit {room : Nat} {l s : List Itm} (h : Inv room l) (hp : s.Perm l) : Fit s := fun x hx => by
  have hm := hp.mem_iff.1 hx
  have h1 := h.names x hm
  have h2 := many_le_seen hm
  have h3 := h.over x hm
  have h4 := h.sum
  unfold maxLen
  omega
theorem fit_set {l : List Itm} (h : Fit l) (k : Nat) (x : Itm) (hx : x.name.size ≤ maxLen ∧ x.many < 18446744073709551616 ∧ x.over < 18446744073709551616) : Fit (l.set k x) := fun y hy => by
  rcases List.mem_or_eq_of_mem_set hy with h1 | rfl
  · exact h y h1
  · exact hx
theorem fit_at {l : List Itm} (h : Fit l) (k : Nat) (hk : k < l.length) : l[k]!.name.size ≤ maxLen ∧ l[k]!.many < 18446744073709551616 ∧ l[k]!.over < 18446744073709551616 := h _ (mem_at hk)
theorem tail_rd {base T g cap n : Nat} {l : List Itm} {w : World} (h : Its base T (.slice (some ⟨g, 0, none⟩) n cap) l w) (hn : l.length = n) (h1 : 0 < n) : Rd (some ⟨g, 3, none⟩) (l.drop 1) w := by
  subst hn
  intro i hi
  rw [List.length_drop] at hi
  obtain ⟨g', cap', e, _, hg, _, _, hc, _⟩ := h.form_pos h1
  simp only [Value.slice.injEq, Option.some.injEq, Addr.mk.injEq] at e
  obtain ⟨⟨rfl, _⟩, _⟩ := e
  have hx : (l.drop 1)[i]! = l[i + 1]! := by
    rw [getE _ i (by rw [List.length_drop]; omega), getE l (i + 1) (by omega), List.getElem_drop]
    congr 1
    omega
  obtain ⟨c0, c1, c2⟩ := hc (i + 1) (by omega)
  rw [hx]
  have e0 : 3 + i * 3 = (i + 1) * 3 := by omega
  exact ⟨g, 3, rfl, hg, by rw [e0]; exact c0, by rw [e0]; exact c1, by rw [e0]; exact c2⟩
/-- From a row of the call's own to the relation. -/
theorem ofRel_of {w W wx : World} {r sn N g n cap T : Nat} {l : List Itm} (hW : Below w.heap.size w W) (hN : W.heap.size = N) (hB : Below N W wx) (hI : Its N T (.slice (some ⟨g, 0, none⟩) n cap) l wx) (hn : l.length = n) (h16 : n ≤ 16) (hc : n ≤ cap) (hm : cap ≤ 9223372036854775807) (hf : Fit l) (hs : sn < 18446744073709551616) :
    OfRel w (.int .i64 r) (.int .u64 sn) (.slice (some ⟨g, 0, none⟩) n cap) wx := by
  subst hn
  exact ⟨r, sn, _, l, cap, rfl, rfl, rfl, hs, hc, hm, by omega, hf, hI.rd, hW.trans (hB.mono (by rw [← hN]; exact hW.size))⟩


/-- The first region of a piece of code. -/
def leftR : Code → Option Nat
  | .region i _ _ => some i
  | .seq a _ => leftR a
  | _ => none
/-- The outermost sequence that begins with region n. -/
def findR (n : Nat) : Code → Option Code
  | .seq a b => match leftR a == some n with
    | true => some (.seq a b)
    | false => match findR n a with
      | some c => some c
      | none => findR n b
  | .cond _ a b => match findR n a with
      | some c => some c
      | none => findR n b
  | .block _ a => findR n a
  | .loop a => findR n a
  | .scope a => findR n a
  | _ => none
def isT : Operand → Nat → Bool
  | .tmp d, t => d == t
  | _, _ => false
/-- The outermost test of slot t. -/
def findC (t : Nat) : Code → Option Code
  | .cond c a b => match isT c t with
    | true => some (.cond c a b)
    | false => match findC t a with
      | some c => some c
      | none => findC t b
  | .seq a b => match findC t a with
      | some c => some c
      | none => findC t b
  | .block _ a => findC t a
  | .loop a => findC t a
  | .scope a => findC t a
  | _ => none
end Go.Proofs.Ytnkhieackclniaa
