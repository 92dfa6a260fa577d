/- A policy is read off a text, right or not. A scope, within the fence: gone through as if it were not there, where nothing jumps to a label. -/
import Derived.Test.YtdhkonaebhpeeaaDoorPoK
import Derived.Test.YtdhkonaebhpeeaaDoorRsJ
import Derived.Test.YtdhkonaebhpeeaaDoorPoR
import Derived.Test.YtdhkonaebhpeeaaDoorChecked
import Derived.Scope
import Derived.ControlIn
import Derived.CallsIn
namespace Go.Proofs.YtdhkonaebhpeeaaDoor.Po
open Go Go.RowKit

/-- What is told, what is untold, behind some words. -/
def goN : List Int → List Int → List Nat → List (List UInt8) → Option (List Int × List Int × List Nat)
  | n, t, u, [] => some (n, t, u)
  | n, t, u, w :: r => match findN w u with
    | none => none
    | some x => goN (setN n x.2.1 x.2.2) (setT t x.2.1 x.2.2) (u.eraseIdx x.1) r
theorem words_go : ∀ (ws : List (List UInt8)) (n t : List Int) (u : List Nat), wordsN n t u ws = (goN n t u ws).map fun x => (x.1, x.2.1)
  | [], _, _, _ => rfl
  | w :: r, n, t, u => by
    unfold wordsN goN
    cases findN w u with
    | none => rfl
    | some x => exact words_go r _ _ _
theorem goN_cons (n t : List Int) (u : List Nat) (w : List UInt8) (r : List (List UInt8)) : goN n t u (w :: r) = match findN w u with
    | none => none
    | some x => goN (setN n x.2.1 x.2.2) (setT t x.2.1 x.2.2) (u.eraseIdx x.1) r := rfl
theorem go_app : ∀ (pre : List (List UInt8)) (rest : List (List UInt8)) (n t : List Int) (u : List Nat), goN n t u (pre ++ rest) = match goN n t u pre with
    | none => none
    | some x => goN x.1 x.2.1 x.2.2 rest
  | [], _, _, _, _ => rfl
  | w :: r, rest, n, t, u => by
    rw [List.cons_append, goN_cons, goN_cons]
    cases findN w u with
    | none => rfl
    | some x => exact go_app r rest _ _ _
/-- What a text is read as, beginning as it is. -/
def runN (n t : List Int) (s : List UInt8) : Option (List Int × List Int) := if s = [] then some (n, t) else wordsN n t (List.range 11) (cutB 32 s)
theorem find_ge {w : List UInt8} {u : List Nat} (h : ∀ j (hj : j < u.length), hitN w u[j] = none) : findN w u = none := find_none fun k hk => by
  obtain ⟨j, hj, e⟩ := List.getElem_of_mem hk
  rw [← e]
  exact h j hj
theorem find_is {w : List UInt8} : ∀ {u : List Nat} {i : Nat} (hi : i < u.length) {ns : List Int}, (∀ j (hj : j < i), hitN w (u[j]'(by omega)) = none) → hitN w u[i] = some ns → findN w u = some (i, u[i], ns)
  | k :: r, 0, _, ns, _, h => by
    unfold findN
    rw [show hitN w k = some ns from h]
    rfl
  | k :: r, i + 1, hi, ns, h0, h => by
    unfold findN
    rw [show hitN w k = none from h0 0 (by omega)]
    have := find_is (u := r) (i := i) (by simpa using hi) (ns := ns) (fun j hj => h0 (j + 1) (by omega)) h
    rw [this]
    rfl
theorem cut_prefix (w p : ByteArray) (W : World) :
    Calls Tryd.prog 50 #[.string w, .string p] W fun e W' => e = .returned (.tuple #[.string (tx ((cutP p.data.toList w.data.toList).getD w.data.toList)), .bool (cutP p.data.toList w.data.toList).isSome]) ∧ W' = W := by
  have h := Tryd.strings_CutPrefix w p W
  unfold Lib.trimPrefix Lib.hasPrefix at h
  unfold cutP
  by_cases hp : p.data.toList.isPrefixOf w.data.toList = true
  · rw [if_pos hp]
    rw [if_pos hp, hp] at h
    exact h
  · rw [if_neg hp]
    have hp2 : p.data.toList.isPrefixOf w.data.toList = false := by simpa using hp
    rw [if_neg hp, hp2] at h
    exact h
theorem mov_set1 (W : World) (k i : Nat) (x : Value) : Mov (fun j => j = k) W (W.setCell ⟨k, i, none⟩ x) := (Mov.refl (fun j => j = k) W).set (k := k) rfl i x
theorem mov_put1 (W : World) (k : Nat) (o : Obj) : Mov (fun j => j = k) W (W.putObj k o) := mov_put (S := fun j => j = k) (Mov.refl _ _) rfl o
theorem Mov.wide {S T : Nat → Prop} {a b : World} (h : Mov S a b) (hS : ∀ j, S j → T j) : Mov T a b := ⟨h.os, h.tape, h.output, h.size, fun j hj hn => h.block j hj (fun hs => hn (hS j hs))⟩
/-- What is so while a policy is read: N the result's box, F the list's block, Z the list's box, the text's three, the rounds' block, the record behind it. -/
structure Rd (S : Nat → Prop) (P N F Z : Nat) (w : World) (rec : Obj) (n t : List Int) (u : List Nat) (W : World) : Prop where
  res : Boxed W N 4 (.bool false)
  unt : Boxed W Z 63 (.slice (some ⟨F, 0, none⟩) u.length 11)
  parts : FullAt F P u W
  pol : ∃ v, PolAt P n v W ∧ Tr S v t W
  mov : Mov (fun j => j = P) w W
  size : Z + 6 ≤ W.heap.size
  loop : W.heap[Z + 5]? = some rec
  defs : W.heap[Z + 4]? = some (.deferred (some []))
  len : n.length = 10
/-- How the blocks lie. -/
structure Lie (S : Nat → Prop) (P N F Z : Nat) (w : World) : Prop where
  hP : P < N
  hN : N < F
  hF : F < Z
  hw : w.heap.size = N
  sP : S P
  sN : S N
  sF : S F
  sZ : ∀ j, Z ≤ j → j ≤ Z + 5 → S j
section
variable {S : Nat → Prop} {P N F Z : Nat} {w W W' : World} {rec rec' : Obj} {n t : List Int} {u : List Nat}
/-- A store into a box, or another object in its place, beside what is told of. -/
theorem Rd.keep (h : Rd S P N F Z w rec n t u W) (hL : Lie S P N F Z w) {k : Nat} (hM : Mov (fun j => j = k) W W') (hk : S k) (k1 : N < k) (k2 : k ≠ F) (k3 : k ≠ Z) (k4 : k ≠ Z + 4) (k5 : k ≠ Z + 5) : Rd S P N F Z w rec n t u W' := by
  obtain ⟨v, hv, ht⟩ := h.pol
  have hs := h.size
  have l := hL.hP
  have l2 := hL.hN
  have l3 := hL.hF
  have hw := hL.hw
  exact ⟨(hM.block _ (by omega) (by omega)).trans h.res, (hM.block _ (by omega) (by omega)).trans h.unt, h.parts.mov hM (by omega), ⟨v, cells_mov hv hM (by omega), ht.mov hM (fun j e _ => by rw [e]; exact hk)⟩,
    ⟨hM.os.trans h.mov.os, hM.tape.trans h.mov.tape, hM.output.trans h.mov.output, Nat.le_trans h.mov.size hM.size, fun j hj hn => (hM.block j (Nat.lt_of_lt_of_le hj h.mov.size) (by omega)).trans (h.mov.block j hj hn)⟩,
    Nat.le_trans hs hM.size, (hM.block _ (by omega) (by omega)).trans h.loop, (hM.block _ (by omega) (by omega)).trans h.defs, h.len⟩
theorem Rd.set (h : Rd S P N F Z w rec n t u W) (hL : Lie S P N F Z w) (x : Value) : Rd S P N F Z w rec n t u (W.setCell ⟨Z + 1, 0, none⟩ x) :=
  h.keep hL (k := Z + 1) (mov_set1 W (Z + 1) 0 x) (hL.sZ _ (by omega) (by omega)) (by have := hL.hN; have := hL.hF; omega) (by have := hL.hF; omega) (by omega) (by omega) (by omega)
theorem Rd.put (h : Rd S P N F Z w rec n t u W) (hL : Lie S P N F Z w) : Rd S P N F Z w rec' n t u (W.putObj (Z + 5) rec') := by
  obtain ⟨v, hv, ht⟩ := h.pol
  have hs := h.size
  have l := hL.hP
  have l2 := hL.hN
  have l3 := hL.hF
  have hw := hL.hw
  have hM : Mov (fun j => j = Z + 5) W (W.putObj (Z + 5) rec') := mov_put1 _ _ _
  exact ⟨(hM.block _ (by omega) (by omega)).trans h.res, (hM.block _ (by omega) (by omega)).trans h.unt, h.parts.mov hM (by omega), ⟨v, cells_mov hv hM (by omega), ht.mov hM (fun j e _ => by rw [e]; exact hL.sZ _ (by omega) (by omega))⟩,
    ⟨hM.os.trans h.mov.os, hM.tape.trans h.mov.tape, hM.output.trans h.mov.output, Nat.le_trans h.mov.size hM.size, fun j hj hn => (hM.block j (Nat.lt_of_lt_of_le hj h.mov.size) (by omega)).trans (h.mov.block j hj hn)⟩,
    Nat.le_trans hs hM.size, World.putObj_heap_same (by omega), (hM.block _ (by omega) (by omega)).trans h.defs, h.len⟩
theorem Rd.past (h : Rd S P N F Z w rec n t u W) (hL : Lie S P N F Z w) (hB : Below W.heap.size W W') : Rd S P N F Z w rec n t u W' := by
  obtain ⟨v, hv, ht⟩ := h.pol
  have hs := h.size
  have l := hL.hP
  have l2 := hL.hN
  have l3 := hL.hF
  exact ⟨(hB.block _ (by omega)).trans h.res, (hB.block _ (by omega)).trans h.unt, h.parts.below hB, ⟨v, CellsAt.below hv hB, ht.below hB⟩, h.mov.trans (Mov.ofB (S := fun j => j = P) hB) (fun _ _ e => e),
    Nat.le_trans hs hB.size, (hB.block _ (by omega)).trans h.loop, (hB.block _ (by omega)).trans h.defs, h.len⟩
/-- A part's numbers have been read. -/
theorem Rd.read (h : Rd S P N F Z w rec n t u W) (hL : Lie S P N F Z w) (hM : Mov (fun j => j = P) W W') {n' t' : List Int} {v' : Value} (hP : PolAt P n' v' W') (hT : Tr S v' t' W') (hn : n'.length = 10) : Rd S P N F Z w rec n' t' u W' := by
  have hs := h.size
  have l := hL.hP
  have l2 := hL.hN
  have l3 := hL.hF
  exact ⟨(hM.block _ (by omega) (by omega)).trans h.res, (hM.block _ (by omega) (by omega)).trans h.unt, h.parts.mov hM (by omega), ⟨v', hP, hT⟩, h.mov.trans hM (fun _ _ e => e),
    Nat.le_trans hs hM.size, (hM.block _ (by omega) (by omega)).trans h.loop, (hM.block _ (by omega) (by omega)).trans h.defs, hn⟩
/-- A part has been taken off the list. -/
theorem Rd.drop (h : Rd S P N F Z w rec n t u W) (hL : Lie S P N F Z w) {i : Nat} (hi : i < u.length) (hA : FullAt F P (u.eraseIdx i) W') (hM : Mov (fun j => j = F) W W') :
    Boxed W' Z 63 (.slice (some ⟨F, 0, none⟩) u.length 11) ∧ Rd S P N F Z w rec n t (u.eraseIdx i) (W'.setCell ⟨Z, 0, none⟩ (.slice (some ⟨F, 0, none⟩) (u.length - 1) 11)) := by
  obtain ⟨v, hv, ht⟩ := h.pol
  have hs := h.size
  have l := hL.hP
  have l2 := hL.hN
  have l3 := hL.hF
  have hw := hL.hw
  have hb : Boxed W' Z 63 (.slice (some ⟨F, 0, none⟩) u.length 11) := (hM.block _ (by omega) (by omega)).trans h.unt
  have hM2 : Mov (fun j => j = F ∨ j = Z) W (W'.setCell ⟨Z, 0, none⟩ (.slice (some ⟨F, 0, none⟩) (u.length - 1) 11)) := (hM.wide (T := fun j => j = F ∨ j = Z) (fun _ e => .inl e)).set (.inr rfl) _ _
  refine ⟨hb, ⟨(hM2.block _ (by omega) (by omega)).trans h.res, ?_, hA.mov (mov_set1 _ Z 0 _) (by omega), ⟨v, cells_mov hv hM2 (by omega), ht.mov hM2 (fun j e _ => e.elim (fun e => by rw [e]; exact hL.sF) (fun e => by rw [e]; exact hL.sZ _ (Nat.le_refl _) (by omega)))⟩,
    ⟨hM2.os.trans h.mov.os, hM2.tape.trans h.mov.tape, hM2.output.trans h.mov.output, Nat.le_trans h.mov.size hM2.size, fun j hj hn => (hM2.block j (Nat.lt_of_lt_of_le hj h.mov.size) (by omega)).trans (h.mov.block j hj hn)⟩,
    Nat.le_trans hs hM2.size, (hM2.block _ (by omega) (by omega)).trans h.loop, (hM2.block _ (by omega) (by omega)).trans h.defs, h.len⟩⟩
  rw [List.length_eraseIdx_of_lt hi]
  exact hb.set _
end
end Go.Proofs.YtdhkonaebhpeeaaDoor.Po

namespace Go.Proofs.YtdhkonaebhpeeaaDoor.Po
open Go
section
variable {F : Fence} {n : Nat} {P : Program} {b : Frame} {a : Act} {k : List Item} {cs : List Frame} {w : World} {Q : Exit → Act → World → Prop}
theorem stepR_scope {c : Code} : step P (lone (b.atR a (.code (.scope c) :: k)) cs w) = .next (lone (b.atR a (.code c :: .inScope c :: k)) cs w) :=
  step_lone_go (by simp [stepG, stepG.exec, Frame.atR])
theorem stepR_inScope {c : Code} : step P (lone (b.atR a (.inScope c :: k)) cs w) = .next (lone (b.atR a k) cs w) :=
  step_lone_go (by simp [stepG, stepG.exec, Frame.atR])
theorem exitTo_scope (c : Code) (id : Nat) (k : List Item) : exitTo id (.inScope c :: k) = exitTo id k := by simp [exitTo]
theorem wpIn_scope_straight {c : Code} (h : c.wpIn F n P (Exit.noGoto Q) a w) : (Code.scope c).wpIn F n P Q a w := by
  intro b k cs hro hb hr
  have h0 : (lone (b.atR a (.code (.scope c) :: k)) cs w).fenced P F := fenced_calm hb hr rfl
  obtain ⟨e, a₁, w₁, hq, harr⟩ := h b (.inScope c :: k) cs hro hb hr
  cases e with
  | normal =>
    exact ⟨.normal, a₁, w₁, hq, StepsIn.trans (.one h0 stepR_scope) (StepsIn.trans harr (.one (fenced_calm hb hr rfl) stepR_inScope))⟩
  | exit id => exact ⟨.exit id, a₁, w₁, hq, .of_steps (.one h0 stepR_scope) ⟨fun k' hk => harr.1 k' (by rw [exitTo_scope]; exact hk), fun hr2 hk => harr.2 hr2 (by rw [exitTo_scope]; exact hk)⟩⟩
  | goto l => exact hq.elim
  | ret => exact ⟨_, a₁, w₁, hq, .of_steps (.one h0 stepR_scope) harr⟩
  | panic ch => exact ⟨_, a₁, w₁, hq, .of_steps (.one h0 stepR_scope) harr⟩
  | outgrown => exact ⟨_, a₁, w₁, hq, .of_steps (.one h0 stepR_scope) harr⟩
end
end Go.Proofs.YtdhkonaebhpeeaaDoor.Po

