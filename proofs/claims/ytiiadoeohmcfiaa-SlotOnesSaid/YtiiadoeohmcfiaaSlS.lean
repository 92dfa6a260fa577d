/- SlotOnes. -/
import Derived.Test.YtiiadoeohmcfiaaSlQ
import Derived.Test.YtiiadoeohmcfiaaLaw
import Derived.BigQuiet
import Derived.ChangeArms
import Derived.ChangeSlices
import Derived.ChangeSame
namespace Go.Proofs.Ytiiadoeohmcfiaa
open Go Go.RowKit Go.Maps Go.ChangeShapes Go.WideShapes

theorem lawK : Keyed Try.prog 22 := int_keyed Try.underlying22
theorem zeroE (w : World) : (zeroValue 3).run Try.prog w = .ok (.int .i64 0) w := by kernel_rfl
abbrev ownsM (w : World) (b n : Nat) (D : DataW Unit) : Prop := w.ownsMap Try.prog 22 (plainElem Try.prog 3) b n D
theorem wf16 {k : Nat} (h : k < 65536) : (Lit.int .u16 (k : Int)).wf = true := by
  simp [Lit.wf, IntKind.min, IntKind.max, IntKind.signed, IntKind.bits]
  omega
theorem key16 {k : Nat} (h : k < 65536) : Go.keyOf Try.prog 22 (.int .u16 (k : Int)) = some (lk k) := keyOf_int_mk Try.underlying22 (wf16 h)
section
variable {P : Program} {w : World} {ops : Array Oper} {rest : List Oper} {o : Oper} {a : Act} {Q : Exit → Act → World → Prop}
/-- A number that is in the map. -/
theorem look_there (hg : o.guard = none) (m x : Operand) (hop : o.op = Op.lookup 49 m x true) {b n : Nat} {D : DataW Unit} (hm : a.eval m = .map (some b)) (hown : ownsM w b n D)
    {k s : Nat} (hk : k < 65536) (hx : a.eval x = .int .u16 (k : Int)) (hh : Maps.has D (lk k) = true) (ha : D.atKey (lk k) (.lit (.int .i64 0)) = .lit (.int .i64 (s : Int)))
    (hK : wpList Try.prog ops Q rest (a.put o.dst (.tuple #[.int .i64 (s : Int), .bool true])) w) : wpList Try.prog ops Q (o :: rest) a w :=
  wpList_lookup_own_ok_int w hg m x 49 hop 22 3 .i64 lawK Try.underlying49 Try.underlying3 (zeroE w) b n D hm hown _ _ hx (key16 hk) (fun c h1 _ => by
    have h2 := ha.symm.trans h1
    have : (s : Int) = c := by injection h2 with h2; injection h2
    subst this
    rw [hh]
    exact hK)
/-- A number that is not in it. -/
theorem look_no (hg : o.guard = none) (m x : Operand) (hop : o.op = Op.lookup 49 m x true) {b n : Nat} {D : DataW Unit} (hm : a.eval m = .map (some b)) (hown : ownsM w b n D)
    {k : Nat} (hk : k < 65536) (hx : a.eval x = .int .u16 (k : Int)) (hh : Maps.has D (lk k) = false)
    (hK : wpList Try.prog ops Q rest (a.put o.dst (.tuple #[.int .i64 0, .bool false])) w) : wpList Try.prog ops Q (o :: rest) a w :=
  wpList_lookup_own_ok_int w hg m x 49 hop 22 3 .i64 lawK Try.underlying49 Try.underlying3 (zeroE w) b n D hm hown _ _ hx (key16 hk) (fun c h1 _ => by
    have h2 := (atKey_of_not_has hh _).symm.trans h1
    have : (0 : Int) = c := by injection h2 with h2; injection h2
    subst this
    rw [hh]
    exact hK)
end
theorem ownsM.below {w w' : World} {b n : Nat} {D : DataW Unit} (h : ownsM w b n D) (hB : Below w.heap.size w w') : ownsM w' b n D :=
  World.ownsMap.kept (row := none) h ⟨hB.os, hB.tape, hB.output, hB.size, fun k hk _ => hB.block k hk⟩ (by simp)
theorem ownsM.chg {w w' : World} {b n B : Nat} {D : DataW Unit} (h : ownsM w b n D) (hC : Chg B w w') (hn : b ≠ B) : ownsM w' b n D :=
  World.ownsMap.kept (row := some B) h ⟨hC.os, hC.tape, hC.output, hC.size, fun k hk h2 => hC.block k hk (fun e => h2 (by rw [e]))⟩ (by simpa using hn)
theorem chg_grown {w w' : World} {b : Nat} (h : w.grownBy w' (some b)) : Chg b w w' := ⟨h.os, h.tape, h.output, h.size, fun k hk hn => h.block k hk (by simpa using hn)⟩
/-- The table and the map side by side. -/
structure OW (w0 : World) (B b n : Nat) (L : List Key) (D : DataW Unit) (w : World) : Prop where
  t : TabE B L w
  m : ownsM w b n D
  o : Ones L D
  ne : B ≠ b
  lB : w0.heap.size ≤ B
  lb : w0.heap.size ≤ b
  below : Below w0.heap.size w0 w
section
variable {w0 w w' : World} {B b n n' : Nat} {L L' : List Key} {D D' : DataW Unit}
theorem OW.next (h : OW w0 B b n L D w) (hB : Below w.heap.size w w') : OW w0 B b n L D w' := ⟨h.t.below hB, h.m.below hB, h.o, h.ne, h.lB, h.lb, h.below.trans (hB.mono h.below.size)⟩
theorem OW.both {w1 w2 : World} (h : OW w0 B b n L D w) (hC : Chg B w w1) (hT : TabE B L' w1) (hm : ownsM w2 b n' D') (hg : w1.grownBy w2 (some b)) (ho : Ones L' D') : OW w0 B b n' L' D' w2 :=
  have h1 := h.below.trans (hC.below h.lB h.below.size)
  ⟨hT.chg (chg_grown hg) h.ne, hm, ho, h.ne, h.lB, h.lb, h1.trans ((chg_grown hg).below h.lb h1.size)⟩
theorem OW.only {w1 : World} (h : OW w0 B b n L D w) (hC : Chg B w w1) (hT : TabE B L w1) : OW w0 B b n L D w1 :=
  ⟨hT, h.m.chg hC h.ne.symm, h.o, h.ne, h.lB, h.lb, h.below.trans (hC.below h.lB h.below.size)⟩
theorem OW.mid {w1 : World} (h : OW w0 B b n L D w) (hC : Chg B w w1) : ownsM w1 b n D := h.m.chg hC h.ne.symm
theorem OW.more (h : OW w0 B b n L D w) (hn : n ≤ n') : OW w0 B b n' L D w := ⟨h.t, World.ownsMap.mono h.m hn, h.o, h.ne, h.lB, h.lb, h.below⟩
end
/-- Numbers of 16 bits that lie somewhere. -/
def Shorts (p : Option Addr) (hs : List Nat) (w : World) : Prop :=
  ∀ k (hk : k < hs.length), ∃ C off, p = some ⟨C, off, none⟩ ∧ C < w.heap.size ∧ w.cell? ⟨C, off + k, none⟩ = some (.int .u16 (hs[k] : Int)) ∧ hs[k] < 65536
theorem shorts_of {H : Type} {enc : TypeId × Value → H} {W : World} {spare : Nat → Bool} {held : Bool} {v : Value} {d : DataW H} {ps : List MemPlace}
    (hv : ∃ p len cap, v = .slice p len cap) (h : DataW.Trod enc Try.prog W 0 spare held 48 v d ps) (hlt : ∀ x ∈ ps, x.block < W.heap.size) :
    ∃ (p : Option Addr) (hs : List Nat) (cap : Nat), v = .slice p hs.length cap ∧ hs.length ≤ 9223372036854775807 ∧ Shorts p hs W := by
  obtain ⟨p, len, cap, rfl⟩ := hv
  obtain ⟨fuel, hf⟩ := h
  rcases ChangeShapes.open_ints Try.underlying48 Try.underlying22 (by kernel_rfl) hf with ⟨hcs, _⟩ | ⟨a, len', cap', zs, hcs, _, hl, hm, hz, hx, hcell, hwz⟩
  · simp [Value.cells] at hcs
    obtain ⟨rfl, rfl, rfl⟩ := hcs
    exact ⟨none, [], 0, rfl, Nat.zero_le _, fun k hk => by simp at hk⟩
  · simp [Value.cells] at hcs
    obtain ⟨rfl, rfl, rfl⟩ := hcs
    simp only [Prod.mk.injEq] at hx
    obtain ⟨rfl, rfl⟩ := hx
    have hzl : len ≤ zs.length := by rw [hz]; split <;> omega
    have hlen : ((zs.take len).map Int.toNat).length = len := by rw [List.length_map, List.length_take]; omega
    refine ⟨some a, (zs.take len).map Int.toNat, cap, by rw [hlen], by rw [hlen]; unfold maxLen at hm; omega, fun k hk => ?_⟩
    rw [hlen] at hk
    obtain ⟨b, off, spot⟩ := a
    have hspot : spot = none := by simpa [Addr.add] using World.cell?_spot (hcell 0 (by omega))
    subst hspot
    have e : (((zs.take len).map Int.toNat)[k]'(by omega) : Nat) = (zs.getD k 0).toNat := by
      rw [List.getElem_map, List.getElem_take, List.getD_eq_getElem?_getD, List.getElem?_eq_getElem (by omega)]; rfl
    have g4 := hwz (zs.getD k 0) (by rw [List.getD_eq_getElem?_getD, List.getElem?_eq_getElem (by omega)]; simp)
    have hx : 0 ≤ zs.getD k 0 ∧ zs.getD k 0 ≤ 65535 := by simpa [Lit.wf, IntKind.min, IntKind.max, IntKind.signed, IntKind.bits] using g4
    refine ⟨b, off, rfl, hlt (.cell b off) (MemPlace.mem_row.2 ⟨0, by omega, by simp⟩), ?_, by rw [e]; omega⟩
    rw [← Addr.add_lit, hcell k (by omega), e]
    exact congrArg (fun n => some (Value.int .u16 n)) (by omega)
end Go.Proofs.Ytiiadoeohmcfiaa
