/- A region that draws its order, whatever it calls: one obligation for each operation, asked of any frame in which what it waits for has come; no order is walked. -/
import Derived.WalkKit
import Derived.Below
import Derived.Orders
import Derived.Lib.Hide
import Derived.Test.YtmjipafhahggpaaDoorMCells
namespace Go.Proofs.YtmjipafhahggpaaDoor.Reg
open Go Go.RowKit

section
variable {P : Program} (G : World → World → Prop) (l : List Oper) (Q : Exit → Act → World → Prop) (a0 : Act) (w0 : World) (Φ : Nat → Value → World → Prop)

/-- No operation writes slot d, but such as wait for operation k. -/
def safe (k d : Nat) : Bool := l.all fun o => (o.dst != some d) || o.after.any fun e => Region.binds .any e && (e.on == k)

/-- What is asked of operation k. -/
def OpOk (P : Program) (k : Nat) (o : Oper) : Prop :=
  ∀ (a : Act) (w : World), G w0 w →
    (∀ e ∈ o.after.toList, Region.binds .any e = true → ∀ o' d, l[e.on]? = some o' → o'.dst = some d → ∃ v, a.tmps[d]? = some v ∧ Φ e.on v w) →
    (∀ d, safe l k d = true → a.tmps[d]? = a0.tmps[d]?) →
    if Region.wanted o (yielded l.toArray a.tmps) then o.wp P a w (fun a' w' => ∃ v, a' = a.put o.dst v ∧ G w w' ∧ Φ k v w') Q else Φ k undef w
def OpsOk (P : Program) : Nat → List Oper → Prop
  | _, [] => True
  | k, o :: r => OpOk G l Q a0 w0 Φ P k o ∧ OpsOk P (k + 1) r

structure Inv (listed : Array Bool) (a : Act) (w : World) : Prop where
  hs : listed.size = l.length
  hc : G w0 w
  htm : a.tmps.size = a0.tmps.size
  hdf : a.defers = a0.defers
  closed : ∀ (j : Nat) (o : Oper), l[j]? = some o → listed[j]? = some true → ∀ e ∈ o.after.toList, Region.binds .any e = true → listed[e.on]? = some true
  vals : ∀ (j : Nat) (o : Oper) (d : Nat), l[j]? = some o → listed[j]? = some true → o.dst = some d → ∃ v, a.tmps[d]? = some v ∧ Φ j v w
  none : ∀ (j : Nat) (o : Oper), l[j]? = some o → listed[j]? = some true → o.dst = none → ∃ v, Φ j v w
  old : ∀ d, (∀ (j : Nat) (o : Oper), l[j]? = some o → listed[j]? = some true → o.dst ≠ some d) → a.tmps[d]? = a0.tmps[d]?

/-- All edges go back; each slot is written once, and is there. -/
def fine (n : Nat) : Bool :=
  (List.range l.length).all fun i => match l[i]? with
    | none => true
    | some o => (o.after.toList.all fun e => !Region.binds .any e || decide (e.on < i)) &&
      (match o.dst with
        | none => true
        | some d => decide (d < n) && (List.range l.length).all fun j => i == j || ((l[j]?).map fun o' => o'.dst != some d).getD true)

variable {G l Q a0 w0 Φ}
theorem OpsOk.at : ∀ {r : List Oper} {k : Nat}, OpsOk G l Q a0 w0 Φ P k r → ∀ i o, r[i]? = some o → OpOk G l Q a0 w0 Φ P (k + i) o
  | [], _, _, _, _, h => by simp at h
  | o' :: r, k, h, 0, o, hi => by
    simp at hi
    subst hi
    exact h.1
  | o' :: r, k, h, i + 1, o, hi => by
    have := OpsOk.at h.2 i o (by simpa using hi)
    rwa [show k + 1 + i = k + (i + 1) from by omega] at this

theorem fine_back {n : Nat} (h : fine l n = true) {i : Nat} {o : Oper} (hi : l[i]? = some o) {e : Edge} (he : e ∈ o.after.toList) (hb : Region.binds .any e = true) : e.on < i := by
  have hlt : i < l.length := (List.getElem?_eq_some_iff.1 hi).1
  have := List.all_eq_true.1 h i (by simpa using hlt)
  simp only [hi, Bool.and_eq_true] at this
  have h2 := List.all_eq_true.1 this.1 e he
  simpa [hb] using h2
theorem fine_dst {n : Nat} (h : fine l n = true) {i : Nat} {o : Oper} (hi : l[i]? = some o) {d : Nat} (hd : o.dst = some d) :
    d < n ∧ ∀ j o', l[j]? = some o' → o'.dst = some d → j = i := by
  have hlt : i < l.length := (List.getElem?_eq_some_iff.1 hi).1
  have := List.all_eq_true.1 h i (by simpa using hlt)
  simp only [hi, Bool.and_eq_true, hd, decide_eq_true_eq] at this
  refine ⟨this.2.1, fun j o' hj hd' => ?_⟩
  have hjlt : j < l.length := (List.getElem?_eq_some_iff.1 hj).1
  have h2 := List.all_eq_true.1 this.2.2 j (by simpa using hjlt)
  simp [hj, hd'] at h2
  exact h2.symm

theorem all_listed {n : Nat} (hf : fine l n = true) {listed : Array Bool} (hs : listed.size = l.length) (hr : Region.ready .any l.toArray listed = []) :
    ∀ j, j < l.length → listed[j]? = some true := by
  intro j
  induction j using Nat.strongRecOn with
  | _ j ih =>
    intro hj
    obtain ⟨b, hb⟩ : ∃ b, listed[j]? = some b := ⟨listed[j], by simp [hs, hj]⟩
    cases b with
    | true => exact hb
    | false =>
      exfalso
      obtain ⟨o, ho⟩ : ∃ o, l[j]? = some o := ⟨l[j], by simp [hj]⟩
      have hm : j ∈ Region.ready .any l.toArray listed := by
        rw [mem_ready]
        refine ⟨by simp [hb], o, by simpa using ho, fun e he hbd => ?_⟩
        have hlt := fine_back hf ho (by simpa using he) hbd
        have := ih e.on hlt (by omega)
        simp [this]
      rw [hr] at hm
      cases hm

theorem inv_done {listed : Array Bool} {a : Act} {w : World} (h : Inv G l a0 w0 Φ listed a w) (hall : ∀ j, j < l.length → listed[j]? = some true)
    (hfin : ∀ (a : Act) (w : World), G w0 w → a.tmps.size = a0.tmps.size → a.defers = a0.defers →
      (∀ (i : Nat) (o : Oper) (d : Nat), l[i]? = some o → o.dst = some d → ∃ v, a.tmps[d]? = some v ∧ Φ i v w) →
      (∀ (i : Nat) (o : Oper), l[i]? = some o → o.dst = none → ∃ v, Φ i v w) →
      (∀ d, (∀ (i : Nat) (o : Oper), l[i]? = some o → o.dst ≠ some d) → a.tmps[d]? = a0.tmps[d]?) → Q .normal a w) : Q .normal a w := by
  refine hfin a w h.hc h.htm h.hdf (fun i o d hi hd => h.vals i o d hi (hall i ?_) hd) (fun i o hi hd => h.none i o hi (hall i ?_) hd) (fun d hd => h.old d (fun j o hj _ => hd j o hj))
  · exact (List.getElem?_eq_some_iff.1 hi).1
  · exact (List.getElem?_eq_some_iff.1 hi).1

theorem Inv.step {n : Nat} (hf : fine l n = true) (hn : a0.tmps.size = n) (hGt : ∀ a b c : World, G a b → G b c → G a c) (hstab : ∀ i v w w', Φ i v w → G w w' → Φ i v w') {listed : Array Bool} {a : Act} {w w' : World}
    (h : Inv G l a0 w0 Φ listed a w) {i : Nat} {o : Oper} (hi : l[i]? = some o) (hun : listed[i]? = some false) (hpre : ∀ e ∈ o.after.toList, Region.binds .any e = true → listed[e.on]? = some true)
    {v : Value} (hB : G w w') (hv : Φ i v w') : Inv G l a0 w0 Φ (listed.setIfInBounds i true) (a.put o.dst v) w' := by
  have hlt : i < l.length := (List.getElem?_eq_some_iff.1 hi).1
  have hset : ∀ j, (listed.setIfInBounds i true)[j]? = some true ↔ j = i ∨ listed[j]? = some true := by
    intro j
    by_cases hj : j = i
    · subst hj; simp [h.hs, hlt]
    · simp [Array.getElem?_setIfInBounds_ne (Ne.symm hj), hj]
  have hput : ∀ d, (a.put o.dst v).tmps[d]? = if o.dst = some d ∧ d < a.tmps.size then some v else a.tmps[d]? := by
    intro d
    unfold Act.put
    cases hd : o.dst with
    | none => simp
    | some d' =>
      by_cases e : d' = d
      · subst e
        by_cases hb : d' < a.tmps.size
        · simp [hb]
        · simp [hb]
      · simp [Array.getElem?_setIfInBounds_ne e, e]
  refine ⟨by simp [h.hs], hGt _ _ _ h.hc hB, ?_, ?_, ?_, ?_, ?_, ?_⟩
  · rw [← h.htm]; unfold Act.put; cases o.dst <;> simp
  · rw [← h.hdf]; unfold Act.put; cases o.dst <;> rfl
  · intro j o' hj hl e he hb
    rw [hset] at hl ⊢
    rcases hl with rfl | hl
    · rw [hi] at hj
      obtain rfl := Option.some.inj hj
      exact Or.inr (hpre e he hb)
    · exact Or.inr (h.closed j o' hj hl e he hb)
  · intro j o' d hj hl hd
    rw [hput]
    rw [hset] at hl
    by_cases hji : j = i
    · subst hji
      rw [hi] at hj
      obtain rfl := Option.some.inj hj
      have := (fine_dst hf hi hd).1
      rw [if_pos ⟨hd, by rw [h.htm, hn]; exact this⟩]
      exact ⟨v, rfl, hv⟩
    · have hne : o.dst ≠ some d := fun h2 => hji ((fine_dst hf hi h2).2 j o' hj hd)
      rw [if_neg (fun h2 => hne h2.1)]
      obtain ⟨u, hu1, hu2⟩ := h.vals j o' d hj (hl.resolve_left hji) hd
      exact ⟨u, hu1, hstab _ _ _ _ hu2 hB⟩
  · intro j o' hj hl hd
    rw [hset] at hl
    by_cases hji : j = i
    · subst hji
      exact ⟨v, hv⟩
    · obtain ⟨u, hu⟩ := h.none j o' hj (hl.resolve_left hji) hd
      exact ⟨u, hstab _ _ _ _ hu hB⟩
  · intro d hd
    have hne : o.dst ≠ some d := hd i o hi ((hset i).2 (Or.inl rfl))
    rw [hput, if_neg (fun h2 => hne h2.1)]
    exact h.old d (fun j o' hj hl => hd j o' hj ((hset j).2 (Or.inr hl)))

theorem wpAny_inv {n : Nat} (hf : fine l n = true) (hn : a0.tmps.size = n) (hGr : ∀ w, G w w) (hGt : ∀ a b c : World, G a b → G b c → G a c) (hstab : ∀ i v w w', Φ i v w → G w w' → Φ i v w')
    (hops : OpsOk G l Q a0 w0 Φ P 0 l)
    (hfin : ∀ (a : Act) (w : World), G w0 w → a.tmps.size = a0.tmps.size → a.defers = a0.defers →
      (∀ (i : Nat) (o : Oper) (d : Nat), l[i]? = some o → o.dst = some d → ∃ v, a.tmps[d]? = some v ∧ Φ i v w) →
      (∀ (i : Nat) (o : Oper), l[i]? = some o → o.dst = none → ∃ v, Φ i v w) →
      (∀ d, (∀ (i : Nat) (o : Oper), l[i]? = some o → o.dst ≠ some d) → a.tmps[d]? = a0.tmps[d]?) → Q .normal a w) :
    ∀ (fuel : Nat) (listed : Array Bool) (a : Act) (w : World), Inv G l a0 w0 Φ listed a w → listed.toList.count false ≤ fuel → wpAny P .any l.toArray Q fuel listed a w
  | 0, listed, a, w, h, hc => by
    have hall : ∀ j, j < l.length → listed[j]? = some true := by
      intro j hj
      have hj2 : j < listed.size := by rw [h.hs]; exact hj
      have h0 : listed.toList.count false = 0 := by omega
      have hm := List.count_eq_zero.1 h0
      cases hb : listed[j] with
      | true => simp [hb, hj2]
      | false => exact absurd (by rw [← hb]; simp) hm
    refine ⟨?_, inv_done h hall hfin⟩
    rw [List.eq_nil_iff_forall_not_mem]
    intro j hj
    obtain ⟨h1, o, ho, _⟩ := mem_ready.1 hj
    have hlt : j < l.length := by
      have := (Array.getElem?_eq_some_iff.1 ho).1
      simpa using this
    simp [hall j hlt] at h1
  | fuel + 1, listed, a, w, h, hc => by
    refine ⟨fun hr => inv_done h (all_listed hf h.hs hr) hfin, fun i hi => ?_⟩
    obtain ⟨h1, o, ho, hpre⟩ := mem_ready.1 hi
    have ho2 : l[i]? = some o := by simpa using ho
    have hlt : i < l.length := (List.getElem?_eq_some_iff.1 ho2).1
    have hlt2 : i < listed.size := by rw [h.hs]; exact hlt
    have hun : listed[i]? = some false := by
      have : listed.getD i true = listed[i] := by simp [hlt2]
      rw [this] at h1
      simp [hlt2, h1]
    have hpre2 : ∀ e ∈ o.after.toList, Region.binds .any e = true → listed[e.on]? = some true := by
      intro e he hb
      have h2 := hpre e (by simpa using he) hb
      have h3 : e.on < listed.size := by
        rcases Nat.lt_or_ge e.on listed.size with h4 | h4
        · exact h4
        · simp [Array.getElem?_eq_none h4] at h2
      have : listed.getD e.on false = listed[e.on] := by simp [h3]
      rw [this] at h2
      simp [h3, h2]
    have hcount : (listed.setIfInBounds i true).toList.count false ≤ fuel := by
      have hl3 : i < listed.toList.length := by simpa using hlt2
      have h4 : listed.toList[i] = false := by
        have := hun
        simp [hlt2] at this
        simpa using this
      rw [Array.toList_setIfInBounds, List.count_set (h := hl3), h4, if_pos (by decide), if_neg (by decide)]
      have : 0 < listed.toList.count false := List.count_pos_iff.2 (by rw [← h4]; exact List.getElem_mem hl3)
      omega
    have hop := hops.at i o ho2
    rw [Nat.zero_add] at hop
    have hop2 := hop a w h.hc (fun e he hb o' d hj hd => h.vals e.on o' d hj (hpre2 e he hb) hd) (fun d hd => h.old d (fun j o' hj hl hd2 => by
      have h5 := List.all_eq_true.1 hd o' (List.mem_of_getElem? hj)
      simp only [hd2, bne_self_eq_false, Bool.false_or] at h5
      obtain ⟨e, he, h6⟩ := Array.any_eq_true'.1 h5
      simp only [Bool.and_eq_true, beq_iff_eq] at h6
      have h7 := h.closed j o' hj hl e (by simpa using he) h6.1
      rw [h6.2, hun] at h7
      simp at h7))
    unfold wpOp
    simp only [ho]
    split
    · rename_i hw
      rw [if_pos hw] at hop2
      refine Or.inl (Oper.wp_mono ?_ hop2)
      rintro a' w' ⟨v, rfl, hB, hv⟩
      exact wpAny_inv hf hn hGr hGt hstab hops hfin fuel _ _ _ (h.step hf hn hGt hstab ho2 hun hpre2 hB hv) hcount
    · rename_i hw
      rw [if_neg hw] at hop2
      exact wpAny_inv hf hn hGr hGt hstab hops hfin fuel _ _ _ (h.step hf hn hGt hstab ho2 hun hpre2 (hGr _) hop2) hcount

/-- THE REGION, what is kept from step to step told by G. -/
theorem wp_region_invG {id n : Nat} (G : World → World → Prop) (Φ : Nat → Value → World → Prop) (hm : P.follows .mixedOrders = true) (hf : fine l n = true) (hn : a0.tmps.size = n) (hGr : ∀ w, G w w) (hGt : ∀ a b c : World, G a b → G b c → G a c) (hstab : ∀ i v w w', Φ i v w → G w w' → Φ i v w')
    (hops : OpsOk G l Q a0 w0.drew Φ P 0 l)
    (hfin : ∀ (a : Act) (w : World), G w0.drew w → a.tmps.size = a0.tmps.size → a.defers = a0.defers →
      (∀ (i : Nat) (o : Oper) (d : Nat), l[i]? = some o → o.dst = some d → ∃ v, a.tmps[d]? = some v ∧ Φ i v w) →
      (∀ (i : Nat) (o : Oper), l[i]? = some o → o.dst = none → ∃ v, Φ i v w) →
      (∀ d, (∀ (i : Nat) (o : Oper), l[i]? = some o → o.dst ≠ some d) → a.tmps[d]? = a0.tmps[d]?) → Q .normal a w) :
    (Code.region id l.toArray true).wp P Q a0 w0 := by
  refine wp_region_any hm ?_
  refine wpAny_inv (w0 := w0.drew) (Φ := Φ) hf hn hGr hGt hstab hops (fun a w hB => hfin a w hB) _ _ _ _ ?_ ?_
  · refine ⟨by simp, hGr _, rfl, rfl, ?_, ?_, ?_, fun _ _ => rfl⟩
    · intro j o hj hl
      have hlt : j < l.length := (List.getElem?_eq_some_iff.1 hj).1
      simp [hlt] at hl
    · intro j o d hj hl
      have hlt : j < l.length := (List.getElem?_eq_some_iff.1 hj).1
      simp [hlt] at hl
    · intro j o hj hl
      have hlt : j < l.length := (List.getElem?_eq_some_iff.1 hj).1
      simp [hlt] at hl
  · simp
/-- What was there stays as it was. -/
def Old (w w' : World) : Prop := Below w.heap.size w w'
theorem Old.refl (w : World) : Old w w := Below.refl _ _
theorem Old.trans {a b c : World} (h : Old a b) (k : Old b c) : Old a c := Below.trans h (Below.mono k (Below.size h))
/-- THE REGION that stores nothing. -/
theorem wp_region_inv {id n : Nat} (Φ : Nat → Value → World → Prop) (hm : P.follows .mixedOrders = true) (hf : fine l n = true) (hn : a0.tmps.size = n) (hstab : ∀ i v w w', Φ i v w → Old w w' → Φ i v w')
    (hops : OpsOk Old l Q a0 w0.drew Φ P 0 l)
    (hfin : ∀ (a : Act) (w : World), Below w0.heap.size w0 w → a.tmps.size = a0.tmps.size → a.defers = a0.defers →
      (∀ (i : Nat) (o : Oper) (d : Nat), l[i]? = some o → o.dst = some d → ∃ v, a.tmps[d]? = some v ∧ Φ i v w) →
      (∀ d, (∀ (i : Nat) (o : Oper), l[i]? = some o → o.dst ≠ some d) → a.tmps[d]? = a0.tmps[d]?) → Q .normal a w) :
    (Code.region id l.toArray true).wp P Q a0 w0 :=
  wp_region_invG Old Φ hm hf hn Old.refl (fun _ _ _ => Old.trans) hstab hops (fun a w hB h1 h2 h3 _ h5 => hfin a w ((Below.refl w0.heap.size w0).drew.trans hB) h1 h2 h3 h5)
/-- A region whose end is stored into block R: all else stays. -/
structure Puts (B R : Nat) (new : Array Value) (w w' : World) : Prop where
  below : Below B w w'
  keep : ∀ b vs, b ≠ R → CellsAt b vs w → CellsAt b vs w'
  shape : (∃ vs : Array Value, vs.size = new.size ∧ CellsAt R vs w) → ∃ vs : Array Value, vs.size = new.size ∧ CellsAt R vs w'
  done : CellsAt R new w → CellsAt R new w'
theorem Puts.refl {B R : Nat} {new : Array Value} (w : World) : Puts B R new w w := ⟨Below.refl _ _, fun _ _ _ h => h, fun h => h, fun h => h⟩
theorem Puts.trans {B R : Nat} {new : Array Value} {a b c : World} (h : Puts B R new a b) (k : Puts B R new b c) : Puts B R new a c :=
  ⟨h.below.trans k.below, fun b' vs hb hc => k.keep b' vs hb (h.keep b' vs hb hc), fun hs => k.shape (h.shape hs), fun hd => k.done (h.done hd)⟩
theorem Puts.of {B R : Nat} {new : Array Value} {w w' : World} (h : Below w.heap.size w w') (hB : B ≤ w.heap.size) : Puts B R new w w' :=
  ⟨h.mono hB, fun _ _ _ hc => hc.below h, fun ⟨vs, hv, hc⟩ => ⟨vs, hv, hc.below h⟩, fun hc => hc.below h⟩
theorem Puts.set2 {B R : Nat} {x y : Value} {w : World} (hR : B ≤ R) (hs : ∃ vs : Array Value, vs.size = #[x, y].size ∧ CellsAt R vs w) :
    Puts B R #[x, y] w ((w.setCell ⟨R, 0, none⟩ x).setCell ⟨R, 1, none⟩ y) ∧ CellsAt R #[x, y] ((w.setCell ⟨R, 0, none⟩ x).setCell ⟨R, 1, none⟩ y) := by
  obtain ⟨vs, hv, hc⟩ := hs
  obtain ⟨v0, v1, rfl⟩ : ∃ v0 v1, vs = #[v0, v1] := by
    rcases vs with ⟨l⟩
    match l, hv with
    | [a, b], _ => exact ⟨a, b, rfl⟩
  have h2 : CellsAt R #[x, y] ((w.setCell ⟨R, 0, none⟩ x).setCell ⟨R, 1, none⟩ y) := (hc.set 0 x (by simp)).set 1 y (by simp)
  exact ⟨⟨((Below.refl _ _).setCell hR _).setCell hR _, fun b vs hb hc => (hc.other _ _ (Ne.symm hb)).other _ _ (Ne.symm hb), fun _ => ⟨_, rfl, h2⟩, fun _ => h2⟩, h2⟩

theorem getD_tmp {a : Act} {t : Nat} {v : Value} (h : a.tmps[t]? = some v) : a.tmps.getD t undef = v := by
  rw [Array.getD_eq_getD_getElem?, h]; rfl
theorem eval_tmp {a : Act} {t : Nat} {v : Value} (h : a.tmps[t]? = some v) : a.eval (.tmp t) = v := getD_tmp h
theorem wanted_none {o : Oper} {y : Nat → Option Bool} (h : o.guard = none) : Region.wanted o y = true := by
  unfold Region.wanted; rw [h]
theorem wanted_at {o o' : Oper} {a : Act} {j d : Nat} {want : Bool} (h : o.guard = some (j, want)) (ho : l[j]? = some o') (hd : o'.dst = some d) (hv : a.tmps[d]? = some (.bool want)) :
    Region.wanted o (yielded l.toArray a.tmps) = true := by
  unfold Region.wanted
  rw [h]
  simp [yielded, ho, hd, hv]
theorem kept {a : Act} (ho : ∀ d, (∀ (i : Nat) (o : Oper), l[i]? = some o → o.dst ≠ some d) → a.tmps[d]? = a0.tmps[d]?) (d : Nat) (h : (l.all fun o => o.dst != some d) = true) : a.tmps[d]? = a0.tmps[d]? :=
  ho d fun i o hi => by
    have := List.all_eq_true.1 h o (List.mem_of_getElem? hi)
    simpa using this
theorem unwanted_at {o o' : Oper} {a : Act} {j d : Nat} {want b : Bool} (h : o.guard = some (j, want)) (ho : l[j]? = some o') (hd : o'.dst = some d) (hv : a.tmps[d]? = some (.bool b)) (hb : (b == want) = false) :
    Region.wanted o (yielded l.toArray a.tmps) = false := by
  unfold Region.wanted
  rw [h]
  simp [yielded, ho, hd, hv, hb]
theorem pred {o o' : Oper} {a : Act} {w : World} (hp : ∀ e ∈ o.after.toList, Region.binds .any e = true → ∀ o' d, l[e.on]? = some o' → o'.dst = some d → ∃ v, a.tmps[d]? = some v ∧ Φ e.on v w)
    (j d : Nat) (hj : (o.after.any fun e => Region.binds .any e && (e.on == j)) = true) (ho : l[j]? = some o') (hd : o'.dst = some d) : ∃ v, a.tmps[d]? = some v ∧ Φ j v w := by
  obtain ⟨e, he, h6⟩ := Array.any_eq_true'.1 hj
  simp only [Bool.and_eq_true, beq_iff_eq] at h6
  have := hp e (by simpa using he) h6.1 o' d (by rw [h6.2]; exact ho) hd
  rwa [h6.2] at this
/-- An operation that yields a value, the world as it is. -/
theorem ok_value {P : Program} {k : Nat} {o : Oper} {a : Act} {w : World} {v : Value} (hGr : ∀ w, G w w) (hw : Region.wanted o (yielded l.toArray a.tmps) = true)
    (hrun : (execOp a.eval o).run P w = .ok (.value v) w) (hv : Φ k v w) :
    if Region.wanted o (yielded l.toArray a.tmps) then o.wp P a w (fun a' w' => ∃ v, a' = a.put o.dst v ∧ G w w' ∧ Φ k v w') Q else Φ k undef w := by
  rw [if_pos hw]
  unfold Oper.wp
  rw [hrun]
  exact ⟨v, rfl, hGr _, hv⟩
theorem ok_made {P : Program} {k : Nat} {o : Oper} {a : Act} {w w2 : World} {v : Value} (hw : Region.wanted o (yielded l.toArray a.tmps) = true)
    (hrun : (execOp a.eval o).run P w = .ok (.value v) w2) (hB : G w w2) (hv : Φ k v w2) :
    if Region.wanted o (yielded l.toArray a.tmps) then o.wp P a w (fun a' w' => ∃ v, a' = a.put o.dst v ∧ G w w' ∧ Φ k v w') Q else Φ k undef w := by
  rw [if_pos hw]
  unfold Oper.wp
  rw [hrun]
  exact ⟨v, rfl, hB, hv⟩
/-- A store. -/
theorem ok_store {P : Program} {k : Nat} {o : Oper} {a : Act} {w w2 : World} (hw : Region.wanted o (yielded l.toArray a.tmps) = true)
    (hrun : (execOp a.eval o).run P w = .ok .skip w2) (hB : G w w2) (hv : Φ k undef w2) :
    if Region.wanted o (yielded l.toArray a.tmps) then o.wp P a w (fun a' w' => ∃ v, a' = a.put o.dst v ∧ G w w' ∧ Φ k v w') Q else Φ k undef w := by
  rw [if_pos hw]
  unfold Oper.wp
  rw [hrun]
  exact ⟨undef, rfl, hB, hv⟩
/-- A call that returns. -/
theorem ok_call {P : Program} {k : Nat} {o : Oper} {a : Act} {w : World} {f : FuncId} {args : Array Value} (hw : Region.wanted o (yielded l.toArray a.tmps) = true)
    (hrun : (execOp a.eval o).run P w = .ok (.enter f args) w) (hc : Calls P f args w fun e w' => ∃ v, e = .returned v ∧ G w w' ∧ Φ k v w') :
    if Region.wanted o (yielded l.toArray a.tmps) then o.wp P a w (fun a' w' => ∃ v, a' = a.put o.dst v ∧ G w w' ∧ Φ k v w') Q else Φ k undef w := by
  rw [if_pos hw]
  unfold Oper.wp
  rw [hrun]
  refine hc.mono ?_
  rintro e w' ⟨v, rfl, hB, hv⟩
  exact ⟨v, rfl, hB, hv⟩
/-- An operation that is not wanted. -/
theorem ok_skip {P : Program} {k : Nat} {o : Oper} {a : Act} {w : World} (hw : Region.wanted o (yielded l.toArray a.tmps) = false) (hv : Φ k undef w) :
    if Region.wanted o (yielded l.toArray a.tmps) then o.wp P a w (fun a' w' => ∃ v, a' = a.put o.dst v ∧ G w w' ∧ Φ k v w') Q else Φ k undef w := by
  rw [if_neg (by simp [hw])]
  exact hv
end
/-- What is asked of each operation but the one that comes last. -/
def OpsOkBut {P : Program} (G : World → World → Prop) (l : List Oper) (Q : Exit → Act → World → Prop) (a0 : Act) (w0 : World) (Φ : Nat → Value → World → Prop) (stop : Nat) : Nat → List Oper → Prop
  | _, [] => True
  | k, o :: r => (k ≠ stop → OpOk G l Q a0 w0 Φ P k o) ∧ OpsOkBut (P := P) G l Q a0 w0 Φ stop (k + 1) r
/-- Operation ol waits for every other one, and is not guarded. -/
def waitsAll (l : List Oper) (stop : Nat) (ol : Oper) : Bool :=
  ol.guard.isNone && (List.range l.length).all fun j => j == stop || ol.after.any fun e => Region.binds .any e && (e.on == j)

section
variable {P : Program} {G : World → World → Prop} {l : List Oper} {Q : Exit → Act → World → Prop} {a0 : Act} {w0 : World} {Φ : Nat → Value → World → Prop}
theorem OpsOkBut.at {stop : Nat} : ∀ {r : List Oper} {k : Nat}, OpsOkBut (P := P) G l Q a0 w0 Φ stop k r → ∀ i o, r[i]? = some o → k + i ≠ stop → OpOk G l Q a0 w0 Φ P (k + i) o
  | [], _, _, _, _, h, _ => by simp at h
  | o' :: r, k, h, 0, o, hi, hk => by
    simp at hi
    subst hi
    exact h.1 hk
  | o' :: r, k, h, i + 1, o, hi, hk => by
    have := OpsOkBut.at h.2 i o (by simpa using hi) (by omega)
    rwa [show k + 1 + i = k + (i + 1) from by omega] at this

theorem wpAny_last {n stop : Nat} {ol : Oper} (hst : l[stop]? = some ol) (hw8 : waitsAll l stop ol = true) (hf : fine l n = true) (hn : a0.tmps.size = n) (hGr : ∀ w, G w w) (hGt : ∀ a b c : World, G a b → G b c → G a c) (hstab : ∀ i v w w', Φ i v w → G w w' → Φ i v w')
    (hops : OpsOkBut (P := P) G l Q a0 w0 Φ stop 0 l)
    (hlast : ∀ (a : Act) (w : World), G w0 w → a.tmps.size = a0.tmps.size → a.defers = a0.defers →
      (∀ (i : Nat) (o : Oper) (d : Nat), i ≠ stop → l[i]? = some o → o.dst = some d → ∃ v, a.tmps[d]? = some v ∧ Φ i v w) →
      (∀ d, (∀ (i : Nat) (o : Oper), l[i]? = some o → i ≠ stop → o.dst ≠ some d) → a.tmps[d]? = a0.tmps[d]?) → ol.wp P a w (fun a' w' => Q .normal a' w') Q) :
    ∀ (fuel : Nat) (listed : Array Bool) (a : Act) (w : World), Inv G l a0 w0 Φ listed a w → listed[stop]? = some false → listed.toList.count false ≤ fuel → wpAny P .any l.toArray Q fuel listed a w
  | 0, listed, a, w, h, hs, hc => by
    exfalso
    have h0 : listed.toList.count false = 0 := by omega
    have hm := List.count_eq_zero.1 h0
    exact hm (List.mem_of_getElem? (i := stop) (by simpa using hs))
  | fuel + 1, listed, a, w, h, hs, hc => by
    refine ⟨fun hr => ?_, fun i hi => ?_⟩
    · have := all_listed hf h.hs hr stop (List.getElem?_eq_some_iff.1 hst).1
      rw [hs] at this
      simp at this
    obtain ⟨h1, o, ho, hpre⟩ := mem_ready.1 hi
    have ho2 : l[i]? = some o := by simpa using ho
    have hlt : i < l.length := (List.getElem?_eq_some_iff.1 ho2).1
    have hlt2 : i < listed.size := by rw [h.hs]; exact hlt
    have hun : listed[i]? = some false := by
      have : listed.getD i true = listed[i] := by simp [hlt2]
      rw [this] at h1
      simp [hlt2, h1]
    have hpre2 : ∀ e ∈ o.after.toList, Region.binds .any e = true → listed[e.on]? = some true := by
      intro e he hb
      have h2 := hpre e (by simpa using he) hb
      have h3 : e.on < listed.size := by
        rcases Nat.lt_or_ge e.on listed.size with h4 | h4
        · exact h4
        · simp [Array.getElem?_eq_none h4] at h2
      have : listed.getD e.on false = listed[e.on] := by simp [h3]
      rw [this] at h2
      simp [h3, h2]
    have hcount : (listed.setIfInBounds i true).toList.count false ≤ fuel := by
      have hl3 : i < listed.toList.length := by simpa using hlt2
      have h4 : listed.toList[i] = false := by
        have := hun
        simp [hlt2] at this
        simpa using this
      rw [Array.toList_setIfInBounds, List.count_set (h := hl3), h4, if_pos (by decide), if_neg (by decide)]
      have : 0 < listed.toList.count false := List.count_pos_iff.2 (by rw [← h4]; exact List.getElem_mem hl3)
      omega
    by_cases his : i = stop
    · subst his
      obtain rfl : ol = o := Option.some.inj (hst.symm.trans ho2)
      simp only [waitsAll, Bool.and_eq_true] at hw8
      have hothers : ∀ j, j < l.length → j ≠ i → listed[j]? = some true := by
        intro j hj hji
        have := List.all_eq_true.1 hw8.2 j (by simpa using hj)
        have hji' : (j == i) = false := by simpa using hji
        rw [hji', Bool.false_or] at this
        obtain ⟨e, he, h6⟩ := Array.any_eq_true'.1 this
        simp only [Bool.and_eq_true, beq_iff_eq] at h6
        have := hpre2 e (by simpa using he) h6.1
        rwa [h6.2] at this
      have hL := hlast a w h.hc h.htm h.hdf (fun j o' d hji hj hd => h.vals j o' d hj (hothers j (List.getElem?_eq_some_iff.1 hj).1 hji) hd) (fun d hd => h.old d (fun j o' hj hl => hd j o' hj (fun e => by subst e; rw [hun] at hl; simp at hl)))
      have hall : ∀ j, j < l.length → (listed.setIfInBounds i true)[j]? = some true := by
        intro j hj
        by_cases hji : j = i
        · subst hji; simp [hlt2]
        · rw [Array.getElem?_setIfInBounds_ne (Ne.symm hji)]
          exact hothers j hj hji
      have hr0 : Region.ready .any l.toArray (listed.setIfInBounds i true) = [] := by
        rw [List.eq_nil_iff_forall_not_mem]
        intro j hj
        obtain ⟨g1, o', ho', _⟩ := mem_ready.1 hj
        have hlj : j < l.length := by
          have := (Array.getElem?_eq_some_iff.1 ho').1
          simpa using this
        have h9 := hall j hlj
        rw [Array.getD_eq_getD_getElem?, h9] at g1
        simp at g1
      have hgd : ol.guard = none := by simpa using hw8.1
      unfold wpOp
      simp only [ho]
      rw [if_pos (wanted_none hgd)]
      refine Or.inl (Oper.wp_mono ?_ hL)
      intro a' w' hq
      cases fuel with
      | zero => exact ⟨hr0, hq⟩
      | succ f => exact ⟨fun _ => hq, fun j hj => by rw [hr0] at hj; cases hj⟩
    · have hop := hops.at i o ho2 (by omega)
      rw [Nat.zero_add] at hop
      have hop2 := hop a w h.hc (fun e he hb o' d hj hd => h.vals e.on o' d hj (hpre2 e he hb) hd) (fun d hd => h.old d (fun j o' hj hl hd2 => by
        have h5 := List.all_eq_true.1 hd o' (List.mem_of_getElem? hj)
        simp only [hd2, bne_self_eq_false, Bool.false_or] at h5
        obtain ⟨e, he, h6⟩ := Array.any_eq_true'.1 h5
        simp only [Bool.and_eq_true, beq_iff_eq] at h6
        have h7 := h.closed j o' hj hl e (by simpa using he) h6.1
        rw [h6.2, hun] at h7
        simp at h7))
      have hs' : (listed.setIfInBounds i true)[stop]? = some false := by rw [Array.getElem?_setIfInBounds_ne his]; exact hs
      unfold wpOp
      simp only [ho]
      split
      · rename_i hw
        rw [if_pos hw] at hop2
        refine Or.inl (Oper.wp_mono ?_ hop2)
        rintro a' w' ⟨v, rfl, hB, hv⟩
        exact wpAny_last hst hw8 hf hn hGr hGt hstab hops hlast fuel _ _ _ (h.step hf hn hGt hstab ho2 hun hpre2 hB hv) hs' hcount
      · rename_i hw
        rw [if_neg hw] at hop2
        exact wpAny_last hst hw8 hf hn hGr hGt hstab hops hlast fuel _ _ _ (h.step hf hn hGt hstab ho2 hun hpre2 (hGr _) hop2) hs' hcount

/-- THE REGION whose last operation (a store, as a rule) waits for all others: they store nothing. -/
theorem wp_region_last {id n : Nat} (stop : Nat) {ol : Oper} (Φ : Nat → Value → World → Prop) (hm : P.follows .mixedOrders = true) (hst : l[stop]? = some ol) (hw8 : waitsAll l stop ol = true) (hf : fine l n = true) (hn : a0.tmps.size = n) (hstab : ∀ i v w w', Φ i v w → Old w w' → Φ i v w')
    (hops : OpsOkBut (P := P) Old l Q a0 w0.drew Φ stop 0 l)
    (hlast : ∀ (a : Act) (w : World), Old w0.drew w → a.tmps.size = a0.tmps.size → a.defers = a0.defers →
      (∀ (i : Nat) (o : Oper) (d : Nat), i ≠ stop → l[i]? = some o → o.dst = some d → ∃ v, a.tmps[d]? = some v ∧ Φ i v w) →
      (∀ d, (∀ (i : Nat) (o : Oper), l[i]? = some o → i ≠ stop → o.dst ≠ some d) → a.tmps[d]? = a0.tmps[d]?) → ol.wp P a w (fun a' w' => Q .normal a' w') Q) :
    (Code.region id l.toArray true).wp P Q a0 w0 := by
  refine wp_region_any hm ?_
  refine wpAny_last (w0 := w0.drew) (Φ := Φ) hst hw8 hf hn Old.refl (fun _ _ _ => Old.trans) hstab hops hlast _ _ _ _ ?_ ?_ ?_
  · refine ⟨by simp, Old.refl _, rfl, rfl, ?_, ?_, ?_, fun _ _ => rfl⟩
    · intro j o hj hl
      have hlt : j < l.length := (List.getElem?_eq_some_iff.1 hj).1
      simp [hlt] at hl
    · intro j o d hj hl
      have hlt : j < l.length := (List.getElem?_eq_some_iff.1 hj).1
      simp [hlt] at hl
    · intro j o hj hl
      have hlt : j < l.length := (List.getElem?_eq_some_iff.1 hj).1
      simp [hlt] at hl
  · have := (List.getElem?_eq_some_iff.1 hst).1
    simp [this]
  · simp
theorem store_then {o : Oper} {a : Act} {w w2 : World} (hrun : (execOp a.eval o).run P w = .ok .skip w2) (hd : o.dst = none) (h : Q .normal a w2) : o.wp P a w (fun a' w' => Q .normal a' w') Q := by
  unfold Oper.wp
  rw [hrun, Oper.upon_skip, hd]
  exact h
theorem kept_but {a : Act} {stop : Nat} (ho : ∀ d, (∀ (i : Nat) (o : Oper), l[i]? = some o → i ≠ stop → o.dst ≠ some d) → a.tmps[d]? = a0.tmps[d]?) (d : Nat) (h : (l.all fun o => o.dst != some d) = true) : a.tmps[d]? = a0.tmps[d]? :=
  ho d fun i o hi _ => by
    have := List.all_eq_true.1 h o (List.mem_of_getElem? hi)
    simpa using this
end
/-- What stands in the slots, one behind the other. -/
def AllAt (a : Array Value) : Nat → List Value → Prop
  | _, [] => True
  | k, v :: r => a[k]? = some v ∧ AllAt a (k + 1) r
theorem AllAt.at {a : Array Value} : ∀ {l : List Value} {k : Nat}, AllAt a k l → ∀ i v, l[i]? = some v → a[k + i]? = some v
  | [], _, _, _, _, h => by simp at h
  | v :: r, k, h, 0, u, hu => by
    simp at hu
    subst hu
    exact h.1
  | v :: r, k, h, i + 1, u, hu => by
    have := AllAt.at h.2 i u (by simpa using hu)
    rwa [show k + 1 + i = k + (i + 1) by omega] at this
/-- A frame of which all slots are known. -/
theorem frame_eq {c : Act} (l : List Value) (hs : c.tmps.size = l.length) (hd : c.defers = []) (h : AllAt c.tmps 0 l) : c = { tmps := l.toArray, defers := [] } := by
  obtain ⟨tmps, defers⟩ := c
  simp only at hd hs h
  subst hd
  congr 1
  apply Array.ext (by simpa using hs)
  intro i h1 h2
  have h3 : i < l.length := by simpa using h2
  have := h.at i l[i] (by simp [h3])
  rw [Nat.zero_add] at this
  have h4 := Array.getElem?_eq_getElem h1
  rw [this] at h4
  simpa using (Option.some.inj h4).symm
end Go.Proofs.YtmjipafhahggpaaDoor.Reg

