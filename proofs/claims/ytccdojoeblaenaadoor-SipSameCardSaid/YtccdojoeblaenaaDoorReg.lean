/- A region that draws its order, whatever it calls: one obligation for each operation, asked of any frame in which what it waits for has come; no order is walked. -/
import Derived.WalkKit
import Derived.Below
import Derived.Orders
import Derived.Lib.Hide
namespace Go.Proofs.YtccdojoeblaenaaDoor.Reg
open Go Go.RowKit

section
variable {P : Program} (l : List Oper) (Q : Exit → Act → World → Prop) (a0 : Act) (w0 : World) (Φ : Nat → Value → World → Prop)

/-- No operation writes slot d, but such as wait for operation k. -/
def safe (k d : Nat) : Bool := l.all fun o => (o.dst != some d) || o.after.any fun e => Region.binds .any e && (e.on == k)

/-- What is asked of operation k. -/
def OpOk (P : Program) (k : Nat) (o : Oper) : Prop :=
  ∀ (a : Act) (w : World), Below w0.heap.size w0 w →
    (∀ e ∈ o.after.toList, Region.binds .any e = true → ∀ o' d, l[e.on]? = some o' → o'.dst = some d → ∃ v, a.tmps[d]? = some v ∧ Φ e.on v w) →
    (∀ d, safe l k d = true → a.tmps[d]? = a0.tmps[d]?) →
    if Region.wanted o (yielded l.toArray a.tmps) then o.wp P a w (fun a' w' => ∃ v, a' = a.put o.dst v ∧ Below w.heap.size w w' ∧ Φ k v w') Q else Φ k undef w
def OpsOk (P : Program) : Nat → List Oper → Prop
  | _, [] => True
  | k, o :: r => OpOk l Q a0 w0 Φ P k o ∧ OpsOk P (k + 1) r

structure Inv (listed : Array Bool) (a : Act) (w : World) : Prop where
  hs : listed.size = l.length
  hc : Below w0.heap.size w0 w
  htm : a.tmps.size = a0.tmps.size
  hdf : a.defers = a0.defers
  closed : ∀ (j : Nat) (o : Oper), l[j]? = some o → listed[j]? = some true → ∀ e ∈ o.after.toList, Region.binds .any e = true → listed[e.on]? = some true
  vals : ∀ (j : Nat) (o : Oper) (d : Nat), l[j]? = some o → listed[j]? = some true → o.dst = some d → ∃ v, a.tmps[d]? = some v ∧ Φ j v w
  old : ∀ d, (∀ (j : Nat) (o : Oper), l[j]? = some o → listed[j]? = some true → o.dst ≠ some d) → a.tmps[d]? = a0.tmps[d]?

/-- All edges go back; each slot is written once, and is there. -/
def fine (n : Nat) : Bool :=
  (List.range l.length).all fun i => match l[i]? with
    | none => true
    | some o => (o.after.toList.all fun e => !Region.binds .any e || decide (e.on < i)) &&
      (match o.dst with
        | none => true
        | some d => decide (d < n) && (List.range l.length).all fun j => i == j || ((l[j]?).map fun o' => o'.dst != some d).getD true)

variable {l Q a0 w0 Φ}
theorem OpsOk.at : ∀ {r : List Oper} {k : Nat}, OpsOk l Q a0 w0 Φ P k r → ∀ i o, r[i]? = some o → OpOk l Q a0 w0 Φ P (k + i) o
  | [], _, _, _, _, h => by simp at h
  | o' :: r, k, h, 0, o, hi => by
    simp at hi
    subst hi
    exact h.1
  | o' :: r, k, h, i + 1, o, hi => by
    have := OpsOk.at h.2 i o (by simpa using hi)
    rwa [show k + 1 + i = k + (i + 1) from by omega] at this

theorem fine_back {n : Nat} (h : fine l n = true) {i : Nat} {o : Oper} (hi : l[i]? = some o) {e : Edge} (he : e ∈ o.after.toList) (hb : Region.binds .any e = true) : e.on < i := by
  have hlt : i < l.length := (List.getElem?_eq_some_iff.1 hi).1
  have := List.all_eq_true.1 h i (by simpa using hlt)
  simp only [hi, Bool.and_eq_true] at this
  have h2 := List.all_eq_true.1 this.1 e he
  simpa [hb] using h2
theorem fine_dst {n : Nat} (h : fine l n = true) {i : Nat} {o : Oper} (hi : l[i]? = some o) {d : Nat} (hd : o.dst = some d) :
    d < n ∧ ∀ j o', l[j]? = some o' → o'.dst = some d → j = i := by
  have hlt : i < l.length := (List.getElem?_eq_some_iff.1 hi).1
  have := List.all_eq_true.1 h i (by simpa using hlt)
  simp only [hi, Bool.and_eq_true, hd, decide_eq_true_eq] at this
  refine ⟨this.2.1, fun j o' hj hd' => ?_⟩
  have hjlt : j < l.length := (List.getElem?_eq_some_iff.1 hj).1
  have h2 := List.all_eq_true.1 this.2.2 j (by simpa using hjlt)
  simp [hj, hd'] at h2
  exact h2.symm

theorem all_listed {n : Nat} (hf : fine l n = true) {listed : Array Bool} (hs : listed.size = l.length) (hr : Region.ready .any l.toArray listed = []) :
    ∀ j, j < l.length → listed[j]? = some true := by
  intro j
  induction j using Nat.strongRecOn with
  | _ j ih =>
    intro hj
    obtain ⟨b, hb⟩ : ∃ b, listed[j]? = some b := ⟨listed[j], by simp [hs, hj]⟩
    cases b with
    | true => exact hb
    | false =>
      exfalso
      obtain ⟨o, ho⟩ : ∃ o, l[j]? = some o := ⟨l[j], by simp [hj]⟩
      have hm : j ∈ Region.ready .any l.toArray listed := by
        rw [mem_ready]
        refine ⟨by simp [hb], o, by simpa using ho, fun e he hbd => ?_⟩
        have hlt := fine_back hf ho (by simpa using he) hbd
        have := ih e.on hlt (by omega)
        simp [this]
      rw [hr] at hm
      cases hm

theorem inv_done {listed : Array Bool} {a : Act} {w : World} (h : Inv l a0 w0 Φ listed a w) (hall : ∀ j, j < l.length → listed[j]? = some true)
    (hfin : ∀ (a : Act) (w : World), Below w0.heap.size w0 w → a.tmps.size = a0.tmps.size → a.defers = a0.defers →
      (∀ (i : Nat) (o : Oper) (d : Nat), l[i]? = some o → o.dst = some d → ∃ v, a.tmps[d]? = some v ∧ Φ i v w) →
      (∀ d, (∀ (i : Nat) (o : Oper), l[i]? = some o → o.dst ≠ some d) → a.tmps[d]? = a0.tmps[d]?) → Q .normal a w) : Q .normal a w := by
  refine hfin a w h.hc h.htm h.hdf (fun i o d hi hd => h.vals i o d hi (hall i ?_) hd) (fun d hd => h.old d (fun j o hj _ => hd j o hj))
  exact (List.getElem?_eq_some_iff.1 hi).1

theorem Inv.step {n : Nat} (hf : fine l n = true) (hn : a0.tmps.size = n) (hstab : ∀ i v w w', Φ i v w → Below w.heap.size w w' → Φ i v w') {listed : Array Bool} {a : Act} {w w' : World}
    (h : Inv l a0 w0 Φ listed a w) {i : Nat} {o : Oper} (hi : l[i]? = some o) (hun : listed[i]? = some false) (hpre : ∀ e ∈ o.after.toList, Region.binds .any e = true → listed[e.on]? = some true)
    {v : Value} (hB : Below w.heap.size w w') (hv : Φ i v w') : Inv l a0 w0 Φ (listed.setIfInBounds i true) (a.put o.dst v) w' := by
  have hlt : i < l.length := (List.getElem?_eq_some_iff.1 hi).1
  have hset : ∀ j, (listed.setIfInBounds i true)[j]? = some true ↔ j = i ∨ listed[j]? = some true := by
    intro j
    by_cases hj : j = i
    · subst hj; simp [h.hs, hlt]
    · simp [Array.getElem?_setIfInBounds_ne (Ne.symm hj), hj]
  have hput : ∀ d, (a.put o.dst v).tmps[d]? = if o.dst = some d ∧ d < a.tmps.size then some v else a.tmps[d]? := by
    intro d
    unfold Act.put
    cases hd : o.dst with
    | none => simp
    | some d' =>
      by_cases e : d' = d
      · subst e
        by_cases hb : d' < a.tmps.size
        · simp [hb]
        · simp [hb]
      · simp [Array.getElem?_setIfInBounds_ne e, e]
  refine ⟨by simp [h.hs], h.hc.trans (hB.mono h.hc.size), ?_, ?_, ?_, ?_, ?_⟩
  · rw [← h.htm]; unfold Act.put; cases o.dst <;> simp
  · rw [← h.hdf]; unfold Act.put; cases o.dst <;> rfl
  · intro j o' hj hl e he hb
    rw [hset] at hl ⊢
    rcases hl with rfl | hl
    · rw [hi] at hj
      obtain rfl := Option.some.inj hj
      exact Or.inr (hpre e he hb)
    · exact Or.inr (h.closed j o' hj hl e he hb)
  · intro j o' d hj hl hd
    rw [hput]
    rw [hset] at hl
    by_cases hji : j = i
    · subst hji
      rw [hi] at hj
      obtain rfl := Option.some.inj hj
      have := (fine_dst hf hi hd).1
      rw [if_pos ⟨hd, by rw [h.htm, hn]; exact this⟩]
      exact ⟨v, rfl, hv⟩
    · have hne : o.dst ≠ some d := fun h2 => hji ((fine_dst hf hi h2).2 j o' hj hd)
      rw [if_neg (fun h2 => hne h2.1)]
      obtain ⟨u, hu1, hu2⟩ := h.vals j o' d hj (hl.resolve_left hji) hd
      exact ⟨u, hu1, hstab _ _ _ _ hu2 hB⟩
  · intro d hd
    have hne : o.dst ≠ some d := hd i o hi ((hset i).2 (Or.inl rfl))
    rw [hput, if_neg (fun h2 => hne h2.1)]
    exact h.old d (fun j o' hj hl => hd j o' hj ((hset j).2 (Or.inr hl)))

theorem wpAny_inv {n : Nat} (hf : fine l n = true) (hn : a0.tmps.size = n) (hstab : ∀ i v w w', Φ i v w → Below w.heap.size w w' → Φ i v w')
    (hops : OpsOk l Q a0 w0 Φ P 0 l)
    (hfin : ∀ (a : Act) (w : World), Below w0.heap.size w0 w → a.tmps.size = a0.tmps.size → a.defers = a0.defers →
      (∀ (i : Nat) (o : Oper) (d : Nat), l[i]? = some o → o.dst = some d → ∃ v, a.tmps[d]? = some v ∧ Φ i v w) →
      (∀ d, (∀ (i : Nat) (o : Oper), l[i]? = some o → o.dst ≠ some d) → a.tmps[d]? = a0.tmps[d]?) → Q .normal a w) :
    ∀ (fuel : Nat) (listed : Array Bool) (a : Act) (w : World), Inv l a0 w0 Φ listed a w → listed.toList.count false ≤ fuel → wpAny P .any l.toArray Q fuel listed a w
  | 0, listed, a, w, h, hc => by
    have hall : ∀ j, j < l.length → listed[j]? = some true := by
      intro j hj
      have hj2 : j < listed.size := by rw [h.hs]; exact hj
      have h0 : listed.toList.count false = 0 := by omega
      have hm := List.count_eq_zero.1 h0
      cases hb : listed[j] with
      | true => simp [hb, hj2]
      | false => exact absurd (by rw [← hb]; simp) hm
    refine ⟨?_, inv_done h hall hfin⟩
    rw [List.eq_nil_iff_forall_not_mem]
    intro j hj
    obtain ⟨h1, o, ho, _⟩ := mem_ready.1 hj
    have hlt : j < l.length := by
      have := (Array.getElem?_eq_some_iff.1 ho).1
      simpa using this
    simp [hall j hlt] at h1
  | fuel + 1, listed, a, w, h, hc => by
    refine ⟨fun hr => inv_done h (all_listed hf h.hs hr) hfin, fun i hi => ?_⟩
    obtain ⟨h1, o, ho, hpre⟩ := mem_ready.1 hi
    have ho2 : l[i]? = some o := by simpa using ho
    have hlt : i < l.length := (List.getElem?_eq_some_iff.1 ho2).1
    have hlt2 : i < listed.size := by rw [h.hs]; exact hlt
    have hun : listed[i]? = some false := by
      have : listed.getD i true = listed[i] := by simp [hlt2]
      rw [this] at h1
      simp [hlt2, h1]
    have hpre2 : ∀ e ∈ o.after.toList, Region.binds .any e = true → listed[e.on]? = some true := by
      intro e he hb
      have h2 := hpre e (by simpa using he) hb
      have h3 : e.on < listed.size := by
        rcases Nat.lt_or_ge e.on listed.size with h4 | h4
        · exact h4
        · simp [Array.getElem?_eq_none h4] at h2
      have : listed.getD e.on false = listed[e.on] := by simp [h3]
      rw [this] at h2
      simp [h3, h2]
    have hcount : (listed.setIfInBounds i true).toList.count false ≤ fuel := by
      have hl3 : i < listed.toList.length := by simpa using hlt2
      have h4 : listed.toList[i] = false := by
        have := hun
        simp [hlt2] at this
        simpa using this
      rw [Array.toList_setIfInBounds, List.count_set (h := hl3), h4, if_pos (by decide), if_neg (by decide)]
      have : 0 < listed.toList.count false := List.count_pos_iff.2 (by rw [← h4]; exact List.getElem_mem hl3)
      omega
    have hop := hops.at i o ho2
    rw [Nat.zero_add] at hop
    have hop2 := hop a w h.hc (fun e he hb o' d hj hd => h.vals e.on o' d hj (hpre2 e he hb) hd) (fun d hd => h.old d (fun j o' hj hl hd2 => by
      have h5 := List.all_eq_true.1 hd o' (List.mem_of_getElem? hj)
      simp only [hd2, bne_self_eq_false, Bool.false_or] at h5
      obtain ⟨e, he, h6⟩ := Array.any_eq_true'.1 h5
      simp only [Bool.and_eq_true, beq_iff_eq] at h6
      have h7 := h.closed j o' hj hl e (by simpa using he) h6.1
      rw [h6.2, hun] at h7
      simp at h7))
    unfold wpOp
    simp only [ho]
    split
    · rename_i hw
      rw [if_pos hw] at hop2
      refine Or.inl (Oper.wp_mono ?_ hop2)
      rintro a' w' ⟨v, rfl, hB, hv⟩
      exact wpAny_inv hf hn hstab hops hfin fuel _ _ _ (h.step hf hn hstab ho2 hun hpre2 hB hv) hcount
    · rename_i hw
      rw [if_neg hw] at hop2
      exact wpAny_inv hf hn hstab hops hfin fuel _ _ _ (h.step hf hn hstab ho2 hun hpre2 (Below.refl _ _) hop2) hcount

/-- THE REGION. -/
theorem wp_region_inv {id n : Nat} (Φ : Nat → Value → World → Prop) (hm : P.follows .mixedOrders = true) (hf : fine l n = true) (hn : a0.tmps.size = n) (hstab : ∀ i v w w', Φ i v w → Below w.heap.size w w' → Φ i v w')
    (hops : OpsOk l Q a0 w0.drew Φ P 0 l)
    (hfin : ∀ (a : Act) (w : World), Below w0.heap.size w0 w → a.tmps.size = a0.tmps.size → a.defers = a0.defers →
      (∀ (i : Nat) (o : Oper) (d : Nat), l[i]? = some o → o.dst = some d → ∃ v, a.tmps[d]? = some v ∧ Φ i v w) →
      (∀ d, (∀ (i : Nat) (o : Oper), l[i]? = some o → o.dst ≠ some d) → a.tmps[d]? = a0.tmps[d]?) → Q .normal a w) :
    (Code.region id l.toArray true).wp P Q a0 w0 := by
  refine wp_region_any hm ?_
  refine wpAny_inv (w0 := w0.drew) (Φ := Φ) hf hn hstab hops (fun a w hB => hfin a w ((Below.refl w0.heap.size w0).drew.trans hB)) _ _ _ _ ?_ ?_
  · refine ⟨by simp, Below.refl _ _, rfl, rfl, ?_, ?_, fun _ _ => rfl⟩
    · intro j o hj hl
      have hlt : j < l.length := (List.getElem?_eq_some_iff.1 hj).1
      simp [hlt] at hl
    · intro j o d hj hl
      have hlt : j < l.length := (List.getElem?_eq_some_iff.1 hj).1
      simp [hlt] at hl
  · simp

theorem getD_tmp {a : Act} {t : Nat} {v : Value} (h : a.tmps[t]? = some v) : a.tmps.getD t undef = v := by
  rw [Array.getD_eq_getD_getElem?, h]; rfl
theorem eval_tmp {a : Act} {t : Nat} {v : Value} (h : a.tmps[t]? = some v) : a.eval (.tmp t) = v := getD_tmp h
theorem wanted_none {o : Oper} {y : Nat → Option Bool} (h : o.guard = none) : Region.wanted o y = true := by
  unfold Region.wanted; rw [h]
theorem wanted_at {o o' : Oper} {a : Act} {j d : Nat} {want : Bool} (h : o.guard = some (j, want)) (ho : l[j]? = some o') (hd : o'.dst = some d) (hv : a.tmps[d]? = some (.bool want)) :
    Region.wanted o (yielded l.toArray a.tmps) = true := by
  unfold Region.wanted
  rw [h]
  simp [yielded, ho, hd, hv]
theorem pred {o o' : Oper} {a : Act} {w : World} (hp : ∀ e ∈ o.after.toList, Region.binds .any e = true → ∀ o' d, l[e.on]? = some o' → o'.dst = some d → ∃ v, a.tmps[d]? = some v ∧ Φ e.on v w)
    (j d : Nat) (hj : (o.after.any fun e => Region.binds .any e && (e.on == j)) = true) (ho : l[j]? = some o') (hd : o'.dst = some d) : ∃ v, a.tmps[d]? = some v ∧ Φ j v w := by
  obtain ⟨e, he, h6⟩ := Array.any_eq_true'.1 hj
  simp only [Bool.and_eq_true, beq_iff_eq] at h6
  have := hp e (by simpa using he) h6.1 o' d (by rw [h6.2]; exact ho) hd
  rwa [h6.2] at this
/-- An operation that yields a value, the world as it is. -/
theorem ok_value {P : Program} {k : Nat} {o : Oper} {a : Act} {w : World} {v : Value} (hw : Region.wanted o (yielded l.toArray a.tmps) = true)
    (hrun : (execOp a.eval o).run P w = .ok (.value v) w) (hv : Φ k v w) :
    if Region.wanted o (yielded l.toArray a.tmps) then o.wp P a w (fun a' w' => ∃ v, a' = a.put o.dst v ∧ Below w.heap.size w w' ∧ Φ k v w') Q else Φ k undef w := by
  rw [if_pos hw]
  unfold Oper.wp
  rw [hrun]
  exact ⟨v, rfl, Below.refl _ _, hv⟩
theorem ok_made {P : Program} {k : Nat} {o : Oper} {a : Act} {w w2 : World} {v : Value} (hw : Region.wanted o (yielded l.toArray a.tmps) = true)
    (hrun : (execOp a.eval o).run P w = .ok (.value v) w2) (hB : Below w.heap.size w w2) (hv : Φ k v w2) :
    if Region.wanted o (yielded l.toArray a.tmps) then o.wp P a w (fun a' w' => ∃ v, a' = a.put o.dst v ∧ Below w.heap.size w w' ∧ Φ k v w') Q else Φ k undef w := by
  rw [if_pos hw]
  unfold Oper.wp
  rw [hrun]
  exact ⟨v, rfl, hB, hv⟩
/-- A call that returns. -/
theorem ok_call {P : Program} {k : Nat} {o : Oper} {a : Act} {w : World} {f : FuncId} {args : Array Value} (hw : Region.wanted o (yielded l.toArray a.tmps) = true)
    (hrun : (execOp a.eval o).run P w = .ok (.enter f args) w) (hc : Calls P f args w fun e w' => ∃ v, e = .returned v ∧ Below w.heap.size w w' ∧ Φ k v w') :
    if Region.wanted o (yielded l.toArray a.tmps) then o.wp P a w (fun a' w' => ∃ v, a' = a.put o.dst v ∧ Below w.heap.size w w' ∧ Φ k v w') Q else Φ k undef w := by
  rw [if_pos hw]
  unfold Oper.wp
  rw [hrun]
  refine hc.mono ?_
  rintro e w' ⟨v, rfl, hB, hv⟩
  exact ⟨v, rfl, hB, hv⟩
end
end Go.Proofs.YtccdojoeblaenaaDoor.Reg
