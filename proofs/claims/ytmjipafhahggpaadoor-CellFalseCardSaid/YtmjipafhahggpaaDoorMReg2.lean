/- A region that draws its order and holds calls that write: what the world is hangs on which operations are done. -/
import Derived.Test.YtmjipafhahggpaaDoorMReg
namespace Go.Proofs.YtmjipafhahggpaaDoor.Reg2
open Go Go.RowKit Go.Proofs.YtmjipafhahggpaaDoor.Reg

section
variable {P : Program} (Ψ : Array Bool → World → Prop) (l : List Oper) (Q : Exit → Act → World → Prop) (a0 : Act) (Φ : Nat → Value → World → Prop)

/-- What is done, is done with all it waits for. -/
def Closed (listed : Array Bool) : Prop := ∀ (j : Nat) (o : Oper), l[j]? = some o → listed[j]? = some true → ∀ e ∈ o.after.toList, Region.binds .any e = true → listed[e.on]? = some true
/-- What operation k waits for is done. -/
def Pre (listed : Array Bool) (o : Oper) : Prop := ∀ e ∈ o.after.toList, Region.binds .any e = true → listed[e.on]? = some true
/-- What is asked of operation k. -/
def OpOk (P : Program) (k : Nat) (o : Oper) : Prop :=
  ∀ (listed : Array Bool) (a : Act) (w : World), Ψ listed w → listed.size = l.length → listed[k]? = some false → Closed l listed → Pre listed o →
    (∀ e ∈ o.after.toList, Region.binds .any e = true → ∀ o' d, l[e.on]? = some o' → o'.dst = some d → ∃ v, a.tmps[d]? = some v ∧ Φ e.on v w) →
    (∀ d, safe l k d = true → a.tmps[d]? = a0.tmps[d]?) →
    if Region.wanted o (yielded l.toArray a.tmps) then o.wp P a w (fun a' w' => ∃ v, a' = a.put o.dst v ∧ Ψ (listed.setIfInBounds k true) w' ∧ Φ k v w') Q else Ψ (listed.setIfInBounds k true) w ∧ Φ k undef w
def OpsOk (P : Program) : Nat → List Oper → Prop
  | _, [] => True
  | k, o :: r => OpOk Ψ l Q a0 Φ P k o ∧ OpsOk P (k + 1) r
variable {Ψ l Q a0 Φ}
theorem OpsOk.at : ∀ {r : List Oper} {k : Nat}, OpsOk Ψ l Q a0 Φ P k r → ∀ i o, r[i]? = some o → OpOk Ψ l Q a0 Φ P (k + i) o
  | [], _, _, _, _, h => by simp at h
  | o' :: r, k, h, 0, o, hi => by
    simp at hi
    subst hi
    exact h.1
  | o' :: r, k, h, i + 1, o, hi => by
    have := OpsOk.at h.2 i o (by simpa using hi)
    rwa [show k + 1 + i = k + (i + 1) from by omega] at this
theorem wpAny_inv2 {n : Nat} {w0 : World} (hf : fine l n = true) (hn : a0.tmps.size = n) (hstab : ∀ i v w w', Φ i v w → Φ i v w')
    (hops : OpsOk Ψ l Q a0 Φ P 0 l)
    (hfin : ∀ (listed : Array Bool) (a : Act) (w : World), Ψ listed w → listed.size = l.length → (∀ j, j < l.length → listed[j]? = some true) → a.tmps.size = a0.tmps.size → a.defers = a0.defers →
      (∀ (i : Nat) (o : Oper) (d : Nat), l[i]? = some o → o.dst = some d → ∃ v, a.tmps[d]? = some v ∧ Φ i v w) →
      (∀ d, (∀ (i : Nat) (o : Oper), l[i]? = some o → o.dst ≠ some d) → a.tmps[d]? = a0.tmps[d]?) → Q .normal a w) :
    ∀ (fuel : Nat) (listed : Array Bool) (a : Act) (w : World), Inv (fun _ _ => True) l a0 w0 Φ listed a w → Ψ listed w → listed.toList.count false ≤ fuel → wpAny P .any l.toArray Q fuel listed a w
  | 0, listed, a, w, h, hΨ, hc => by
    have hall : ∀ j, j < l.length → listed[j]? = some true := by
      intro j hj
      have hj2 : j < listed.size := by rw [h.hs]; exact hj
      have h0 : listed.toList.count false = 0 := by omega
      have hm := List.count_eq_zero.1 h0
      cases hb : listed[j] with
      | true => simp [hb, hj2]
      | false => exact absurd (by rw [← hb]; simp) hm
    refine ⟨?_, hfin listed a w hΨ h.hs hall h.htm h.hdf (fun i o d hi hd => h.vals i o d hi (hall i (List.getElem?_eq_some_iff.1 hi).1) hd) (fun d hd => h.old d (fun j o hj _ => hd j o hj))⟩
    rw [List.eq_nil_iff_forall_not_mem]
    intro j hj
    obtain ⟨h1, o, ho, _⟩ := mem_ready.1 hj
    have hlt : j < l.length := by
      have := (Array.getElem?_eq_some_iff.1 ho).1
      simpa using this
    simp [hall j hlt] at h1
  | fuel + 1, listed, a, w, h, hΨ, hc => by
    refine ⟨fun hr => ?_, fun i hi => ?_⟩
    · have hall := all_listed hf h.hs hr
      exact hfin listed a w hΨ h.hs hall h.htm h.hdf (fun i o d hi hd => h.vals i o d hi (hall i (List.getElem?_eq_some_iff.1 hi).1) hd) (fun d hd => h.old d (fun j o hj _ => hd j o hj))
    obtain ⟨h1, o, ho, hpre⟩ := mem_ready.1 hi
    have ho2 : l[i]? = some o := by simpa using ho
    have hlt : i < l.length := (List.getElem?_eq_some_iff.1 ho2).1
    have hlt2 : i < listed.size := by rw [h.hs]; exact hlt
    have hun : listed[i]? = some false := by
      have : listed.getD i true = listed[i] := by simp [hlt2]
      rw [this] at h1
      simp [hlt2, h1]
    have hpre2 : ∀ e ∈ o.after.toList, Region.binds .any e = true → listed[e.on]? = some true := by
      intro e he hb
      have h2 := hpre e (by simpa using he) hb
      have h3 : e.on < listed.size := by
        rcases Nat.lt_or_ge e.on listed.size with h4 | h4
        · exact h4
        · simp [Array.getElem?_eq_none h4] at h2
      have : listed.getD e.on false = listed[e.on] := by simp [h3]
      rw [this] at h2
      simp [h3, h2]
    have hcount : (listed.setIfInBounds i true).toList.count false ≤ fuel := by
      have hl3 : i < listed.toList.length := by simpa using hlt2
      have h4 : listed.toList[i] = false := by
        have := hun
        simp [hlt2] at this
        simpa using this
      rw [Array.toList_setIfInBounds, List.count_set (h := hl3), h4, if_pos (by decide), if_neg (by decide)]
      have : 0 < listed.toList.count false := List.count_pos_iff.2 (by rw [← h4]; exact List.getElem_mem hl3)
      omega
    have hop := hops.at i o ho2
    rw [Nat.zero_add] at hop
    have hop2 := hop listed a w hΨ h.hs hun h.closed hpre2 (fun e he hb o' d hj hd => h.vals e.on o' d hj (hpre2 e he hb) hd) (fun d hd => h.old d (fun j o' hj hl hd2 => by
      have h5 := List.all_eq_true.1 hd o' (List.mem_of_getElem? hj)
      simp only [hd2, bne_self_eq_false, Bool.false_or] at h5
      obtain ⟨e, he, h6⟩ := Array.any_eq_true'.1 h5
      simp only [Bool.and_eq_true, beq_iff_eq] at h6
      have h7 := h.closed j o' hj hl e (by simpa using he) h6.1
      rw [h6.2, hun] at h7
      simp at h7))
    unfold wpOp
    simp only [ho]
    split
    · rename_i hw
      rw [if_pos hw] at hop2
      refine Or.inl (Oper.wp_mono ?_ hop2)
      rintro a' w' ⟨v, rfl, hB, hv⟩
      exact wpAny_inv2 hf hn hstab hops hfin fuel _ _ _ (h.step hf hn (fun _ _ _ _ _ => trivial) (fun i v w w' hx _ => hstab i v w w' hx) ho2 hun hpre2 trivial hv) hB hcount
    · rename_i hw
      rw [if_neg hw] at hop2
      exact wpAny_inv2 hf hn hstab hops hfin fuel _ _ _ (h.step hf hn (fun _ _ _ _ _ => trivial) (fun i v w w' hx _ => hstab i v w w' hx) ho2 hun hpre2 trivial hop2.2) hop2.1 hcount
/-- THE REGION, the world told by what is done. -/
theorem wp_region_inv2 {id n : Nat} {w0 : World} (Ψ : Array Bool → World → Prop) (Φ : Nat → Value → World → Prop) (hm : P.follows .mixedOrders = true) (hf : fine l n = true) (hn : a0.tmps.size = n) (hstab : ∀ i v w w', Φ i v w → Φ i v w')
    (h0 : Ψ (Array.replicate l.length false) w0.drew) (hops : OpsOk Ψ l Q a0 Φ P 0 l)
    (hfin : ∀ (listed : Array Bool) (a : Act) (w : World), Ψ listed w → listed.size = l.length → (∀ j, j < l.length → listed[j]? = some true) → a.tmps.size = a0.tmps.size → a.defers = a0.defers →
      (∀ (i : Nat) (o : Oper) (d : Nat), l[i]? = some o → o.dst = some d → ∃ v, a.tmps[d]? = some v ∧ Φ i v w) →
      (∀ d, (∀ (i : Nat) (o : Oper), l[i]? = some o → o.dst ≠ some d) → a.tmps[d]? = a0.tmps[d]?) → Q .normal a w) :
    (Code.region id l.toArray true).wp P Q a0 w0 := by
  refine wp_region_any hm ?_
  refine wpAny_inv2 (w0 := w0.drew) (Φ := Φ) hf hn hstab hops hfin _ _ _ _ ?_ ?_ ?_
  · refine ⟨by simp, trivial, rfl, rfl, ?_, ?_, ?_, fun _ _ => rfl⟩
    · intro j o hj hl
      have hlt : j < l.length := (List.getElem?_eq_some_iff.1 hj).1
      simp [hlt] at hl
    · intro j o d hj hl
      have hlt : j < l.length := (List.getElem?_eq_some_iff.1 hj).1
      simp [hlt] at hl
    · intro j o hj hl
      have hlt : j < l.length := (List.getElem?_eq_some_iff.1 hj).1
      simp [hlt] at hl
  · simpa using h0
  · simp
def reach (l : List Oper) : Nat → Nat → Nat → Bool
  | 0, _, _ => false
  | f + 1, k, j => match l[k]? with
    | none => false
    | some o => o.after.any fun e => Region.binds .any e && ((e.on == j) || reach l f e.on j)
theorem reach_done {listed : Array Bool} (hcl : Closed l listed) : ∀ (f k j : Nat) (o : Oper), l[k]? = some o → Pre listed o → reach l f k j = true → listed[j]? = some true
  | 0, _, _, _, _, _, h => by simp [reach] at h
  | f + 1, k, j, o, hk, hp, h => by
    simp only [reach, hk] at h
    obtain ⟨e, he, h6⟩ := Array.any_eq_true'.1 h
    simp only [Bool.and_eq_true, Bool.or_eq_true, beq_iff_eq] at h6
    have h7 := hp e (by simpa using he) h6.1
    rcases h6.2 with h8 | h8
    · rw [h8] at h7; exact h7
    · cases ho : l[e.on]? with
      | none =>
        exfalso
        cases f with
        | zero => simp [reach] at h8
        | succ f => simp [reach, ho] at h8
      | some o' => exact reach_done hcl f e.on j o' ho (fun e' he' hb' => hcl e.on o' ho h7 e' he' hb') h8
theorem not_done {listed : Array Bool} (hcl : Closed l listed) (hs : listed.size = l.length) (f k j : Nat) (o : Oper) (hk : l[k]? = some o) (h : reach l f k j = true) (hj : listed[j]? = some false) : listed[k]? = some false := by
  have hlt : k < listed.size := by rw [hs]; exact (List.getElem?_eq_some_iff.1 hk).1
  cases hb : listed[k] with
  | false => simp [hlt, hb]
  | true =>
    have h1 : listed[k]? = some true := by simp [hlt, hb]
    have := reach_done hcl f k j o hk (fun e he hbb => hcl k o hk h1 e he hbb) h
    rw [hj] at this
    cases this
theorem ok_value {k : Nat} {o : Oper} {a : Act} {w : World} {v : Value} {listed : Array Bool} (hw : Region.wanted o (yielded l.toArray a.tmps) = true)
    (hrun : (execOp a.eval o).run P w = .ok (.value v) w) (hΨ : Ψ (listed.setIfInBounds k true) w) (hv : Φ k v w) :
    if Region.wanted o (yielded l.toArray a.tmps) then o.wp P a w (fun a' w' => ∃ v, a' = a.put o.dst v ∧ Ψ (listed.setIfInBounds k true) w' ∧ Φ k v w') Q else Ψ (listed.setIfInBounds k true) w ∧ Φ k undef w := by
  rw [if_pos hw]
  unfold Oper.wp
  rw [hrun]
  exact ⟨v, rfl, hΨ, hv⟩
theorem ok_call {k : Nat} {o : Oper} {a : Act} {w : World} {f : FuncId} {args : Array Value} {listed : Array Bool} (hw : Region.wanted o (yielded l.toArray a.tmps) = true)
    (hrun : (execOp a.eval o).run P w = .ok (.enter f args) w) (hc : Calls P f args w fun e w' => ∃ v, e = .returned v ∧ Ψ (listed.setIfInBounds k true) w' ∧ Φ k v w') :
    if Region.wanted o (yielded l.toArray a.tmps) then o.wp P a w (fun a' w' => ∃ v, a' = a.put o.dst v ∧ Ψ (listed.setIfInBounds k true) w' ∧ Φ k v w') Q else Ψ (listed.setIfInBounds k true) w ∧ Φ k undef w := by
  rw [if_pos hw]
  unfold Oper.wp
  rw [hrun]
  refine hc.mono ?_
  rintro e w' ⟨v, rfl, hB, hv⟩
  exact ⟨v, rfl, hB, hv⟩
theorem ok_skip {k : Nat} {o : Oper} {a : Act} {w : World} {listed : Array Bool} (hw : Region.wanted o (yielded l.toArray a.tmps) = false) (hΨ : Ψ (listed.setIfInBounds k true) w) (hv : Φ k undef w) :
    if Region.wanted o (yielded l.toArray a.tmps) then o.wp P a w (fun a' w' => ∃ v, a' = a.put o.dst v ∧ Ψ (listed.setIfInBounds k true) w' ∧ Φ k v w') Q else Ψ (listed.setIfInBounds k true) w ∧ Φ k undef w := by
  rw [if_neg (by simp [hw])]
  exact ⟨hΨ, hv⟩
end
end Go.Proofs.YtmjipafhahggpaaDoor.Reg2

