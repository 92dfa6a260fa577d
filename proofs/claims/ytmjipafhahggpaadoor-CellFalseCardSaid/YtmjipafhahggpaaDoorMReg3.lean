/- A region that draws its order and ends in operations of one order: those ahead by obligations, the end walked as a list. -/
import Derived.Test.YtmjipafhahggpaaDoorMReg2
import Derived.StillTail
namespace Go.Proofs.YtmjipafhahggpaaDoor.Reg
open Go Go.RowKit

/-- The first t of n are done. -/
def doneTo (n t : Nat) : Array Bool := Array.replicate t true ++ Array.replicate (n - t) false
/-- Operation t waits for all ahead of it, those behind it wait for t. -/
def tailB (l : List Oper) (t : Nat) : Bool :=
  ((List.range t).all fun j => Reg2.reach l l.length t j) &&
  ((List.range l.length).all fun i => decide (i ≤ t) || ((l[i]?).map fun o => o.after.any fun e => Region.binds .any e && (e.on == t)).getD false)
section
variable {P : Program} {md : Region.Mode} {ops : Array Oper} {Q : Exit → Act → World → Prop}
theorem wpAny_succ : ∀ (k : Nat) (listed : Array Bool) (a : Act) (w : World), wpAny P md ops Q k listed a w → wpAny P md ops Q (k + 1) listed a w
  | 0, _, _, _, h => wpAny_done h.1 h.2 _
  | k + 1, _, _, _, h => ⟨h.1, fun i hi => wpOp_mono (fun a' w' h' => wpAny_succ k _ a' w' h') (h.2 i hi)⟩
theorem wpAny_more {k n : Nat} (hkn : k ≤ n) {listed : Array Bool} {a : Act} {w : World} (h : wpAny P md ops Q k listed a w) : wpAny P md ops Q n listed a w := by
  induction n with
  | zero => rw [show k = 0 by omega] at h; exact h
  | succ n ih =>
    rcases Nat.lt_or_ge n k with h1 | h1
    · rw [show k = n + 1 by omega] at h; exact h
    · exact wpAny_succ _ _ _ _ (ih h1)
end
section
variable {P : Program} {G : World → World → Prop} {l : List Oper} {Q : Exit → Act → World → Prop} {a0 : Act} {w0 : World} {Φ : Nat → Value → World → Prop}
theorem kept_to {a : Act} {t : Nat} (ho : ∀ d, (∀ (i : Nat) (o : Oper), i < t → l[i]? = some o → o.dst ≠ some d) → a.tmps[d]? = a0.tmps[d]?) (d : Nat) (h : (l.all fun o => o.dst != some d) = true) : a.tmps[d]? = a0.tmps[d]? :=
  ho d fun i o _ hi => by
    have := List.all_eq_true.1 h o (List.mem_of_getElem? hi)
    simpa using this
theorem kept_past {a : Act} {t : Nat} (ho : ∀ d, (∀ (i : Nat) (o : Oper), i < t → l[i]? = some o → o.dst ≠ some d) → a.tmps[d]? = a0.tmps[d]?) (d : Nat) (h : ((l.take t).all fun o => o.dst != some d) = true) : a.tmps[d]? = a0.tmps[d]? :=
  ho d fun i o hi ho' => by
    have := List.all_eq_true.1 h o (List.mem_of_getElem? (i := i) (by rw [List.getElem?_take, if_pos hi]; exact ho'))
    simpa using this
theorem wpAny_tail {n t : Nat} (ht : t < l.length) (hsq : Region.seqB .any l.toArray (l.length - t) t (doneTo l.length t) = true) (hre : tailB l t = true) (hf : fine l n = true) (hn : a0.tmps.size = n) (hGr : ∀ w, G w w) (hGt : ∀ a b c : World, G a b → G b c → G a c) (hstab : ∀ i v w w', Φ i v w → G w w' → Φ i v w')
    (hops : OpsOk G l Q a0 w0 Φ P 0 (l.take t))
    (hlast : ∀ (a : Act) (w : World), G w0 w → a.tmps.size = a0.tmps.size → a.defers = a0.defers →
      (∀ (i : Nat) (o : Oper) (d : Nat), i < t → l[i]? = some o → o.dst = some d → ∃ v, a.tmps[d]? = some v ∧ Φ i v w) →
      (∀ d, (∀ (i : Nat) (o : Oper), i < t → l[i]? = some o → o.dst ≠ some d) → a.tmps[d]? = a0.tmps[d]?) → wpList P l.toArray Q (l.drop t) a w) :
    ∀ (fuel : Nat) (listed : Array Bool) (a : Act) (w : World), Inv G l a0 w0 Φ listed a w → (∀ j, t ≤ j → j < l.length → listed[j]? = some false) → listed.toList.count false ≤ fuel → wpAny P .any l.toArray Q fuel listed a w := by
  intro fuel
  induction fuel with
  | zero =>
    intro listed a w h hs hc
    exfalso
    have h0 : listed.toList.count false = 0 := by omega
    have hm := List.count_eq_zero.1 h0
    exact hm (List.mem_of_getElem? (i := t) (by simpa using hs t (Nat.le_refl _) ht))
  | succ fuel ih =>
    intro listed a w h hs hc
    by_cases hall : ∀ j, j < t → listed[j]? = some true
    · have hl : listed = doneTo l.length t := by
        apply Array.ext_getElem?
        intro i
        unfold doneTo
        rcases Nat.lt_or_ge i t with h1 | h1
        · rw [hall i h1, Array.getElem?_append_left (by simpa using h1)]
          simp [h1]
        · rcases Nat.lt_or_ge i l.length with h2 | h2
          · rw [hs i h1 h2, Array.getElem?_append_right (by simpa using h1)]
            simp only [Array.size_replicate, Array.getElem?_replicate]
            rw [if_pos (by omega)]
          · rw [Array.getElem?_eq_none (by rw [h.hs]; exact h2), Array.getElem?_eq_none (by simp; omega)]
      have hnt : ∀ j, listed[j]? = some true → j < t := fun j hj => by
        rcases Nat.lt_or_ge j t with h1 | h1
        · exact h1
        · have h2 : j < l.length := by rw [← h.hs]; exact (Array.getElem?_eq_some_iff.1 hj).1
          rw [hs j h1 h2] at hj
          cases hj
      have hw := hlast a w h.hc h.htm h.hdf (fun j o d hj ho hd => h.vals j o d ho (hall j hj) hd) (fun d hd => h.old d (fun j o ho hj => hd j o (hnt j hj) ho))
      have hk := wpAny_of_seq (md := .any) (Q' := Q) (l.drop t) t listed a w (fun j => by simp [List.getElem?_drop]) (by rw [List.length_drop, hl]; exact hsq) hw
      have hcn : listed.toList.count false = l.length - t := by
        rw [hl]
        unfold doneTo
        rw [Array.toList_append, List.count_append]
        simp [List.count_replicate]
      exact wpAny_more (by rw [List.length_drop]; omega) hk
    · refine ⟨fun hr => ?_, fun i hi => ?_⟩
      · exfalso
        have := all_listed hf h.hs hr t ht
        rw [hs t (Nat.le_refl _) ht] at this
        simp at this
      obtain ⟨h1, o, ho, hpre⟩ := mem_ready.1 hi
      have ho2 : l[i]? = some o := by simpa using ho
      have hlt : i < l.length := (List.getElem?_eq_some_iff.1 ho2).1
      have hlt2 : i < listed.size := by rw [h.hs]; exact hlt
      have hun : listed[i]? = some false := by
        have : listed.getD i true = listed[i] := by simp [hlt2]
        rw [this] at h1
        simp [hlt2, h1]
      have hpre2 : ∀ e ∈ o.after.toList, Region.binds .any e = true → listed[e.on]? = some true := by
        intro e he hb
        have h2 := hpre e (by simpa using he) hb
        have h3 : e.on < listed.size := by
          rcases Nat.lt_or_ge e.on listed.size with h4 | h4
          · exact h4
          · simp [Array.getElem?_eq_none h4] at h2
        have : listed.getD e.on false = listed[e.on] := by simp [h3]
        rw [this] at h2
        simp [h3, h2]
      have hit : i < t := by
        rcases Nat.lt_or_ge i t with h2 | h2
        · exact h2
        · exfalso
          unfold tailB at hre
          rw [Bool.and_eq_true] at hre
          rcases Nat.eq_or_lt_of_le h2 with h3 | h3
          · subst h3
            refine hall fun j hj => ?_
            have := List.all_eq_true.1 hre.1 j (by simpa using hj)
            exact Reg2.reach_done h.closed l.length t j o ho2 hpre2 this
          · have := List.all_eq_true.1 hre.2 i (by simpa using hlt)
            rw [decide_eq_false (by omega), Bool.false_or, ho2] at this
            simp only [Option.map_some, Option.getD_some] at this
            obtain ⟨e, he, h6⟩ := Array.any_eq_true'.1 this
            simp only [Bool.and_eq_true, beq_iff_eq] at h6
            have h7 := hpre2 e (by simpa using he) h6.1
            rw [h6.2, hs t (Nat.le_refl _) ht] at h7
            simp at h7
      have hcount : (listed.setIfInBounds i true).toList.count false ≤ fuel := by
        have hl3 : i < listed.toList.length := by simpa using hlt2
        have h4 : listed.toList[i] = false := by
          have := hun
          simp [hlt2] at this
          simpa using this
        rw [Array.toList_setIfInBounds, List.count_set (h := hl3), h4, if_pos (by decide), if_neg (by decide)]
        have : 0 < listed.toList.count false := List.count_pos_iff.2 (by rw [← h4]; exact List.getElem_mem hl3)
        omega
      have hop := hops.at i o (by rw [List.getElem?_take, if_pos hit]; exact ho2)
      rw [Nat.zero_add] at hop
      have hop2 := hop a w h.hc (fun e he hb o' d hj hd => h.vals e.on o' d hj (hpre2 e he hb) hd) (fun d hd => h.old d (fun j o' hj hl hd2 => by
        have h5 := List.all_eq_true.1 hd o' (List.mem_of_getElem? hj)
        simp only [hd2, bne_self_eq_false, Bool.false_or] at h5
        obtain ⟨e, he, h6⟩ := Array.any_eq_true'.1 h5
        simp only [Bool.and_eq_true, beq_iff_eq] at h6
        have h7 := h.closed j o' hj hl e (by simpa using he) h6.1
        rw [h6.2, hun] at h7
        simp at h7))
      have hs' : ∀ j, t ≤ j → j < l.length → (listed.setIfInBounds i true)[j]? = some false := fun j h2 h3 => by
        rw [Array.getElem?_setIfInBounds_ne (by omega)]
        exact hs j h2 h3
      unfold wpOp
      simp only [ho]
      split
      · rename_i hw
        rw [if_pos hw] at hop2
        refine Or.inl (Oper.wp_mono ?_ hop2)
        rintro a' w' ⟨v, rfl, hB, hv⟩
        exact ih _ _ _ (h.step hf hn hGt hstab ho2 hun hpre2 hB hv) hs' hcount
      · rename_i hw
        rw [if_neg hw] at hop2
        exact ih _ _ _ (h.step hf hn hGt hstab ho2 hun hpre2 (hGr _) hop2) hs' hcount
/-- THE REGION whose last operations, from t on, come in one order behind all others: those make memory at most. -/
theorem wp_region_tail {id n : Nat} (t : Nat) (Φ : Nat → Value → World → Prop) (hm : P.follows .mixedOrders = true) (ht : t < l.length) (hsq : Region.seqB .any l.toArray (l.length - t) t (doneTo l.length t) = true) (hre : tailB l t = true) (hf : fine l n = true) (hn : a0.tmps.size = n) (hstab : ∀ i v w w', Φ i v w → Old w w' → Φ i v w')
    (hops : OpsOk Old l Q a0 w0.drew Φ P 0 (l.take t))
    (hlast : ∀ (a : Act) (w : World), Old w0.drew w → a.tmps.size = a0.tmps.size → a.defers = a0.defers →
      (∀ (i : Nat) (o : Oper) (d : Nat), i < t → l[i]? = some o → o.dst = some d → ∃ v, a.tmps[d]? = some v ∧ Φ i v w) →
      (∀ d, (∀ (i : Nat) (o : Oper), i < t → l[i]? = some o → o.dst ≠ some d) → a.tmps[d]? = a0.tmps[d]?) → wpList P l.toArray Q (l.drop t) a w) :
    (Code.region id l.toArray true).wp P Q a0 w0 := by
  refine wp_region_any hm ?_
  refine wpAny_tail (w0 := w0.drew) (Φ := Φ) ht hsq hre hf hn Old.refl (fun _ _ _ => Old.trans) hstab hops hlast _ _ _ _ ?_ ?_ ?_
  · refine ⟨by simp, Old.refl _, rfl, rfl, ?_, ?_, ?_, fun _ _ => rfl⟩
    · intro j o hj hl
      have hlt : j < l.length := (List.getElem?_eq_some_iff.1 hj).1
      simp [hlt] at hl
    · intro j o d hj hl
      have hlt : j < l.length := (List.getElem?_eq_some_iff.1 hj).1
      simp [hlt] at hl
    · intro j o hj hl
      have hlt : j < l.length := (List.getElem?_eq_some_iff.1 hj).1
      simp [hlt] at hl
  · intro j _ hj
    simp [hj]
  · simp
end
end Go.Proofs.YtmjipafhahggpaaDoor.Reg

