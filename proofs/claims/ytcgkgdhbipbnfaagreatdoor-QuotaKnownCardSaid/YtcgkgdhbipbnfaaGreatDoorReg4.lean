/- A region that draws its order, whose last operation (a store) waits for all others, for some of them by way of others. -/
import Derived.Test.YtcgkgdhbipbnfaaGreatDoorReg
namespace Go.Proofs.YtcgkgdhbipbnfaaGreatDoor.Reg
open Go Go.RowKit

section
variable {P : Program} {G : World → World → Prop} {l : List Oper} {Q : Exit → Act → World → Prop} {a0 : Act} {w0 : World} {Φ : Nat → Value → World → Prop}
/-- Operation o waits for operation j, by way of others at most f deep. -/
def via (l : List Oper) : Nat → Oper → Nat → Bool
  | 0, _, _ => false
  | f + 1, o, j => o.after.any fun e => Region.binds .any e && (e.on == j || match l[e.on]? with | some o' => via l f o' j | none => false)
def waitsVia (l : List Oper) (stop : Nat) (ol : Oper) : Bool :=
  ol.guard.isNone && (List.range l.length).all fun j => j == stop || via l l.length ol j
theorem via_listed {listed : Array Bool} (hc : ∀ (j : Nat) (o : Oper), l[j]? = some o → listed[j]? = some true → ∀ e ∈ o.after.toList, Region.binds .any e = true → listed[e.on]? = some true) :
    ∀ (f : Nat) (o : Oper) (j : Nat), (∀ e ∈ o.after.toList, Region.binds .any e = true → listed[e.on]? = some true) → via l f o j = true → listed[j]? = some true
  | 0, _, _, _, h => by simp [via] at h
  | f + 1, o, j, hp, h => by
    unfold via at h
    obtain ⟨e, he, h6⟩ := Array.any_eq_true'.1 h
    rw [Bool.and_eq_true, Bool.or_eq_true] at h6
    have h7 := hp e (by simpa using he) h6.1
    rcases h6.2 with h8 | h8
    · rw [beq_iff_eq] at h8
      rwa [h8] at h7
    · split at h8
      · rename_i o' ho'
        exact via_listed hc f o' j (hc _ _ ho' h7) h8
      · cases h8
theorem wpAny_last2 {n stop : Nat} {ol : Oper} (hst : l[stop]? = some ol) (hw8 : waitsVia l stop ol = true) (hf : fine l n = true) (hn : a0.tmps.size = n) (hGr : ∀ w, G w w) (hGt : ∀ a b c : World, G a b → G b c → G a c) (hstab : ∀ i v w w', Φ i v w → G w w' → Φ i v w')
    (hops : OpsOkBut (P := P) G l Q a0 w0 Φ stop 0 l)
    (hlast : ∀ (a : Act) (w : World), G w0 w → a.tmps.size = a0.tmps.size → a.defers = a0.defers →
      (∀ (i : Nat) (o : Oper) (d : Nat), i ≠ stop → l[i]? = some o → o.dst = some d → ∃ v, a.tmps[d]? = some v ∧ Φ i v w) →
      (∀ d, (∀ (i : Nat) (o : Oper), l[i]? = some o → i ≠ stop → o.dst ≠ some d) → a.tmps[d]? = a0.tmps[d]?) → ol.wp P a w (fun a' w' => Q .normal a' w') Q) :
    ∀ (fuel : Nat) (listed : Array Bool) (a : Act) (w : World), Inv G l a0 w0 Φ listed a w → listed[stop]? = some false → listed.toList.count false ≤ fuel → wpAny P .any l.toArray Q fuel listed a w
  | 0, listed, a, w, h, hs, hc => by
    exfalso
    have h0 : listed.toList.count false = 0 := by omega
    have hm := List.count_eq_zero.1 h0
    exact hm (List.mem_of_getElem? (i := stop) (by simpa using hs))
  | fuel + 1, listed, a, w, h, hs, hc => by
    refine ⟨fun hr => ?_, fun i hi => ?_⟩
    · have := all_listed hf h.hs hr stop (List.getElem?_eq_some_iff.1 hst).1
      rw [hs] at this
      simp at this
    obtain ⟨h1, o, ho, hpre⟩ := mem_ready.1 hi
    have ho2 : l[i]? = some o := by simpa using ho
    have hlt : i < l.length := (List.getElem?_eq_some_iff.1 ho2).1
    have hlt2 : i < listed.size := by rw [h.hs]; exact hlt
    have hun : listed[i]? = some false := by
      have : listed.getD i true = listed[i] := by simp [hlt2]
      rw [this] at h1
      simp [hlt2, h1]
    have hpre2 : ∀ e ∈ o.after.toList, Region.binds .any e = true → listed[e.on]? = some true := by
      intro e he hb
      have h2 := hpre e (by simpa using he) hb
      have h3 : e.on < listed.size := by
        rcases Nat.lt_or_ge e.on listed.size with h4 | h4
        · exact h4
        · simp [Array.getElem?_eq_none h4] at h2
      have : listed.getD e.on false = listed[e.on] := by simp [h3]
      rw [this] at h2
      simp [h3, h2]
    have hcount : (listed.setIfInBounds i true).toList.count false ≤ fuel := by
      have hl3 : i < listed.toList.length := by simpa using hlt2
      have h4 : listed.toList[i] = false := by
        have := hun
        simp [hlt2] at this
        simpa using this
      rw [Array.toList_setIfInBounds, List.count_set (h := hl3), h4, if_pos (by decide), if_neg (by decide)]
      have : 0 < listed.toList.count false := List.count_pos_iff.2 (by rw [← h4]; exact List.getElem_mem hl3)
      omega
    by_cases his : i = stop
    · subst his
      obtain rfl : ol = o := Option.some.inj (hst.symm.trans ho2)
      simp only [waitsVia, Bool.and_eq_true] at hw8
      have hothers : ∀ j, j < l.length → j ≠ i → listed[j]? = some true := by
        intro j hj hji
        have := List.all_eq_true.1 hw8.2 j (by simpa using hj)
        have hji' : (j == i) = false := by simpa using hji
        rw [hji', Bool.false_or] at this
        exact via_listed (listed := listed) h.closed _ _ _ hpre2 this
      have hL := hlast a w h.hc h.htm h.hdf (fun j o' d hji hj hd => h.vals j o' d hj (hothers j (List.getElem?_eq_some_iff.1 hj).1 hji) hd) (fun d hd => h.old d (fun j o' hj hl => hd j o' hj (fun e => by subst e; rw [hun] at hl; simp at hl)))
      have hall : ∀ j, j < l.length → (listed.setIfInBounds i true)[j]? = some true := by
        intro j hj
        by_cases hji : j = i
        · subst hji; simp [hlt2]
        · rw [Array.getElem?_setIfInBounds_ne (Ne.symm hji)]
          exact hothers j hj hji
      have hr0 : Region.ready .any l.toArray (listed.setIfInBounds i true) = [] := by
        rw [List.eq_nil_iff_forall_not_mem]
        intro j hj
        obtain ⟨g1, o', ho', _⟩ := mem_ready.1 hj
        have hlj : j < l.length := by
          have := (Array.getElem?_eq_some_iff.1 ho').1
          simpa using this
        have h9 := hall j hlj
        rw [Array.getD_eq_getD_getElem?, h9] at g1
        simp at g1
      have hgd : ol.guard = none := by simpa using hw8.1
      unfold wpOp
      simp only [ho]
      rw [if_pos (wanted_none hgd)]
      refine Or.inl (Oper.wp_mono ?_ hL)
      intro a' w' hq
      cases fuel with
      | zero => exact ⟨hr0, hq⟩
      | succ f => exact ⟨fun _ => hq, fun j hj => by rw [hr0] at hj; cases hj⟩
    · have hop := hops.at i o ho2 (by omega)
      rw [Nat.zero_add] at hop
      have hop2 := hop a w h.hc (fun e he hb o' d hj hd => h.vals e.on o' d hj (hpre2 e he hb) hd) (fun d hd => h.old d (fun j o' hj hl hd2 => by
        have h5 := List.all_eq_true.1 hd o' (List.mem_of_getElem? hj)
        simp only [hd2, bne_self_eq_false, Bool.false_or] at h5
        obtain ⟨e, he, h6⟩ := Array.any_eq_true'.1 h5
        simp only [Bool.and_eq_true, beq_iff_eq] at h6
        have h7 := h.closed j o' hj hl e (by simpa using he) h6.1
        rw [h6.2, hun] at h7
        simp at h7))
      have hs' : (listed.setIfInBounds i true)[stop]? = some false := by rw [Array.getElem?_setIfInBounds_ne his]; exact hs
      unfold wpOp
      simp only [ho]
      split
      · rename_i hw
        rw [if_pos hw] at hop2
        refine Or.inl (Oper.wp_mono ?_ hop2)
        rintro a' w' ⟨v, rfl, hB, hv⟩
        exact wpAny_last2 hst hw8 hf hn hGr hGt hstab hops hlast fuel _ _ _ (h.step hf hn hGt hstab ho2 hun hpre2 hB hv) hs' hcount
      · rename_i hw
        rw [if_neg hw] at hop2
        exact wpAny_last2 hst hw8 hf hn hGr hGt hstab hops hlast fuel _ _ _ (h.step hf hn hGt hstab ho2 hun hpre2 (hGr _) hop2) hs' hcount

/-- THE REGION whose last operation (a store, as a rule) waits for all others: they store nothing. -/
theorem wp_region_last2 {id n : Nat} (stop : Nat) {ol : Oper} (Φ : Nat → Value → World → Prop) (hm : P.follows .mixedOrders = true) (hst : l[stop]? = some ol) (hw8 : waitsVia l stop ol = true) (hf : fine l n = true) (hn : a0.tmps.size = n) (hstab : ∀ i v w w', Φ i v w → Old w w' → Φ i v w')
    (hops : OpsOkBut (P := P) Old l Q a0 w0.drew Φ stop 0 l)
    (hlast : ∀ (a : Act) (w : World), Old w0.drew w → a.tmps.size = a0.tmps.size → a.defers = a0.defers →
      (∀ (i : Nat) (o : Oper) (d : Nat), i ≠ stop → l[i]? = some o → o.dst = some d → ∃ v, a.tmps[d]? = some v ∧ Φ i v w) →
      (∀ d, (∀ (i : Nat) (o : Oper), l[i]? = some o → i ≠ stop → o.dst ≠ some d) → a.tmps[d]? = a0.tmps[d]?) → ol.wp P a w (fun a' w' => Q .normal a' w') Q) :
    (Code.region id l.toArray true).wp P Q a0 w0 := by
  refine wp_region_any hm ?_
  refine wpAny_last2 (w0 := w0.drew) (Φ := Φ) hst hw8 hf hn Old.refl (fun _ _ _ => Old.trans) hstab hops hlast _ _ _ _ ?_ ?_ ?_
  · refine ⟨by simp, Old.refl _, rfl, rfl, ?_, ?_, ?_, fun _ _ => rfl⟩
    · intro j o hj hl
      have hlt : j < l.length := (List.getElem?_eq_some_iff.1 hj).1
      simp [hlt] at hl
    · intro j o d hj hl
      have hlt : j < l.length := (List.getElem?_eq_some_iff.1 hj).1
      simp [hlt] at hl
    · intro j o hj hl
      have hlt : j < l.length := (List.getElem?_eq_some_iff.1 hj).1
      simp [hlt] at hl
  · have := (List.getElem?_eq_some_iff.1 hst).1
    simp [this]
  · simp
end
end Go.Proofs.YtcgkgdhbipbnfaaGreatDoor.Reg

