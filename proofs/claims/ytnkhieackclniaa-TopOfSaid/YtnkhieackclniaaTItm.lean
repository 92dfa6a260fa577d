/- What a top tells of its items: a sorted copy. -/
import Derived.Test.YtnkhieackclniaaTOrd
import Derived.Test.YtnkhieackclniaaTGet
import Derived.Test.YtnkhieackclniaaShelf
namespace Go.Proofs.Ytnkhieackclniaa
open Go Go.RowKit Go.Sort

theorem info_item : (Try.prog.info? 51).map (fun i => (i.zero, i.size, i.bytes)) = some (some (.agg #[.string ⟨#[]⟩, .int .u64 0, .int .u64 0]), 3, 32) := by
  kernel_rfl
theorem flatK_eq (d : Array Itm) : flatK encI 3 d = (flat d.toList).toArray := by
  refine Sort.ext_get! (by simp [flat_length]) fun t ht => ?_
  rw [size_flatK] at ht
  rw [get_flatK _ _ _ t ht]
  have h1 : t / 3 < d.size := by omega
  have h2 := flat_at d.toList (t / 3) (t % 3) (by simpa using h1) (by omega)
  rw [show t / 3 * 3 + t % 3 = t by omega] at h2
  have h3 : t < (flat d.toList).toArray.size := by rw [List.size_toArray, flat_length]; simpa using ht
  rw [getElem!_pos _ t h3, List.getElem_toArray]
  rw [List.getElem?_eq_getElem (by rw [List.size_toArray] at h3; exact h3)] at h2
  have h4 : t % 3 < (encI d[t / 3]!).length := by simp [encI]; omega
  have h5 : d.toList[t / 3]! = d[t / 3]! := by
    rw [getElem!_pos d.toList (t / 3) (by simpa using h1), getElem!_pos d (t / 3) h1]; rfl
  rw [h5, List.getElem?_eq_getElem h4] at h2
  rw [Option.some.inj h2, getElem!_pos (encI d[t / 3]!) (t % 3) h4]
theorem take_put (F : List Value) (cur : Array Value) (h : F.length ≤ cur.size) : (putCells id 0 F.toArray cur).toList.take F.length = F := by
  apply List.ext_getElem
  · simp [putCells]; omega
  · intro i h1 h2
    simp [putCells, h2]
theorem size_put (F : Array Value) (cur : Array Value) : (putCells id 0 F cur).size = cur.size := by simp [putCells]
theorem its_sorted {base T g cap n : Nat} {l : List Itm} {d : Array Itm} {w : World} {os : Array Obj} (h : Its base T (.slice (some ⟨g, 0, none⟩) l.length cap) l w) (hd : d.size = l.length) :
    Its base T (.slice (some ⟨g, 0, none⟩) l.length cap) d.toList (sortWorldK encI 3 w g 0 n d os) ∧ Below base w (sortWorldK encI 3 w g 0 n d os) := by
  rcases h.2 with ⟨h1, _⟩ | ⟨g', cap', cur, hv, hb, hg, h1, h2, h3, h4⟩
  · cases h1
  · simp only [Value.slice.injEq, Option.some.injEq, Addr.mk.injEq, and_true, true_and] at hv
    obtain ⟨rfl, rfl⟩ := hv
    have hlt := (Array.getElem?_eq_some_iff.1 hg).1
    have hh : (sortWorldK encI 3 w g 0 n d os).heap = (w.heap.modify g (onCells (putCells id 0 (flatK encI 3 d)))) ++ os := rfl
    have hF : (flat d.toList).length = l.length * 3 := by rw [flat_length]; simp [hd]
    have hdl : d.toList.length = l.length := by simpa using hd
    refine ⟨?_, ?_⟩
    · unfold Its
      rw [hdl]
      refine ⟨hF, .inr ⟨g, cap, putCells id 0 (flatK encI 3 d) cur, rfl, hb, ?_, h1, h2, by rw [size_put]; exact h3, ?_⟩⟩
      · rw [hh, Array.getElem?_append_left (by simpa using hlt), Array.getElem?_modify, if_pos rfl, hg]
        rfl
      · rw [flatK_eq, ← hF]
        exact take_put _ _ (by rw [hF, h3]; exact Nat.mul_le_mul_right 3 h1)
    · refine ⟨rfl, rfl, rfl, ?_, fun k hk => ?_⟩
      · rw [hh]; simp
      · rw [hh, Array.getElem?_append_left (by simp; omega), Array.getElem?_modify, if_neg (by omega)]
theorem told_of {l : List Itm} {d : Array Itm} (hd : PermIn 0 l.length l.toArray d) (hs : SortedIn tells 0 l.length d) : d.toList.Perm l ∧ Told d.toList := by
  obtain ⟨h1, _, h3⟩ := hd
  have hsz : d.size = l.length := by simpa using h1
  have e : d.extract 0 l.length = d := by rw [← hsz]; simp
  rw [e] at h3
  refine ⟨by simpa using h3, ?_⟩
  unfold Told
  rw [List.pairwise_iff_getElem]
  intro i j hi hj hij
  have := hs i j (Nat.zero_le _) hij (by rw [← hsz]; simpa using hj)
  rwa [getElem!_pos d j (by simpa using hj), getElem!_pos d i (by simpa using hi)] at this
theorem ltOf_cmpT : ltOf cmpT = tells := by
  funext x y
  exact cmpT_lt x y
/-- What is told of items: they themselves, in their order, in a row of the call's own. -/
def ItemsOf (l : List Itm) (w : World) (e : Ending) (w' : World) : Prop := ∃ v s, e = .returned v ∧ Its w.heap.size 51 v s w' ∧ s.Perm l ∧ Told s ∧ Below w.heap.size w w'
set_option maxHeartbeats 2000000 in
theorem sort_any {base g cap : Nat} {l : List Itm} {w : World} (h : Its base 51 (.slice (some ⟨g, 0, none⟩) l.length cap) l w) (hl : l.length ≤ 16) :
    Calls Try.prog 34 #[.slice (some ⟨g, 0, none⟩) l.length cap, .func (.func 35) #[] #[]] w fun e w' => e = .returned (.tuple #[]) ∧ ∃ s, Its base 51 (.slice (some ⟨g, 0, none⟩) l.length cap) s w' ∧ s.Perm l ∧ Told s ∧ Below base w w' := by
  have eg : ∀ args w, (callFunc 35 args).run Try.prog w = .ok (.enter 35 args) w := enters_of Try.func35 (by kernel_rfl) rfl
  rcases h.form with ⟨h0, _⟩ | ⟨g', cap', hv, hb, hg, h1, h2, hcell, hfro⟩
  · cases h0
  simp only [Value.slice.injEq, Option.some.injEq, Addr.mk.injEq, and_true, true_and] at hv
  obtain ⟨rfl, rfl⟩ := hv
  have hH : HoldsK encI 3 w g 0 l.toArray := by
    intro j hj
    have hj' := hj
    rw [size_flatK] at hj'
    rw [flatK_eq] at hj ⊢
    rw [List.size_toArray] at hj
    have hlj : j < l.length * 3 := by simpa using hj'
    refine ⟨?_, by rw [Nat.zero_add]; exact hfro j⟩
    rw [Nat.zero_add, World.ownsRow.cellAt h j hlj, List.getElem?_eq_getElem (by rw [flat_length]; exact hlj), getElem!_pos _ j (by rw [List.size_toArray]; exact hj), List.getElem_toArray]
    rfl
  have hcon := AnyQ.slices_SortFunc Try.sortF 3 Try.isAgg51 Try.sizeOf51 encI (fun _ => rfl) (fun x v hv => by simp [encI] at hv; rcases hv with rfl | rfl | rfl <;> rfl) cmpT (by rw [ltOf_cmpT]; exact swo_tells) 35 #[] g 0 cap l.toArray w eg
    (fun _ _ _ _ x y => inorder_any x y _) hH hg (by simp; omega)
  rw [ltOf_cmpT] at hcon
  simp only [List.size_toArray] at hcon
  refine hcon.mono ?_
  rintro e w' ⟨rfl, d', n, os, hp, hs, rfl⟩
  obtain ⟨k1, k2⟩ := told_of hp hs
  have hd : d'.size = l.length := by simpa using hp.1
  obtain ⟨m1, m2⟩ := its_sorted (n := n) (os := os) h hd
  exact ⟨rfl, d'.toList, m1, k1, k2, m2⟩
theorem sort_none (p : Option Addr) (cap : Nat) (fv : Value) (w : World) :
    Calls Try.prog 34 #[.slice p 0 cap, fv] w fun e w' => e = .returned (.tuple #[]) ∧ w' = w :=
  AnyF.slices_SortFunc_none Try.sortF p cap fv w
theorem clone_any {base : Nat} {v : Value} {l : List Itm} {w : World} (h : Its base 51 v l w) (hl : l.length ≤ 16) :
    Calls Try.prog 33 #[v] w fun e w' => ∃ v', e = .returned v' ∧ Its w.heap.size 51 v' l w' ∧ Below w.heap.size w w' := by
  rcases h.form with ⟨rfl, rfl⟩ | ⟨g, cap, rfl, hb, hg, h1, h2, hcell, hfro⟩
  · refine (AnyE.slices_Clone_nil Try.cloneF 0 0 w).mono ?_
    rintro e w' ⟨rfl, rfl⟩
    exact ⟨_, rfl, Its.nil _ _ _, Below.refl _ _⟩
  · obtain ⟨i, hi, hz⟩ := Option.map_eq_some_iff.1 info_item
    simp only [Prod.mk.injEq] at hz
    obtain ⟨hz0, hz1, hz2⟩ := hz
    refine (AnyE.slices_Clone Try.cloneF i _ 3 32 hi hz0 hz1 hz2 rfl (by decide) Try.sizeOf51 g 0 l.length cap (flat l) w (flat_length l) (by unfold maxLen; omega) (by omega) ?_ (oneCells l)).mono ?_
    · intro j u hj
      have hlj : j < l.length * 3 := by rw [← flat_length]; exact (List.getElem?_eq_some_iff.1 hj).1
      rw [Nat.zero_add, World.ownsRow.cellAt h j hlj]
      exact hj
    · rintro e w' ⟨v', rfl, hown, _, hB⟩
      exact ⟨v', rfl, hown, hB⟩
set_option maxHeartbeats 2000000 in
theorem items_any {base B room : Nat} {v : Value} {l : List Itm} {w : World} (h : Tp base B room v l w) :
    Calls Try.prog 22 #[.pointer (some ⟨B, 0, none⟩)] w (ItemsOf l w) := by
  have c1 := h.c1
  have hl16 : l.length ≤ 16 := Nat.le_trans h.inv.len h.inv.hi
  have hcl := clone_any h.row hl16
  clear h
  go_enter Try.func22, Try.ntmps22
  go_wp2_with fail
  refine hcl.mono ?_
  rintro e w1 ⟨v', rfl, hI, hB⟩
  clear hcl c1
  rcases hI.form with ⟨rfl, rfl⟩ | ⟨g, cap, rfl, hb, hg, h1, h2, hcell, hfro⟩
  · have HI := Lib.hid hI
    clear hI
    go_wp2_with fail
    refine (sort_none none 0 _ _).mono ?_
    rintro e w2 ⟨rfl, rfl⟩
    go_wp2
    go_ret
    exact ⟨_, [], rfl, HI.out, List.Perm.refl _, List.Pairwise.nil, hB⟩
  · have hso := sort_any hI hl16
    clear hcell hfro
    have HI := Lib.hid hI
    clear hI
    by_cases hl0 : l = []
    · subst hl0
      clear hso
      go_wp2_with fail
      refine (sort_none _ _ _ _).mono ?_
      rintro e w2 ⟨rfl, rfl⟩
      go_wp2
      go_ret
      exact ⟨_, [], rfl, HI.out, List.Perm.refl _, List.Pairwise.nil, hB⟩
    · go_wp2_with fail
      refine hso.mono ?_
      rintro e w2 ⟨rfl, s, hI2, hp, ht, hB2⟩
      go_wp2
      go_ret
      exact ⟨_, s, rfl, hI2, hp, ht, hB.trans hB2⟩
end Go.Proofs.Ytnkhieackclniaa
