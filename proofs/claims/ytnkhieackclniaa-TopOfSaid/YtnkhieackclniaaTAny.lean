/- A name comes to a top, whichever way; the chapter's examples. -/
import Derived.Test.YtnkhieackclniaaTFull
namespace Go.Proofs.Ytnkhieackclniaa
open Go Go.RowKit

/-- What the coming of a name is answered. -/
def addC (name : ByteArray) (b : Nat) (l : List Itm) : Int := if 64 < name.size ∨ b = 0 then 1 else if 4611686018427387904 < seen l + b then 7 else 0
/-- The items behind it. -/
def addS (room : Nat) (name : ByteArray) (b : Nat) (l : List Itm) : List Itm := if addC name b l = 0 then addL room name b l else l
theorem addC_ok {name : ByteArray} {b : Nat} {l : List Itm} (h1 : name.size ≤ 64) (h2 : 0 < b) (h3 : seen l + b ≤ 4611686018427387904) : addC name b l = 0 := by
  unfold addC; rw [if_neg (by omega), if_neg (by omega)]
theorem addS_ok {room : Nat} {name : ByteArray} {b : Nat} {l : List Itm} (h1 : name.size ≤ 64) (h2 : 0 < b) (h3 : seen l + b ≤ 4611686018427387904) : addS room name b l = addL room name b l := by
  unfold addS; rw [if_pos (addC_ok h1 h2 h3)]
theorem inv_addS {room : Nat} {name : ByteArray} {b : Nat} {l : List Itm} (h : Inv room l) : Inv room (addS room name b l) := by
  unfold addS
  split
  · rename_i hc
    unfold addC at hc
    split at hc
    · cases hc
    · split at hc
      · cases hc
      · exact inv_add h (by omega) (by omega) (by omega)
  · exact h
theorem add_any {base B room : Nat} {v : Value} {l : List Itm} {w : World} (h : Tp base B room v l w) (name : ByteArray) (b : Nat) (hn : name.size ≤ maxLen) (hb : b < 18446744073709551616) :
    Calls Try.prog 12 #[.pointer (some ⟨B, 0, none⟩), .string name, .int .u64 b] w (Added base B room v (addS room name b l) (addC name b l) w) := by
  by_cases h1 : 64 < name.size ∨ b = 0
  · have hc : addC name b l = 1 := by unfold addC; rw [if_pos h1]
    have hs : addS room name b l = l := by unfold addS; rw [hc]; rfl
    rw [hs, hc]
    exact add_arg h name b hn h1
  · by_cases h2 : 4611686018427387904 < seen l + b
    · have hc : addC name b l = 7 := by unfold addC; rw [if_neg h1, if_pos h2]
      have hs : addS room name b l = l := by unfold addS; rw [hc]; rfl
      rw [hs, hc]
      exact add_range h name b (by omega) (by omega) hb h2
    · rw [addS_ok (by omega) (by omega) (by omega), addC_ok (by omega) (by omega) (by omega)]
      cases hp : plc name l with
      | some i => exact add_found h name b (by omega) (by omega) (by omega) hp
      | none =>
        by_cases hr : l.length < room
        · exact add_room h (Nat.le_trans h.lo (Nat.le_of_lt h.lt)) name b (by omega) (by omega) (by omega) hp hr
        · exact add_full h name b (by omega) (by omega) (by omega) hp hr
/-- Behind a coming that is known. -/
theorem add_is {base B room : Nat} {v : Value} {l l' : List Itm} {code : Int} {w : World} (h : Tp base B room v l w) (name : ByteArray) (b : Nat) (hn : name.size ≤ maxLen) (hb : b < 18446744073709551616) (hs : addS room name b l = l') (hc : addC name b l = code) :
    Calls Try.prog 12 #[.pointer (some ⟨B, 0, none⟩), .string name, .int .u64 b] w (Added base B room v l' code w) := by
  subst hs hc
  exact add_any h name b hn hb
theorem Added.below {base B room : Nat} {v : Value} {l' : List Itm} {code : Int} {w w' : World} {e : Ending} (h : Added base B room v l' code w e w') (hT : ∃ l, Tp base B room v l w) : e = .returned (.int .i64 code) ∧ ∃ v', Tp base B room v' l' w' ∧ Mov (OwnT B v) w w' ∧ Below base w w' ∧ ∀ g, v'.ownBlock = some g → v.ownBlock = some g ∨ w.heap.size ≤ g := by
  obtain ⟨he, v', hT', hM, hat⟩ := h
  obtain ⟨l, hT⟩ := hT
  refine ⟨he, v', hT', hM, hM.below ?_ (Nat.le_trans hT.lo (Nat.le_of_lt hT.lt)), hat⟩
  rintro k (rfl | hk)
  · exact hT.lo
  · exact (hT.row.lt hk).1
def eA : ByteArray := ⟨#[97]⟩
def eB : ByteArray := ⟨#[98]⟩
def eC : ByteArray := ⟨#[99]⟩
def ex1 : List Itm := [⟨eA, 3, 0⟩]
def ex2 : List Itm := [⟨eA, 3, 0⟩, ⟨eB, 1, 0⟩]
def ex3 : List Itm := [⟨eA, 3, 0⟩, ⟨eC, 2, 1⟩]
theorem ex_ab : eA ≠ eB ∧ eA ≠ eC ∧ eB ≠ eC := by decide
theorem ex_add1 : addS 2 eA 3 [] = ex1 := by
  rw [addS_ok (by decide) (by decide) (by decide), addL_room (plc_no (fun j hj => by simp at hj)) (by decide)]
  rfl
theorem ex_add2 : addS 2 eB 1 ex1 = ex2 := by
  rw [addS_ok (by decide) (by decide) (by decide), addL_room (plc_no (fun j hj => ?_)) (by decide)]
  · rfl
  · obtain rfl : j = 0 := by simpa [ex1] using hj
    exact ex_ab.1
theorem ex_worst : worst ex2 = 1 := by
  unfold worst
  show scanW ex2 1 0 1 = 1
  unfold scanW
  rw [if_pos (goes_iff.2 (.inl (by decide)))]
  rfl
theorem ex_add3 : addS 2 eC 1 ex2 = ex3 := by
  rw [addS_ok (by decide) (by decide) (by decide), addL_full (plc_no (fun j hj => ?_)) (by decide), ex_worst]
  · rfl
  · have : j = 0 ∨ j = 1 := by simp [ex2] at hj; omega
    rcases this with rfl | rfl
    · exact ex_ab.2.1
    · exact ex_ab.2.2
theorem ex_told : Told ex3 := by
  unfold Told ex3
  rw [List.pairwise_cons]
  refine ⟨fun b hb => ?_, by simp⟩
  simp at hb
  subst hb
  exact tells_not.2 (.inl (by decide))
theorem ex_least : leastL 2 ex3 = 2 := by
  unfold leastL
  rw [if_neg (by decide)]
  have h := worst_spec ex3 (by decide)
  have : worst ex3 = 1 := by
    unfold worst
    show scanW ex3 1 0 1 = 1
    unfold scanW
    rw [if_pos (goes_iff.2 (.inl (by decide)))]
    rfl
  rw [this]
  rfl
set_option maxRecDepth 100000 in
set_option maxHeartbeats 4000000 in
theorem examples_any (w : World) :
    Calls Try.prog 9 #[] w fun e w' => e = .returned (.bool true) ∧ Below w.heap.size w w' := by
  have hn0 := new_out 0 (by decide)
  have hn2 := new_any 2 (by decide) (by decide)
  obtain ⟨N, hN⟩ : ∃ N, w.heap.size = N := ⟨_, rfl⟩
  have HN := Lib.hid hN
  go_enter Try.func9, Try.ntmps9
  go_wp2_with fail
  refine (hn0 _).mono ?_
  rintro e w1 ⟨rfl, rfl⟩
  go_wp2_with fail
  refine (hn2 _).mono ?_
  rintro e W1 ⟨rfl, hB, hT⟩
  rw [hN] at hB hT ⊢
  clear hN
  go_wp2_with fail
  refine (add_is hT eA 3 (by decide) (by decide) ex_add1 (addC_ok (by decide) (by decide) (by decide))).mono ?_
  intro e W2 hA
  obtain ⟨rfl, v2, hT2, _, hB2, _⟩ := hA.below ⟨_, hT⟩
  replace hB := hB.trans hB2
  clear hA hB2 hT
  go_wp2_with fail
  refine (add_is hT2 eB 1 (by decide) (by decide) ex_add2 (addC_ok (by decide) (by decide) (by decide))).mono ?_
  intro e W3 hA
  obtain ⟨rfl, v3, hT3, _, hB2, _⟩ := hA.below ⟨_, hT2⟩
  replace hB := hB.trans hB2
  clear hA hB2 hT2
  go_wp2_with fail
  refine (add_is hT3 eC 1 (by decide) (by decide) ex_add3 (addC_ok (by decide) (by decide) (by decide))).mono ?_
  intro e W4 hA
  obtain ⟨rfl, v4, hT4, _, hB2, _⟩ := hA.below ⟨_, hT3⟩
  replace hB := hB.trans hB2
  clear hA hB2 hT3
  go_wp2_with fail
  refine (items_any hT4).mono ?_
  rintro e W5 ⟨v5, s, rfl, hI5, hp, ht, hB2⟩
  obtain rfl : s = ex3 := told_unique ht ex_told hp (by simp [(hp.map _).nodup_iff, hT4.inv.nd])
  replace hB := hB.trans (hB2.mono (Nat.le_trans (Nat.le_of_eq HN.out.symm) hB.size))
  have HT5 := Lib.hid (hT4.below hB2)
  obtain ⟨g, cap, rfl, _, hg, _, _, hcell, _⟩ := hI5.form_pos (by decide)
  obtain ⟨c0, c1, c2⟩ := hcell 0 (by decide)
  obtain ⟨d0, d1, d2⟩ := hcell 1 (by decide)
  clear hcell hT4 hI5 hp ht hB2
  replace c0 : W5.cell? ⟨g, 0, none⟩ = some (.string ⟨#[97]⟩) := c0
  replace c1 : W5.cell? ⟨g, 1, none⟩ = some (.int .u64 3) := c1
  replace c2 : W5.cell? ⟨g, 2, none⟩ = some (.int .u64 0) := c2
  replace d0 : W5.cell? ⟨g, 3, none⟩ = some (.string ⟨#[99]⟩) := d0
  replace d1 : W5.cell? ⟨g, 4, none⟩ = some (.int .u64 2) := d1
  replace d2 : W5.cell? ⟨g, 5, none⟩ = some (.int .u64 1) := d2
  rw [show ex3.length = 2 from rfl]
  go_wp2_with fail
  have hse := seen_walk HT5.out
  rw [show seen ex3 = 5 from rfl] at hse
  refine hse.mono ?_
  rintro e W6 ⟨rfl, hB2⟩
  have HT6 := Lib.hid (HT5.out.below hB2)
  replace hB := hB.trans (hB2.mono (Nat.le_trans (Nat.le_of_eq HN.out.symm) hB.size))
  clear hse hB2 c0 c1 c2 d0 d1 d2
  have hle := least_any HT6.out
  rw [ex_least] at hle
  go_wp2_with fail
  refine hle.mono ?_
  rintro e W7 ⟨rfl, hB2⟩
  have HT7 := Lib.hid (HT6.out.below hB2)
  replace hB := hB.trans (hB2.mono (Nat.le_trans (Nat.le_of_eq HN.out.symm) hB.size))
  clear hle hB2
  go_wp2_with fail
  refine (add_is HT7.out eA 0 (by decide) (by decide) (l' := ex3) (code := 1) rfl rfl).mono ?_
  intro e W8 hA
  obtain ⟨rfl, v8, hT8, _, hB2, _⟩ := hA.below ⟨_, HT7.out⟩
  replace hB := hB.trans hB2
  clear hA hB2 hT8
  go_wp2
  go_ret
  exact ⟨rfl, HN.out ▸ hB⟩
end Go.Proofs.Ytnkhieackclniaa
