/- Which items are a top's: the plain mathematics. Whether items stand in the order in which they are told, as the library asks it; items that lie somewhere. Items are made a top again, or refused. -/
import Derived.Test.YtcgkgdhbipbnfaaGreatDoorMtC
import Derived.Shelf.SlSortCmp.QuietGrown
import Derived.RegionTactic
import Derived.ChangeAlike
import Derived.BigRegion
namespace Go.Proofs.YtcgkgdhbipbnfaaGreatDoor.Tq
open Go

/-- None is told ahead of the one that stands ahead of it. -/
def SortA (l : List Itm) : Prop := ∀ i, i + 1 < l.length → tells l[i + 1]! l[i]! = false
/-- An item of which nothing is over. -/
def zo (x : Itm) : Itm := ⟨x.name, x.many, 0⟩
/-- Items added one behind the other. -/
def addsL (room : Nat) (acc : List Itm) : List Itm → Option (List Itm)
  | [] => some acc
  | x :: r => if addC x.name x.many acc = 0 then addsL room (addL room x.name x.many acc) r else none
theorem addC_zero_iff {name : ByteArray} {b : Nat} {l : List Itm} : addC name b l = 0 ↔ name.size ≤ 64 ∧ 1 ≤ b ∧ seen l + b ≤ 4611686018427387904 := by
  unfold addC
  constructor
  · intro h
    split at h
    · cases h
    · split at h
      · cases h
      · omega
  · rintro ⟨h1, h2, h3⟩
    rw [if_neg (by omega), if_neg (by omega)]
theorem adds_some {room : Nat} (h0 : 1 ≤ room) : ∀ (r acc a : List Itm), acc.length + r.length ≤ room → addsL room acc r = some a →
    a.length ≤ acc.length + r.length ∧ seen a = seen acc + seen r ∧
    (a.length = acc.length + r.length → a = acc ++ r.map zo ∧ (∀ x ∈ r, x.name.size ≤ 64 ∧ 1 ≤ x.many) ∧ (r ≠ [] → seen acc + seen r ≤ 4611686018427387904) ∧ ((acc.map (·.name)).Nodup → ((acc ++ r).map (·.name)).Nodup))
  | [], acc, a, hl, h => by
    simp only [addsL, Option.some.injEq] at h
    subst h
    refine ⟨by simp, by simp [seen], fun _ => ⟨by simp, by simp, by simp, by simp⟩⟩
  | x :: r, acc, a, hl, h => by
    unfold addsL at h
    split at h
    · rename_i hc
      obtain ⟨c1, c2, c3⟩ := addC_zero_iff.1 hc
      have hlen : (addL room x.name x.many acc).length ≤ acc.length + 1 ∧ ((addL room x.name x.many acc).length = acc.length + 1 → plc x.name acc = none ∧ addL room x.name x.many acc = acc ++ [zo x]) := by
        cases hp : plc x.name acc with
        | some i => rw [addL_some hp]; simp
        | none =>
          have hr : acc.length < room := by simp at hl; omega
          rw [addL_room hp hr]
          simp [zo]
      have hse := seen_addL (room := room) (name := x.name) (b := x.many) (l := acc) h0
      obtain ⟨i1, i2, i3⟩ := adds_some h0 r _ a (by simp at hl; omega) h
      rw [hse] at i2 i3
      refine ⟨by simp; omega, by rw [i2, seen_cons]; omega, fun he => ?_⟩
      simp only [List.length_cons] at he
      obtain ⟨hp, ha⟩ := hlen.2 (by omega)
      obtain ⟨j1, j2, j3, j4⟩ := i3 (by omega)
      rw [ha] at j1 j4
      refine ⟨by rw [j1]; simp, ?_, ?_, ?_⟩
      · intro y hy
        rcases List.mem_cons.1 hy with rfl | hy
        · exact ⟨c1, c2⟩
        · exact j2 y hy
      · intro _
        rw [seen_cons]
        by_cases hr : r = []
        · subst hr; simp [seen] at *; omega
        · have := j3 hr; omega
      · intro hn
        have hno := plc_none hp
        have h1 : ((acc ++ [zo x]).map (·.name)).Nodup := by
          rw [List.map_append, List.nodup_append]
          refine ⟨hn, by simp, ?_⟩
          intro b hb c hc e
          simp [zo] at hc
          subst hc
          obtain ⟨y, hy, rfl⟩ := List.mem_map.1 hb
          exact hno y hy e
        have := j4 h1
        simpa [zo] using this
    · cases h
theorem adds_ok {room : Nat} : ∀ (r acc : List Itm), acc.length + r.length ≤ room → ((acc ++ r).map (·.name)).Nodup → (∀ x ∈ r, x.name.size ≤ 64 ∧ 1 ≤ x.many) → seen acc + seen r ≤ 4611686018427387904 → addsL room acc r = some (acc ++ r.map zo)
  | [], acc, _, _, _, _ => by simp [addsL]
  | x :: r, acc, hl, hn, hx, hs => by
    rw [seen_cons] at hs
    have hx1 := hx x (by simp)
    unfold addsL
    rw [if_pos (addC_zero_iff.2 ⟨hx1.1, hx1.2, by omega⟩)]
    have hp : plc x.name acc = none := by
      apply plc_no
      intro j hj e
      rw [List.map_append, List.nodup_append] at hn
      exact hn.2.2 _ (List.mem_map.2 ⟨_, mem_at hj, rfl⟩) x.name (by simp) e
    have hr : acc.length < room := by simp at hl; omega
    rw [addL_room hp hr]
    have := adds_ok (room := room) r (acc ++ [⟨x.name, x.many, 0⟩]) (by simp at hl ⊢; omega) (by simpa using hn) (fun y hy => hx y (by simp [hy])) (by rw [seen_append, seen_one]; simp only; omega)
    rw [this]
    simp [zo]
/-- The items are those of a top of that room, to which so many came. -/
def OkOf (room sn : Nat) (l : List Itm) : Prop := l.length ≤ room ∧ SortA l ∧ (∀ x ∈ l, x.name.size ≤ 64 ∧ 1 ≤ x.many) ∧ (l.map (·.name)).Nodup ∧ seen l ≤ 4611686018427387904 ∧ seen l = sn ∧ ∀ x ∈ l, x.over < x.many ∧ x.over ≤ leastL room l
theorem scanW_zo (l : List Itm) : ∀ n m i, m < l.length → i + n ≤ l.length → scanW (l.map zo) n m i = scanW l n m i
  | 0, _, _, _, _ => rfl
  | n + 1, m, i, hm, hi => by
    unfold scanW
    have h1 : (l.map zo)[i]! = zo l[i]! := by rw [getE _ _ (by simp; omega), getE l i (by omega)]; simp
    have h2 : (l.map zo)[m]! = zo l[m]! := by rw [getE _ _ (by simpa using hm), getE l m hm]; simp
    rw [h1, h2, show goes (zo l[i]!) (zo l[m]!) = goes l[i]! l[m]! from rfl]
    split
    · exact scanW_zo l n i (i + 1) (by omega) (by omega)
    · exact scanW_zo l n m (i + 1) hm (by omega)
theorem least_zo (room : Nat) (h0 : 1 ≤ room) (l : List Itm) : leastL room (l.map zo) = leastL room l := by
  unfold leastL
  rw [List.length_map]
  split
  · rfl
  · have hpos : 0 < l.length := by omega
    have hw : worst (l.map zo) = worst l := by
      unfold worst
      rw [List.length_map]
      exact scanW_zo l _ 0 1 hpos (by omega)
    rw [hw, getE _ _ (by simpa using worst_lt hpos), getE l _ (worst_lt hpos)]
    simp [zo]
theorem seen_zo (l : List Itm) : seen (l.map zo) = seen l := by
  unfold seen
  rw [List.map_map]
  rfl
/-- The first i with what is over of them, the others without. -/
def mixO (i : Nat) (l : List Itm) : List Itm := l.take i ++ (l.drop i).map zo
theorem mixO_zero (l : List Itm) : mixO 0 l = l.map zo := by simp [mixO]
theorem mixO_all (l : List Itm) : mixO l.length l = l := by simp [mixO]
theorem mixO_length (i : Nat) (l : List Itm) : (mixO i l).length = l.length := by simp [mixO]; omega
theorem mixO_at (i : Nat) (l : List Itm) (hi : i < l.length) : (mixO i l)[i]! = zo l[i]! := by
  rw [getE _ _ (by rw [mixO_length]; exact hi), getE l i hi]
  unfold mixO
  rw [List.getElem_append_right (by simp; omega)]
  simp [Nat.min_eq_left (Nat.le_of_lt hi)]
theorem mixO_step (i : Nat) (l : List Itm) (hi : i < l.length) : (mixO i l).set i ⟨l[i]!.name, l[i]!.many, l[i]!.over⟩ = mixO (i + 1) l := by
  unfold mixO
  rw [List.set_append_right _ _ (by simp; omega)]
  rw [List.drop_eq_getElem_cons hi, List.map_cons]
  have ht : l.take (i + 1) = l.take i ++ [l[i]] := by rw [List.take_add_one, List.getElem?_eq_getElem hi]; rfl
  rw [show i - (l.take i).length = 0 by simp; omega, List.set_cons_zero, ht, getE l i hi, List.append_assoc]
  rfl
theorem mixO_map (i : Nat) (l : List Itm) : (mixO i l).map (·.name) = l.map (·.name) ∧ (mixO i l).map (·.many) = l.map (·.many) := by
  unfold mixO
  constructor
  · rw [List.map_append, List.map_map, show ((fun x : Itm => x.name) ∘ zo) = (fun x => x.name) from rfl, ← List.map_append, List.take_append_drop]
  · rw [List.map_append, List.map_map, show ((fun x : Itm => x.many) ∘ zo) = (fun x => x.many) from rfl, ← List.map_append, List.take_append_drop]
theorem mixO_mem {i : Nat} {l : List Itm} {x : Itm} (h : x ∈ mixO i l) : (∃ j, j < i ∧ j < l.length ∧ x = l[j]!) ∨ ∃ y ∈ l, x = zo y := by
  unfold mixO at h
  rcases List.mem_append.1 h with h | h
  · left
    obtain ⟨j, hj, rfl⟩ := List.getElem_of_mem h
    simp at hj
    exact ⟨j, by omega, by omega, by rw [getE l j (by omega)]; simp⟩
  · right
    obtain ⟨y, hy, rfl⟩ := List.mem_map.1 h
    exact ⟨y, List.mem_of_mem_drop hy, rfl⟩
/-- Items of which all but what is over is right are a top's, as far as what is over was looked at. -/
theorem inv_mix {room i : Nat} {l : List Itm} (h1 : 1 ≤ room) (h16 : room ≤ 16) (hl : l.length ≤ room) (hx : ∀ x ∈ l, x.name.size ≤ 64 ∧ 1 ≤ x.many) (hn : (l.map (·.name)).Nodup) (hs : seen l ≤ 4611686018427387904)
    (ho : ∀ j, j < i → j < l.length → l[j]!.over < l[j]!.many ∧ l[j]!.over ≤ leastL room l) : Inv room (mixO i l) := by
  obtain ⟨m1, m2⟩ := mixO_map i l
  have hmem : ∀ x ∈ mixO i l, ∃ y ∈ l, x.name = y.name ∧ x.many = y.many := fun x hx => by
    rcases mixO_mem hx with ⟨j, _, hj, rfl⟩ | ⟨y, hy, rfl⟩
    · exact ⟨_, mem_at hj, rfl, rfl⟩
    · exact ⟨y, hy, rfl, rfl⟩
  have hov : ∀ x ∈ mixO i l, x.over < x.many ∧ x.over ≤ leastL room l := fun x hx' => by
    rcases mixO_mem hx' with ⟨j, hj, hjl, rfl⟩ | ⟨y, hy, rfl⟩
    · exact ho j hj hjl
    · have := (hx y hy).2
      exact ⟨by show 0 < y.many; omega, Nat.zero_le _⟩
  refine ⟨h1, h16, by rw [mixO_length]; exact hl, by rw [m1]; exact hn, fun x hxm => ?_, fun x hxm => (hov x hxm).1, fun x hxm => ?_, by unfold seen; rw [m2]; exact hs⟩
  · obtain ⟨y, hy, e, _⟩ := hmem x hxm
    rw [e]; exact (hx y hy).1
  · by_cases hr : l.length < room
    · have := (hov x hxm).2
      unfold leastL at this
      rw [if_pos hr] at this
      exact .inl (by omega)
    · refine .inr ⟨by rw [mixO_length]; omega, fun z hz => ?_⟩
      obtain ⟨y, hy, _, e⟩ := hmem z hz
      rw [e]
      refine Nat.le_trans (hov x hxm).2 ?_
      unfold leastL
      rw [if_neg hr]
      exact worst_le hy
theorem okOf_inv {room sn : Nat} {l : List Itm} (h1 : 1 ≤ room) (h16 : room ≤ 16) (h : OkOf room sn l) : Inv room l := by
  obtain ⟨a, _, c, d, e, _, g⟩ := h
  have := inv_mix (i := l.length) h1 h16 a c d e (fun j hj _ => g _ (mem_at hj))
  rwa [mixO_all] at this
theorem sortA_told {l : List Itm} (h : SortA l) : Told l := by
  unfold Told
  rw [List.pairwise_iff_getElem]
  have key : ∀ d i, i + d + 1 < l.length → tells l[i + d + 1]! l[i]! = false := by
    intro d
    induction d with
    | zero => intro i hi; exact h i hi
    | succ d ih =>
      intro i hi
      exact tells_ntrans (h (i + d + 1) (by omega)) (ih i (by omega))
  intro i j hi hj hij
  obtain ⟨d, rfl⟩ : ∃ d, j = i + d + 1 := ⟨j - i - 1, by omega⟩
  have := key d i hj
  rwa [getE l _ hj, getE l _ hi] at this
theorem told_sortA {l : List Itm} (h : Told l) : SortA l := by
  unfold Told at h
  rw [List.pairwise_iff_getElem] at h
  intro i hi
  rw [getE l _ hi, getE l i (by omega)]
  exact h i (i + 1) (by omega) hi (by omega)
/-- What is told of a top is items of it. -/
theorem okOf_told {room : Nat} {l s : List Itm} (h : Inv room l) (hp : s.Perm l) (ht : Told s) : OkOf room (seen l) s := by
  have hI := inv_perm h hp.symm
  refine ⟨hI.len, told_sortA ht, fun x hx => ⟨hI.names x hx, by have := hI.over x hx; omega⟩, hI.nd, hI.sum, seen_perm hp, fun x hx => ⟨hI.over x hx, ?_⟩⟩
  rcases hI.full x hx with h0 | ⟨h1, h2⟩
  · omega
  · unfold leastL
    have := h.lo
    rw [if_neg (by omega)]
    exact h2 _ (mem_at (worst_lt (by omega)))
end Go.Proofs.YtcgkgdhbipbnfaaGreatDoor.Tq

namespace Go.Proofs.YtcgkgdhbipbnfaaGreatDoor.Tq
open Go Go.RowKit

/-- Items that lie behind an address. -/
def Rd (p : Option Addr) (l : List Itm) (w : World) : Prop :=
  ∀ i, i < l.length → ∃ C off, p = some ⟨C, off, none⟩ ∧ C < w.heap.size ∧ w.cell? ⟨C, off + i * 3, none⟩ = some (.string l[i]!.name) ∧ w.cell? ⟨C, off + i * 3 + 1, none⟩ = some (.int .u64 l[i]!.many) ∧ w.cell? ⟨C, off + i * 3 + 2, none⟩ = some (.int .u64 l[i]!.over)
theorem Rd.below {p : Option Addr} {l : List Itm} {w w' : World} (h : Rd p l w) (hB : Below w.heap.size w w') : Rd p l w' := fun i hi => by
  obtain ⟨C, off, h1, h2, h3, h4, h5⟩ := h i hi
  exact ⟨C, off, h1, Nat.lt_of_lt_of_le h2 hB.size, (hB.cell (p := ⟨C, off + i * 3, none⟩) h2).trans h3, (hB.cell (p := ⟨C, off + i * 3 + 1, none⟩) h2).trans h4, (hB.cell (p := ⟨C, off + i * 3 + 2, none⟩) h2).trans h5⟩
theorem Its.rd {base T cap : Nat} {p : Option Addr} {l : List Itm} {w : World} (h : Its base T (.slice p l.length cap) l w) : Rd p l w := by
  intro i hi
  obtain ⟨g, cap', e, _, hg, _, _, hc, _⟩ := h.form_pos (by omega)
  simp only [Value.slice.injEq] at e
  obtain ⟨rfl, _, _⟩ := e
  obtain ⟨h0, h1, h2⟩ := hc i hi
  exact ⟨g, 0, rfl, hg, by rw [Nat.zero_add]; exact h0, by rw [Nat.zero_add]; exact h1, by rw [Nat.zero_add]; exact h2⟩
/-- Whether they stand in order. -/
def sortB : List Itm → Bool
  | [] => true
  | [_] => true
  | x :: y :: r => !tells y x && sortB (y :: r)
theorem sortB_iff : ∀ l, sortB l = true ↔ SortA l
  | [] => ⟨fun _ i h => by simp at h, fun _ => rfl⟩
  | [_] => ⟨fun _ i h => by simp at h, fun _ => rfl⟩
  | x :: y :: r => by
    unfold sortB
    rw [Bool.and_eq_true, sortB_iff (y :: r)]
    constructor
    · rintro ⟨h1, h2⟩ i hi
      cases i with
      | zero => simpa using h1
      | succ i => exact h2 i (by simpa using hi)
    · intro h
      exact ⟨by have := h 0 (by simp); simpa using this, fun i hi => h (i + 1) (by simpa using hi)⟩
set_option maxRecDepth 100000 in
set_option maxHeartbeats 4000000 in
theorem issorted_any (p : Option Addr) (l : List Itm) (cap : Nat) (hl : l.length ≤ 16) (w : World) (h : Rd p l w) :
    Calls Tryz.prog 83 #[.slice p l.length cap, .func (.func 84) #[] #[]] w fun e w' => e = .returned (.bool (sortB l)) ∧ Below w.heap.size w w' := by
  have HR := Lib.hid h
  have HS := Lib.hid (sortB_iff l)
  obtain ⟨sb, hsb⟩ : ∃ sb, sortB l = sb := ⟨_, rfl⟩
  have HSB := Lib.hid hsb
  rw [hsb]
  obtain ⟨n, hn⟩ : ∃ n, l.length = n := ⟨_, rfl⟩
  have HN := Lib.hid hn
  rw [hn] at hl ⊢
  clear h hsb hn
  have eg : ∀ args w, (callFunc 84 args).run Tryz.prog w = .ok (.enter 84 args) w := enters_of Tryz.func84 (by kernel_rfl) rfl
  have mixed : Tryz.prog.follows .mixedOrders = true := by kernel_rfl
  go_enter Tryz.func83, Tryz.ntmps83
  go_wp2
  go_loopg [5] (n) (fun g i wx => ∃ z : Int, i = .int .i64 z ∧ z ≤ n ∧ -1 ≤ z ∧ z < n ∧ z.toNat ≤ g ∧ (∀ j : Nat, z < j + 1 → j + 1 < l.length → tells l[j + 1]! l[j]! = false) ∧ Below w.heap.size w wx)
  case atStart => exact ⟨(n : Int) - 1, rfl, by omega, by omega, by omega, by omega, (fun j h1 h2 => by rw [HN.out] at h2; omega), Below.refl _ _⟩
  case round =>
    obtain ⟨z, rfl, hz1, hz2, hz3, hzg, hall, hB⟩ := hrel
    by_cases hz : 0 < z
    · obtain ⟨i, hi⟩ : ∃ i : Nat, z = i := ⟨z.toNat, by omega⟩
      subst hi
      obtain ⟨j, hj⟩ : ∃ j, j + 1 = i := ⟨i - 1, by omega⟩
      obtain ⟨C, off, rfl, hC, d0, d1, d2⟩ := HR.out i (by rw [HN.out]; omega)
      obtain ⟨C', off', he, _, e0, e1, e2⟩ := HR.out j (by rw [HN.out]; omega)
      simp only [Option.some.injEq, Addr.mk.injEq, and_true] at he
      obtain ⟨rfl, rfl⟩ := he
      have hCw := Nat.lt_of_lt_of_le hC hB.size
      have k0 := cell_grown (a := ⟨C, off + i * 3, none⟩) hCw ((hB.cell (p := ⟨C, off + i * 3, none⟩) hC).trans d0)
      have k1 := cell_grown (a := ⟨C, off + i * 3 + 1, none⟩) hCw ((hB.cell (p := ⟨C, off + i * 3 + 1, none⟩) hC).trans d1)
      have k2 := cell_grown (a := ⟨C, off + i * 3 + 2, none⟩) hCw ((hB.cell (p := ⟨C, off + i * 3 + 2, none⟩) hC).trans d2)
      have m0 := cell_grown (a := ⟨C, off + j * 3, none⟩) hCw ((hB.cell (p := ⟨C, off + j * 3, none⟩) hC).trans e0)
      have m1 := cell_grown (a := ⟨C, off + j * 3 + 1, none⟩) hCw ((hB.cell (p := ⟨C, off + j * 3 + 1, none⟩) hC).trans e1)
      have m2 := cell_grown (a := ⟨C, off + j * 3 + 2, none⟩) hCw ((hB.cell (p := ⟨C, off + j * 3 + 2, none⟩) hC).trans e2)
      have hji : (i : Int) - 1 = (j : Int) := by omega
      have hi3 : (i : Int) < (n : Int) := by omega
      have hj3 : (j : Int) < (n : Int) := by omega
      have hi4 : i < n := by omega
      have hj4 : j < n := by omega
      have r8 : IntKind.i64.wrap (j : Int) = (j : Int) := IntWalk.i64_in _ (by omega)
      have htl := cmpT_lt l[i]! l[j]!
      have hor := fun W => inorder_any l[i]! l[j]! W
      simp only [encI] at hor
      have HALL := Lib.hid hall
      have HTL := Lib.hid htl
      have HB := Lib.hid hB
      have HJ := Lib.hid hj
      clear hall htl hB d0 d1 d2 e0 e1 e2 hj
      generalize hxn : l[i]!.name = xn at k0 hor
      generalize hxm : l[i]!.many = xm at k1 hor
      generalize hxo : l[i]!.over = xo at k2 hor
      generalize hyn : l[j]!.name = yn at m0 hor
      generalize hym : l[j]!.many = ym at m1 hor
      generalize hyo : l[j]!.over = yo at m2 hor
      generalize hct : cmpT l[i]! l[j]! = ct at hor
      have HCT := Lib.hid hct
      clear hxn hxm hxo hyn hym hyo hct
      go_wp2
      go_quiet_grown ((go_at_fn 84; exact Calls.grown_of (hor _)))
      have hBq : Below wr.heap.size wr (Sort.grow (wr.drewN nq) osq) := Grown.below ⟨nq, osq, rfl⟩
      have HBq := Lib.hid (HB.out.trans (hBq.mono HB.out.size))
      clear hBq k0 k1 k2 m0 m1 m2
      generalize Sort.grow (wr.drewN nq) osq = W5 at *
      by_cases hc : ct < 0
      · have hlt : tells l[i]! l[j]! = true := by rw [← HTL.out, HCT.out]; exact decide_eq_true hc
        have hsb2 : sb = false := by
          rw [← HSB.out, ← Bool.not_eq_true, HS.out]
          intro hA
          have := hA j (by rw [HN.out, HJ.out]; exact hi4)
          rw [HJ.out, hlt] at this
          cases this
        have HF := Lib.hid hsb2
        clear hlt hsb2
        go_wp2
        go_ret
        exact ⟨by rw [HF.out]; rfl, HBq.out⟩
      · have hlt : tells l[j + 1]! l[j]! = false := by rw [HJ.out, ← HTL.out, HCT.out]; exact decide_eq_false hc
        have HF := Lib.hid hlt
        clear hlt
        go_wp2
        go_roundg j
        case measure => have := HJ.out; omega
        case rel => exact ⟨(j : Int), rfl, by omega, by omega, by omega, by omega, (fun m h1 h2 => by
          by_cases e : m = j
          · subst e; exact HF.out
          · exact HALL.out m (by have := HJ.out; omega) h2), HBq.out⟩
    · have hsb2 : sb = true := by
        rw [← HSB.out, HS.out]
        intro j hj
        exact hall j (by omega) hj
      have HF := Lib.hid hsb2
      clear hsb2 hall
      go_wp2
      go_ret
      exact ⟨by rw [HF.out]; rfl, hB⟩
end Go.Proofs.YtcgkgdhbipbnfaaGreatDoor.Tq

namespace Go.Proofs.YtcgkgdhbipbnfaaGreatDoor.Tq
open Go Go.RowKit

/-- What comes of items that are to be a top of a room that may be. -/
def OfRes (r sn : Nat) (l : List Itm) (w : World) (e : Ending) (w' : World) : Prop :=
  Below w.heap.size w w' ∧ ((¬ OkOf r sn l ∧ e = .returned (.tuple #[.pointer none, .int .i64 2])) ∨ (OkOf r sn l ∧ ∃ B v, e = .returned (.tuple #[.pointer (some ⟨B, 0, none⟩), .int .i64 0]) ∧ Tp w.heap.size B r v l w'))
/-- Items as they may come in. -/
def Fit (l : List Itm) : Prop := ∀ x ∈ l, x.name.size ≤ maxLen ∧ x.many < 18446744073709551616 ∧ x.over < 18446744073709551616
theorem of_room (x : Int) (h : x < 1 ∨ 16 < x) (sn : Nat) (p : Option Addr) (n cap : Nat) (w : World) :
    Calls Tryz.prog 50 #[.int .i64 x, .int .u64 sn, .slice p n cap] w fun e w' => e = .returned (.tuple #[.pointer none, .int .i64 1]) ∧ w = w' := by
  have hn := new_out x h
  clear h
  go_enter Tryz.func50, Tryz.ntmps50
  go_wp2_with fail
  refine (hn _).mono ?_
  rintro e w1 ⟨rfl, rfl⟩
  go_wp2
  go_ret2
  exact ⟨rfl, rfl⟩
theorem ok_adds {r sn : Nat} {l : List Itm} (h : OkOf r sn l) : addsL r [] l = some (l.map zo) := by
  obtain ⟨a, _, c, d, e, _⟩ := h
  have := adds_ok (room := r) l [] (by simpa using a) (by simpa using d) c (by simpa [seen] using e)
  simpa using this
theorem drop_at {l : List Itm} {i : Nat} (h : i < l.length) : l.drop i = l[i]! :: l.drop (i + 1) := by rw [getE l i h]; exact List.drop_eq_getElem_cons h
theorem addsL_cons (room : Nat) (acc : List Itm) (x : Itm) (r : List Itm) : addsL room acc (x :: r) = if addC x.name x.many acc = 0 then addsL room (addL room x.name x.many acc) r else none := rfl
set_option maxRecDepth 100000 in
set_option maxHeartbeats 16000000 in
theorem of_any (r : Nat) (h1 : 1 ≤ r) (h16 : r ≤ 16) (sn : Nat) (p : Option Addr) (l : List Itm) (cap : Nat) (hmax : l.length ≤ 9223372036854775807) (hf : Fit l) (w : World) (h : Rd p l w) :
    Calls Tryz.prog 50 #[.int .i64 r, .int .u64 sn, .slice p l.length cap] w (OfRes r sn l w) := by
  have HR := Lib.hid h
  have HF := Lib.hid hf
  obtain ⟨N, hN⟩ : ∃ N, w.heap.size = N := ⟨_, rfl⟩
  have HN := Lib.hid hN
  have hnw := new_any r h1 h16 w
  rw [hN] at hnw
  have hso := fun (hl : l.length ≤ 16) (W : World) (hW : Rd p l W) => issorted_any p l cap hl W hW
  have HS := Lib.hid (sortB_iff l)
  obtain ⟨n, hn⟩ : ∃ n, l.length = n := ⟨_, rfl⟩
  have HLN := Lib.hid hn
  rw [hn] at hmax hso ⊢
  have HOUT : Hid (∀ (e : Ending) (w' : World), Below N w w' → ¬ OkOf r sn l → e = .returned (.tuple #[.pointer none, .int .i64 2]) → OfRes r sn l w e w') := Lib.hid fun e w' hB hno he => ⟨by rw [hN]; exact hB, .inl ⟨hno, he⟩⟩
  clear h hf hn hN
  go_enter Tryz.func50, Tryz.ntmps50
  go_wp2_with fail
  refine hnw.mono ?_
  rintro e W1 ⟨rfl, hB1, hT1⟩
  have HT1 := Lib.hid hT1
  have HB1 := Lib.hid hB1
  clear hnw hT1 hB1
  by_cases hlen : r < n
  · have hno : Hid (¬ OkOf r sn l) := Lib.hid fun h => by have := h.1; rw [HLN.out] at this; omega
    clear hso
    go_wp2
    go_ret2
    exact HOUT.out _ _ HB1.out hno.out rfl
  have hrd1 : Rd p l W1 := HR.out.below (by rw [HN.out]; exact HB1.out)
  have hs1 := hso (by omega) W1 hrd1
  obtain ⟨sb, hsb⟩ : ∃ sb, sortB l = sb := ⟨_, rfl⟩
  rw [hsb] at hs1
  have HSB := Lib.hid hsb
  clear hso hrd1 hsb
  go_wp2_with fail
  refine hs1.mono ?_
  rintro e W2 ⟨rfl, hB2⟩
  have HT2 := Lib.hid (HT1.out.below hB2)
  have HB2 := Lib.hid (below_on HB1.out hB2 (Nat.le_of_eq HN.out.symm))
  clear hs1 hB2
  cases sb with
  | false =>
    have hno : Hid (¬ OkOf r sn l) := Lib.hid fun h => by
      have := HS.out.2 h.2.1
      rw [HSB.out] at this
      cases this
    go_wp2
    go_ret2
    exact HOUT.out _ _ HB2.out hno.out rfl
  | true =>
    have HSA : Hid (SortA l) := Lib.hid (HS.out.1 HSB.out)
    go_wp2
    go_loopg [34] n (fun g i wx => ∃ (i2 : Nat) (acc : List Itm) (v : Value), i2 + g = n ∧ i = .int .i64 i2 ∧ Hid (addsL r [] l = addsL r acc (l.drop i2)) ∧ acc.length ≤ i2 ∧ Tp N N r v acc wx ∧ Below N w wx)
    case atStart => exact ⟨0, [], _, by omega, rfl, Lib.hid rfl, Nat.le_refl _, HT2.out, HB2.out⟩
    case round =>
      obtain ⟨i, acc, v, hig, rfl, HAD, hacc, hT, hB⟩ := hrel
      cases gk with
      | succ g =>
        have hin : i < n := by omega
        have hil : i < l.length := by rw [HLN.out]; exact hin
        obtain ⟨C, off, rfl, hC, d0, d1, d2⟩ := HR.out i hil
        rw [HN.out] at hC
        have k0 := (hB.cell (p := ⟨C, off + i * 3, none⟩) hC).trans d0
        have k1 := (hB.cell (p := ⟨C, off + i * 3 + 1, none⟩) hC).trans d1
        have k2 := (hB.cell (p := ⟨C, off + i * 3 + 2, none⟩) hC).trans d2
        obtain ⟨f0, f1, f2⟩ := HF.out _ (mem_at hil)
        have hdr := HAD.out
        rw [drop_at hil, addsL_cons] at hdr
        have HDR := Lib.hid hdr
        have HT := Lib.hid hT
        have HB := Lib.hid hB
        clear d0 d1 d2 hdr hT hB
        have hBX := (Below.refl wr.heap.size wr).alloc (Nat.le_refl _) (.cells #[.string l[i]!.name, .int .u64 l[i]!.many, .int .u64 l[i]!.over] 79)
        have hTX := HT.out.below hBX
        have HBX := Lib.hid hBX
        have had := add_any hTX l[i]!.name l[i]!.many f0 f1
        have HTX := Lib.hid hTX
        clear hBX hTX
        obtain ⟨y, hy⟩ : ∃ y, addC l[i]!.name l[i]!.many acc = y := ⟨_, rfl⟩
        obtain ⟨a2, ha2⟩ : ∃ a2, addS r l[i]!.name l[i]!.many acc = a2 := ⟨_, rfl⟩
        rw [hy, ha2] at had
        have HY := Lib.hid hy
        have HA2 := Lib.hid ha2
        clear hy ha2
        generalize hnm : l[i]!.name = nm at k0 had HTX HBX f0
        generalize hmm : l[i]!.many = m at k1 had HTX HBX f1
        generalize hoo : l[i]!.over = ov at k2 had HTX HBX f2
        have HNM := Lib.hid hnm
        have HMM := Lib.hid hmm
        have HOO := Lib.hid hoo
        clear hnm hmm hoo
        go_wp2_with fail
        refine had.mono ?_
        intro e W5 hA
        obtain ⟨rfl, v5, hT5, _, hB5, _⟩ := hA.below ⟨_, HTX.out⟩
        have HB5 := Lib.hid ((below_on HB.out HBX.out (Nat.le_of_eq HN.out.symm)).trans hB5)
        have HT5 := Lib.hid hT5
        clear hA hT5 hB5 had k0 k1 k2
        by_cases hy0 : y = 0
        · subst hy0
          have hdr := HDR.out
          rw [if_pos HY.out, HNM.out, HMM.out] at hdr
          have he : addL r nm m acc = a2 := by have := HA2.out; unfold addS at this; rw [HY.out, if_pos rfl, HNM.out, HMM.out] at this; exact this
          rw [he] at hdr
          have hal := (addL_length (room := r) (name := nm) (b := m) (l := acc) HT.out.inv.len).1
          have hal2 : a2.length ≤ i + 1 := by
            rw [← he]
            cases hp : plc nm acc with
            | some q => rw [addL_some hp]; simp; omega
            | none =>
              rw [addL_room hp (by omega)]
              simp; exact hacc
          have HDR2 := Lib.hid hdr
          clear hdr he hal
          go_wp2
          go_roundg g
          case measure => omega
          case rel => exact ⟨i + 1, a2, v5, by omega, by go_num, HDR2, hal2, HT5.out, HB5.out⟩
        · have hy1 : (y == 0) = false := by simp [hy0]
          have hno : Hid (¬ OkOf r sn l) := Lib.hid fun h => by
            have h2 := ok_adds h
            rw [HDR.out, HY.out, if_neg hy0] at h2
            cases h2
          go_wp2
          go_ret2
          exact HOUT.out _ _ HB5.out hno.out rfl
      | zero =>
        obtain rfl : i = n := by omega
        have hadd : addsL r [] l = some acc := by
          have := HAD.out
          rw [List.drop_of_length_le (by rw [HLN.out]; exact Nat.le_refl _)] at this
          exact this
        obtain ⟨q1, q2, q3⟩ := adds_some h1 l [] acc (by rw [HLN.out]; simp; omega) hadd
        simp only [List.length_nil, Nat.zero_add, List.nil_append, seen_nil] at q1 q2 q3
        rw [HLN.out] at q1 q3
        obtain ⟨pv, capv, hv, hcv, hmv⟩ := hT.row.cap
        obtain ⟨m, hm⟩ : ∃ m, acc.length = m := ⟨_, rfl⟩
        rw [hm] at q1 q3 hv hcv
        subst hv
        have k1 := hT.c1
        have HT := Lib.hid hT
        have HB := Lib.hid hB
        have HM := Lib.hid hm
        have HADD := Lib.hid hadd
        have Q2 := Lib.hid q2
        have Q3 := Lib.hid q3
        have hse := seen_walk hT
        clear hT hB hm hadd q2 q3 hacc
        unfold maxLen at hmv
        by_cases hmn : m = i
        · subst hmn
          obtain ⟨r1, r2, r3, r4⟩ := Q3.out rfl
          have hsum : Hid (seen l ≤ 4611686018427387904) := Lib.hid (by
            by_cases hl0 : l = []
            · subst hl0; simp [seen]
            · exact (Nat.zero_add (seen l)) ▸ r3 hl0)
          have hnd := r4 (by simp)
          rw [Q2.out] at hse
          have R1 := Lib.hid r1
          have R2 := Lib.hid r2
          have RN := Lib.hid hnd
          clear r1 r2 r3 r4 hnd
          obtain ⟨sl, hsl⟩ : ∃ sl, seen l = sl := ⟨_, rfl⟩
          rw [hsl] at hse
          have HSL := Lib.hid hsl
          clear hsl
          go_wp2_with fail
          refine hse.mono ?_
          rintro e W5 ⟨rfl, hB5⟩
          have HT5 := Lib.hid (HT.out.below hB5)
          have HB5 := Lib.hid (below_on HB.out hB5 (Nat.le_of_eq HN.out.symm))
          clear hse hB5 k1
          by_cases hss : sl = sn
          · subst hss
            have hle := least_any HT5.out
            rw [R1.out, least_zo r h1] at hle
            obtain ⟨lv, hlv⟩ : ∃ lv, leastL r l = lv := ⟨_, rfl⟩
            rw [hlv] at hle
            have HLV := Lib.hid hlv
            clear hlv
            go_wp2_with fail
            refine hle.mono ?_
            rintro e W6 ⟨rfl, hB6⟩
            have HT6 := Lib.hid (HT5.out.below hB6)
            have HB6 := Lib.hid (below_on HB5.out hB6 (Nat.le_of_eq HN.out.symm))
            clear hle hB6
            have hmix0 : acc = mixO 0 l := by rw [mixO_zero]; exact R1.out
            have hT6 := HT6.out
            rw [hmix0] at hT6
            have HT6 := Lib.hid hT6
            clear hmix0 hT6
            go_wp2
            go_loopg [64] m (fun g i wx => ∃ i2 : Nat, i2 + g = m ∧ i = .int .i64 i2 ∧ (∀ j, j < i2 → j < l.length → l[j]!.over < l[j]!.many ∧ l[j]!.over ≤ lv) ∧ Tp N N r (.slice pv m capv) (mixO i2 l) wx ∧ Below N w wx)
            case atStart => exact ⟨0, by omega, rfl, (fun j hj => absurd hj (Nat.not_lt_zero _)), HT6.out, HB6.out⟩
            case round =>
              obtain ⟨i2, hig2, rfl, hall, hT7, hB7⟩ := hrel
              have HALL := Lib.hid hall
              have HT7 := Lib.hid hT7
              have HB7 := Lib.hid hB7
              clear hall hT7 hB7
              cases gk with
              | zero =>
                obtain rfl : i2 = m := by omega
                have hok : OkOf r sl l := by
                  refine ⟨by rw [HLN.out]; omega, HSA.out, R2.out, RN.out, hsum.out, HSL.out, fun x hx => ?_⟩
                  obtain ⟨j, hj, rfl⟩ := at_mem hx
                  rw [HLV.out]
                  exact HALL.out j (by rw [← HLN.out]; exact hj) hj
                have hTE := HT7.out
                rw [show mixO i2 l = l by rw [← HLN.out]; exact mixO_all l] at hTE
                have HE : Hid (OfRes r sl l w (.returned (.tuple #[.pointer (some ⟨N, 0, none⟩), .int .i64 0])) wr) := Lib.hid ⟨by rw [HN.out]; exact HB7.out, .inr ⟨hok, N, _, rfl, by rw [HN.out]; exact hTE⟩⟩
                clear hok hTE
                go_wp2
                go_ret2
                exact HE.out
              | succ g2 =>
                have hin : i2 < m := by omega
                have hil : i2 < l.length := by rw [HLN.out]; exact hin
                obtain ⟨C, off, rfl, hC, d0, d1, d2⟩ := HR.out i2 hil
                rw [HN.out] at hC
                have k0 := (HB7.out.cell (p := ⟨C, off + i2 * 3, none⟩) hC).trans d0
                have k1 := (HB7.out.cell (p := ⟨C, off + i2 * 3 + 1, none⟩) hC).trans d1
                have k2 := (HB7.out.cell (p := ⟨C, off + i2 * 3 + 2, none⟩) hC).trans d2
                have hi3 : (i2 : Int) < (m : Int) := by omega
                clear d0 d1 d2 hC
                obtain ⟨nm, hnm⟩ : ∃ nm, nm = l[i2]!.name := ⟨_, rfl⟩
                obtain ⟨mm, hmm⟩ : ∃ mm, mm = l[i2]!.many := ⟨_, rfl⟩
                obtain ⟨ov, hov⟩ : ∃ ov, ov = l[i2]!.over := ⟨_, rfl⟩
                rw [← hnm] at k0
                rw [← hmm] at k1
                rw [← hov] at k2
                have HNM := Lib.hid hnm
                have HMM := Lib.hid hmm
                have HOV := Lib.hid hov
                clear hnm hmm hov
                by_cases hbad : mm ≤ ov ∨ lv < ov
                · have hno : Hid (¬ OkOf r sl l) := Lib.hid fun h => by
                    have h2 := h.2.2.2.2.2.2 _ (mem_at hil)
                    rw [HLV.out, ← HMM.out, ← HOV.out] at h2
                    omega
                  have HB8 := Lib.hid (below_on HB7.out ((Below.refl wr.heap.size wr).alloc (Nat.le_refl _) (.cells #[.string nm, .int .u64 mm, .int .u64 ov] 79)) (Nat.le_of_eq HN.out.symm))
                  by_cases hb1 : mm ≤ ov
                  · have t1 : (mm : Int) ≤ (ov : Int) := by omega
                    clear hbad
                    go_wp2
                    go_ret2
                    exact HOUT.out _ _ HB8.out hno.out rfl
                  · have t1 : ¬ (mm : Int) ≤ (ov : Int) := by omega
                    have t2 : (lv : Int) < (ov : Int) := by omega
                    clear hbad
                    go_wp2
                    go_ret2
                    exact HOUT.out _ _ HB8.out hno.out rfl
                · have hb1 : ¬ (mm ≤ ov) := fun h => hbad (.inl h)
                  have hb2 : ¬ (lv < ov) := fun h => hbad (.inr h)
                  have t1 : ¬ (mm : Int) ≤ (ov : Int) := by omega
                  have t2 : ¬ (lv : Int) < (ov : Int) := by omega
                  have hX := CellsAt.new #[.string nm, .int .u64 mm, .int .u64 ov] 79 wr
                  have hBX := (Below.refl wr.heap.size wr).alloc (Nat.le_refl _) (.cells #[.string nm, .int .u64 mm, .int .u64 ov] 79)
                  have hT8 := HT7.out.below hBX
                  have HB8 := Lib.hid (below_on HB7.out hBX (Nat.le_of_eq HN.out.symm))
                  have x2 := hX.cell 2 (.int .u64 ov) rfl
                  have b1 := hT8.c1
                  obtain ⟨gB, capB, hvB, _, hgB, _, _, hcB, hfB⟩ := hT8.row.form_pos (by rw [mixO_length]; omega)
                  simp only [Value.slice.injEq] at hvB
                  obtain ⟨rfl, hmB, rfl⟩ := hvB
                  obtain ⟨_, _, e2⟩ := hcB i2 (by rw [mixO_length]; exact hil)
                  have f2 := hfB (i2 * 3 + 2)
                  rw [mixO_at i2 l hil] at e2
                  have hall2 : ∀ j, j < i2 + 1 → j < l.length → l[j]!.over < l[j]!.many ∧ l[j]!.over ≤ lv := fun j hj hjl => by
                    by_cases e : j = i2
                    · subst e
                      rw [← HMM.out, ← HOV.out]
                      omega
                    · exact HALL.out j (by omega) hjl
                  have hinv : Inv r (mixO (i2 + 1) l) := inv_mix h1 h16 (by rw [HLN.out]; omega) R2.out RN.out hsum.out (by rw [HLV.out]; exact hall2)
                  have hfo := flat_set_over (mixO i2 l) i2 ov (by rw [mixO_length]; exact hil)
                  have hset : (mixO i2 l).set i2 ⟨(mixO i2 l)[i2]!.name, (mixO i2 l)[i2]!.many, ov⟩ = mixO (i2 + 1) l := by
                    rw [mixO_at i2 l hil, HOV.out]
                    exact mixO_step i2 l hil
                  rw [hset] at hfo
                  have hrow := (hT8.row.drew).store (by rw [mixO_length]; exact HLN.out.symm) (i2 * 3 + 2) (.int .u64 ov) (by rw [mixO_length, mixO_length]) hfo
                  have HALL2 := Lib.hid hall2
                  have HINV := Lib.hid hinv
                  have HROW := Lib.hid hrow
                  have HT8 := Lib.hid hT8
                  have hgN := (hT8.row.lt (g := gB) rfl).1
                  clear hbad hX hBX hT8 hcB hfB hmB hall2 hinv hfo hset hrow
                  go_wp2
                  generalize wr.heap.size = X at *
                  generalize wr.alloc (.cells #[.string nm, .int .u64 mm, .int .u64 ov] 79) = W8 at *
                  go_region
                  all_goals
                    have hS : Mov (fun b => (Value.slice (some ⟨gB, 0, none⟩) m capv).ownBlock = some b) W8 (W8.setCell ⟨gB, i2 * 3 + 2, none⟩ (.int .u64 ov)) := (Mov.refl (fun b => (Value.slice (some ⟨gB, 0, none⟩) m capv).ownBlock = some b) W8).set rfl _ _
                    have hT9 := (HT8.out.rebuild hS HINV.out HROW.out).drew
                    have hB9 := (HB8.out.setCell (p := ⟨gB, i2 * 3 + 2, none⟩) hgN (.int .u64 ov)).drew
                    have HT9 := Lib.hid hT9
                    have HB9 := Lib.hid hB9
                    clear hS hT9 hB9 k0 k1 k2 x2 b1 e2 f2
                    go_wp2
                    go_roundg g2
                    case measure => omega
                    case rel => exact ⟨i2 + 1, by omega, by go_num, HALL2.out, HT9.out, HB9.out⟩
          · have hno : Hid (¬ OkOf r sn l) := Lib.hid fun h => hss (HSL.out.symm.trans h.2.2.2.2.2.1)
            have hss2 : ((sl : Int) == (sn : Int)) = false := by simp; omega
            go_wp2
            go_ret2
            exact HOUT.out _ _ HB5.out hno.out rfl
        · have hno : Hid (¬ OkOf r sn l) := Lib.hid fun h => by
            have h2 := ok_adds h
            rw [HADD.out] at h2
            have h3 := congrArg List.length (Option.some.inj h2)
            rw [List.length_map, HM.out, HLN.out] at h3
            exact hmn h3
          have hmn2 : ((m : Int) == (i : Int)) = false := by simp; omega
          clear hse
          go_wp2
          go_ret2
          exact HOUT.out _ _ HB.out hno.out rfl
end Go.Proofs.YtcgkgdhbipbnfaaGreatDoor.Tq

