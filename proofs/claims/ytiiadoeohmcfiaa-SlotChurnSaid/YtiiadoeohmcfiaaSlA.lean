/- A table of slots in memory; the place that a key's sum tells, the one behind a place; whether a slot is free. -/
import Derived.Test.YtiiadoeohmcfiaaSipC
import Derived.Test.YtiiadoeohmcfiaaSlMath
import Derived.Test.YtiiadoeohmcfiaaCells
import Derived.Laws.Closers25b
import Derived.Lib.Strings
namespace Go.Proofs.Ytiiadoeohmcfiaa
open Go Go.RowKit

def tx (l : List UInt8) : ByteArray := ⟨l.toArray⟩
theorem tx_list (s : ByteArray) : tx s.data.toList = s := by rcases s with ⟨⟨l⟩⟩; rfl
theorem list_tx (l : List UInt8) : (tx l).data.toList = l := rfl
theorem tx_len (l : List UInt8) : (tx l).size = l.length := by simp [tx, ByteArray.size]
theorem tx_inj {a b : List UInt8} (h : tx a = tx b) : a = b := by
  have := congrArg (fun s => s.data.toList) h
  exact this
theorem txt_empty : (tx []).toList = [] := by rw [Lib.toList_data, list_tx]
theorem txt_no {l : List UInt8} (h : l ≠ []) : (tx l).toList.isEmpty = false := by
  rw [Lib.toList_data, list_tx]
  cases l with
  | nil => exact absurd rfl h
  | cons _ _ => rfl
theorem tx_eq (a b : List UInt8) : ((tx a).toList == (tx b).toList) = decide (a = b) := by
  rw [Lib.toList_data, Lib.toList_data, list_tx, list_tx]
  by_cases h : a = b
  · rw [decide_eq_true h, h]; exact beq_self_eq_true b
  · rw [decide_eq_false h]; exact beq_false_of_ne h

/-- All but block B is as it was. -/
structure Chg (B : Nat) (w w' : World) : Prop where
  os : w'.os = w.os
  tape : w'.tape = w.tape
  output : w'.output = w.output
  size : w.heap.size ≤ w'.heap.size
  block : ∀ k, k < w.heap.size → k ≠ B → w'.heap[k]? = w.heap[k]?
theorem Chg.refl (B : Nat) (w : World) : Chg B w w := ⟨rfl, rfl, rfl, Nat.le_refl _, fun _ _ _ => rfl⟩
theorem Chg.trans {B : Nat} {a b c : World} (h : Chg B a b) (k : Chg B b c) : Chg B a c :=
  ⟨k.os.trans h.os, k.tape.trans h.tape, k.output.trans h.output, Nat.le_trans h.size k.size, fun i hi hn => (k.block i (Nat.lt_of_lt_of_le hi h.size) hn).trans (h.block i hi hn)⟩
theorem Chg.of {B : Nat} {w w' : World} (h : Below w.heap.size w w') : Chg B w w' := ⟨h.os, h.tape, h.output, h.size, fun k hk _ => h.block k hk⟩
theorem Chg.drew {B : Nat} {a w : World} (h : Chg B a w) : Chg B a w.drew := ⟨h.os, h.tape, h.output, h.size, h.block⟩
theorem Chg.set {B : Nat} {a w : World} (h : Chg B a w) (i : Nat) (v : Value) : Chg B a (w.setCell ⟨B, i, none⟩ v) :=
  ⟨h.os, h.tape, h.output, by have := h.size; simpa [World.setCell] using this, fun k hk hn => by rw [Below.heap_setCell _ _ _ _ hn]; exact h.block k hk hn⟩
theorem Chg.alloc {B : Nat} {a w : World} (h : Chg B a w) (o : Obj) : Chg B a (w.alloc o) :=
  ⟨h.os, h.tape, h.output, by have := h.size; simp; omega, fun k hk hn => by rw [Below.heap_alloc _ _ _ (by have := h.size; omega)]; exact h.block k hk hn⟩
theorem Chg.below {B C : Nat} {w w' : World} (h : Chg B w w') (h1 : C ≤ B) (h2 : C ≤ w.heap.size) : Below C w w' :=
  ⟨h.os, h.tape, h.output, h.size, fun k hk => h.block k (by omega) (by omega)⟩
theorem Chg.cell {B : Nat} {w w' : World} (h : Chg B w w') {b i : Nat} (hb : b < w.heap.size) (hn : b ≠ B) : w'.cell? ⟨b, i, none⟩ = w.cell? ⟨b, i, none⟩ := by
  unfold World.cell?
  rw [h.block b hb hn]
theorem Chg.frozen {B : Nat} {w w' : World} (h : Chg B w w') {b i : Nat} (hb : b < w.heap.size) (hn : b ≠ B) : w'.frozen? ⟨b, i, none⟩ = w.frozen? ⟨b, i, none⟩ := by
  unfold World.frozen?
  rw [h.block b hb hn]

theorem below_drewN {C : Nat} {w w' : World} (h : Below C w w') (n : Nat) : Below C w (w'.drewN n) := ⟨h.os, h.tape, h.output, h.size, h.block⟩
theorem Chg.drewN {B : Nat} {a w : World} (h : Chg B a w) (n : Nat) : Chg B a (w.drewN n) := ⟨h.os, h.tape, h.output, h.size, h.block⟩

/-- The key of a slot: nothing, if it is free. -/
abbrev Key := List UInt8
def keyOf (L : List Key) (s : Nat) : Key := L.getD s []
/-- The place that a key's sum tells. -/
def hsh (k : Key) : Nat := ((ssum 0 0 k) % 512).toNat
theorem hsh_lt (k : Key) : hsh k < 512 := by unfold hsh; omega
theorem ssum_in (k : Key) : 0 ≤ ssum 0 0 k ∧ ssum 0 0 k ≤ 18446744073709551615 := by
  unfold ssum sfin
  exact ⟨bits_lo_u64 _ _ _, bits_hi_u64 _ _ _⟩

/-- What a table's block holds. -/
structure Tb (B : Nat) (n : Nat) (ks : Nat → Key) (en : Nat → Option Nat) (w : World) : Prop where
  lt : B < w.heap.size
  room : w.cell? ⟨B, 0, none⟩ = some (.int .i64 (n : Int))
  key : ∀ s, s < 256 → w.cell? ⟨B, 1 + s, none⟩ = some (.string (tx (ks s)))
  taken : ∀ p, p < 512 → w.cell? ⟨B, 257 + p * 2, none⟩ = some (.bool (en p).isSome)
  slot : ∀ p, p < 512 → w.cell? ⟨B, 257 + p * 2 + 1, none⟩ = some (.int .i64 (((en p).getD 0 : Nat) : Int))
  fro : ∀ i, i < 1281 → w.frozen? ⟨B, i, none⟩ = false
section
variable {B n : Nat} {ks : Nat → Key} {en : Nat → Option Nat} {w w' : World}
theorem Tb.drew (h : Tb B n ks en w) : Tb B n ks en w.drew := ⟨h.lt, h.room, h.key, h.taken, h.slot, h.fro⟩
theorem Tb.belowAt (h : Tb B n ks en w) {C : Nat} (hB : Below C w w') (hb : B < C) : Tb B n ks en w' :=
  ⟨Nat.lt_of_lt_of_le h.lt hB.size, (hB.cell (p := ⟨B, 0, none⟩) hb).trans h.room, fun s hs => (hB.cell (p := ⟨B, _, none⟩) hb).trans (h.key s hs), fun p hp => (hB.cell (p := ⟨B, _, none⟩) hb).trans (h.taken p hp), fun p hp => (hB.cell (p := ⟨B, _, none⟩) hb).trans (h.slot p hp), fun i hi => (hB.frozen (p := ⟨B, _, none⟩) hb).trans (h.fro i hi)⟩
theorem Tb.below (h : Tb B n ks en w) (hB : Below w.heap.size w w') : Tb B n ks en w' := h.belowAt hB h.lt
theorem Tb.chg (h : Tb B n ks en w) {C : Nat} (hC : Chg C w w') (hn : B ≠ C) : Tb B n ks en w' :=
  ⟨Nat.lt_of_lt_of_le h.lt hC.size, (hC.cell h.lt hn).trans h.room, fun s hs => (hC.cell h.lt hn).trans (h.key s hs), fun p hp => (hC.cell h.lt hn).trans (h.taken p hp), fun p hp => (hC.cell h.lt hn).trans (h.slot p hp), fun i hi => (hC.frozen h.lt hn).trans (h.fro i hi)⟩
theorem Tb.past (h : Tb B n ks en w) (o : Obj) : Tb B n ks en (w.alloc o) := h.below ((Below.refl _ _).alloc (Nat.le_refl _) _)
theorem Tb.drewN (h : Tb B n ks en w) (k : Nat) : Tb B n ks en (w.drewN k) := ⟨h.lt, h.room, h.key, h.taken, h.slot, h.fro⟩
/-- A slot has another key. -/
theorem Tb.setKey (h : Tb B n ks en w) (s : Nat) (hs : s < 256) (k : Key) : Tb B n (Sl.putK ks s k) en (w.setCell ⟨B, 1 + s, none⟩ (.string (tx k))) := by
  have ne : ∀ i, i ≠ 1 + s → (w.setCell ⟨B, 1 + s, none⟩ (.string (tx k))).cell? ⟨B, i, none⟩ = w.cell? ⟨B, i, none⟩ := fun i hi => by rw [World.cell?_setCell_other (h := by intro e; have := congrArg Addr.off e; simp at this; omega)]
  refine ⟨by have := h.lt; simpa using this, (ne 0 (by omega)).trans h.room, fun t ht => ?_, fun p hp => (ne _ (by omega)).trans (h.taken p hp), fun p hp => (ne _ (by omega)).trans (h.slot p hp), fun i hi => by rw [World.frozen?_setCell]; exact h.fro i hi⟩
  by_cases hst : t = s
  · subst hst
    rw [Sl.putK_same]
    exact World.cell?_setCell_same w ⟨B, 1 + t, none⟩ _ (h.key t ht)
  · rw [Sl.putK_other _ _ hst]
    exact (ne _ (by omega)).trans (h.key t ht)
/-- A place has another entry. -/
theorem Tb.setEn (h : Tb B n ks en w) (p : Nat) (hp : p < 512) (x : Option Nat) :
    Tb B n ks (Sl.put en p x) ((w.setCell ⟨B, 257 + p * 2, none⟩ (.bool x.isSome)).setCell ⟨B, 257 + p * 2 + 1, none⟩ (.int .i64 ((x.getD 0 : Nat) : Int))) := by
  have ne : ∀ i, i ≠ 257 + p * 2 → i ≠ 257 + p * 2 + 1 → ((w.setCell ⟨B, 257 + p * 2, none⟩ (.bool x.isSome)).setCell ⟨B, 257 + p * 2 + 1, none⟩ (.int .i64 ((x.getD 0 : Nat) : Int))).cell? ⟨B, i, none⟩ = w.cell? ⟨B, i, none⟩ := fun i hi hj => by
    rw [World.cell?_setCell_other (h := by intro e; have := congrArg Addr.off e; simp at this; omega), World.cell?_setCell_other (h := by intro e; have := congrArg Addr.off e; simp at this; omega)]
  refine ⟨by have := h.lt; simpa using this, (ne 0 (by omega) (by omega)).trans h.room, fun t ht => (ne _ (by omega) (by omega)).trans (h.key t ht), fun q hq => ?_, fun q hq => ?_, fun i hi => by rw [World.frozen?_setCell, World.frozen?_setCell]; exact h.fro i hi⟩
  · by_cases hpq : q = p
    · subst hpq
      rw [Sl.put_same, World.cell?_setCell_other (h := by intro e; have := congrArg Addr.off e; simp at this)]
      exact World.cell?_setCell_same w ⟨B, 257 + q * 2, none⟩ _ (h.taken q hq)
    · rw [Sl.put_other _ _ hpq]
      exact (ne _ (by omega) (by omega)).trans (h.taken q hq)
  · by_cases hpq : q = p
    · subst hpq
      rw [Sl.put_same]
      rw [World.cell?_setCell_same (h := by
        rw [World.cell?_setCell_other (h := by intro e; have := congrArg Addr.off e; simp at this)]
        exact h.slot q hq)]
    · rw [Sl.put_other _ _ hpq]
      exact (ne _ (by omega) (by omega)).trans (h.slot q hq)
end

theorem next_any (p : Nat) (hp : p < 512) (w : World) : Calls Try.prog 30 #[.int .i64 (p : Int)] w fun e w' => e = .returned (.int .i64 (((p + 1) % 512 : Nat) : Int)) ∧ w = w' := by
  have h1 : (((p + 1) % 512 : Nat) : Int) = ((p : Int) + 1) % 512 := by omega
  rw [h1]
  go_enter Try.func30, Try.ntmps30
  go_wp2
  go_ret
  exact ⟨rfl, rfl⟩
theorem first_any (k : Key) (hk : k.length ≤ maxLen) (w : World) : Calls Try.prog 29 #[.string (tx k)] w fun e w' => e = .returned (.int .i64 (hsh k : Int)) ∧ Below w.heap.size w w' := by
  have hs := sum_any 0 0 (tx k) w (by rw [tx_len]; exact hk)
  obtain ⟨h1, h2⟩ := ssum_in k
  have hh : (hsh k : Int) = ssum 0 0 k % 512 := by unfold hsh; omega
  rw [hh]
  rw [list_tx] at hs
  generalize ssum 0 0 k = x at *
  generalize tx k = T at *
  clear hh
  go_enter Try.func29, Try.ntmps29
  go_wp2_with fail
  refine hs.mono ?_
  rintro e w1 ⟨rfl, hB⟩
  go_wp2
  go_ret
  exact ⟨rfl, hB⟩
theorem free_any (B n : Nat) (ks : Nat → Key) (en : Nat → Option Nat) (s : Nat) (hs : s < 256) (w : World) (h : Tb B n ks en w) :
    Calls Try.prog 28 #[.pointer (some ⟨B, 0, none⟩), .int .i64 (s : Int)] w fun e w' => e = .returned (.bool (decide (ks s = []))) ∧ w = w' := by
  have c := h.key s hs
  clear h
  by_cases hk : ks s = []
  · rw [decide_eq_true hk]
    rw [hk] at c
    have he := txt_empty
    generalize tx [] = T at *
    clear hk
    go_enter Try.func28, Try.ntmps28
    go_wp2
    go_ret
    exact ⟨rfl, rfl⟩
  · rw [decide_eq_false hk]
    have he := txt_no hk
    generalize tx (ks s) = T at *
    clear hk
    go_enter Try.func28, Try.ntmps28
    go_wp2
    go_ret
    exact ⟨rfl, rfl⟩
end Go.Proofs.Ytiiadoeohmcfiaa
