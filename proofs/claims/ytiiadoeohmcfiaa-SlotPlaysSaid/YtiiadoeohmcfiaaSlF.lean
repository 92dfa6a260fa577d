/- Rows of numbers: one more behind them; the slots that are not free, how many. -/
import Derived.Test.YtiiadoeohmcfiaaSlE
import Derived.Laws.AppendOwn
import Derived.Laws.OwnMore
import Derived.Deep.Quiet
import Derived.Deep.RegionLaw
import Derived.Deep.AppendLies
import Derived.Lib.AppendZeros
namespace Go.Proofs.Ytiiadoeohmcfiaa
open Go Go.RowKit

/-- All but the blocks of S is as it was. -/
structure Mov (S : Nat → Prop) (w w' : World) : Prop where
  os : w'.os = w.os
  tape : w'.tape = w.tape
  output : w'.output = w.output
  size : w.heap.size ≤ w'.heap.size
  block : ∀ k, k < w.heap.size → ¬ S k → w'.heap[k]? = w.heap[k]?
section
variable {S T : Nat → Prop} {w w' a b c : World}
theorem Mov.refl (S : Nat → Prop) (w : World) : Mov S w w := ⟨rfl, rfl, rfl, Nat.le_refl _, fun _ _ _ => rfl⟩
theorem Mov.trans (h : Mov S a b) (k : Mov T b c) (hT : ∀ i, i < a.heap.size → T i → S i) : Mov S a c :=
  ⟨k.os.trans h.os, k.tape.trans h.tape, k.output.trans h.output, Nat.le_trans h.size k.size, fun i hi hn => (k.block i (Nat.lt_of_lt_of_le hi h.size) (fun ht => hn (hT i hi ht))).trans (h.block i hi hn)⟩
theorem Mov.of {N : Nat} (h : Below N w w') : Mov (fun k => N ≤ k) w w' := ⟨h.os, h.tape, h.output, h.size, fun k _ hn => h.block k (Nat.lt_of_not_le hn)⟩
theorem Mov.ofB (h : Below w.heap.size w w') : Mov S w w' := ⟨h.os, h.tape, h.output, h.size, fun k hk _ => h.block k hk⟩
theorem Mov.below {N : Nat} (h : Mov S w w') (hS : ∀ k, S k → N ≤ k) (hN : N ≤ w.heap.size) : Below N w w' :=
  ⟨h.os, h.tape, h.output, h.size, fun k hk => h.block k (by omega) (fun hs => by have := hS k hs; omega)⟩
theorem Mov.cell (h : Mov S w w') {k i : Nat} (hk : k < w.heap.size) (hn : ¬ S k) : w'.cell? ⟨k, i, none⟩ = w.cell? ⟨k, i, none⟩ := World.cell?_of_block (h.block k hk hn)
theorem Mov.frozen (h : Mov S w w') {k i : Nat} (hk : k < w.heap.size) (hn : ¬ S k) : w'.frozen? ⟨k, i, none⟩ = w.frozen? ⟨k, i, none⟩ := World.frozen?_of_block (h.block k hk hn)
theorem Mov.drew (h : Mov S a w) : Mov S a w.drew := ⟨h.os, h.tape, h.output, h.size, h.block⟩
theorem Mov.drewN (h : Mov S a w) (n : Nat) : Mov S a (w.drewN n) := ⟨h.os, h.tape, h.output, h.size, h.block⟩
theorem Mov.set (h : Mov S a w) {k : Nat} (hk : S k) (i : Nat) (v : Value) : Mov S a (w.setCell ⟨k, i, none⟩ v) :=
  ⟨h.os, h.tape, h.output, by have := h.size; simpa [World.setCell] using this, fun j hj hn => by rw [Below.heap_setCell _ _ _ _ (by intro e; subst e; exact hn hk)]; exact h.block j hj hn⟩
theorem Mov.setNew (h : Mov S a w) {k : Nat} (hk : a.heap.size ≤ k) (i : Nat) (v : Value) : Mov S a (w.setCell ⟨k, i, none⟩ v) :=
  ⟨h.os, h.tape, h.output, by have := h.size; simpa [World.setCell] using this, fun j hj hn => by rw [Below.heap_setCell _ _ _ _ (show j ≠ k by omega)]; exact h.block j hj hn⟩
theorem Mov.alloc (h : Mov S a w) (o : Obj) : Mov S a (w.alloc o) :=
  ⟨h.os, h.tape, h.output, by have := h.size; simp; omega, fun j hj hn => by rw [Below.heap_alloc _ _ _ (by have := h.size; omega)]; exact h.block j hj hn⟩
theorem Mov.row {base T size n : Nat} {v : Value} {xs : List Value} (h : Mov S w w') (hr : w.ownsRow base T size v n xs) (hn : ∀ g, v.ownBlock = some g → ¬ S g) : w'.ownsRow base T size v n xs := by
  refine ⟨hr.1, hr.2.imp id ?_⟩
  rintro ⟨g, cap, cur, rfl, hb, hg, rest⟩
  exact ⟨g, cap, cur, rfl, hb, by rw [h.block g (Array.getElem?_eq_some_iff.1 hg).1 (hn g rfl)]; exact hg, rest⟩
end

section
variable {P : Program} (w : World)
theorem run_append_at (base : Nat) (t ty e : TypeId) (i : TypeInfo) (z : Value) (size bytes : Nat) (ht : P.underlying t = some (.slice e)) (hi : P.info? e = some i) (hz : i.zero = some z)
    (hsize : i.size = size) (hby : i.bytes = bytes) (hzs : z.cells.size = size) (hsz : 0 < size)
    (v : Value) (n : Nat) (xs : List Value) (hown : w.ownsRow base e size v n xs)
    (a : Addr) (m c : Nat) (news : List Value) (hl : news.length = m * size) (hnews : ∀ j u, news[j]? = some u → w.cell? (a.add j) = some u) (h1 : ∀ u ∈ news, u.oneCell' = true)
    (h63 : n + m ≤ maxLen) (hbytes : (n + m) * bytes ≤ 140737488355328) (hbase : base ≤ w.heap.size) :
    ∃ v' w', (Builtin.append_ #[t, t] ty #[v, .slice (some a) m c]).run P w = .ok v' w' ∧ w'.ownsRow base e size v' (n + m) (xs ++ news) ∧ w.grownBy w' v.ownBlock ∧
      ∀ g, v'.ownBlock = some g → v.ownBlock = some g ∨ w.heap.size ≤ g := by
  obtain ⟨v', w', hr, h2, h3, _⟩ := run_append_own w base t ty e i z size bytes ht hi hz hsize hby hzs hsz v n xs hown a m c news hl hnews h1 h63 hbytes hbase
  refine ⟨v', w', hr, h2, h3, fun g hg => ?_⟩
  rcases hown.2 with ⟨rfl, rfl⟩ | ⟨g', cap, cur, rfl, hbg, hgg, hnc, hcm, hcs, htake⟩
  · have hx : xs = [] := List.eq_nil_of_length_eq_zero (by simpa using hown.1)
    subst hx
    obtain ⟨v2, w2, hr2, k2, _, _⟩ := run_append_own w w.heap.size t ty e i z size bytes ht hi hz hsize hby hzs hsz (.slice none 0 0) 0 [] (World.ownsRow_nil w _ e size) a m c news hl hnews h1 h63 hbytes (Nat.le_refl _)
    rw [hr] at hr2
    simp only [Result.ok.injEq] at hr2
    obtain ⟨rfl, rfl⟩ := hr2
    exact .inr (k2.lt g hg).1
  · by_cases hroom : n + m ≤ cap
    · subst hsize
      have hfit : n * i.size + news.length ≤ cur.size := by rw [hl, hcs, ← Nat.add_mul]; exact Nat.mul_le_mul_right _ hroom
      have hr2 := run_append_room (P := P) w t ty e i ht hi g' n cap cur hgg a m c news hl hnews h1 hroom hfit
      rw [hr] at hr2
      simp only [Result.ok.injEq] at hr2
      obtain ⟨rfl, rfl⟩ := hr2
      exact .inl hg
    · obtain ⟨v2, w2, hr2, k2, _⟩ := run_append_arg_grows (P := P) w t ty e i z size bytes ht hi hz hsize hby hzs hsz ⟨g', 0, none⟩ n cap xs hown.1 (hown.cells (g := g') rfl) a m c news hl hnews (by omega) h63 hbytes
      rw [hr] at hr2
      simp only [Result.ok.injEq] at hr2
      obtain ⟨rfl, rfl⟩ := hr2
      exact .inr (k2.lt g hg).1
theorem wp_append_at {o : Oper} {a : Act} {K : Act → World → Prop} {Q : Exit → Act → World → Prop} (s x : Operand) (t : TypeId)
    (ho : o.op = .call { callee := .builtin .append, args := #[s, x], argTypes := #[t, t] })
    (base : Nat) (e : TypeId) (i : TypeInfo) (z : Value) (size bytes : Nat) (ht : P.underlying t = some (.slice e)) (hi : P.info? e = some i) (hz : i.zero = some z)
    (hsize : i.size = size) (hby : i.bytes = bytes) (hzs : z.cells.size = size) (hsz : 0 < size)
    (v : Value) (n : Nat) (xs : List Value) (hs : a.eval s = v) (hown : w.ownsRow base e size v n xs)
    (ad : Addr) (m c : Nat) (news : List Value) (hx : a.eval x = .slice (some ad) m c) (hl : news.length = m * size) (hnews : ∀ j u, news[j]? = some u → w.cell? (ad.add j) = some u) (h1 : ∀ u ∈ news, u.oneCell' = true)
    (h63 : n + m ≤ maxLen) (hbytes : (n + m) * bytes ≤ 140737488355328) (hbase : base ≤ w.heap.size)
    (h : ∀ v' w', w'.ownsRow base e size v' (n + m) (xs ++ news) → w.grownBy w' v.ownBlock → (∀ g, v'.ownBlock = some g → v.ownBlock = some g ∨ w.heap.size ≤ g) → K (a.put o.dst v') w') : o.wp P a w K Q := by
  obtain ⟨v', w', hr, h2, h3, h4⟩ := run_append_at (P := P) w base t o.type e i z size bytes ht hi hz hsize hby hzs hsz v n xs hown ad m c news hl hnews h1 h63 hbytes hbase
  unfold Oper.wp execOp
  simp only [ho, resolve, invoke, builtin, Sem.run_bind, Sem.run_pure, Result.andThen_ok, List.map_toArray, List.map_cons, List.map_nil, hs, hx, hr]
  exact h v' w' h2 h3 h4
theorem wpList_append_at {ops : Array Oper} {rest : List Oper} {o : Oper} {a : Act} {Q : Exit → Act → World → Prop} (hgd : o.guard = none) (s x : Operand) (t : TypeId)
    (ho : o.op = .call { callee := .builtin .append, args := #[s, x], argTypes := #[t, t] })
    (base : Nat) (e : TypeId) (i : TypeInfo) (z : Value) (size bytes : Nat) (ht : P.underlying t = some (.slice e)) (hi : P.info? e = some i) (hz : i.zero = some z)
    (hsize : i.size = size) (hby : i.bytes = bytes) (hzs : z.cells.size = size) (hsz : 0 < size)
    (v : Value) (n : Nat) (xs : List Value) (hs : a.eval s = v) (hown : w.ownsRow base e size v n xs)
    (ad : Addr) (m c : Nat) (news : List Value) (hx : a.eval x = .slice (some ad) m c) (hl : news.length = m * size) (hnews : ∀ j u, news[j]? = some u → w.cell? (ad.add j) = some u) (h1 : ∀ u ∈ news, u.oneCell' = true)
    (h63 : n + m ≤ maxLen) (hbytes : (n + m) * bytes ≤ 140737488355328) (hbase : base ≤ w.heap.size)
    (h : ∀ v' w', w'.ownsRow base e size v' (n + m) (xs ++ news) → w.grownBy w' v.ownBlock → (∀ g, v'.ownBlock = some g → v.ownBlock = some g ∨ w.heap.size ≤ g) → wpList P ops Q rest (a.put o.dst v') w') : wpList P ops Q (o :: rest) a w :=
  wpList_plain hgd fun _ hK => wp_append_at w s x t ho base e i z size bytes ht hi hz hsize hby hzs hsz v n xs hs hown ad m c news hx hl hnews h1 h63 hbytes hbase fun v' w' h2 h3 h4 => hK _ _ (h v' w' h2 h3 h4)
/-- append, as one step of a region that draws: the slice owns its row. -/
theorem step_append_at {ops : Array Oper} {o : Oper} {a : Act} {K : Act → World → Prop} {Q : Exit → Act → World → Prop} {E : Prop}
    (hg : o.guard = none) (s x : Operand) (t : TypeId) (hop : o.op = Op.call { callee := Callee.builtin Builtin.append, args := #[s, x], argTypes := #[t, t] })
    (base : Nat) (e : TypeId) (i : TypeInfo) (z : Value) (size bytes : Nat) (ht : P.underlying t = some (.slice e)) (hi : P.info? e = some i) (hz : i.zero = some z)
    (hsize : i.size = size) (hby : i.bytes = bytes) (hzs : z.cells.size = size) (hsz : 0 < size)
    (v : Value) (n : Nat) (xs : List Value) (hs : a.eval s = v) (hown : w.ownsRow base e size v n xs)
    (ad : Addr) (m c : Nat) (news : List Value) (hx : a.eval x = .slice (some ad) m c) (hl : news.length = m * size) (hnews : ∀ j u, news[j]? = some u → w.cell? (ad.add j) = some u) (h1 : ∀ u ∈ news, u.oneCell' = true)
    (h63 : n + m ≤ maxLen) (hbytes : (n + m) * bytes ≤ 140737488355328) (hbase : base ≤ w.heap.size)
    (hK : ∀ v' w', w'.ownsRow base e size v' (n + m) (xs ++ news) → w.grownBy w' v.ownBlock → (∀ g, v'.ownBlock = some g → v.ownBlock = some g ∨ w.heap.size ≤ g) → K (a.put o.dst v') w') :
    if Region.wanted o (yielded ops a.tmps) = true then Oper.wp P o a w K Q else E := by
  have hw : Region.wanted o (yielded ops a.tmps) = true := by simp [Region.wanted, hg]
  rw [if_pos hw]
  exact wp_append_at w s x t hop base e i z size bytes ht hi hz hsize hby hzs hsz v n xs hs hown ad m c news hx hl hnews h1 h63 hbytes hbase fun v' w' h2 h3 h4 => hK v' w' h2 h3 h4
end
theorem new_row (cs : List Value) (t : TypeId) (w : World) : ∀ j u, cs[j]? = some u → (w.alloc (.cells cs.toArray t)).cell? ((⟨w.heap.size, 0, none⟩ : Addr).add j) = some u := fun j u hj => by
  rw [Addr.add_lit, Nat.zero_add]
  exact (CellsAt.new cs.toArray t w).cell j u (by simpa using hj)
theorem Mov.grown {w w' : World} {v : Value} (h : w.grownBy w' v.ownBlock) : Mov (fun k => v.ownBlock = some k) w w' := ⟨h.os, h.tape, h.output, h.size, fun k hk hn => h.block k hk (fun e => hn e.symm)⟩
theorem info_parts2 {P : Program} {t : TypeId} {z : Value} {size bytes : Nat} (h : (P.info? t).map (fun i => (i.zero, i.size, i.bytes)) = some (some z, size, bytes)) : ∃ i, P.info? t = some i ∧ i.zero = some z ∧ i.size = size ∧ i.bytes = bytes := by
  obtain ⟨i, hi, hz⟩ := Option.map_eq_some_iff.1 h
  simp only [Prod.mk.injEq] at hz
  exact ⟨i, hi, hz⟩
theorem info_int : (Try.prog.info? 3).map (fun i => (i.zero, i.size, i.bytes)) = some (some (.int .i64 0), 1, 8) := by kernel_rfl
def ints (l : List Nat) : List Value := l.map fun (x : Nat) => Value.int .i64 (x : Int)
theorem ints_append (l m : List Nat) : ints (l ++ m) = ints l ++ ints m := List.map_append
/-- A slice of numbers that lies in a block from B on. -/
def OwnI (B : Nat) (v : Value) (l : List Nat) (w : World) : Prop := w.ownsRow B 3 1 v l.length (ints l)
section
variable {B N : Nat} {v v' : Value} {l : List Nat} {w w' : World}
theorem OwnI.nil (B : Nat) (w : World) : OwnI B (.slice none 0 0) [] w := World.ownsRow_nil _ _ _ _
theorem OwnI.mov {S : Nat → Prop} (h : OwnI B v l w) (hM : Mov S w w') (hn : ∀ g, v.ownBlock = some g → ¬ S g) : OwnI B v l w' := hM.row h hn
theorem OwnI.lt (h : OwnI B v l w) {g : Nat} (hg : v.ownBlock = some g) : B ≤ g ∧ g < w.heap.size := World.ownsRow.lt h g hg
theorem OwnI.below (h : OwnI B v l w) (hB : Below w.heap.size w w') : OwnI B v l w' := h.mov (Mov.of hB) fun g hg => by have := (h.lt hg).2; omega
theorem OwnI.form (h : OwnI B v l w) : (v = .slice none 0 0 ∧ l = []) ∨ ∃ g cap, v = .slice (some ⟨g, 0, none⟩) l.length cap ∧ B ≤ g ∧ g < w.heap.size ∧ ∀ k (hk : k < l.length), w.cell? ⟨g, k, none⟩ = some (.int .i64 (l[k] : Int)) := by
  rcases h.2 with ⟨rfl, h0⟩ | ⟨g, cap, cur, rfl, hb, hg, hn, hm, _, _⟩
  · exact .inl ⟨rfl, List.eq_nil_of_length_eq_zero h0⟩
  · refine .inr ⟨g, cap, rfl, hb, (Array.getElem?_eq_some_iff.1 hg).1, fun k hk => ?_⟩
    rw [World.ownsRow.cellAt h k (by omega)]
    unfold ints
    rw [List.getElem?_map, List.getElem?_eq_getElem hk]
    rfl
theorem OwnI.len (h : OwnI B v l w) : ∃ p cap, v = .slice p l.length cap := by
  rcases h.form with ⟨rfl, rfl⟩ | ⟨g, cap, rfl, _⟩
  · exact ⟨_, _, rfl⟩
  · exact ⟨_, _, rfl⟩
/-- What a row of numbers with others behind it is. -/
def GrewI (B : Nat) (v : Value) (l : List Nat) (w : World) (v' : Value) (w' : World) : Prop :=
  OwnI B v' l w' ∧ Mov (fun j => v.ownBlock = some j) w w' ∧ ∀ g, v'.ownBlock = some g → v.ownBlock = some g ∨ w.heap.size ≤ g
theorem append_int (ty : TypeId) (hO : OwnI B v l w) (x : Nat) (hlen : l.length + 1 ≤ 4398046511104) (hB : B ≤ w.heap.size) :
    ∃ v' w', (Builtin.append_ #[42, 42] ty #[v, .slice (some ⟨w.heap.size, 0, none⟩) 1 1]).run Try.prog (w.alloc (.cells #[.int .i64 (x : Int)] 3)) = .ok v' w' ∧ GrewI B v (l ++ [x]) w v' w' := by
  obtain ⟨i, hi, hz0, hz1, hz2⟩ := info_parts2 info_int
  obtain ⟨v', w', h1, h2, h3, h4⟩ := run_append_at (P := Try.prog) (w.alloc (.cells #[.int .i64 (x : Int)] 3)) B 42 ty 3 i (.int .i64 0) 1 8 Try.underlying42 hi hz0 hz1 hz2 rfl (by decide) v l.length (ints l) (World.ownsRow.alloc hO _) ⟨w.heap.size, 0, none⟩ 1 1 (ints [x]) (by simp [ints]) (new_row (ints [x]) 3 w)
    (fun u hu => by obtain ⟨y, _, rfl⟩ := List.mem_map.1 hu; rfl) (by unfold maxLen; omega) (by omega) (by simp; omega)
  refine ⟨v', w', h1, ?_, ((Mov.refl _ _).alloc _).trans (Mov.grown h3) (fun _ _ h => h), fun g hg => (h4 g hg).imp id fun e => by simp at e; omega⟩
  unfold OwnI
  rw [List.length_append, ints_append]
  exact h2
end
/-- The slots below j that are not free. -/
def slotsTo (L : List Key) (j : Nat) : List Nat := (List.range j).filter fun s => !decide (keyOf L s = [])
theorem slotsTo_yes {L : List Key} {j : Nat} (h : keyOf L j ≠ []) : slotsTo L (j + 1) = slotsTo L j ++ [j] := by
  unfold slotsTo
  rw [List.range_succ, List.filter_append]
  simp [h]
theorem slotsTo_no {L : List Key} {j : Nat} (h : keyOf L j = []) : slotsTo L (j + 1) = slotsTo L j := by
  unfold slotsTo
  rw [List.range_succ, List.filter_append]
  simp [h]
theorem slotsTo_len (L : List Key) (j : Nat) : (slotsTo L j).length ≤ j := Nat.le_trans (List.length_filter_le _ _) (by rw [List.length_range]; exact Nat.le_refl _)
theorem slotsTo_lt {L : List Key} {j s : Nat} (h : s ∈ slotsTo L j) : s < j ∧ keyOf L s ≠ [] := by
  unfold slotsTo at h
  rw [List.mem_filter, List.mem_range] at h
  exact ⟨h.1, by simpa using h.2⟩
def slotsK (L : List Key) : List Nat := slotsTo L L.length
set_option maxRecDepth 100000 in
set_option maxHeartbeats 4000000 in
theorem slots_any {B : Nat} {L : List Key} {en : Nat → Option Nat} (w : World) (h : Tab B L en w) :
    Calls Try.prog 17 #[.pointer (some ⟨B, 0, none⟩)] w fun e w' => ∃ v, e = .returned v ∧ OwnI w.heap.size v (slotsK L) w' ∧ Below w.heap.size w w' := by
  have c := h.tb.room
  have hr := h.room
  have HT := Lib.hid h
  have hz := h.tb.lt
  have HO : Hid (OwnI w.heap.size (.slice none 0 0) (slotsTo L 0) w) := Lib.hid (OwnI.nil _ _)
  have HB := Lib.hid (Below.refl w.heap.size w)
  obtain ⟨n, hn⟩ : ∃ n, L.length = n := ⟨_, rfl⟩
  have HN := Lib.hid hn
  rw [hn] at c hr
  clear h hn
  go_enter Try.func17, Try.ntmps17
  go_wp2
  go_loopg [3, 4, 9] n (fun g s3 s4 s9 wx => ∃ j : Nat, s9 = .int .i64 (j : Int) ∧ j + g = n ∧ Hid (OwnI w.heap.size s3 (slotsTo L j) wx) ∧ Hid (Below w.heap.size w wx))
  case atStart => exact ⟨0, rfl, by omega, HO, HB⟩
  case round =>
    clear HO HB
    obtain ⟨j, rfl, hj, HO, HB⟩ := hrel
    cases gk with
    | zero =>
      obtain rfl : j = n := by omega
      obtain ⟨p, cap, rfl⟩ := HO.out.len
      go_wp2
      go_ret
      exact ⟨_, rfl, by unfold slotsK; rw [HN.out]; exact HO.out, HB.out⟩
    | succ g =>
      have hjn : j < n := by omega
      have hT := HT.out.below HB.out
      have hf := free_any B L.length (keyOf L) en j (by omega) wr hT.tb
      obtain ⟨p, cap, rfl⟩ := HO.out.len
      obtain ⟨m, hm⟩ : ∃ m, (slotsTo L j).length = m := ⟨_, rfl⟩
      have hm2 := slotsTo_len L j
      rw [hm] at hm2 ⊢
      have HM := Lib.hid hm
      clear hT hm
      by_cases hk : keyOf L j = []
      · rw [decide_eq_true hk] at hf
        have HO2 : Hid (OwnI w.heap.size (.slice p m cap) (slotsTo L (j + 1)) wr) := Lib.hid (by rw [slotsTo_no hk, ← HM.out]; exact HO.out)
        clear hk HO
        go_wp2_with fail
        refine hf.mono ?_
        rintro e w1 ⟨rfl, rfl⟩
        go_wp2
        go_roundg g
        case measure => omega
        case rel => exact ⟨j + 1, by go_num, by omega, HO2, HB⟩
      · rw [decide_eq_false hk] at hf
        obtain ⟨v', w', hr1, hG⟩ := append_int 42 HO.out j (by rw [HM.out]; omega) HB.out.size
        rw [HM.out] at hr1
        have HR1 := Lib.hid hr1
        have HO2 : Hid (OwnI w.heap.size v' (slotsTo L (j + 1)) w') := Lib.hid (by rw [slotsTo_yes hk]; exact hG.1)
        have HB2 : Hid (Below w.heap.size w w') := Lib.hid (HB.out.trans (hG.2.1.below (fun g hg => (HO.out.lt hg).1) HB.out.size))
        clear hk HO hr1 hG HB
        go_wp2_with fail
        refine hf.mono ?_
        rintro e w1 ⟨rfl, rfl⟩
        go_wp2_with (first | (at_builtin; refine Lib.wpList_append_run _ rfl _ _ _ _ rfl _ _ rfl rfl _ _ HR1.out ?_))
        go_roundg g
        case measure => omega
        case rel => exact ⟨j + 1, by go_num, by omega, HO2, HB2⟩
theorem len_any {B : Nat} {L : List Key} {en : Nat → Option Nat} (w : World) (h : Tab B L en w) :
    Calls Try.prog 19 #[.pointer (some ⟨B, 0, none⟩)] w fun e w' => e = .returned (.int .i64 ((slotsK L).length : Int)) ∧ Below w.heap.size w w' := by
  have hs := slots_any w h
  clear h
  go_enter Try.func19, Try.ntmps19
  go_wp2_with fail
  refine hs.mono ?_
  rintro e w1 ⟨v, rfl, hO, hB⟩
  obtain ⟨p, cap, rfl⟩ := hO.len
  go_wp2
  go_ret
  exact ⟨rfl, hB⟩
end Go.Proofs.Ytiiadoeohmcfiaa
