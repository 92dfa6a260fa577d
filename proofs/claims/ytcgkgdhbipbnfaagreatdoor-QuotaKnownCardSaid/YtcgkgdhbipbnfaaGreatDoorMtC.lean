/- What a top tells of its items: a sorted copy. Where an item of a name stands, as the library's search finds it; a copy of a name. append onto a row of the call's own: where the row that comes of it lies; as a step of a list, and of a region that draws. A name comes to a top. A name comes to a top that is full: one goes for it. A name comes to a top, whichever way; the chapter's examples. -/
import Derived.Test.YtcgkgdhbipbnfaaGreatDoorMtB
import Derived.Test.YtcgkgdhbipbnfaaGreatDoorShelf
import Derived.Deep.RegionLaw
import Derived.Deep.AppendLies
import Derived.Deep.RegionWith
namespace Go.Proofs.YtcgkgdhbipbnfaaGreatDoor.Tq
open Go Go.RowKit Go.Sort

theorem info_item : (Tryz.prog.info? 79).map (fun i => (i.zero, i.size, i.bytes)) = some (some (.agg #[.string ⟨#[]⟩, .int .u64 0, .int .u64 0]), 3, 32) := by
  kernel_rfl
theorem flatK_eq (d : Array Itm) : flatK encI 3 d = (flat d.toList).toArray := by
  refine Sort.ext_get! (by simp [flat_length]) fun t ht => ?_
  rw [size_flatK] at ht
  rw [get_flatK _ _ _ t ht]
  have h1 : t / 3 < d.size := by omega
  have h2 := flat_at d.toList (t / 3) (t % 3) (by simpa using h1) (by omega)
  rw [show t / 3 * 3 + t % 3 = t by omega] at h2
  have h3 : t < (flat d.toList).toArray.size := by rw [List.size_toArray, flat_length]; simpa using ht
  rw [getElem!_pos _ t h3, List.getElem_toArray]
  rw [List.getElem?_eq_getElem (by rw [List.size_toArray] at h3; exact h3)] at h2
  have h4 : t % 3 < (encI d[t / 3]!).length := by simp [encI]; omega
  have h5 : d.toList[t / 3]! = d[t / 3]! := by
    rw [getElem!_pos d.toList (t / 3) (by simpa using h1), getElem!_pos d (t / 3) h1]; rfl
  rw [h5, List.getElem?_eq_getElem h4] at h2
  rw [Option.some.inj h2, getElem!_pos (encI d[t / 3]!) (t % 3) h4]
theorem take_put (F : List Value) (cur : Array Value) (h : F.length ≤ cur.size) : (putCells id 0 F.toArray cur).toList.take F.length = F := by
  apply List.ext_getElem
  · simp [putCells]; omega
  · intro i h1 h2
    simp [putCells, h2]
theorem size_put (F : Array Value) (cur : Array Value) : (putCells id 0 F cur).size = cur.size := by simp [putCells]
theorem its_sorted {base T g cap n : Nat} {l : List Itm} {d : Array Itm} {w : World} {os : Array Obj} (h : Its base T (.slice (some ⟨g, 0, none⟩) l.length cap) l w) (hd : d.size = l.length) :
    Its base T (.slice (some ⟨g, 0, none⟩) l.length cap) d.toList (sortWorldK encI 3 w g 0 n d os) ∧ Below base w (sortWorldK encI 3 w g 0 n d os) := by
  rcases h.2 with ⟨h1, _⟩ | ⟨g', cap', cur, hv, hb, hg, h1, h2, h3, h4⟩
  · cases h1
  · simp only [Value.slice.injEq, Option.some.injEq, Addr.mk.injEq, and_true, true_and] at hv
    obtain ⟨rfl, rfl⟩ := hv
    have hlt := (Array.getElem?_eq_some_iff.1 hg).1
    have hh : (sortWorldK encI 3 w g 0 n d os).heap = (w.heap.modify g (onCells (putCells id 0 (flatK encI 3 d)))) ++ os := rfl
    have hF : (flat d.toList).length = l.length * 3 := by rw [flat_length]; simp [hd]
    have hdl : d.toList.length = l.length := by simpa using hd
    refine ⟨?_, ?_⟩
    · unfold Its
      rw [hdl]
      refine ⟨hF, .inr ⟨g, cap, putCells id 0 (flatK encI 3 d) cur, rfl, hb, ?_, h1, h2, by rw [size_put]; exact h3, ?_⟩⟩
      · rw [hh, Array.getElem?_append_left (by simpa using hlt), Array.getElem?_modify, if_pos rfl, hg]
        rfl
      · rw [flatK_eq, ← hF]
        exact take_put _ _ (by rw [hF, h3]; exact Nat.mul_le_mul_right 3 h1)
    · refine ⟨rfl, rfl, rfl, ?_, fun k hk => ?_⟩
      · rw [hh]; simp
      · rw [hh, Array.getElem?_append_left (by simp; omega), Array.getElem?_modify, if_neg (by omega)]
theorem told_of {l : List Itm} {d : Array Itm} (hd : PermIn 0 l.length l.toArray d) (hs : SortedIn tells 0 l.length d) : d.toList.Perm l ∧ Told d.toList := by
  obtain ⟨h1, _, h3⟩ := hd
  have hsz : d.size = l.length := by simpa using h1
  have e : d.extract 0 l.length = d := by rw [← hsz]; simp
  rw [e] at h3
  refine ⟨by simpa using h3, ?_⟩
  unfold Told
  rw [List.pairwise_iff_getElem]
  intro i j hi hj hij
  have := hs i j (Nat.zero_le _) hij (by rw [← hsz]; simpa using hj)
  rwa [getElem!_pos d j (by simpa using hj), getElem!_pos d i (by simpa using hi)] at this
theorem ltOf_cmpT : ltOf cmpT = tells := by
  funext x y
  exact cmpT_lt x y
/-- What is told of items: they themselves, in their order, in a row of the call's own. -/
def ItemsOf (l : List Itm) (w : World) (e : Ending) (w' : World) : Prop := ∃ v s, e = .returned v ∧ Its w.heap.size 79 v s w' ∧ s.Perm l ∧ Told s ∧ Below w.heap.size w w'
set_option maxHeartbeats 2000000 in
theorem sort_any {base g cap : Nat} {l : List Itm} {w : World} (h : Its base 79 (.slice (some ⟨g, 0, none⟩) l.length cap) l w) (hl : l.length ≤ 16) :
    Calls Tryz.prog 88 #[.slice (some ⟨g, 0, none⟩) l.length cap, .func (.func 84) #[] #[]] w fun e w' => e = .returned (.tuple #[]) ∧ ∃ s, Its base 79 (.slice (some ⟨g, 0, none⟩) l.length cap) s w' ∧ s.Perm l ∧ Told s ∧ Below base w w' := by
  have eg : ∀ args w, (callFunc 84 args).run Tryz.prog w = .ok (.enter 84 args) w := enters_of Tryz.func84 (by kernel_rfl) rfl
  rcases h.form with ⟨h0, _⟩ | ⟨g', cap', hv, hb, hg, h1, h2, hcell, hfro⟩
  · cases h0
  simp only [Value.slice.injEq, Option.some.injEq, Addr.mk.injEq, and_true, true_and] at hv
  obtain ⟨rfl, rfl⟩ := hv
  have hH : HoldsK encI 3 w g 0 l.toArray := by
    intro j hj
    have hj' := hj
    rw [size_flatK] at hj'
    rw [flatK_eq] at hj ⊢
    rw [List.size_toArray] at hj
    have hlj : j < l.length * 3 := by simpa using hj'
    refine ⟨?_, by rw [Nat.zero_add]; exact hfro j⟩
    rw [Nat.zero_add, World.ownsRow.cellAt h j hlj, List.getElem?_eq_getElem (by rw [flat_length]; exact hlj), getElem!_pos _ j (by rw [List.size_toArray]; exact hj), List.getElem_toArray]
    rfl
  have hcon := AnyQ.slices_SortFunc Tryz.sortF 3 Tryz.isAgg79 Tryz.sizeOf79 encI (fun _ => rfl) (fun x v hv => by simp [encI] at hv; rcases hv with rfl | rfl | rfl <;> rfl) cmpT (by rw [ltOf_cmpT]; exact swo_tells) 84 #[] g 0 cap l.toArray w eg
    (fun _ _ _ _ x y => inorder_any x y _) hH hg (by simp; omega)
  rw [ltOf_cmpT] at hcon
  simp only [List.size_toArray] at hcon
  refine hcon.mono ?_
  rintro e w' ⟨rfl, d', n, os, hp, hs, rfl⟩
  obtain ⟨k1, k2⟩ := told_of hp hs
  have hd : d'.size = l.length := by simpa using hp.1
  obtain ⟨m1, m2⟩ := its_sorted (n := n) (os := os) h hd
  exact ⟨rfl, d'.toList, m1, k1, k2, m2⟩
theorem sort_none (p : Option Addr) (cap : Nat) (fv : Value) (w : World) :
    Calls Tryz.prog 88 #[.slice p 0 cap, fv] w fun e w' => e = .returned (.tuple #[]) ∧ w' = w :=
  AnyF.slices_SortFunc_none Tryz.sortF p cap fv w
theorem clone_any {base : Nat} {v : Value} {l : List Itm} {w : World} (h : Its base 79 v l w) (hl : l.length ≤ 16) :
    Calls Tryz.prog 87 #[v] w fun e w' => ∃ v', e = .returned v' ∧ Its w.heap.size 79 v' l w' ∧ Below w.heap.size w w' := by
  rcases h.form with ⟨rfl, rfl⟩ | ⟨g, cap, rfl, hb, hg, h1, h2, hcell, hfro⟩
  · refine (AnyE.slices_Clone_nil Tryz.cloneF 0 0 w).mono ?_
    rintro e w' ⟨rfl, rfl⟩
    exact ⟨_, rfl, Its.nil _ _ _, Below.refl _ _⟩
  · obtain ⟨i, hi, hz⟩ := Option.map_eq_some_iff.1 info_item
    simp only [Prod.mk.injEq] at hz
    obtain ⟨hz0, hz1, hz2⟩ := hz
    refine (AnyE.slices_Clone Tryz.cloneF i _ 3 32 hi hz0 hz1 hz2 rfl (by decide) Tryz.sizeOf79 g 0 l.length cap (flat l) w (flat_length l) (by unfold maxLen; omega) (by omega) ?_ (oneCells l)).mono ?_
    · intro j u hj
      have hlj : j < l.length * 3 := by rw [← flat_length]; exact (List.getElem?_eq_some_iff.1 hj).1
      rw [Nat.zero_add, World.ownsRow.cellAt h j hlj]
      exact hj
    · rintro e w' ⟨v', rfl, hown, _, hB⟩
      exact ⟨v', rfl, hown, hB⟩
set_option maxHeartbeats 2000000 in
theorem items_any {base B room : Nat} {v : Value} {l : List Itm} {w : World} (h : Tp base B room v l w) :
    Calls Tryz.prog 53 #[.pointer (some ⟨B, 0, none⟩)] w (ItemsOf l w) := by
  have c1 := h.c1
  have hl16 : l.length ≤ 16 := Nat.le_trans h.inv.len h.inv.hi
  have hcl := clone_any h.row hl16
  clear h
  go_enter Tryz.func53, Tryz.ntmps53
  go_wp2_with fail
  refine hcl.mono ?_
  rintro e w1 ⟨v', rfl, hI, hB⟩
  clear hcl c1
  rcases hI.form with ⟨rfl, rfl⟩ | ⟨g, cap, rfl, hb, hg, h1, h2, hcell, hfro⟩
  · have HI := Lib.hid hI
    clear hI
    go_wp2_with fail
    refine (sort_none none 0 _ _).mono ?_
    rintro e w2 ⟨rfl, rfl⟩
    go_wp2
    go_ret
    exact ⟨_, [], rfl, HI.out, List.Perm.refl _, List.Pairwise.nil, hB⟩
  · have hso := sort_any hI hl16
    clear hcell hfro
    have HI := Lib.hid hI
    clear hI
    by_cases hl0 : l = []
    · subst hl0
      clear hso
      go_wp2_with fail
      refine (sort_none _ _ _ _).mono ?_
      rintro e w2 ⟨rfl, rfl⟩
      go_wp2
      go_ret
      exact ⟨_, [], rfl, HI.out, List.Perm.refl _, List.Pairwise.nil, hB⟩
    · go_wp2_with fail
      refine hso.mono ?_
      rintro e w2 ⟨rfl, s, hI2, hp, ht, hB2⟩
      go_wp2
      go_ret
      exact ⟨_, s, rfl, hI2, hp, ht, hB.trans hB2⟩
end Go.Proofs.YtcgkgdhbipbnfaaGreatDoor.Tq

namespace Go.Proofs.YtcgkgdhbipbnfaaGreatDoor.Tq
open Go Go.RowKit

theorem named_any (name xn : ByteArray) (xm xo N : Nat) (w : World) (hN : N < w.heap.size) (hc : w.cell? ⟨N, 0, none⟩ = some (.string name)) :
    Calls Tryz.prog 108 #[.agg #[.string xn, .int .u64 xm, .int .u64 xo], .pointer (some ⟨N, 0, none⟩)] w fun e w' => e = .returned (.bool (decide (xn = name))) ∧ Below w.heap.size w w' := by
  rw [← eqN]
  have hne : N ≠ w.heap.size := by omega
  go_enter Tryz.func108, Tryz.ntmps108
  go_wp2
  go_ret
  exact ⟨rfl, (Below.refl _ _).alloc (Nat.le_refl _) _⟩
/-- A place, or -1. -/
def plcI (name : ByteArray) (l : List Itm) : Int := match plc name l with | some i => i | none => -1
theorem idx_plc (name : ByteArray) (l : List Itm) (x : Itm) : Lib.idxBy (fun _ y => decide (y.name = name)) (l.take l.length) x = plcI name l := by
  unfold plcI
  cases h : plc name l with
  | some i =>
    obtain ⟨h1, h2, h3⟩ := plc_some h
    exact Lib.idxBy_hit (fun _ y => decide (y.name = name)) l l.length i x h1 (Nat.le_refl _) (by simpa using h2) (fun j hj => by simpa using h3 j hj)
  | none =>
    exact Lib.idxBy_miss (fun _ y => decide (y.name = name)) l l.length x (fun j hj => by simpa using plc_none h _ (mem_at hj))
theorem index_none (p : Option Addr) (cap : Nat) (fv : Value) (w : World) :
    Calls Tryz.prog 109 #[.slice p 0 cap, fv] w fun e w' => e = .returned (.int .i64 (-1)) ∧ w = w' := by
  go_enter Tryz.func109, Tryz.ntmps109
  go_wp2
  refine wp_loop_rounds 1 ?_
  rw [rounds_succ]
  go_wp2
  go_ret
  exact ⟨rfl, rfl⟩
theorem index_any {base N : Nat} {v : Value} {l : List Itm} {w : World} (name : ByteArray) (h : Its base 79 v l w) (hl : l.length ≤ 16) (hN : N < w.heap.size) (hc : w.cell? ⟨N, 0, none⟩ = some (.string name)) :
    Calls Tryz.prog 109 #[v, .func (.func 108) #[] #[.pointer (some ⟨N, 0, none⟩)]] w fun e w' => e = .returned (.int .i64 (plcI name l)) ∧ Below w.heap.size w w' := by
  have eg : ∀ args w, (callFunc 108 args).run Tryz.prog w = .ok (.enter 108 args) w := enters_of Tryz.func108 (by kernel_rfl) rfl
  rcases h.form with ⟨rfl, rfl⟩ | ⟨g, cap, rfl, _, hg, h1, h2, hcell, _⟩
  · refine (index_none none 0 _ w).mono ?_
    rintro e w' ⟨rfl, rfl⟩
    exact ⟨rfl, Below.refl _ _⟩
  · have hp : PredBelow Tryz.prog 108 #[.pointer (some ⟨N, 0, none⟩)] (fun x => .agg (encI x).toArray) (fun x => decide (x.name = name)) w := fun W x hb =>
      (named_any name x.name x.many x.over N W (Nat.lt_of_lt_of_le hN hb.size) ((hb.cell (p := ⟨N, 0, none⟩) hN).trans hc)).mono fun _ _ ⟨he, hB⟩ => ⟨he, hb.trans (hB.mono hb.size)⟩
    have hcon := AnyQ.slices_IndexFunc Tryz.indexF 3 Tryz.isAgg79 Tryz.sizeOf79 encI (fun _ => rfl) (fun x => decide (x.name = name)) 108 #[.pointer (some ⟨N, 0, none⟩)] eg g 0 l.length cap l w hp (Nat.le_refl _) (by omega) hg (fun j hj i u hi => by
      obtain ⟨k0, k1, k2⟩ := hcell j hj
      rw [Nat.zero_add]
      generalize l[j]! = y at hi k0 k1 k2
      match i, hi with
      | 0, hi => simp [encI] at hi; rw [← hi]; exact k0
      | 1, hi => simp [encI] at hi; rw [← hi]; exact k1
      | 2, hi => simp [encI] at hi; rw [← hi]; exact k2
      | i + 3, hi => simp [encI] at hi)
    rw [idx_plc] at hcon
    exact hcon
theorem clone_name (name : ByteArray) (h : name.size ≤ 64) (w : World) :
    Calls Tryz.prog 110 #[.string name] w fun e w' => e = .returned (.string name) ∧ Below w.heap.size w w' := by
  have hcl := fun W => Tryz.stringslite_Clone name W (by omega)
  go_enter Tryz.func110, Tryz.ntmps110
  go_wp2_with fail
  refine (hcl _).mono ?_
  rintro e w1 ⟨rfl, hB⟩
  go_wp2
  go_ret
  exact ⟨rfl, hB⟩
end Go.Proofs.YtcgkgdhbipbnfaaGreatDoor.Tq

namespace Go.Proofs.YtcgkgdhbipbnfaaGreatDoor.Tq
open Go Go.RowKit

section
variable {P : Program} (w : World)
theorem run_append_at (base : Nat) (t ty e : TypeId) (i : TypeInfo) (z : Value) (size bytes : Nat) (ht : P.underlying t = some (.slice e)) (hi : P.info? e = some i) (hz : i.zero = some z)
    (hsize : i.size = size) (hby : i.bytes = bytes) (hzs : z.cells.size = size) (hsz : 0 < size)
    (v : Value) (n : Nat) (xs : List Value) (hown : w.ownsRow base e size v n xs)
    (a : Addr) (m c : Nat) (news : List Value) (hl : news.length = m * size) (hnews : ∀ j u, news[j]? = some u → w.cell? (a.add j) = some u) (h1 : ∀ u ∈ news, u.oneCell' = true)
    (h63 : n + m ≤ maxLen) (hbytes : (n + m) * bytes ≤ 140737488355328) (hbase : base ≤ w.heap.size) :
    ∃ v' w', (Builtin.append_ #[t, t] ty #[v, .slice (some a) m c]).run P w = .ok v' w' ∧ w'.ownsRow base e size v' (n + m) (xs ++ news) ∧ w.grownBy w' v.ownBlock ∧
      ∀ g, v'.ownBlock = some g → v.ownBlock = some g ∨ w.heap.size ≤ g := by
  obtain ⟨v', w', hr, h2, h3, _⟩ := run_append_own w base t ty e i z size bytes ht hi hz hsize hby hzs hsz v n xs hown a m c news hl hnews h1 h63 hbytes hbase
  refine ⟨v', w', hr, h2, h3, fun g hg => ?_⟩
  rcases hown.2 with ⟨rfl, rfl⟩ | ⟨g', cap, cur, rfl, hbg, hgg, hnc, hcm, hcs, htake⟩
  · have hx : xs = [] := List.eq_nil_of_length_eq_zero (by simpa using hown.1)
    subst hx
    obtain ⟨v2, w2, hr2, k2, _, _⟩ := run_append_own w w.heap.size t ty e i z size bytes ht hi hz hsize hby hzs hsz (.slice none 0 0) 0 [] (World.ownsRow_nil w _ e size) a m c news hl hnews h1 h63 hbytes (Nat.le_refl _)
    rw [hr] at hr2
    simp only [Result.ok.injEq] at hr2
    obtain ⟨rfl, rfl⟩ := hr2
    exact .inr (k2.lt g hg).1
  · by_cases hroom : n + m ≤ cap
    · subst hsize
      have hfit : n * i.size + news.length ≤ cur.size := by rw [hl, hcs, ← Nat.add_mul]; exact Nat.mul_le_mul_right _ hroom
      have hr2 := run_append_room (P := P) w t ty e i ht hi g' n cap cur hgg a m c news hl hnews h1 hroom hfit
      rw [hr] at hr2
      simp only [Result.ok.injEq] at hr2
      obtain ⟨rfl, rfl⟩ := hr2
      exact .inl hg
    · obtain ⟨v2, w2, hr2, k2, _⟩ := run_append_arg_grows (P := P) w t ty e i z size bytes ht hi hz hsize hby hzs hsz ⟨g', 0, none⟩ n cap xs hown.1 (hown.cells (g := g') rfl) a m c news hl hnews (by omega) h63 hbytes
      rw [hr] at hr2
      simp only [Result.ok.injEq] at hr2
      obtain ⟨rfl, rfl⟩ := hr2
      exact .inr (k2.lt g hg).1
theorem wp_append_at {o : Oper} {a : Act} {K : Act → World → Prop} {Q : Exit → Act → World → Prop} (s x : Operand) (t : TypeId)
    (ho : o.op = .call { callee := .builtin .append, args := #[s, x], argTypes := #[t, t] })
    (base : Nat) (e : TypeId) (i : TypeInfo) (z : Value) (size bytes : Nat) (ht : P.underlying t = some (.slice e)) (hi : P.info? e = some i) (hz : i.zero = some z)
    (hsize : i.size = size) (hby : i.bytes = bytes) (hzs : z.cells.size = size) (hsz : 0 < size)
    (v : Value) (n : Nat) (xs : List Value) (hs : a.eval s = v) (hown : w.ownsRow base e size v n xs)
    (ad : Addr) (m c : Nat) (news : List Value) (hx : a.eval x = .slice (some ad) m c) (hl : news.length = m * size) (hnews : ∀ j u, news[j]? = some u → w.cell? (ad.add j) = some u) (h1 : ∀ u ∈ news, u.oneCell' = true)
    (h63 : n + m ≤ maxLen) (hbytes : (n + m) * bytes ≤ 140737488355328) (hbase : base ≤ w.heap.size)
    (h : ∀ v' w', w'.ownsRow base e size v' (n + m) (xs ++ news) → w.grownBy w' v.ownBlock → (∀ g, v'.ownBlock = some g → v.ownBlock = some g ∨ w.heap.size ≤ g) → K (a.put o.dst v') w') : o.wp P a w K Q := by
  obtain ⟨v', w', hr, h2, h3, h4⟩ := run_append_at (P := P) w base t o.type e i z size bytes ht hi hz hsize hby hzs hsz v n xs hown ad m c news hl hnews h1 h63 hbytes hbase
  unfold Oper.wp execOp
  simp only [ho, resolve, invoke, builtin, Sem.run_bind, Sem.run_pure, Result.andThen_ok, List.map_toArray, List.map_cons, List.map_nil, hs, hx, hr]
  exact h v' w' h2 h3 h4
theorem wpList_append_at {ops : Array Oper} {rest : List Oper} {o : Oper} {a : Act} {Q : Exit → Act → World → Prop} (hgd : o.guard = none) (s x : Operand) (t : TypeId)
    (ho : o.op = .call { callee := .builtin .append, args := #[s, x], argTypes := #[t, t] })
    (base : Nat) (e : TypeId) (i : TypeInfo) (z : Value) (size bytes : Nat) (ht : P.underlying t = some (.slice e)) (hi : P.info? e = some i) (hz : i.zero = some z)
    (hsize : i.size = size) (hby : i.bytes = bytes) (hzs : z.cells.size = size) (hsz : 0 < size)
    (v : Value) (n : Nat) (xs : List Value) (hs : a.eval s = v) (hown : w.ownsRow base e size v n xs)
    (ad : Addr) (m c : Nat) (news : List Value) (hx : a.eval x = .slice (some ad) m c) (hl : news.length = m * size) (hnews : ∀ j u, news[j]? = some u → w.cell? (ad.add j) = some u) (h1 : ∀ u ∈ news, u.oneCell' = true)
    (h63 : n + m ≤ maxLen) (hbytes : (n + m) * bytes ≤ 140737488355328) (hbase : base ≤ w.heap.size)
    (h : ∀ v' w', w'.ownsRow base e size v' (n + m) (xs ++ news) → w.grownBy w' v.ownBlock → (∀ g, v'.ownBlock = some g → v.ownBlock = some g ∨ w.heap.size ≤ g) → wpList P ops Q rest (a.put o.dst v') w') : wpList P ops Q (o :: rest) a w :=
  wpList_plain hgd fun _ hK => wp_append_at w s x t ho base e i z size bytes ht hi hz hsize hby hzs hsz v n xs hs hown ad m c news hx hl hnews h1 h63 hbytes hbase fun v' w' h2 h3 h4 => hK _ _ (h v' w' h2 h3 h4)
/-- append, as one step of a region that draws: the slice owns its row. -/
theorem step_append_at {ops : Array Oper} {o : Oper} {a : Act} {K : Act → World → Prop} {Q : Exit → Act → World → Prop} {E : Prop}
    (hg : o.guard = none) (s x : Operand) (t : TypeId) (hop : o.op = Op.call { callee := Callee.builtin Builtin.append, args := #[s, x], argTypes := #[t, t] })
    (base : Nat) (e : TypeId) (i : TypeInfo) (z : Value) (size bytes : Nat) (ht : P.underlying t = some (.slice e)) (hi : P.info? e = some i) (hz : i.zero = some z)
    (hsize : i.size = size) (hby : i.bytes = bytes) (hzs : z.cells.size = size) (hsz : 0 < size)
    (v : Value) (n : Nat) (xs : List Value) (hs : a.eval s = v) (hown : w.ownsRow base e size v n xs)
    (ad : Addr) (m c : Nat) (news : List Value) (hx : a.eval x = .slice (some ad) m c) (hl : news.length = m * size) (hnews : ∀ j u, news[j]? = some u → w.cell? (ad.add j) = some u) (h1 : ∀ u ∈ news, u.oneCell' = true)
    (h63 : n + m ≤ maxLen) (hbytes : (n + m) * bytes ≤ 140737488355328) (hbase : base ≤ w.heap.size)
    (hK : ∀ v' w', w'.ownsRow base e size v' (n + m) (xs ++ news) → w.grownBy w' v.ownBlock → (∀ g, v'.ownBlock = some g → v.ownBlock = some g ∨ w.heap.size ≤ g) → K (a.put o.dst v') w') :
    if Region.wanted o (yielded ops a.tmps) = true then Oper.wp P o a w K Q else E := by
  have hw : Region.wanted o (yielded ops a.tmps) = true := by simp [Region.wanted, hg]
  rw [if_pos hw]
  exact wp_append_at w s x t hop base e i z size bytes ht hi hz hsize hby hzs hsz v n xs hs hown ad m c news hx hl hnews h1 h63 hbytes hbase fun v' w' h2 h3 h4 => hK v' w' h2 h3 h4
end
theorem new_row (cs : List Value) (t : TypeId) (w : World) : ∀ j u, cs[j]? = some u → (w.alloc (.cells cs.toArray t)).cell? ((⟨w.heap.size, 0, none⟩ : Addr).add j) = some u := fun j u hj => by
  rw [Addr.add_lit, Nat.zero_add]
  exact (CellsAt.new cs.toArray t w).cell j u (by simpa using hj)
theorem Mov.grown {w w' : World} {v : Value} (h : w.grownBy w' v.ownBlock) : Mov (fun k => v.ownBlock = some k) w w' := ⟨h.os, h.tape, h.output, h.size, fun k hk hn => h.block k hk (fun e => hn e.symm)⟩
theorem its_append {base T : Nat} {v' : Value} {l : List Itm} {x : Itm} {w : World} (h : w.ownsRow base T 3 v' (l.length + 1) (flat l ++ [.string x.name, .int .u64 x.many, .int .u64 x.over])) : Its base T v' (l ++ [x]) w := by
  unfold Its
  rw [flat_append, flat_one, List.length_append]
  exact h
theorem own_shape {base T n size : Nat} {v' : Value} {xs : List Value} {w : World} (h : w.ownsRow base T size v' (n + 1) xs) : ∃ g cap, v' = .slice (some ⟨g, 0, none⟩) (n + 1) cap := by
  rcases h.2 with ⟨_, h0⟩ | ⟨g, cap, _, e, _⟩
  · omega
  · exact ⟨g, cap, e⟩
theorem one_cells (x : Itm) : ∀ u ∈ [Value.string x.name, .int .u64 x.many, .int .u64 x.over], u.oneCell' = true := by
  intro u hu
  simp at hu
  rcases hu with rfl | rfl | rfl <;> rfl
end Go.Proofs.YtcgkgdhbipbnfaaGreatDoor.Tq

namespace Go.Proofs.YtcgkgdhbipbnfaaGreatDoor.Tq
open Go Go.RowKit

/-- What a coming leaves. -/
def Added (base B room : Nat) (v : Value) (l' : List Itm) (code : Int) (w : World) (e : Ending) (w' : World) : Prop :=
  e = .returned (.int .i64 code) ∧ ∃ v', Tp base B room v' l' w' ∧ Mov (OwnT B v) w w' ∧ ∀ g, v'.ownBlock = some g → v.ownBlock = some g ∨ w.heap.size ≤ g
theorem Added.same {base B room : Nat} {v : Value} {l : List Itm} {code : Int} {w w' : World} (h : Tp base B room v l w) (hB : Below w.heap.size w w') : Added base B room v l code w (.returned (.int .i64 code)) w' :=
  ⟨rfl, v, h.below hB, Mov.ofB hB, fun _ hg => .inl hg⟩
set_option maxRecDepth 100000 in
set_option maxHeartbeats 4000000 in
theorem add_arg {base B room : Nat} {v : Value} {l : List Itm} {w : World} (h : Tp base B room v l w) (name : ByteArray) (b : Nat) (hn : name.size ≤ maxLen) (hbad : 64 < name.size ∨ b = 0) :
    Calls Tryz.prog 85 #[.pointer (some ⟨B, 0, none⟩), .string name, .int .u64 b] w (Added base B room v l 1 w) := by
  unfold maxLen at hn
  have H := Lib.hid h
  clear h
  by_cases h64 : 64 < name.size
  · clear hbad
    go_enter Tryz.func85, Tryz.ntmps85
    go_wp2
    go_ret
    exact Added.same H.out ((Below.refl _ _).alloc (Nat.le_refl _) _)
  · have hb0 : b = 0 := hbad.resolve_left h64
    subst hb0
    clear hbad
    go_enter Tryz.func85, Tryz.ntmps85
    go_wp2
    go_ret
    exact Added.same H.out ((Below.refl _ _).alloc (Nat.le_refl _) _)
set_option maxRecDepth 100000 in
set_option maxHeartbeats 4000000 in
theorem add_range {base B room : Nat} {v : Value} {l : List Itm} {w : World} (h : Tp base B room v l w) (name : ByteArray) (b : Nat) (hn : name.size ≤ 64) (hb : 0 < b) (hb2 : b < 18446744073709551616) (hbad : 4611686018427387904 < seen l + b) :
    Calls Tryz.prog 85 #[.pointer (some ⟨B, 0, none⟩), .string name, .int .u64 b] w (Added base B room v l 7 w) := by
  have hsum := h.inv.sum
  have hse := seen_walk (h.below ((Below.refl w.heap.size w).alloc (Nat.le_refl _) (.cells #[.string name] 9)))
  have H := Lib.hid h
  clear h
  generalize seen l = s at *
  have h0 : ((b : Int) == 0) = false := by simp; omega
  have hd : decide (64 < (name.size : Int)) = false := by simp; omega
  have h1 : ((4611686018427387904 : Int) - (s : Int)) < b := by omega
  go_enter Tryz.func85, Tryz.ntmps85
  go_wp2_with fail
  refine hse.mono ?_
  rintro e w1 ⟨rfl, hB⟩
  go_wp2
  go_ret
  exact Added.same H.out (((Below.refl _ _).alloc (Nat.le_refl _) _).trans (hB.mono (by simp)))

theorem flat_set_name : ∀ (l : List Itm) (i : Nat) (nm : ByteArray), i < l.length → flat (l.set i ⟨nm, l[i]!.many, l[i]!.over⟩) = (flat l).set (i * 3) (.string nm)
  | [], _, _, h => absurd h (Nat.not_lt_zero _)
  | y :: l, 0, x, _ => by simp [flat_cons, encI]
  | y :: l, i + 1, x, h => by
    rw [List.set_cons_succ, flat_cons, flat_cons, show (y :: l)[i + 1]! = l[i]! by simp, flat_set_name l i x (by simpa using h), show (i + 1) * 3 = i * 3 + 3 by omega]
    simp [encI]
theorem flat_set_many : ∀ (l : List Itm) (i : Nat) (m : Nat), i < l.length → flat (l.set i ⟨l[i]!.name, m, l[i]!.over⟩) = (flat l).set (i * 3 + 1) (.int .u64 m)
  | [], _, _, h => absurd h (Nat.not_lt_zero _)
  | y :: l, 0, x, _ => by simp [flat_cons, encI]
  | y :: l, i + 1, x, h => by
    rw [List.set_cons_succ, flat_cons, flat_cons, show (y :: l)[i + 1]! = l[i]! by simp, flat_set_many l i x (by simpa using h), show (i + 1) * 3 = i * 3 + 3 by omega]
    simp [encI]
theorem flat_set_over : ∀ (l : List Itm) (i : Nat) (m : Nat), i < l.length → flat (l.set i ⟨l[i]!.name, l[i]!.many, m⟩) = (flat l).set (i * 3 + 2) (.int .u64 m)
  | [], _, _, h => absurd h (Nat.not_lt_zero _)
  | y :: l, 0, x, _ => by simp [flat_cons, encI]
  | y :: l, i + 1, x, h => by
    rw [List.set_cons_succ, flat_cons, flat_cons, show (y :: l)[i + 1]! = l[i]! by simp, flat_set_over l i x (by simpa using h), show (i + 1) * 3 = i * 3 + 3 by omega]
    simp [encI]
theorem Its.store {base T g n cap : Nat} {l l' : List Itm} {w : World} (h : Its base T (.slice (some ⟨g, 0, none⟩) n cap) l w) (hn : n = l.length) (j : Nat) (u : Value) (hl : l'.length = l.length) (hf : flat l' = (flat l).set j u) :
    Its base T (.slice (some ⟨g, 0, none⟩) n cap) l' (w.setCell ⟨g, j, none⟩ u) := by
  subst hn
  unfold Its at *
  rw [hl, hf]
  exact (World.ownsRow.stored h j u).1
theorem Its.store3 {base T g n cap : Nat} {l : List Itm} {w : World} (h : Its base T (.slice (some ⟨g, 0, none⟩) n cap) l w) (hn : n = l.length) (i : Nat) (hi : i < l.length) (x : Itm) :
    Its base T (.slice (some ⟨g, 0, none⟩) n cap) (l.set i x) (((w.setCell ⟨g, i * 3, none⟩ (.string x.name)).setCell ⟨g, i * 3 + 1, none⟩ (.int .u64 x.many)).setCell ⟨g, i * 3 + 2, none⟩ (.int .u64 x.over)) := by
  have h1 := h.store hn _ _ (by simp) (flat_set_name l i x.name hi)
  have h2 := h1.store (by simpa using hn) _ _ (by simp) (flat_set_many _ i x.many (by simpa using hi))
  have h3 := h2.store (by simpa using hn) _ _ (by simp) (flat_set_over _ i x.over (by simpa using hi))
  simpa [hi] using h3
theorem Tp.rebuild {base B room : Nat} {v : Value} {l l' : List Itm} {w w' : World} (h : Tp base B room v l w) (hM : Mov (fun k => v.ownBlock = some k) w w') (hI : Inv room l') (hr : Its base 79 v l' w') : Tp base B room v l' w' :=
  ⟨Nat.lt_of_lt_of_le h.lt hM.size, h.lo, hI, (hM.cell h.lt h.ne).trans h.c0, (hM.cell h.lt h.ne).trans h.c1, (hM.frozen h.lt h.ne).trans h.f1, hr, h.ne⟩
set_option maxRecDepth 100000 in
set_option maxHeartbeats 4000000 in
theorem add_found {base B room : Nat} {v : Value} {l : List Itm} {w : World} (h : Tp base B room v l w) (name : ByteArray) (b : Nat) (hn : name.size ≤ 64) (hb : 0 < b) (hok : seen l + b ≤ 4611686018427387904) {i : Nat} (hp : plc name l = some i) :
    Calls Tryz.prog 85 #[.pointer (some ⟨B, 0, none⟩), .string name, .int .u64 b] w (Added base B room v (addL room name b l) 0 w) := by
  have hinv := inv_add h.inv hn hb hok
  rw [addL_some hp] at hinv ⊢
  obtain ⟨hi, hnm, _⟩ := plc_some hp
  have hpi : plcI name l = (i : Int) := by unfold plcI; rw [hp]
  have hl16 : l.length ≤ 16 := Nat.le_trans h.inv.len h.inv.hi
  have hms := many_le_seen (mem_at hi)
  have hBox := (Below.refl w.heap.size w).alloc (Nat.le_refl _) (.cells #[.string name] 9)
  have hse := seen_walk (h.below hBox)
  have hN := CellsAt.new #[.string name] 9 w
  obtain ⟨g, cap, rfl, _⟩ := h.row.form_pos (by omega)
  have H := Lib.hid h
  have HB := Lib.hid hBox
  have HN := Lib.hid hN
  have HI := Lib.hid hinv
  clear h hBox hN hinv hp hnm
  have h0 : ((b : Int) == 0) = false := by simp; omega
  have hd : decide (64 < (name.size : Int)) = false := by simp; omega
  have h1 : ¬ ((4611686018427387904 : Int) - (seen l : Int)) < b := by omega
  have hs2 : (seen l : Int) ≤ 4611686018427387904 := by omega
  go_enter Tryz.func85, Tryz.ntmps85
  go_wp2_with fail
  refine hse.mono ?_
  rintro e W1 ⟨rfl, hB1⟩
  have hBW := HB.out.trans (hB1.mono (by simp))
  have HT1 := Lib.hid (H.out.below hBW)
  have HN1 := Lib.hid (HN.out.below hB1)
  have k1 := HT1.out.c1
  have hix := index_any name HT1.out.row hl16 HN1.out.lt (HN1.out.cell 0 _ rfl)
  rw [hpi] at hix
  have HBW := Lib.hid hBW
  clear hse hB1 hpi hBW
  go_wp2_with fail
  refine hix.mono ?_
  rintro e W2 ⟨rfl, hB2⟩
  have hBW := HBW.out.trans (hB2.mono HBW.out.size)
  have hT2 := HT1.out.below hB2
  have k2 := hT2.c1
  obtain ⟨g', cap', hv, _, _, _, _, hcell, hfro⟩ := hT2.row.form_pos (by omega)
  simp only [Value.slice.injEq, Option.some.injEq, Addr.mk.injEq, and_true, true_and] at hv
  obtain ⟨rfl, rfl⟩ := hv
  obtain ⟨_, d1, _⟩ := hcell i hi
  have f1 := hfro (i * 3 + 1)
  have HT2 := Lib.hid hT2
  have HBW := Lib.hid hBW
  have hst := (hT2.row.store rfl (i * 3 + 1) (.int .u64 (l[i]!.many + b : Nat)) (by simp) (flat_set_many l i (l[i]!.many + b) hi))
  have HST := Lib.hid hst
  have HNE := Lib.hid hT2.ne
  clear hix hB2 hT2 hcell hfro hBW k1 hst
  have hi2 : (i : Int) < (l.length : Int) := by omega
  have hm2 : (l[i]!.many : Int) + b ≤ 4611686018427387904 := by omega
  obtain ⟨m, hm⟩ : ∃ m, m = l[i]!.many := ⟨_, rfl⟩
  rw [← hm] at d1 hms hm2
  have HM := Lib.hid hm
  clear hm
  go_wp2
  go_ret
  have hm := HM.out
  subst hm
  exact ⟨rfl, _, HT2.out.rebuild ((Mov.refl (fun k => (Value.slice (some ⟨g, 0, none⟩) l.length cap).ownBlock = some k) W2).set rfl _ _) HI.out HST.out, (Mov.ofB HBW.out).trans ((Mov.refl (OwnT B (.slice (some ⟨g, 0, none⟩) l.length cap)) _).set (.inr rfl) _ _) fun _ _ hk => hk, fun _ hg => .inl hg⟩
theorem Tp.stored {base B room : Nat} {v v' : Value} {l l' : List Itm} {w w1 : World} (h : Tp base B room v l w) (hM : Mov (fun k => v.ownBlock = some k) w w1) (hr : Its base 79 v' l' w1)
    (hat : ∀ g, v'.ownBlock = some g → v.ownBlock = some g ∨ w.heap.size ≤ g) (hI : Inv room l') : Tp base B room v' l' (w1.setCell ⟨B, 1, none⟩ v') ∧ Mov (OwnT B v) w (w1.setCell ⟨B, 1, none⟩ v') := by
  have hne : v'.ownBlock ≠ some B := fun e => by
    rcases hat B e with e | e
    · exact h.ne e
    · have := h.lt; omega
  have hS : Mov (fun k => k = B) w1 (w1.setCell ⟨B, 1, none⟩ v') := (Mov.refl (fun k => k = B) w1).set rfl 1 v'
  refine ⟨⟨by have := Nat.lt_of_lt_of_le h.lt hM.size; simpa using this, h.lo, hI, ?_, ?_, ?_, hr.mov hS (fun g hg e => hne (e ▸ hg)), hne⟩, Mov.trans (S := OwnT B v) (T := OwnT B v) ⟨hM.os, hM.tape, hM.output, hM.size, fun k hk hn => hM.block k hk (fun e => hn (.inr e))⟩ ⟨hS.os, hS.tape, hS.output, hS.size, fun k hk hn => hS.block k hk (fun e => hn (.inl e))⟩ fun _ _ hk => hk⟩
  · rw [World.cell?_setCell_other (h := by simp)]; exact (hM.cell h.lt h.ne).trans h.c0
  · exact World.cell?_setCell_same w1 ⟨B, 1, none⟩ _ ((hM.cell h.lt h.ne).trans h.c1)
  · rw [World.frozen?_setCell]; exact (hM.frozen h.lt h.ne).trans h.f1
set_option maxRecDepth 100000 in
set_option maxHeartbeats 4000000 in
theorem add_room {base B room : Nat} {v : Value} {l : List Itm} {w : World} (h : Tp base B room v l w) (hbase : base ≤ w.heap.size) (name : ByteArray) (b : Nat) (hn : name.size ≤ 64) (hb : 0 < b) (hok : seen l + b ≤ 4611686018427387904) (hp : plc name l = none) (hr : l.length < room) :
    Calls Tryz.prog 85 #[.pointer (some ⟨B, 0, none⟩), .string name, .int .u64 b] w (Added base B room v (addL room name b l) 0 w) := by
  have hinv := inv_add h.inv hn hb hok
  rw [addL_room hp hr] at hinv ⊢
  have hpi : plcI name l = -1 := by unfold plcI; rw [hp]
  have hl16 : l.length ≤ 16 := Nat.le_trans h.inv.len h.inv.hi
  have hl16' : room ≤ 16 := h.inv.hi
  have hBox := (Below.refl w.heap.size w).alloc (Nat.le_refl _) (.cells #[.string name] 9)
  have hse := seen_walk (h.below hBox)
  have hN := CellsAt.new #[.string name] 9 w
  obtain ⟨i0, hi0, hz⟩ := Option.map_eq_some_iff.1 info_item
  simp only [Prod.mk.injEq] at hz
  obtain ⟨hz0, hz1, hz2⟩ := hz
  have HZ0 := Lib.hid hz0
  have HZ1 := Lib.hid hz1
  have HZ2 := Lib.hid hz2
  have HI0 := Lib.hid hi0
  have H := Lib.hid h
  have HB := Lib.hid hBox
  have HN := Lib.hid hN
  have HI := Lib.hid hinv
  have HBS := Lib.hid hbase
  clear h hBox hN hinv hp hz0 hz1 hz2 hi0 hbase
  have h0 : ((b : Int) == 0) = false := by simp; omega
  have hd : decide (64 < (name.size : Int)) = false := by simp; omega
  have h1 : ¬ ((4611686018427387904 : Int) - (seen l : Int)) < b := by omega
  have hs2 : (seen l : Int) ≤ 4611686018427387904 := by omega
  go_enter Tryz.func85, Tryz.ntmps85
  go_wp2_with fail
  refine hse.mono ?_
  rintro e W1 ⟨rfl, hB1⟩
  have hBW := HB.out.trans (hB1.mono (by simp))
  have HT1 := Lib.hid (H.out.below hBW)
  have HN1 := Lib.hid (HN.out.below hB1)
  have k1 := HT1.out.c1
  have hix := index_any name HT1.out.row hl16 HN1.out.lt (HN1.out.cell 0 _ rfl)
  rw [hpi] at hix
  have HBW := Lib.hid hBW
  clear hse hB1 hpi hBW
  go_wp2_with fail
  refine hix.mono ?_
  rintro e W2 ⟨rfl, hB2⟩
  have hBW := HBW.out.trans (hB2.mono HBW.out.size)
  have HT2 := Lib.hid (HT1.out.below hB2)
  have HN2 := Lib.hid (HN1.out.below hB2)
  have n2 := HN2.out.cell 0 _ rfl
  have hcn := clone_name name hn W2
  have HBW := Lib.hid hBW
  clear hix hB2 hBW k1
  go_wp2_with fail
  refine hcn.mono ?_
  rintro e W3 ⟨rfl, hB3⟩
  have hBW := HBW.out.trans (hB3.mono HBW.out.size)
  have HT3 := Lib.hid (HT2.out.below hB3)
  have HBW := Lib.hid hBW
  clear hcn hB3 hBW n2
  have hX := CellsAt.new #[.string name, .int .u64 b, .int .u64 0] 79 W3
  have hBX := (Below.refl W3.heap.size W3).alloc (Nat.le_refl _) (.cells #[.string name, .int .u64 b, .int .u64 0] 79)
  have hhr := hasroom_any (HT3.out.below hBX)
  rw [show decide (l.length < room) = true from decide_eq_true hr] at hhr
  have HX := Lib.hid hX
  have HBX := Lib.hid hBX
  clear hX hBX
  go_wp2_with fail
  refine hhr.mono ?_
  rintro e W4 ⟨rfl, nq, rfl⟩
  have HT4 := Lib.hid ((HT3.out.below HBX.out).drewN nq)
  have hBW := below_drewN (HBW.out.trans (HBX.out.mono HBW.out.size)) nq
  have HX4 : Hid (CellsAt W3.heap.size #[.string name, .int .u64 b, .int .u64 0] ((W3.alloc (.cells #[.string name, .int .u64 b, .int .u64 0] 79)).drewN nq)) := Lib.hid ⟨HX.out.lt, HX.out.cell, HX.out.fro⟩
  generalize hW4 : (W3.alloc (.cells #[.string name, .int .u64 b, .int .u64 0] 79)).drewN nq = W4 at *
  clear hW4 hhr
  have HBW := Lib.hid hBW
  clear hBW
  have k1 := HT4.out.c1
  have x0 := HX4.out.cell 0 _ rfl
  have x1 := HX4.out.cell 1 _ rfl
  have x2 := HX4.out.cell 2 _ rfl
  generalize W3.heap.size = X at *
  go_wp2
  have hBlt := HT4.out.lt
  have HB4 : Hid (base ≤ W4.heap.size) := Lib.hid (Nat.le_trans HBS.out HBW.out.size)
  go_region_law ((refine step_append_at _ rfl (.tmp 54) (.tmp 56) 57 rfl base 79 i0 _ 3 32 Tryz.underlying57 HI0.out HZ0.out HZ1.out HZ2.out rfl (by decide) v l.length (flat l) (by simp [Act.eval]) (World.ownsRow.alloc HT4.out.row _) ⟨W4.heap.size, 0, none⟩ 1 1 [.string name, .int .u64 b, .int .u64 0] (by simp [Act.eval]) rfl (new_row [.string name, .int .u64 b, .int .u64 0] 79 W4) (one_cells ⟨name, b, 0⟩) (by unfold maxLen; omega) (by omega) (by have := HB4.out; simp; omega) ?_); (intro v' w1 ho hg hat); (obtain ⟨gn, capn, rfl⟩ := own_shape ho); have h' := (HT4.out.below ((Below.refl W4.heap.size W4).alloc (Nat.le_refl _) (.cells #[.string name, .int .u64 b, .int .u64 0] 79))).drew; have hs1 := h'.stored (Mov.grown hg) (its_append (x := ⟨name, b, 0⟩) ho) hat HI.out; have y1 := ((Mov.grown hg).cell (i := 1) h'.lt h'.ne).trans h'.c1; have y2 := ((Mov.grown hg).frozen (i := 1) h'.lt h'.ne).trans h'.f1; have HAT := Lib.hid hat; have HS1 := Lib.hid hs1; clear hs1 hg hat ho h')
  all_goals
    go_wp2
    go_ret
    refine ⟨rfl, _, HS1.out.1, (Mov.ofB (HBW.out.trans (((Below.refl W4.heap.size W4).alloc (Nat.le_refl _) _).drew.mono HBW.out.size))).trans HS1.out.2 (fun _ _ hk => hk), fun g hg => (HAT.out g hg).imp id fun hle => Nat.le_trans HBW.out.size (Nat.le_trans ?_ hle)⟩
    simp
end Go.Proofs.YtcgkgdhbipbnfaaGreatDoor.Tq

namespace Go.Proofs.YtcgkgdhbipbnfaaGreatDoor.Tq
open Go Go.RowKit

set_option maxRecDepth 100000 in
set_option maxHeartbeats 8000000 in
theorem add_full {base B room : Nat} {v : Value} {l : List Itm} {w : World} (h : Tp base B room v l w) (name : ByteArray) (b : Nat) (hn : name.size ≤ 64) (hb : 0 < b) (hok : seen l + b ≤ 4611686018427387904) (hp : plc name l = none) (hr : ¬ l.length < room) :
    Calls Tryz.prog 85 #[.pointer (some ⟨B, 0, none⟩), .string name, .int .u64 b] w (Added base B room v (addL room name b l) 0 w) := by
  have hinv := inv_add h.inv hn hb hok
  rw [addL_full hp hr] at hinv ⊢
  have hpi : plcI name l = -1 := by unfold plcI; rw [hp]
  have hl16 : l.length ≤ 16 := Nat.le_trans h.inv.len h.inv.hi
  have hpos : 0 < l.length := by have := h.inv.lo; omega
  have hwl := worst_lt hpos
  have hms := many_le_seen (mem_at hwl)
  have hBox := (Below.refl w.heap.size w).alloc (Nat.le_refl _) (.cells #[.string name] 9)
  have hse := seen_walk (h.below hBox)
  have hN := CellsAt.new #[.string name] 9 w
  obtain ⟨g, cap, rfl, _⟩ := h.row.form_pos hpos
  have H := Lib.hid h
  have HB := Lib.hid hBox
  have HN := Lib.hid hN
  have HI := Lib.hid hinv
  clear h hBox hN hinv hp
  have h0 : ((b : Int) == 0) = false := by simp; omega
  have hd : decide (64 < (name.size : Int)) = false := by simp; omega
  have h1 : ¬ ((4611686018427387904 : Int) - (seen l : Int)) < b := by omega
  have hs2 : (seen l : Int) ≤ 4611686018427387904 := by omega
  go_enter Tryz.func85, Tryz.ntmps85
  go_wp2_with fail
  refine hse.mono ?_
  rintro e W1 ⟨rfl, hB1⟩
  have hBW := HB.out.trans (hB1.mono (by simp))
  have HT1 := Lib.hid (H.out.below hBW)
  have HN1 := Lib.hid (HN.out.below hB1)
  have k1 := HT1.out.c1
  have hix := index_any name HT1.out.row hl16 HN1.out.lt (HN1.out.cell 0 _ rfl)
  rw [hpi] at hix
  have HBW := Lib.hid hBW
  clear hse hB1 hpi hBW
  go_wp2_with fail
  refine hix.mono ?_
  rintro e W2 ⟨rfl, hB2⟩
  have hBW := HBW.out.trans (hB2.mono HBW.out.size)
  have HT2 := Lib.hid (HT1.out.below hB2)
  have HN2 := Lib.hid (HN1.out.below hB2)
  have n2 := HN2.out.cell 0 _ rfl
  have hcn := clone_name name hn W2
  have HBW := Lib.hid hBW
  clear hix hB2 hBW k1
  go_wp2_with fail
  refine hcn.mono ?_
  rintro e W3 ⟨rfl, hB3⟩
  have hBW := HBW.out.trans (hB3.mono HBW.out.size)
  have HT3 := Lib.hid (HT2.out.below hB3)
  have HBW := Lib.hid hBW
  clear hcn hB3 hBW n2
  have hX := CellsAt.new #[.string name, .int .u64 b, .int .u64 0] 79 W3
  have hBX := (Below.refl W3.heap.size W3).alloc (Nat.le_refl _) (.cells #[.string name, .int .u64 b, .int .u64 0] 79)
  have hhr := hasroom_any (HT3.out.below hBX)
  rw [show decide (l.length < room) = false from decide_eq_false hr] at hhr
  have HX := Lib.hid hX
  have HBX := Lib.hid hBX
  clear hX hBX
  go_wp2_with fail
  refine hhr.mono ?_
  rintro e W4 ⟨rfl, nq, rfl⟩
  have HT4 := Lib.hid ((HT3.out.below HBX.out).drewN nq)
  have hBW := below_drewN (HBW.out.trans (HBX.out.mono HBW.out.size)) nq
  have HX4 : Hid (CellsAt W3.heap.size #[.string name, .int .u64 b, .int .u64 0] ((W3.alloc (.cells #[.string name, .int .u64 b, .int .u64 0] 79)).drewN nq)) := Lib.hid ⟨HX.out.lt, HX.out.cell, HX.out.fro⟩
  have HXL : Hid (w.heap.size ≤ W3.heap.size) := Lib.hid HBW.out.size
  have hgX := (HT3.out.row.lt (g := g) rfl).2
  have hBX3 := HT3.out.lt
  generalize hW4 : (W3.alloc (.cells #[.string name, .int .u64 b, .int .u64 0] 79)).drewN nq = W4 at *
  clear hW4 hhr
  have HBW := Lib.hid hBW
  clear hBW
  have hBlt := HT4.out.lt
  have k1 := HT4.out.c1
  generalize W3.heap.size = X at *
  have hlp := least_place (HT4.out.drew) hpos
  have hi2 : (worst l : Int) < (l.length : Int) := by omega
  obtain ⟨m, hm⟩ : ∃ m, m = worst l := ⟨_, rfl⟩
  obtain ⟨y, hy⟩ : ∃ y, y = l[worst l]!.many := ⟨_, rfl⟩
  rw [← hm] at hlp hwl hi2
  rw [← hy] at hms
  have HM := Lib.hid hm
  have HY := Lib.hid hy
  clear hm hy
  go_wp2
  go_region_with (refine hlp.mono ?_; rintro e W5 ⟨rfl, hB5⟩; have z1 := (hB5.cell (p := ⟨B, 1, none⟩) hBlt).trans k1)
  all_goals
    have hB4 : Below W4.heap.size W4 W5 := (Below.refl W4.heap.size W4).drew.trans hB5
    have hT5 := HT4.out.below hB4
    have hX5 := HX4.out.below hB4
    have hBW5 := HBW.out.trans (hB4.mono HBW.out.size)
    obtain ⟨g', cap', hv, _, hgl, _, _, hcell, hfro⟩ := hT5.row.form_pos hpos
    simp only [Value.slice.injEq, Option.some.injEq, Addr.mk.injEq, and_true, true_and] at hv
    obtain ⟨rfl, rfl⟩ := hv
    obtain ⟨d0, d1, d2⟩ := hcell m hwl
    rw [HM.out, ← HY.out, ← HM.out] at d1
    have hXl := hX5.lt
    have x2 := hX5.cell 2 (.int .u64 0) rfl
    have f2 := hX5.fro 2 (.int .u64 0) rfl
    have hM6 : Mov (OwnT B (.slice (some ⟨g, 0, none⟩) l.length cap)) w (W5.setCell ⟨X, 2, none⟩ (.int .u64 y)) := (Mov.ofB hBW5).trans (((Mov.refl (fun k => k = X) W5)).set rfl 2 (.int .u64 y)) (fun i hi e => by have := HXL.out; omega)
    have hT6 : Tp base B room (.slice (some ⟨g, 0, none⟩) l.length cap) l (W5.setCell ⟨X, 2, none⟩ (.int .u64 y)) := hT5.mov ((Mov.refl (fun k => k = X) W5).set rfl _ _) (by omega) (fun g' hg' => by simp [Value.ownBlock] at hg'; omega)
    have hX6 : CellsAt X #[.string name, .int .u64 b, .int .u64 y] (W5.setCell ⟨X, 2, none⟩ (.int .u64 y)) := hX5.set 2 _ (by simp)
    have e1 : (W5.setCell ⟨X, 2, none⟩ (.int .u64 y)).cell? ⟨g, m * 3 + 1, none⟩ = some (.int .u64 y) := by rw [World.cell?_setCell_other (h := by intro e; have := congrArg Addr.block e; simp at this; omega)]; exact d1
    have HT6 := Lib.hid hT6
    have HX6 := Lib.hid hX6
    have HM6 := Lib.hid hM6
    clear hB5 hB4 hT5 hX5 hBW5 hcell hT6 hX6 hM6 z1 k1
    go_wp2
    generalize W5.setCell ⟨X, 2, none⟩ (.int .u64 y) = W6 at *
    have x60 := HX6.out.cell 0 (.string name) rfl
    have x61 := HX6.out.cell 1 (.int .u64 b) rfl
    have x62 := HX6.out.cell 2 (.int .u64 y) rfl
    have xf := HX6.out.fro 1 (.int .u64 b) rfl
    obtain ⟨g', cap', hv, _, hgl6, _, _, hcell, hfro6⟩ := HT6.out.row.form_pos hpos
    simp only [Value.slice.injEq, Option.some.injEq, Addr.mk.injEq, and_true, true_and] at hv
    obtain ⟨rfl, rfl⟩ := hv
    obtain ⟨d60, d61, d62⟩ := hcell m hwl
    have f60 := hfro6 (m * 3)
    have f61 := hfro6 (m * 3 + 1)
    have f62 := hfro6 (m * 3 + 2)
    have hne1 : ¬ (g = X) := by omega
    have hne2 : ¬ (X = g) := by omega
    have hby : (b : Int) + y ≤ 4611686018427387904 := by omega
    clear hcell hfro hfro6 d0 d1 d2 x2 f2 hgl d61
    go_region
    all_goals
      go_wp2
      go_ret
      have hc : ((b : Int) + (y : Int)) = ((y + b : Nat) : Int) := by omega
      rw [hc]
      have hMX := (Mov.refl (fun k => k = X) W6).set rfl 1 (.int .u64 (y + b : Nat))
      have hT7 := HT6.out.mov hMX (by omega) (fun g' hg' => by simp [Value.ownBlock] at hg'; omega)
      have hM7 := HM6.out.trans hMX (fun i hi e => by have := HXL.out; omega)
      generalize W6.setCell ⟨X, 1, none⟩ (.int .u64 (y + b : Nat)) = W7 at *
      have hr8 := hT7.row.store3 rfl m hwl ⟨name, y + b, y⟩
      have hS := (((Mov.refl (fun k => (Value.slice (some ⟨g, 0, none⟩) l.length cap).ownBlock = some k) W7).set rfl (m * 3) (.string name)).set rfl (m * 3 + 1) (.int .u64 (y + b : Nat))).set rfl (m * 3 + 2) (.int .u64 y)
      have hm := HM.out
      have hy := HY.out
      subst hm hy
      exact ⟨rfl, _, (hT7.rebuild hS HI.out hr8).drew, (hM7.trans hS (fun _ _ hk => .inr hk)).drew, fun _ hg => .inl hg⟩
end Go.Proofs.YtcgkgdhbipbnfaaGreatDoor.Tq

namespace Go.Proofs.YtcgkgdhbipbnfaaGreatDoor.Tq
open Go Go.RowKit

/-- What the coming of a name is answered. -/
def addC (name : ByteArray) (b : Nat) (l : List Itm) : Int := if 64 < name.size ∨ b = 0 then 1 else if 4611686018427387904 < seen l + b then 7 else 0
/-- The items behind it. -/
def addS (room : Nat) (name : ByteArray) (b : Nat) (l : List Itm) : List Itm := if addC name b l = 0 then addL room name b l else l
theorem addC_ok {name : ByteArray} {b : Nat} {l : List Itm} (h1 : name.size ≤ 64) (h2 : 0 < b) (h3 : seen l + b ≤ 4611686018427387904) : addC name b l = 0 := by
  unfold addC; rw [if_neg (by omega), if_neg (by omega)]
theorem addS_ok {room : Nat} {name : ByteArray} {b : Nat} {l : List Itm} (h1 : name.size ≤ 64) (h2 : 0 < b) (h3 : seen l + b ≤ 4611686018427387904) : addS room name b l = addL room name b l := by
  unfold addS; rw [if_pos (addC_ok h1 h2 h3)]
theorem inv_addS {room : Nat} {name : ByteArray} {b : Nat} {l : List Itm} (h : Inv room l) : Inv room (addS room name b l) := by
  unfold addS
  split
  · rename_i hc
    unfold addC at hc
    split at hc
    · cases hc
    · split at hc
      · cases hc
      · exact inv_add h (by omega) (by omega) (by omega)
  · exact h
theorem add_any {base B room : Nat} {v : Value} {l : List Itm} {w : World} (h : Tp base B room v l w) (name : ByteArray) (b : Nat) (hn : name.size ≤ maxLen) (hb : b < 18446744073709551616) :
    Calls Tryz.prog 85 #[.pointer (some ⟨B, 0, none⟩), .string name, .int .u64 b] w (Added base B room v (addS room name b l) (addC name b l) w) := by
  by_cases h1 : 64 < name.size ∨ b = 0
  · have hc : addC name b l = 1 := by unfold addC; rw [if_pos h1]
    have hs : addS room name b l = l := by unfold addS; rw [hc]; rfl
    rw [hs, hc]
    exact add_arg h name b hn h1
  · by_cases h2 : 4611686018427387904 < seen l + b
    · have hc : addC name b l = 7 := by unfold addC; rw [if_neg h1, if_pos h2]
      have hs : addS room name b l = l := by unfold addS; rw [hc]; rfl
      rw [hs, hc]
      exact add_range h name b (by omega) (by omega) hb h2
    · rw [addS_ok (by omega) (by omega) (by omega), addC_ok (by omega) (by omega) (by omega)]
      cases hp : plc name l with
      | some i => exact add_found h name b (by omega) (by omega) (by omega) hp
      | none =>
        by_cases hr : l.length < room
        · exact add_room h (Nat.le_trans h.lo (Nat.le_of_lt h.lt)) name b (by omega) (by omega) (by omega) hp hr
        · exact add_full h name b (by omega) (by omega) (by omega) hp hr
/-- Behind a coming that is known. -/
theorem add_is {base B room : Nat} {v : Value} {l l' : List Itm} {code : Int} {w : World} (h : Tp base B room v l w) (name : ByteArray) (b : Nat) (hn : name.size ≤ maxLen) (hb : b < 18446744073709551616) (hs : addS room name b l = l') (hc : addC name b l = code) :
    Calls Tryz.prog 85 #[.pointer (some ⟨B, 0, none⟩), .string name, .int .u64 b] w (Added base B room v l' code w) := by
  subst hs hc
  exact add_any h name b hn hb
theorem Added.below {base B room : Nat} {v : Value} {l' : List Itm} {code : Int} {w w' : World} {e : Ending} (h : Added base B room v l' code w e w') (hT : ∃ l, Tp base B room v l w) : e = .returned (.int .i64 code) ∧ ∃ v', Tp base B room v' l' w' ∧ Mov (OwnT B v) w w' ∧ Below base w w' ∧ ∀ g, v'.ownBlock = some g → v.ownBlock = some g ∨ w.heap.size ≤ g := by
  obtain ⟨he, v', hT', hM, hat⟩ := h
  obtain ⟨l, hT⟩ := hT
  refine ⟨he, v', hT', hM, hM.below ?_ (Nat.le_trans hT.lo (Nat.le_of_lt hT.lt)), hat⟩
  rintro k (rfl | hk)
  · exact hT.lo
  · exact (hT.row.lt hk).1
def eA : ByteArray := ⟨#[97]⟩
def eB : ByteArray := ⟨#[98]⟩
def eC : ByteArray := ⟨#[99]⟩
def ex1 : List Itm := [⟨eA, 3, 0⟩]
def ex2 : List Itm := [⟨eA, 3, 0⟩, ⟨eB, 1, 0⟩]
def ex3 : List Itm := [⟨eA, 3, 0⟩, ⟨eC, 2, 1⟩]
theorem ex_ab : eA ≠ eB ∧ eA ≠ eC ∧ eB ≠ eC := by decide
theorem ex_add1 : addS 2 eA 3 [] = ex1 := by
  rw [addS_ok (by decide) (by decide) (by decide), addL_room (plc_no (fun j hj => by simp at hj)) (by decide)]
  rfl
theorem ex_add2 : addS 2 eB 1 ex1 = ex2 := by
  rw [addS_ok (by decide) (by decide) (by decide), addL_room (plc_no (fun j hj => ?_)) (by decide)]
  · rfl
  · obtain rfl : j = 0 := by simpa [ex1] using hj
    exact ex_ab.1
theorem ex_worst : worst ex2 = 1 := by
  unfold worst
  show scanW ex2 1 0 1 = 1
  unfold scanW
  rw [if_pos (goes_iff.2 (.inl (by decide)))]
  rfl
theorem ex_add3 : addS 2 eC 1 ex2 = ex3 := by
  rw [addS_ok (by decide) (by decide) (by decide), addL_full (plc_no (fun j hj => ?_)) (by decide), ex_worst]
  · rfl
  · have : j = 0 ∨ j = 1 := by simp [ex2] at hj; omega
    rcases this with rfl | rfl
    · exact ex_ab.2.1
    · exact ex_ab.2.2
theorem ex_told : Told ex3 := by
  unfold Told ex3
  rw [List.pairwise_cons]
  refine ⟨fun b hb => ?_, by simp⟩
  simp at hb
  subst hb
  exact tells_not.2 (.inl (by decide))
theorem ex_least : leastL 2 ex3 = 2 := by
  unfold leastL
  rw [if_neg (by decide)]
  have h := worst_spec ex3 (by decide)
  have : worst ex3 = 1 := by
    unfold worst
    show scanW ex3 1 0 1 = 1
    unfold scanW
    rw [if_pos (goes_iff.2 (.inl (by decide)))]
    rfl
  rw [this]
  rfl
end Go.Proofs.YtcgkgdhbipbnfaaGreatDoor.Tq

