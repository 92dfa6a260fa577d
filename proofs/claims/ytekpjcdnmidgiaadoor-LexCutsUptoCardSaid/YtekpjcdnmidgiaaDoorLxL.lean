/- The lines of a batch. -/
import Derived.Test.YtekpjcdnmidgiaaDoorLxR
namespace Go.Proofs.YtekpjcdnmidgiaaDoor
open Go Go.RowKit
attribute [local go_sem] Oper.semAt_some

theorem trim_list (x : List UInt8) : Lib.trimSuffix x [13] = trimR x := by
  unfold Lib.trimSuffix trimR
  by_cases h : x.getLast? = some 13
  · obtain ⟨y, rfl⟩ := List.getLast?_eq_some_iff.1 h
    have hs : Lib.hasSuffix (y ++ [13]) [13] = true := List.isSuffixOf_iff_suffix.2 ⟨y, rfl⟩
    rw [if_pos h, if_pos hs]
    simp
  · rw [if_neg h, if_neg]
    intro hs
    obtain ⟨y, rfl⟩ := List.isSuffixOf_iff_suffix.1 hs
    exact h (by simp)
theorem trim_ok (x : ByteArray) (hx : x.size ≤ 9223372036854775807) (w : World) :
    Calls Tryd.prog 25 #[.string x, .string ⟨#[13]⟩] w fun e w' => e = .returned (.string (tx (trimR x.data.toList))) ∧ w' = w := by
  have h := Tryd.strings_TrimSuffix x ⟨#[13]⟩ w hx
  rw [← trim_list]
  exact h
theorem info_str : (Tryd.prog.info? 9).map (fun i => (i.zero, i.size, i.bytes)) = some (some (.string ⟨#[]⟩), 1, 16) := by kernel_rfl
def strs (l : List (List UInt8)) : List Value := l.map fun x => Value.string (tx x)
/-- A slice of texts that lies in a block from B on. -/
def OwnS (B : Nat) (v : Value) (l : List (List UInt8)) (w : World) : Prop := w.ownsRow B 9 1 v l.length (strs l)
theorem OwnS.nil (B : Nat) (w : World) : OwnS B (.slice none 0 0) [] w := World.ownsRow_nil _ _ _ _
theorem OwnS.lt {B : Nat} {v : Value} {l : List (List UInt8)} {w : World} (h : OwnS B v l w) {g : Nat} (hg : v.ownBlock = some g) : B ≤ g ∧ g < w.heap.size := World.ownsRow.lt h g hg
theorem OwnS.mov {B : Nat} {v : Value} {l : List (List UInt8)} {w w' : World} {S : Nat → Prop} (h : OwnS B v l w) (hM : Mov S w w') (hn : ∀ g, v.ownBlock = some g → ¬ S g) : OwnS B v l w' := hM.row h hn
theorem one_cases (x : List UInt8) : (trimR x = [] ∧ oneL x = []) ∨ (∃ t, trimR x = 35 :: t ∧ oneL x = []) ∨ (∃ c t, trimR x = c :: t ∧ c ≠ 35 ∧ oneL x = [trimR x]) := by
  unfold oneL keptL
  rcases trimR x with _ | ⟨c, t⟩
  · exact .inl ⟨rfl, rfl⟩
  · by_cases h : c = 35
    · subst h; exact .inr (.inl ⟨t, rfl, by simp⟩)
    · exact .inr (.inr ⟨c, t, rfl, h, by simp [h]⟩)
theorem one_le (x : List UInt8) : (oneL x).length ≤ 1 := by unfold oneL; split <;> simp
theorem ones_le (l : List (List UInt8)) : (l.flatMap oneL).length ≤ l.length := by
  induction l with
  | nil => simp
  | cons x r ih => have := one_le x; simp only [List.flatMap_cons, List.length_append, List.length_cons]; omega
theorem first_of {M : ByteArray} {c : UInt8} {t : List UInt8} (h : M = tx (c :: t)) : (0 < M.size) ∧ (∀ h0 : 0 < M.size, M[0] = c) ∧ M.toList.isEmpty = false ∧ (!M.toList.isEmpty) = true := by
  subst h
  have e : (tx (c :: t)).toList = c :: t := by rw [Lib.toList_data]; rfl
  refine ⟨by rw [tx_len]; simp, fun _ => rfl, by rw [e]; rfl, by rw [e]; rfl⟩
theorem below_put {n₀ : Nat} {W : World} {l : Nat} {o : Obj} (o' : Obj) (hl : n₀ ≤ l) (h : W.heap[l]? = some o) : Below n₀ W (W.putObj l o') :=
  (Below.refl n₀ W).grown (grownBy_putObj' W l o') (by have := (Array.getElem?_eq_some_iff.1 h).1; omega) (fun k e => by cases e; omega)
theorem Boxed.other {W : World} {B : Nat} {t : TypeId} {v : Value} (h : Boxed W B t v) {l : Nat} (o : Obj) (hl : B ≠ l) : Boxed (W.putObj l o) B t v := (World.putObj_heap_other hl).trans h
theorem Cap.other {B : Nat} {r : ByteArray} {W : World} (h : Cap B r W) {l : Nat} (o : Obj) (hl : B + 2 < l) : Cap B r (W.putObj l o) :=
  ⟨Boxed.other h.s o (by omega), Boxed.other h.sep o (by omega), Boxed.other h.save o (by omega)⟩

/-- What the loop has gathered: B the variable's box; the function's boxes behind it, then the rounds' block, then the record. -/
structure Gath (B : Nat) (w : World) (rec : Obj) (pre : List (List UInt8)) (W : World) : Prop where
  own : ∃ v, Boxed W B 31 v ∧ OwnS (B + 6) v (pre.flatMap oneL) W
  below : Below B w W
  size : B + 6 ≤ W.heap.size
  loop : W.heap[B + 5]? = some rec
  defs : W.heap[B + 4]? = some (.deferred (some []))
theorem ownS_put {B : Nat} {v : Value} {l : List (List UInt8)} {W : World} (h : OwnS B v l W) {k : Nat} (o : Obj) (hk : k < B) : OwnS B v l (W.putObj k o) :=
  World.ownsRow.kept h (grownBy_putObj' W k o) (by
    rcases h.2 with ⟨rfl, _⟩ | ⟨g, cap, cur, rfl, hb, _, _⟩
    · exact .inl rfl
    · refine .inr fun e => ?_
      have : g = k := by simpa [Value.ownBlock] using e
      omega)
theorem ownS_set {B : Nat} {v : Value} {l : List (List UInt8)} {W : World} (h : OwnS B v l W) {k : Nat} (u : Value) (hk : k < B) : OwnS B v l (W.setCell ⟨k, 0, none⟩ u) :=
  World.ownsRow.kept h (grownBy_setCell' W k u) (by
    rcases h.2 with ⟨rfl, _⟩ | ⟨g, cap, cur, rfl, hb, _, _⟩
    · exact .inl rfl
    · refine .inr fun e => ?_
      have : g = k := by simpa [Value.ownBlock] using e
      omega)
theorem Gath.set {B : Nat} {w W : World} {rec : Obj} {pre : List (List UInt8)} (h : Gath B w rec pre W) (u : Value) : Gath B w rec pre (W.setCell ⟨B + 1, 0, none⟩ u) := by
  obtain ⟨v, hv, ho⟩ := h.own
  exact ⟨⟨v, Boxed.past hv _ _ (by simp), ownS_set ho _ (by omega)⟩, h.below.setCell (p := ⟨B + 1, 0, none⟩) (by simp) _, by have := h.size; simpa using this,
    (Below.heap_setCell _ _ _ _ (by simp)).trans h.loop, (Below.heap_setCell _ _ _ _ (by simp)).trans h.defs⟩
/-- Another record in its place. -/
theorem Gath.put {B : Nat} {w W : World} {rec rec' : Obj} {pre : List (List UInt8)} (h : Gath B w rec pre W) : Gath B w rec' pre (W.putObj (B + 5) rec') := by
  obtain ⟨v, hv, ho⟩ := h.own
  exact ⟨⟨v, Boxed.other hv _ (by omega), ownS_put ho _ (by omega)⟩, h.below.trans (below_put _ (by omega) h.loop), by simpa using h.size,
    World.putObj_heap_same (by have := h.size; omega), (World.putObj_heap_other (by omega)).trans h.defs⟩
theorem OwnS.low {B C : Nat} {v : Value} {l : List (List UInt8)} {w : World} (h : OwnS B v l w) (hc : C ≤ B) : OwnS C v l w :=
  ⟨h.1, h.2.imp id fun ⟨g, cap, cur, e, hb, rest⟩ => ⟨g, cap, cur, e, Nat.le_trans hc hb, rest⟩⟩
/-- A line more, appended and stored. -/
theorem Gath.grown {B : Nat} {w X w1 : World} {rec tmp : Obj} {pre : List (List UInt8)} {x : List UInt8} {v v' : Value} (h : Gath B w rec pre X) (hv : Boxed X B 31 v) (ho : OwnS (B + 6) v (pre.flatMap oneL) X) (hx : oneL x = [trimR x])
    (hown : w1.ownsRow (B + 6) 9 1 v' ((pre.flatMap oneL).length + 1) (strs (pre.flatMap oneL) ++ [.string (tx (trimR x))])) (hgrow : (X.alloc tmp).grownBy w1 v.ownBlock) :
    Boxed w1 B 31 v ∧ Gath B w rec (pre ++ [x]) (w1.setCell ⟨B, 0, none⟩ v') ∧ ∀ r, Cap (B + 1) r X → Cap (B + 1) r (w1.setCell ⟨B, 0, none⟩ v') := by
  have hv1 : Boxed w1 B 31 v := (hv.alloc tmp).kept hgrow (hv.not_row (by decide) ho)
  have hne : ∀ k, k < B + 6 → v.ownBlock ≠ some k := fun k hk e => by have := (ho.lt e).1; omega
  have old : ∀ k, k < B + 6 → k ≠ B → (w1.setCell ⟨B, 0, none⟩ v').heap[k]? = X.heap[k]? := fun k hk hkb => by
    have hsz := h.size
    rw [Below.heap_setCell _ _ _ _ hkb, hgrow.block k (by simp; omega) (fun e => hne k hk e.symm), Below.heap_alloc _ _ _ (by omega)]
  refine ⟨hv1, ⟨⟨v', hv1.set v', ?_⟩, ?_, ?_, (old _ (by omega) (by omega)).trans h.loop, (old _ (by omega) (by omega)).trans h.defs⟩, fun r hC => ⟨(old _ (by omega) (by omega)).trans hC.s, (old _ (by omega) (by omega)).trans hC.sep, (old _ (by omega) (by omega)).trans hC.save⟩⟩
  · refine ownS_set ?_ _ (by omega)
    unfold OwnS
    rw [List.flatMap_append, List.length_append, show [x].flatMap oneL = [trimR x] by simp [hx], show strs (pre.flatMap oneL ++ [trimR x]) = strs (pre.flatMap oneL) ++ [.string (tx (trimR x))] from List.map_append]
    exact hown
  · have hb2 : Below B X w1 := ((Below.refl B X).alloc (by have := h.size; omega) tmp).grown hgrow (by have := h.size; simp; omega) (fun j ej => by have := (ho.lt ej).1; omega)
    exact (h.below.trans hb2).setCell (p := ⟨B, 0, none⟩) (Nat.le_refl _) _
  · have h1 := h.size
    have h2 := hgrow.size
    simp at h2 ⊢
    omega
/-- A piece that is left out. -/
theorem Gath.less {B : Nat} {w X : World} {rec : Obj} {pre : List (List UInt8)} {x : List UInt8} (h : Gath B w rec pre X) (hx : oneL x = []) : Gath B w rec (pre ++ [x]) X := by
  obtain ⟨v, hv, ho⟩ := h.own
  exact ⟨⟨v, hv, by rw [List.flatMap_append, show [x].flatMap oneL = [] by simp [hx], List.append_nil]; exact ho⟩, h.below, h.size, h.loop, h.defs⟩

set_option maxRecDepth 100000 in
set_option maxHeartbeats 4000000 in
/-- **The lines of a batch, in their order.** -/
theorem lines_ok (s : ByteArray) (hs : s.size ≤ 4398046511104) (w : World) :
    Calls Tryd.prog 14 #[.string s] w fun e w' => ∃ v, e = .returned v ∧ OwnS w.heap.size v (linesL s.data.toList) w' ∧ Below w.heap.size w w' := by
  refine (callsIn_wide (n := 5)).1 ?_
  refine callsIn_of_wp_marks Tryd.func14 rfl trivial ?_ rfl
  simp only [Tryd.ntmps14, List.size_toArray, List.length_cons, List.length_nil, Nat.reduceAdd, Nat.reduceSub, Array.replicate_succ, Array.replicate_zero, List.push_toArray, List.append_toArray, List.nil_append, List.cons_append]
  gi_wp2
  refine ⟨trivial, (callsIn_wide.2 (seq_ok _ _ _)).mono ?_⟩
  rintro e w' ⟨rfl, rfl⟩
  gi_wp2
  refine range_size (w.heap.size + 4) (by simp) rfl (enters_of Tryd.func30 (by kernel_rfl) rfl) fun fn rec W1 hrec hW1 => ?_
  have hG : Gath w.heap.size w (rec .ready) [] W1 ∧ Cap (w.heap.size + 1) s W1 := by
    have b0 := Boxed.new w 31 (.slice none 0 0)
    have b1 := Boxed.new (w.alloc (.cells #[.slice none 0 0] 31)) 9 (.string s)
    have b2 := Boxed.new ((w.alloc (.cells #[.slice none 0 0] 31)).alloc (.cells #[.string s] 9)) 9 (.string ⟨#[10]⟩)
    have b3 := Boxed.new (((w.alloc (.cells #[.slice none 0 0] 31)).alloc (.cells #[.string s] 9)).alloc (.cells #[.string ⟨#[10]⟩] 9)) 3 (.int .i64 0)
    have d4 := World.alloc_heap_new ((((w.alloc (.cells #[.slice none 0 0] 31)).alloc (.cells #[.string s] 9)).alloc (.cells #[.string ⟨#[10]⟩] 9)).alloc (.cells #[.int .i64 0] 3)) (.deferred (some []))
    have d5 := World.alloc_heap_new (((((w.alloc (.cells #[.slice none 0 0] 31)).alloc (.cells #[.string s] 9)).alloc (.cells #[.string ⟨#[10]⟩] 9)).alloc (.cells #[.int .i64 0] 3)).alloc (.deferred (some []))) (rec .ready)
    simp only [World.size_alloc] at b1 b2 b3 d4 d5
    rw [← hW1]
    refine ⟨⟨⟨_, (((((b0.alloc _).alloc _).alloc _).alloc _).alloc _), OwnS.nil _ _⟩, ?_, by simp, d5, ?_⟩, ⟨((((b1.alloc _).alloc _).alloc _).alloc _), (((b2.alloc _).alloc _).alloc _), ((b3.alloc _).alloc _)⟩⟩
    · exact (((((((Below.refl _ w).alloc (Nat.le_refl _) _).alloc (by simp) _).alloc (by simp; omega) _).alloc (by simp; omega) _).alloc (by simp; omega) _).alloc (by simp; omega) _)
    · exact (Below.heap_alloc _ _ _ (by simp)).trans d4
  have HG := Lib.hid hG
  clear hG hW1
  refine (split_in 3 (w.heap.size + 4 + 1) (w.heap.size + 1) (fun pre W => Gath w.heap.size w (rec .ready) pre W) s (by omega) ?set ?round W1 HG.out.1 HG.out.2).mono ?done
  case set => exact fun pre W v h => h.set v
  case done =>
    rintro e W' ⟨hv, hG'⟩
    refine ⟨hv, hG'.loop, ?_⟩
    obtain ⟨v, hv', ho⟩ := (hG'.put (rec' := rec .exhausted)).own
    have hB := (hG'.put (rec' := rec .exhausted)).below
    have hK := (hG'.put (rec' := rec .exhausted)).defs
    have hs5 := (hG'.put (rec' := rec .exhausted)).size
    have hc := hv'.cell
    rw [← lines_split _ _ (Nat.le_refl _)] at ho
    clear HG hrec hG'
    gi_wp2
    refine ⟨by simp, .inl ⟨_, _, rfl, run_takeDeferred hK, ?_⟩⟩
    exact ⟨_, results_tmp rfl _ _ _, v, rfl, (ownS_put ho _ (by omega)).low (by omega), hB.trans (below_put _ (by omega) hK)⟩
  case round =>
    intro pre x r W hG hC hlen
    have hGX := hG.put (rec' := rec .busy)
    have hCX := hC.other (rec .busy) (l := w.heap.size + 5) (by omega)
    refine round_at (a₁ := { tmps := #[.string s, undef, .slice none 0 0, .pointer (some ⟨w.heap.size, 0, none⟩), .string x, .string s, .func (.func 30) #[] #[.pointer (some ⟨w.heap.size + 1 + 1, 0, none⟩), .pointer (some ⟨w.heap.size + 1, 0, none⟩), .pointer (some ⟨w.heap.size + 1 + 2, 0, none⟩)], .string x, undef, undef, undef, undef, undef, undef, undef, undef, undef, undef, undef, undef, undef, undef], defers := [] })
      (R := fun W' => Gath w.heap.size w (rec .ready) (pre ++ [x.data.toList]) W' ∧ Cap (w.heap.size + 1) r W') hrec hG.loop rfl ?assign ?body
    case assign =>
      clear HG hrec hGX hCX hG hC
      intro K hK
      gi_wp2
      exact hK
    case body =>
      clear HG hrec hG hC
      generalize W.putObj (w.heap.size + 5) (rec .busy) = X at hGX hCX
      have htr := trim_ok x (by omega) X
      have fin : ∀ W3 : World, Gath w.heap.size w (rec .busy) (pre ++ [x.data.toList]) W3 → Cap (w.heap.size + 1) r W3 → (Exit.normal = Exit.normal ∧ W3.heap[w.heap.size + 4 + 1]? = some (rec .busy) ∧ Gath w.heap.size w (rec .ready) (pre ++ [x.data.toList]) (W3.putObj (w.heap.size + 4 + 1) (rec .ready)) ∧ Cap (w.heap.size + 1) r (W3.putObj (w.heap.size + 4 + 1) (rec .ready))) :=
        fun W3 g c => ⟨rfl, g.loop, g.put, c.other _ (by omega)⟩
      have hol := ones_le pre
      rcases one_cases x.data.toList with ⟨hT, h1⟩ | ⟨t, hT, h1⟩ | ⟨c, t, hT, hc, h1⟩
      · have FIN := Lib.hid (fin X (hGX.less h1) hCX)
        have hM : tx (trimR x.data.toList) = ⟨#[]⟩ := by rw [hT]; rfl
        rw [hM] at htr
        clear hM hT h1 fin hGX hCX
        gi_wp2
        refine ⟨trivial, (CallsIn.inRound _ (callsIn_wide.2 htr)).mono ?_⟩
        rintro e w' ⟨rfl, rfl⟩
        gi_wp2
        exact FIN.out.2
      · have FIN := Lib.hid (fin X (hGX.less h1) hCX)
        obtain ⟨hz, hx0, hne, hnn⟩ := first_of (M := tx (trimR x.data.toList)) (c := 35) (t := t) (by rw [hT])
        have he := hx0 hz
        have hv35 : (((tx (trimR x.data.toList))[0].toNat : Int) != 35) = false := by rw [he]; rfl
        clear he hx0 hT h1 fin hGX hCX
        generalize tx (trimR x.data.toList) = M at *
        gi_wp2
        refine ⟨trivial, (CallsIn.inRound _ (callsIn_wide.2 htr)).mono ?_⟩
        rintro e w' ⟨rfl, rfl⟩
        gi_wp2
        exact FIN.out.2
      · obtain ⟨v, hv, ho⟩ := hGX.own
        have hgr := fun (w1 : World) (v' : Value) => hGX.grown hv ho (tmp := .cells #[.string (tx (trimR x.data.toList))] 9) (w1 := w1) (v' := v') h1
        obtain ⟨hz, hx0, hne, hnn⟩ := first_of (M := tx (trimR x.data.toList)) (c := c) (t := t) (by rw [hT])
        have he := hx0 hz
        have hv35 : (((tx (trimR x.data.toList))[0].toNat : Int) != 35) = true := by
          rw [he, bne_iff_ne]
          intro e
          exact hc (UInt8.toNat_inj.1 (by have : (35 : UInt8).toNat = 35 := rfl; omega))
        have hXs := hGX.size
        clear he hx0 hT h1 hGX
        generalize tx (trimR x.data.toList) = M at *
        have hcl := hv.cell
        obtain ⟨i0, hi, hz0, hz1, hz2⟩ := info_parts info_str
        unfold OwnS at ho
        obtain ⟨N, hN⟩ : ∃ N, (pre.flatMap oneL).length = N := ⟨_, rfl⟩
        rw [hN] at ho hol
        simp only [hN] at hgr
        clear hN
        have HGR := Lib.hid hgr
        have FN := Lib.hid fin
        have HCX := Lib.hid hCX
        clear hgr fin hCX
        gi_wp2
        refine ⟨trivial, (CallsIn.inRound _ (callsIn_wide.2 htr)).mono ?_⟩
        rintro e w' ⟨rfl, rfl⟩
        gi_wp2_with (gi_at_builtin; refine wpListIn_append_own _ rfl _ _ 31 rfl (w.heap.size + 6) 9 i0 (.string ⟨#[]⟩) 1 16 Tryd.underlying31 hi hz0 hz1 hz2 rfl (by decide) _ _ _ rfl (World.ownsRow.alloc ho _) ⟨_, 0, none⟩ 1 1 [.string M] rfl rfl (cell_one_new _ _ _) (by simp [Value.oneCell']) (by unfold maxLen; omega) (by omega) (by simp; omega) ?_; intro v' w1 hown' hgrow _; obtain ⟨g', cap', rfl⟩ := ownsRow_succ hown'; obtain ⟨hv1, hg1, hc1⟩ := HGR.out _ _ hown' hgrow; have hcl1 := hv1.cell; have hfr1 := hv1.frozen)
        exact (FN.out _ hg1 (hc1 _ HCX.out)).2
end Go.Proofs.YtekpjcdnmidgiaaDoor
