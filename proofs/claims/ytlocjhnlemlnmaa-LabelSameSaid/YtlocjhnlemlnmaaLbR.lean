/- A loop over a function that may be left: its rounds, the statement; a region that draws its order within a round; marks of loops that are gone through. -/
import Derived.RangeFuncNested
import Derived.RangeFuncBound
import Derived.RangeFuncCalls
import Derived.RangeFuncLeaves
import Derived.RangeFuncBox
import Derived.Shelf.Abstract
import Derived.Shelf.RegionOpen
import Derived.WalkKit
import Derived.OwnWalkIn
import Derived.TacticsInMore
import Derived.LoopNIn
import Derived.LoopIn
import Derived.Sort.LoopGhostIn
import Derived.OrdersIn
import Derived.Test.YtlocjhnlemlnmaaReg2
import Derived.Test.YtlocjhnlemlnmaaLbA
namespace Go.Proofs.Ytlocjhnlemlnmaa.Lx
open Go Go.RowKit
variable {P : Program} {n : Nat}

theorem wpOp_round {r : Nat} {o : Oper} {a : Act} {w : World} {K K' : Act → World → Prop} {Q : Exit → Act → World → Prop} (hd : ∀ c, o.op ≠ .defer c) (hK : ∀ a w, K a w → K' a w) (h : o.wp P a w K Q) : o.wpIn (Fence.wide.inRound r) n P a w K' Q := by
  refine ⟨fun _ _ => trivial, ?_⟩
  rw [Oper.semAt_eq _ _ _ hd]
  have h2 := Oper.wp_mono hK h
  unfold Oper.wp at h2
  generalize (execOp a.eval o).run P w = x at h2
  cases x with
  | ok x w' =>
    cases x with
    | value v => exact h2
    | skip => exact h2
    | defer d => exact h2
    | enter f args => exact ⟨fun h => by simp [Fence.wide] at h, (callsIn_wide.2 h2).inRound r⟩
    | row row args => exact ⟨fun h => by simp [Fence.wide] at h, fun c cs _ => by
        obtain ⟨v, w', hR, hs⟩ := h2 c cs
        exact ⟨v, w', hR, stepsIn_wide.2 hs⟩⟩
    | round l f tmps assign body => exact False.elim h2
    | _ => exact h2
  | halt x w' => cases x <;> exact h2
theorem wpAny_round {r : Nat} {md : Region.Mode} {ops : Array Oper} {Q : Exit → Act → World → Prop} (hd : ∀ (i : Nat) (o : Oper), ops[i]? = some o → ∀ c, o.op ≠ .defer c) (hQ : ¬ LetsOut Q) : ∀ (fuel : Nat) (listed : Array Bool) (a : Act) (w : World), wpAny P md ops Q fuel listed a w → wpAnyIn (Fence.wide.inRound r) n P md ops Q fuel listed a w
  | 0, _, _, _, h => h
  | fuel + 1, listed, a, w, h => ⟨h.1, fun i hi => by
    have h2 := h.2 i hi
    have ih := wpAny_round (r := r) (md := md) hd hQ fuel (listed.setIfInBounds i true)
    unfold wpOp at h2
    unfold wpOpIn
    split at h2
    · rename_i ho
      simp only [ho]
      exact ih _ _ h2
    · rename_i o ho
      simp only [ho]
      split at h2
      · rename_i hw
        rw [if_pos hw]
        rcases h2 with h2 | ⟨_, h2⟩
        · exact wpOp_round (hd i o ho) ih h2
        · exact absurd h2 hQ
      · rename_i hw
        rw [if_neg hw]
        exact ⟨fun _ _ => trivial, ih _ _ h2⟩⟩
def noDefer (l : List Oper) : Bool := l.all fun o => match o.op with
  | .defer _ => false
  | _ => true
theorem noDefer_at {l : List Oper} (h : noDefer l = true) : ∀ (i : Nat) (o : Oper), l.toArray[i]? = some o → ∀ c, o.op ≠ .defer c := fun i o ho c hc => by
  have := List.all_eq_true.1 h o (List.mem_of_getElem? (by simpa using ho))
  rw [hc] at this
  cases this
/-- THE REGION of a round, the world told by what is done. -/
theorem wpIn_region_inv2 {r id m : Nat} {l : List Oper} {Q : Exit → Act → World → Prop} {a0 : Act} {w0 : World} (Ψ : Array Bool → World → Prop) (Φ : Nat → Value → World → Prop) (hm : P.follows .mixedOrders = true) (hd : noDefer l = true) (hQ : ¬ LetsOut Q) (hf : Reg.fine l m = true) (hn : a0.tmps.size = m) (hstab : ∀ i v w w', Φ i v w → Φ i v w')
    (h0 : Ψ (Array.replicate l.length false) w0.drew) (hops : Reg2.OpsOk Ψ l Q a0 Φ P 0 l)
    (hfin : ∀ (listed : Array Bool) (a : Act) (w : World), Ψ listed w → listed.size = l.length → (∀ j, j < l.length → listed[j]? = some true) → a.tmps.size = a0.tmps.size → a.defers = a0.defers →
      (∀ (i : Nat) (o : Oper) (d : Nat), l[i]? = some o → o.dst = some d → ∃ v, a.tmps[d]? = some v ∧ Φ i v w) →
      (∀ d, (∀ (i : Nat) (o : Oper), l[i]? = some o → o.dst ≠ some d) → a.tmps[d]? = a0.tmps[d]?) → Q .normal a w) :
    (Code.region id l.toArray true).wpIn (Fence.wide.inRound r) n P Q a0 w0 := by
  refine wpIn_region_any hm (wpAny_round (noDefer_at hd) hQ _ _ _ _ ?_)
  refine Reg2.wpAny_inv2 (w0 := w0.drew) (Φ := Φ) hf hn hstab hops hfin _ _ _ _ ?_ ?_ ?_
  · refine ⟨by simp, trivial, rfl, rfl, ?_, ?_, ?_, fun _ _ => rfl⟩
    · intro j o hj hl
      have hlt : j < l.length := (List.getElem?_eq_some_iff.1 hj).1
      simp [hlt] at hl
    · intro j o d hj hl
      have hlt : j < l.length := (List.getElem?_eq_some_iff.1 hj).1
      simp [hlt] at hl
    · intro j o hj hl
      have hlt : j < l.length := (List.getElem?_eq_some_iff.1 hj).1
      simp [hlt] at hl
  · simpa using h0
  · simp

/-- The loop's record. -/
def recL (fn : FuncId) (tmps : Array Value) (ps : Array Tmp) (assign body : Code) (d : Nat) (st : LoopState) (jump : Option Code) : Obj :=
  .loop { state := st, pending := jump, fn := fn, tmps := tmps, params := ps, assign := assign, body := body, defers := d }
/-- One round: it goes on, or it leaves the loop. -/
theorem round_two {fn : FuncId} {tmps : Array Value} {ps : Array Tmp} {assign body : Code} {d l id : Nat} {rec : LoopState → Option Code → Obj} (hrec : rec = recL fn tmps ps assign body d) {W : World} {args : Array Value} {a₁ : Act} {R Rx : World → Prop}
    (hl : W.heap[l]? = some (rec .ready none)) (hs : args.size = ps.size)
    (hassign : ∀ K : Act → World → Prop, K a₁ W → assign.wpIn (Fence.wide.inRound l) n P (Exit.then K (fun _ _ _ => False)) { tmps := (ps.zip args).foldl (fun t (p, v) => t.setIfInBounds p v) tmps, defers := [] } W)
    (hbody : body.wpIn (Fence.wide.inRound l) n P (fun e _ W3 => W3.heap[l]? = some (rec .busy none) ∧ ((e = .normal ∧ R (W3.putObj l (rec .ready none))) ∨ (e = .exit id ∧ Rx (W3.putObj l (rec .done (some (.exit id))))))) a₁ (W.putObj l (rec .busy none))) :
    YieldAt Fence.wide n P l args W fun e W' => (e = .returned (.bool true) ∧ R W') ∨ (e = .returned (.bool false) ∧ Rx W') := by
  subst hrec
  refine ⟨fn, _, assign, body, run_yield hl hs, roundIn_of_wpIn trivial (hassign _ ⟨_, run_beginRound hl rfl, wpIn_mono hbody ?_⟩)⟩
  rintro e a3 W3 ⟨h3, ⟨rfl, hR⟩ | ⟨rfl, hR⟩⟩
  · exact ⟨_, _, run_endRound none h3, .inl ⟨rfl, hR⟩⟩
  · exact ⟨_, _, run_endRound (some (.exit id)) h3, .inr ⟨rfl, hR⟩⟩
/-- The statement: all rounds gone through, or left. -/
theorem range_two {g : Operand} {ps : Array Tmp} {assign body : Code} {Q : Exit → Act → World → Prop} {a : Act} {w : World} {gf : Nat} {lb : Array Value} (D id : Nat) (hD : w.heap.size = D)
    (hg : a.eval g = .func (.func gf) #[] lb) (eg : ∀ args w, (callFunc gf args).run P w = .ok (.enter gf args) w)
    (h : ∀ (fn : FuncId) (rec : LoopState → Option Code → Obj) (W1 : World), rec = recL fn a.tmps ps assign body D → (w.alloc (.deferred (some []))).alloc (rec .ready none) = W1 →
      CallsIn Fence.wide n P gf (#[.func (.yield (D + 1)) #[] #[]] ++ lb) W1
        fun e W' => (∃ v, e = .returned v) ∧ ((W'.heap[D + 1]? = some (rec .ready none) ∧
          Q .normal { a with defers := { target := .collected D, args := #[] } :: a.defers } (W'.putObj (D + 1) (rec .exhausted none))) ∨ (W'.heap[D + 1]? = some (rec .done (some (.exit id))) ∧
          Q (.exit id) { a with defers := { target := .collected D, args := #[] } :: a.defers } (W'.putObj (D + 1) (rec .exhausted (some (.exit id))))))) :
    (Code.rangeFunc g ps assign body).wpIn Fence.wide (n + 1) P Q a w := by
  subst hD
  refine wpIn_rangeFunc fun fn _ => ?_
  obtain ⟨W1, hW1⟩ : ∃ W1, (w.alloc (.deferred (some []))).alloc (recL fn a.tmps ps assign body w.heap.size .ready none) = W1 := ⟨_, rfl⟩
  have h1 := h fn _ W1 rfl hW1
  refine ⟨w.heap.size + 1, [{ target := .collected w.heap.size, args := #[] }], W1, { target := .fn (.func gf) lb, args := #[.func (.yield (w.heap.size + 1)) #[] #[]] }, W1, gf,
    #[.func (.yield (w.heap.size + 1)) #[] #[]] ++ lb, W1, ?_, ?_, fun _ _ => trivial, ?_, fun _ => Nat.succ_le_succ (Nat.zero_le _), ?_⟩
  · rw [← hW1]; exact run_enterLoop_outer _ _ _ _ _
  · simp only [resolve, hg]
    simp [go_sem]
  · simp [invoke, go_sem, eg]
  · refine h1.mono ?_
    rintro e W' ⟨⟨v, rfl⟩, ⟨hl, hQ⟩ | ⟨hl, hQ⟩⟩
    · exact ⟨none, _, run_endLoop hl (by simp), hQ⟩
    · exact ⟨some (.exit id), _, run_endLoop hl (by simp), wpIn_exit hQ⟩

/-- Marks of loops that are gone through: at the function's end each is taken, and nothing comes of it. -/
abbrev markOf (r : Nat) : Deferred := { target := .collected r, args := #[] }
theorem leaves_marks {m : Nat} {fn : Func} {tmps : Array Value} {R : Ending → World → Prop} {N : Nat} : ∀ (rs : List Nat) (w : World), rs.Nodup → (∀ r ∈ rs, N ≤ r ∧ w.heap[r]? = some (.deferred (some []))) →
    (∀ w', Mov (fun k => k ∈ rs) w w' → ∃ v, (results fn tmps).run P w' = .ok v w' ∧ R (.returned v) w') → LeavesInM Fence.wide m P fn tmps R (rs.map markOf) .returning w
  | [], w, _, _, h => h w (Mov.refl _ _)
  | r :: rs, w, hn, hr, h => by
    obtain ⟨n1, n2⟩ := List.nodup_cons.1 hn
    obtain ⟨h1, h2⟩ := hr r (by simp)
    refine ⟨by simp, .inl ⟨r, _, rfl, run_takeDeferred h2, leaves_marks (N := N) rs _ n2 (fun k hk => ⟨(hr k (by simp [hk])).1, ?_⟩) fun w' hM => h w' ?_⟩⟩
    · rw [World.putObj_heap_other (by rintro rfl; exact n1 hk)]
      exact (hr k (by simp [hk])).2
    · have hP : Mov (fun k => k ∈ r :: rs) w (w.putObj r (.deferred none)) := ⟨rfl, rfl, rfl, by simp, fun k _ hk => World.putObj_heap_other (by rintro rfl; exact hk (by simp))⟩
      exact hP.trans hM (fun i _ hi => by simp [hi])
end Go.Proofs.Ytlocjhnlemlnmaa.Lx
