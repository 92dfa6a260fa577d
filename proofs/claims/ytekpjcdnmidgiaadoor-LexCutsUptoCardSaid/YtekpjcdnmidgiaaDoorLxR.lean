/- A loop over a function, where the function keeps a state of its own in memory: a round, and the statement. -/
import Derived.Test.YtekpjcdnmidgiaaDoorLxS
namespace Go.Proofs.YtekpjcdnmidgiaaDoor
open Go Go.RowKit
variable {P : Program} {n : Nat}

/-- The loop's record. -/
def recL (fn : FuncId) (tmps : Array Value) (ps : Array Tmp) (assign body : Code) (d : Nat) (st : LoopState) : Obj :=
  .loop { state := st, pending := none, fn := fn, tmps := tmps, params := ps, assign := assign, body := body, defers := d }

/-- One round that goes on. -/
theorem round_at {fn : FuncId} {tmps : Array Value} {ps : Array Tmp} {assign body : Code} {d l : Nat} {rec : LoopState → Obj} (hrec : rec = recL fn tmps ps assign body d) {W : World} {args : Array Value} {a₁ : Act} {R : World → Prop}
    (hl : W.heap[l]? = some (rec .ready)) (hs : args.size = ps.size)
    (hassign : ∀ K : Act → World → Prop, K a₁ W → assign.wpIn (Fence.wide.inRound l) n P (Exit.then K (fun _ _ _ => False)) { tmps := (ps.zip args).foldl (fun t (p, v) => t.setIfInBounds p v) tmps, defers := [] } W)
    (hbody : body.wpIn (Fence.wide.inRound l) n P (fun e _ W3 => e = .normal ∧ W3.heap[l]? = some (rec .busy) ∧ R (W3.putObj l (rec .ready))) a₁ (W.putObj l (rec .busy))) :
    YieldAt Fence.wide n P l args W fun e W' => e = .returned (.bool true) ∧ R W' := by
  subst hrec
  refine ⟨fn, _, assign, body, run_yield hl hs, roundIn_of_wpIn trivial (hassign _ ⟨_, run_beginRound hl rfl, wpIn_mono hbody ?_⟩)⟩
  rintro e a3 W3 ⟨rfl, h3, hR⟩
  exact ⟨_, _, run_endRound none h3, rfl, hR⟩

/-- The statement, its rounds all gone through. -/
theorem range_at {g : Operand} {ps : Array Tmp} {assign body : Code} {Q : Exit → Act → World → Prop} {a : Act} {w : World} {gf : Nat} {lb : Array Value}
    (hg : a.eval g = .func (.func gf) #[] lb) (eg : ∀ args w, (callFunc gf args).run P w = .ok (.enter gf args) w)
    (h : ∀ fn : FuncId, CallsIn Fence.wide n P gf (#[.func (.yield (w.heap.size + 1)) #[] #[]] ++ lb) ((w.alloc (.deferred (some []))).alloc (recL fn a.tmps ps assign body w.heap.size .ready))
      fun e W' => (∃ v, e = .returned v) ∧ W'.heap[w.heap.size + 1]? = some (recL fn a.tmps ps assign body w.heap.size .ready) ∧
        Q .normal { a with defers := { target := .collected w.heap.size, args := #[] } :: a.defers } (W'.putObj (w.heap.size + 1) (recL fn a.tmps ps assign body w.heap.size .exhausted))) :
    (Code.rangeFunc g ps assign body).wpIn Fence.wide (n + 1) P Q a w := by
  refine wpIn_rangeFunc fun fn _ => ?_
  obtain ⟨W1, hW1⟩ : ∃ W1, (w.alloc (.deferred (some []))).alloc (recL fn a.tmps ps assign body w.heap.size .ready) = W1 := ⟨_, rfl⟩
  have h1 := h fn
  rw [hW1] at h1
  refine ⟨w.heap.size + 1, [{ target := .collected w.heap.size, args := #[] }], W1, { target := .fn (.func gf) lb, args := #[.func (.yield (w.heap.size + 1)) #[] #[]] }, W1, gf,
    #[.func (.yield (w.heap.size + 1)) #[] #[]] ++ lb, W1, ?_, ?_, fun _ _ => trivial, ?_, fun _ => Nat.succ_le_succ (Nat.zero_le _), ?_⟩
  · rw [← hW1]; exact run_enterLoop_outer _ _ _ _ _
  · simp only [resolve, hg]
    simp [go_sem]
  · simp [invoke, go_sem, eg]
  · refine h1.mono ?_
    rintro e W' ⟨⟨v, rfl⟩, hl, hQ⟩
    exact ⟨none, _, run_endLoop hl (by simp), hQ⟩
/-- The same, the heap's size and the record by their names. -/
theorem range_size {g : Operand} {ps : Array Tmp} {assign body : Code} {Q : Exit → Act → World → Prop} {a : Act} {w : World} {gf : Nat} {lb : Array Value} (D : Nat) (hD : w.heap.size = D)
    (hg : a.eval g = .func (.func gf) #[] lb) (eg : ∀ args w, (callFunc gf args).run P w = .ok (.enter gf args) w)
    (h : ∀ (fn : FuncId) (rec : LoopState → Obj) (W1 : World), rec = recL fn a.tmps ps assign body D → (w.alloc (.deferred (some []))).alloc (rec .ready) = W1 →
      CallsIn Fence.wide n P gf (#[.func (.yield (D + 1)) #[] #[]] ++ lb) W1
        fun e W' => (∃ v, e = .returned v) ∧ W'.heap[D + 1]? = some (rec .ready) ∧
          Q .normal { a with defers := { target := .collected D, args := #[] } :: a.defers } (W'.putObj (D + 1) (rec .exhausted))) :
    (Code.rangeFunc g ps assign body).wpIn Fence.wide (n + 1) P Q a w := by
  subst hD
  exact range_at hg eg fun fn => h fn _ _ rfl rfl
end Go.Proofs.YtekpjcdnmidgiaaDoor
