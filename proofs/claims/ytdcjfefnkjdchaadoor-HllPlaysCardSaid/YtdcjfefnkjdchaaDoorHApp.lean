/- Numbers appended to a slice of one's own. -/
import Derived.Test.YtdcjfefnkjdchaaDoorHOpen
import Derived.Laws.AppendOwnNone
namespace Go.Proofs.YtdcjfefnkjdchaaDoor
open Go Go.RowKit

theorem Nums.small {p : Option Addr} {hs : List Nat} {w : World} (h : Nums p hs w) : ∀ x ∈ hs, x < 18446744073709551616 := fun x hx => by
  obtain ⟨i, hi, rfl⟩ := List.mem_iff_getElem.1 hx
  obtain ⟨_, _, _, _, _, h4⟩ := h i hi
  exact h4
def u64s (hs : List Nat) : List Value := hs.map fun (x : Nat) => Value.int .u64 (x : Int)
/-- A slice of numbers that lies in a block from B on. -/
def OwnU (B : Nat) (v : Value) (hs : List Nat) (w : World) : Prop := w.ownsRow B 31 1 v hs.length (u64s hs)
theorem info_u64 : (Tryd.prog.info? 31).map (fun i => (i.zero, i.size, i.bytes)) = some (some (.int .u64 0), 1, 8) := by kernel_rfl
theorem OwnU.nil (B : Nat) (w : World) : OwnU B (.slice none 0 0) [] w := World.ownsRow_nil _ _ _ _
theorem OwnU.slice {B : Nat} {v : Value} {hs : List Nat} {w : World} (h : OwnU B v hs w) (hl : ∀ x ∈ hs, x < 18446744073709551616) :
    ∃ p cap, v = .slice p hs.length cap ∧ Nums p hs w ∧ (p = none → cap = 0) ∧ hs.length ≤ cap ∧ cap ≤ maxLen := by
  rcases h.2 with ⟨rfl, h0⟩ | ⟨g, cap, cur, rfl, hb, hg, hn, hm, _, _⟩
  · have : hs = [] := List.eq_nil_of_length_eq_zero h0
    subst this
    exact ⟨none, 0, rfl, Nums.nil _ _, fun _ => rfl, Nat.le_refl _, Nat.zero_le _⟩
  · refine ⟨some ⟨g, 0, none⟩, cap, rfl, fun k hk => ⟨g, 0, rfl, (Array.getElem?_eq_some_iff.1 hg).1, ?_, hl _ (List.getElem_mem _)⟩, fun h => by (cases h), hn, hm⟩
    rw [Nat.zero_add, World.ownsRow.cellAt h k (by omega)]
    unfold u64s
    rw [List.getElem?_map, List.getElem?_eq_getElem hk]
    rfl
theorem append_run {B : Nat} {v : Value} {hs ms : List Nat} {p : Option Addr} {cap : Nat} {w : World} (ty : TypeId) (hO : OwnU B v hs w) (hN : Nums p ms w) (hz : p = none → cap = 0) (hlen : hs.length + ms.length ≤ 1000000) (hB : B ≤ w.heap.size) :
    ∃ v' w', (Builtin.append_ #[32, 32] ty #[v, .slice p ms.length cap]).run Tryd.prog w = .ok v' w' ∧ OwnU B v' (hs ++ ms) w' ∧ Below B w w' := by
  obtain ⟨i, hi, hz0, hz1, hz2⟩ := info_parts info_u64
  match p, hz, hN with
  | none, hz, hN =>
    have : ms = [] := by
      rcases ms with _ | ⟨a, r⟩
      · rfl
      · obtain ⟨_, _, h, _⟩ := hN 0 (by simp)
        cases h
    subst this
    obtain rfl := hz rfl
    refine ⟨v, w, run_append_owned_none (w := w) B 32 ty 31 i 1 Tryd.underlying32 hi v hs.length (u64s hs) hO, ?_, Below.refl _ _⟩
    rw [List.append_nil]
    exact hO
  | some ad, hz, hN =>
    have hnews : ∀ j u, (u64s ms)[j]? = some u → w.cell? (ad.add j) = some u := fun j u hj => by
      have hjl : j < ms.length := by
        have := (List.getElem?_eq_some_iff.1 hj).1
        simpa [u64s] using this
      obtain ⟨C, off, h1, h2, h3, h4⟩ := hN j hjl
      obtain rfl := Option.some.inj h1
      rw [addr_add, h3, ← hj]
      unfold u64s
      rw [List.getElem?_map, List.getElem?_eq_getElem hjl]
      rfl
    obtain ⟨v', w', h1, h2, h3, _⟩ := run_append_own (P := Tryd.prog) w B 32 ty 31 i (.int .u64 0) 1 8 Tryd.underlying32 hi hz0 hz1 hz2 rfl (by decide) v hs.length (u64s hs) hO ad ms.length cap (u64s ms) (by simp [u64s]) hnews
      (fun u hu => by obtain ⟨x, _, rfl⟩ := List.mem_map.1 hu; rfl) (by unfold maxLen; omega) (by omega) hB
    refine ⟨v', w', h1, ?_, ?_⟩
    · unfold OwnU
      rw [List.length_append]
      rw [show u64s (hs ++ ms) = u64s hs ++ u64s ms from List.map_append]
      exact h2
    · exact (Below.refl B w).grown h3 hB fun k hk => (World.ownsRow.lt hO k hk).1
/-- An append of which the run is known. -/
theorem wpList_append_run {P : Program} {w w' : World} {ops : Array Oper} {rest : List Oper} {o : Oper} {a : Act} {Q : Exit → Act → World → Prop} (hgd : o.guard = none) (s x : Operand) (t : TypeId)
    (ho : o.op = .call { callee := .builtin .append, args := #[s, x], argTypes := #[t, t] }) (v u v' : Value) (hs : a.eval s = v) (hx : a.eval x = u)
    (hrun : (Builtin.append_ #[t, t] o.type #[v, u]).run P w = .ok v' w') (h : wpList P ops Q rest (a.put o.dst v') w') : wpList P ops Q (o :: rest) a w := by
  refine wpList_plain hgd fun K hK => ?_
  unfold Oper.wp
  simp [execOp, ho, resolve, invoke, builtin, hs, hx, hrun, Result.andThen]
  exact hK _ _ h
end Go.Proofs.YtdcjfefnkjdchaaDoor
