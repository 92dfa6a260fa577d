/- A part is taken off the list. -/
import Derived.Test.YtmlgcjfcbokibaaDoorPoF
import Derived.Deep.RegionLaw
import Derived.Laws.IdiomCopy
import Derived.Lib.SliceRun
namespace Go.Proofs.YtmlgcjfcbokibaaDoor.Po
open Go Go.RowKit

/-- Parts that lie at the beginning of a block of eleven. -/
def FullAt (F P : Nat) (u : List Nat) (w : World) : Prop := ∃ X : List Value, X.length = 66 ∧ X.take (u.length * 6) = flatP P u ∧ CellsAt F X.toArray w
theorem FullAt.parts {F P : Nat} {u : List Nat} {w : World} (h : FullAt F P u w) : PartsAt F P u w := by
  obtain ⟨X, h1, h2, h3⟩ := h
  have hat : ∀ (i : Nat) (v : Value), (flatP P u).toArray[i]? = some v → X.toArray[i]? = some v := fun i v hi => by
    rw [List.getElem?_toArray] at hi ⊢
    rw [← h2, List.getElem?_take] at hi
    split at hi
    · exact hi
    · cases hi
  exact ⟨h3.lt, fun i v hi => h3.cell i v (hat i v hi), fun i v hi => h3.fro i v (hat i v hi)⟩
theorem PartsAt.full {F P : Nat} {w : World} (h : PartsAt F P (List.range 11) w) : FullAt F P (List.range 11) w :=
  ⟨flatP P (List.range 11), by rw [flatP_len]; rfl, by rw [List.take_of_length_le (by rw [flatP_len]; exact Nat.le_refl _)], h⟩
theorem FullAt.below {F P : Nat} {u : List Nat} {w w' : World} (h : FullAt F P u w) (hB : Below w.heap.size w w') : FullAt F P u w' := by
  obtain ⟨X, h1, h2, h3⟩ := h
  exact ⟨X, h1, h2, h3.below hB⟩
theorem FullAt.mov {F P : Nat} {u : List Nat} {w w' : World} {S : Nat → Prop} (h : FullAt F P u w) (hM : Mov S w w') (hn : ¬ S F) : FullAt F P u w' := by
  obtain ⟨X, h1, h2, h3⟩ := h
  exact ⟨X, h1, h2, cells_mov h3 hM hn⟩
/-- Several cells of a block stored, one behind the other. -/
theorem CellsAt.sets {b : Nat} : ∀ (news : List Value) (o : Nat) (X : List Value) (w : World), CellsAt b X.toArray w → o + news.length ≤ X.length → CellsAt b (X.take o ++ news ++ X.drop (o + news.length)).toArray (w.setCells b o news)
  | [], o, X, w, h, _ => by simpa [World.setCells] using h
  | v :: r, o, X, w, h, hl => by
    simp only [List.length_cons] at hl
    have h1 := h.set o v (by simp; omega)
    rw [List.setIfInBounds_toArray] at h1
    have h2 := CellsAt.sets r (o + 1) (X.set o v) _ h1 (by simp; omega)
    have e : (X.set o v).take (o + 1) ++ r ++ (X.set o v).drop (o + 1 + r.length) = X.take o ++ v :: r ++ X.drop (o + (v :: r).length) := by
      rw [List.drop_set_of_lt (by omega), List.set_eq_take_append_cons_drop, if_pos (by omega)]
      have : (X.take o ++ v :: X.drop (o + 1)).take (o + 1) = X.take o ++ [v] := by
        rw [List.take_append, List.length_take, Nat.min_eq_left (by omega), List.take_of_length_le (by simp; omega)]
        simp
      rw [this]
      simp only [List.length_cons, List.append_assoc, List.cons_append, List.nil_append]
      rw [show o + 1 + r.length = o + (r.length + 1) by omega]
    rw [e] at h2
    exact h2
theorem Mov.sets {S : Nat → Prop} {a : World} {b : Nat} (hb : S b) : ∀ (news : List Value) (o : Nat) (w : World), Mov S a w → Mov S a (w.setCells b o news)
  | [], _, _, h => h
  | v :: r, o, _w, h => Mov.sets hb r (o + 1) _ (h.set hb o v)
theorem flatP_take (P : Nat) (u : List Nat) (i : Nat) : (flatP P u).take (i * 6) = flatP P (u.take i) := by
  induction u generalizing i with
  | nil => simp [flatP]
  | cons x r ih =>
    cases i with
    | zero => simp [flatP]
    | succ i =>
      have := ih i
      unfold flatP at this ⊢
      rw [List.flatMap_cons, List.take_succ_cons, List.flatMap_cons, ← this, show (i + 1) * 6 = (fieldL P x).length + i * 6 by simp [fieldL]; omega, List.take_length_add_append]
theorem flatP_drop (P : Nat) (u : List Nat) (i : Nat) : (flatP P u).drop (i * 6) = flatP P (u.drop i) := by
  induction u generalizing i with
  | nil => simp [flatP]
  | cons x r ih =>
    cases i with
    | zero => simp [flatP]
    | succ i =>
      have := ih i
      unfold flatP at this ⊢
      rw [List.flatMap_cons, List.drop_succ_cons, ← this, show (i + 1) * 6 = (fieldL P x).length + i * 6 by simp [fieldL]; omega, List.drop_length_add_append]
theorem flatP_app (P : Nat) (a b : List Nat) : flatP P (a ++ b) = flatP P a ++ flatP P b := by simp [flatP]
theorem flatP_one (P : Nat) (u : List Nat) : ∀ x ∈ flatP P u, x.oneCell' = true := by
  intro x hx
  unfold flatP at hx
  obtain ⟨k, _, hk⟩ := List.mem_flatMap.1 hx
  simp only [fieldL, List.mem_cons, List.not_mem_nil, or_false] at hk
  rcases hk with rfl | rfl | rfl | rfl | rfl | rfl <;> rfl
theorem info_field : (Tryd.prog.info? 70).map (fun i => (i.zero, i.size, i.bytes)) = some (some (.agg #[.string ⟨#[]⟩, .int .i64 0, .int .i64 0, .pointer none, .pointer none, .pointer none]), 6, 56) := by kernel_rfl
def zeroF : List Value := [.string ⟨#[]⟩, .int .i64 0, .int .i64 0, .pointer none, .pointer none, .pointer none]
/-- clear of one part. -/
theorem run_clear_part (W : World) (ty : TypeId) (b o c : Nat) (hc : ∀ j, j < 6 → (W.cell? ⟨b, o + j, none⟩).isSome = true) (hf : ∀ j, j < 6 → W.frozen? ⟨b, o + j, none⟩ = false) :
    (Builtin.clear_ #[63] ty #[.slice (some ⟨b, o, none⟩) 1 c]).run Tryd.prog W = .ok (.tuple #[]) (W.setCells b o zeroF) := by
  have hst := run_storeCells_cells (P := Tryd.prog) b o zeroF 0 W (fun j hj => by simpa using hc j hj) (fun j hj => by simpa using hf j hj) (by decide)
  simp only [Nat.add_zero] at hst
  obtain ⟨i, hi, hz0, hz1, hz2⟩ := info_parts info_field
  have hv : (zeroValue 70).run Tryd.prog W = .ok (.agg zeroF.toArray) W := by
    simp [zeroValue, typeInfo, hi, hz0, zeroF]
  have hzc : (Builtin.zeroCells (Value.agg zeroF.toArray).cells 1).toList = zeroF := by kernel_rfl
  simp [Builtin.clear_, run_underlying Tryd.underlying63, hv, hzc, hst]
end Go.Proofs.YtmlgcjfcbokibaaDoor.Po
