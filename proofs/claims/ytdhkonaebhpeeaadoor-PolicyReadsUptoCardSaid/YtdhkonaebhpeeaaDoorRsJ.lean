/- A part is taken off the list. A part is taken off the list, walked. -/
import Derived.Test.YtdhkonaebhpeeaaDoorPoF
import Derived.Deep.RegionLaw
import Derived.Laws.IdiomCopy
import Derived.Lib.SliceRun
namespace Go.Proofs.YtdhkonaebhpeeaaDoor.Po
open Go Go.RowKit

/-- Parts that lie at the beginning of a block of eleven. -/
def FullAt (F P : Nat) (u : List Nat) (w : World) : Prop := ∃ X : List Value, X.length = 66 ∧ X.take (u.length * 6) = flatP P u ∧ CellsAt F X.toArray w
theorem FullAt.parts {F P : Nat} {u : List Nat} {w : World} (h : FullAt F P u w) : PartsAt F P u w := by
  obtain ⟨X, h1, h2, h3⟩ := h
  have hat : ∀ (i : Nat) (v : Value), (flatP P u).toArray[i]? = some v → X.toArray[i]? = some v := fun i v hi => by
    rw [List.getElem?_toArray] at hi ⊢
    rw [← h2, List.getElem?_take] at hi
    split at hi
    · exact hi
    · cases hi
  exact ⟨h3.lt, fun i v hi => h3.cell i v (hat i v hi), fun i v hi => h3.fro i v (hat i v hi)⟩
theorem PartsAt.full {F P : Nat} {w : World} (h : PartsAt F P (List.range 11) w) : FullAt F P (List.range 11) w :=
  ⟨flatP P (List.range 11), by rw [flatP_len]; rfl, by rw [List.take_of_length_le (by rw [flatP_len]; exact Nat.le_refl _)], h⟩
theorem FullAt.below {F P : Nat} {u : List Nat} {w w' : World} (h : FullAt F P u w) (hB : Below w.heap.size w w') : FullAt F P u w' := by
  obtain ⟨X, h1, h2, h3⟩ := h
  exact ⟨X, h1, h2, h3.below hB⟩
theorem FullAt.mov {F P : Nat} {u : List Nat} {w w' : World} {S : Nat → Prop} (h : FullAt F P u w) (hM : Mov S w w') (hn : ¬ S F) : FullAt F P u w' := by
  obtain ⟨X, h1, h2, h3⟩ := h
  exact ⟨X, h1, h2, cells_mov h3 hM hn⟩
/-- Several cells of a block stored, one behind the other. -/
theorem CellsAt.sets {b : Nat} : ∀ (news : List Value) (o : Nat) (X : List Value) (w : World), CellsAt b X.toArray w → o + news.length ≤ X.length → CellsAt b (X.take o ++ news ++ X.drop (o + news.length)).toArray (w.setCells b o news)
  | [], o, X, w, h, _ => by simpa [World.setCells] using h
  | v :: r, o, X, w, h, hl => by
    simp only [List.length_cons] at hl
    have h1 := h.set o v (by simp; omega)
    rw [List.setIfInBounds_toArray] at h1
    have h2 := CellsAt.sets r (o + 1) (X.set o v) _ h1 (by simp; omega)
    have e : (X.set o v).take (o + 1) ++ r ++ (X.set o v).drop (o + 1 + r.length) = X.take o ++ v :: r ++ X.drop (o + (v :: r).length) := by
      rw [List.drop_set_of_lt (by omega), List.set_eq_take_append_cons_drop, if_pos (by omega)]
      have : (X.take o ++ v :: X.drop (o + 1)).take (o + 1) = X.take o ++ [v] := by
        rw [List.take_append, List.length_take, Nat.min_eq_left (by omega), List.take_of_length_le (by simp; omega)]
        simp
      rw [this]
      simp only [List.length_cons, List.append_assoc, List.cons_append, List.nil_append]
      rw [show o + 1 + r.length = o + (r.length + 1) by omega]
    rw [e] at h2
    exact h2
theorem Mov.sets {S : Nat → Prop} {a : World} {b : Nat} (hb : S b) : ∀ (news : List Value) (o : Nat) (w : World), Mov S a w → Mov S a (w.setCells b o news)
  | [], _, _, h => h
  | v :: r, o, _w, h => Mov.sets hb r (o + 1) _ (h.set hb o v)
theorem flatP_take (P : Nat) (u : List Nat) (i : Nat) : (flatP P u).take (i * 6) = flatP P (u.take i) := by
  induction u generalizing i with
  | nil => simp [flatP]
  | cons x r ih =>
    cases i with
    | zero => simp [flatP]
    | succ i =>
      have := ih i
      unfold flatP at this ⊢
      rw [List.flatMap_cons, List.take_succ_cons, List.flatMap_cons, ← this, show (i + 1) * 6 = (fieldL P x).length + i * 6 by simp [fieldL]; omega, List.take_length_add_append]
theorem flatP_drop (P : Nat) (u : List Nat) (i : Nat) : (flatP P u).drop (i * 6) = flatP P (u.drop i) := by
  induction u generalizing i with
  | nil => simp [flatP]
  | cons x r ih =>
    cases i with
    | zero => simp [flatP]
    | succ i =>
      have := ih i
      unfold flatP at this ⊢
      rw [List.flatMap_cons, List.drop_succ_cons, ← this, show (i + 1) * 6 = (fieldL P x).length + i * 6 by simp [fieldL]; omega, List.drop_length_add_append]
theorem flatP_app (P : Nat) (a b : List Nat) : flatP P (a ++ b) = flatP P a ++ flatP P b := by simp [flatP]
theorem flatP_one (P : Nat) (u : List Nat) : ∀ x ∈ flatP P u, x.oneCell' = true := by
  intro x hx
  unfold flatP at hx
  obtain ⟨k, _, hk⟩ := List.mem_flatMap.1 hx
  simp only [fieldL, List.mem_cons, List.not_mem_nil, or_false] at hk
  rcases hk with rfl | rfl | rfl | rfl | rfl | rfl <;> rfl
theorem info_field : (Tryd.prog.info? 70).map (fun i => (i.zero, i.size, i.bytes)) = some (some (.agg #[.string ⟨#[]⟩, .int .i64 0, .int .i64 0, .pointer none, .pointer none, .pointer none]), 6, 56) := by kernel_rfl
def zeroF : List Value := [.string ⟨#[]⟩, .int .i64 0, .int .i64 0, .pointer none, .pointer none, .pointer none]
/-- clear of one part. -/
theorem run_clear_part (W : World) (ty : TypeId) (b o c : Nat) (hc : ∀ j, j < 6 → (W.cell? ⟨b, o + j, none⟩).isSome = true) (hf : ∀ j, j < 6 → W.frozen? ⟨b, o + j, none⟩ = false) :
    (Builtin.clear_ #[63] ty #[.slice (some ⟨b, o, none⟩) 1 c]).run Tryd.prog W = .ok (.tuple #[]) (W.setCells b o zeroF) := by
  have hst := run_storeCells_cells (P := Tryd.prog) b o zeroF 0 W (fun j hj => by simpa using hc j hj) (fun j hj => by simpa using hf j hj) (by decide)
  simp only [Nat.add_zero] at hst
  obtain ⟨i, hi, hz0, hz1, hz2⟩ := info_parts info_field
  have hv : (zeroValue 70).run Tryd.prog W = .ok (.agg zeroF.toArray) W := by
    simp [zeroValue, typeInfo, hi, hz0, zeroF]
  have hzc : (Builtin.zeroCells (Value.agg zeroF.toArray).cells 1).toList = zeroF := by kernel_rfl
  simp [Builtin.clear_, run_underlying Tryd.underlying63, hv, hzc, hst]
end Go.Proofs.YtdhkonaebhpeeaaDoor.Po

namespace Go.Proofs.YtdhkonaebhpeeaaDoor.Po
open Go Go.RowKit

theorem erase_parts (P : Nat) (u : List Nat) (i : Nat) (_hi : i < u.length) : flatP P (u.eraseIdx i) = (flatP P u).take (i * 6) ++ (flatP P u).drop ((i + 1) * 6) := by
  rw [flatP_take, flatP_drop, ← flatP_app, List.eraseIdx_eq_take_drop_succ]
set_option maxRecDepth 100000 in
set_option maxHeartbeats 8000000 in
theorem delete_mid (F P : Nat) (u : List Nat) (i : Nat) (hi : i < u.length) (hu : u.length ≤ 11) (h10 : i < 10) (w : World) (h : FullAt F P u w) :
    Calls Tryd.prog 52 #[.slice (some ⟨F, 0, none⟩) u.length 11, .int .i64 (i : Int), .int .i64 ((i : Int) + 1)] w fun e w' =>
      e = .returned (.slice (some ⟨F, 0, none⟩) (u.length - 1) 11) ∧ FullAt F P (u.eraseIdx i) w' ∧ Mov (fun j => j = F) w w' := by
  obtain ⟨X, hX1, hX2, hX3⟩ := h
  obtain ⟨i0, hi0, _, hz1, _⟩ := info_parts info_field
  obtain ⟨n, hn⟩ : ∃ n, u.length = n := ⟨_, rfl⟩
  have hfl : (flatP P (u.drop (i + 1))).length = (n - (i + 1)) * 6 := by rw [flatP_len, List.length_drop, hn]
  have hdr : flatP P (u.drop (i + 1)) = (X.take (n * 6)).drop ((i + 1) * 6) := by rw [← flatP_drop, ← hX2, hn]
  have hnews : ∀ j x, (flatP P (u.drop (i + 1)))[j]? = some x → w.drew.cell? ((⟨F, (i + 1) * 6, none⟩ : Addr).add j) = some x := fun j x hj => by
    rw [hdr, List.getElem?_drop, List.getElem?_take] at hj
    split at hj
    · rw [Addr.add_lit]
      exact hX3.cell _ _ (by rw [List.getElem?_toArray]; exact hj)
    · cases hj
  have hone := flatP_one P (u.drop (i + 1))
  have hspare : ∀ j, j < (flatP P (u.drop (i + 1))).length → (w.drew.cell? ⟨F, 0 + i * 6 + j, none⟩).isSome = true ∧ w.drew.frozen? ⟨F, 0 + i * 6 + j, none⟩ = false := fun j hj => by
    rw [hfl] at hj
    have hlt : 0 + i * 6 + j < X.length := by rw [hX1]; omega
    have hx : X.toArray[0 + i * 6 + j]? = some X[0 + i * 6 + j] := by rw [List.getElem?_toArray, List.getElem?_eq_getElem hlt]
    exact ⟨Option.isSome_iff_exists.2 ⟨_, hX3.cell _ _ hx⟩, hX3.fro _ _ hx⟩
  have HN := Lib.hid hn
  have HF := Lib.hid hfl
  have HD := Lib.hid hdr
  have HX1 := Lib.hid hX1
  have HX2 := Lib.hid hX2
  have HX3 := Lib.hid hX3
  have HA := Lib.hid hnews
  have HO := Lib.hid hone
  have HS := Lib.hid hspare
  have HZ := Lib.hid hz1
  have HI := Lib.hid hi0
  have hie : ((i : Int) == (i : Int) + 1) = false := by simp; omega
  rw [hn] at hi hu ⊢
  have hFl := hX3.lt
  have hi1 : (i : Int) + 1 ≤ (n : Int) := by omega
  have hnot : ¬ (11 = i + 1) := by omega
  have hi2 : (i : Int) ≤ 11 := by omega
  have hi5 : (0 : Int) ≤ (i : Int) + 1 := by omega
  have hi3 : (i : Int) + 1 ≤ 11 := by omega
  have hi4 : (n : Int) ≤ 11 := by omega
  clear hfl hdr hnews hone hspare hX1 hX2 hX3 hn hz1 hi0
  go_enter Tryd.func52, Tryd.ntmps52
  go_wp2
  go_region_law (refine step_append_room rfl (.tmp 22) (.tmp 25) 63 rfl 70 i0 6 Tryd.underlying63 HI.out HZ.out F 0 i 11 (by simp [Act.eval, Act.put]) ⟨F, (i + 1) * 6, none⟩ (n - (i + 1)) (10 - i) (flatP P (u.drop (i + 1))) (by simp [Act.eval, Act.put]) HF.out HA.out HO.out (by omega) HS.out ?_)
  have hset := CellsAt.sets (flatP P (u.drop (i + 1))) (i * 6) X w.drew HX3.out.drew (by rw [HF.out, HX1.out]; omega)
  have hmov := Mov.sets (S := fun j => j = F) (a := w) (b := F) rfl (flatP P (u.drop (i + 1))) (i * 6) w.drew ((Mov.refl _ _).drew)
  generalize w.drew.setCells F (i * 6) (flatP P (u.drop (i + 1))) = W at *
  obtain ⟨Y, hY⟩ : ∃ Y, X.take (i * 6) ++ flatP P (u.drop (i + 1)) ++ X.drop (i * 6 + (flatP P (u.drop (i + 1))).length) = Y := ⟨_, rfl⟩
  rw [hY] at hset
  obtain ⟨m, hm⟩ : ∃ m, n = m + 1 := ⟨n - 1, by omega⟩
  have hYl : Y.length = 66 := by
    have := HX1.out
    have := HF.out
    rw [← hY, List.length_append, List.length_append, List.length_take, List.length_drop]
    omega
  have hYt : Y.take (m * 6) = flatP P (u.eraseIdx i) := by
    have e1 : (X.take (i * 6) ++ flatP P (u.drop (i + 1))).length = m * 6 := by rw [List.length_append, List.length_take, HF.out, HX1.out, hm]; omega
    rw [← hY, List.take_left' e1, erase_parts P u i (by rw [HN.out]; exact hi), flatP_drop, ← HX2.out, HN.out, List.take_take, Nat.min_eq_left (by omega)]
  subst hm
  have hidx : ∀ j, j < 6 → Y.toArray[m * 6 + j]? = some (Y.getD (m * 6 + j) undef) := fun j hj => by
    rw [List.getElem?_toArray, List.getD_eq_getElem?_getD, List.getElem?_eq_getElem (by omega)]
    rfl
  have hclr := fun ty c => run_clear_part W ty F (m * 6) c (fun j hj => Option.isSome_iff_exists.2 ⟨_, hset.cell _ _ (hidx j hj)⟩) (fun j hj => hset.fro _ _ (hidx j hj))
  have HEND : Hid (FullAt F P (u.eraseIdx i) (W.setCells F (m * 6) zeroF) ∧ Mov (fun j => j = F) w (W.setCells F (m * 6) zeroF)) := Lib.hid (by
    refine ⟨⟨Y.take (m * 6) ++ zeroF ++ Y.drop (m * 6 + zeroF.length), ?_, ?_, CellsAt.sets zeroF (m * 6) Y W hset (by rw [hYl, show zeroF.length = 6 from rfl]; omega)⟩, Mov.sets (S := fun j => j = F) rfl _ _ _ hmov⟩
    · rw [List.length_append, List.length_append, List.length_take, List.length_drop, hYl, show zeroF.length = 6 from rfl]
      omega
    · have : (u.eraseIdx i).length * 6 = (Y.take (m * 6)).length := by rw [List.length_eraseIdx_of_lt (by rw [HN.out]; exact hi), HN.out, List.length_take, hYl]; omega
      rw [this, List.append_assoc, List.take_left' rfl, hYt])
  have hm1 : i + (m + 1 - (i + 1)) = m := by omega
  have hm2 : ¬ (11 = m) := by omega
  have hm3 : (m : Int) ≤ (m : Int) + 1 := by omega
  have hm4 : (m : Int) + 1 ≤ 11 := by omega
  have hm5 : m + 1 - m = 1 := by omega
  simp only [hm1, Act.put]
  clear hset hmov hY hYl hYt hidx HX3 HX2 HX1 HF HA HO HS HD
  go_wp2
  go_ret
  exact ⟨rfl, HEND.out⟩
set_option maxRecDepth 100000 in
set_option maxHeartbeats 8000000 in
theorem delete_end (F P : Nat) (u : List Nat) (hu : u.length = 11) (w : World) (h : FullAt F P u w) :
    Calls Tryd.prog 52 #[.slice (some ⟨F, 0, none⟩) 11 11, .int .i64 10, .int .i64 11] w fun e w' =>
      e = .returned (.slice (some ⟨F, 0, none⟩) 10 11) ∧ FullAt F P (u.eraseIdx 10) w' ∧ Mov (fun j => j = F) w w' := by
  obtain ⟨X, hX1, hX2, hX3⟩ := h
  obtain ⟨i0, hi0, _, hz1, _⟩ := info_parts info_field
  have hFl := hX3.lt
  have hidx : ∀ j, j < 6 → X.toArray[60 + j]? = some (X.getD (60 + j) undef) := fun j hj => by
    rw [List.getElem?_toArray, List.getD_eq_getElem?_getD, List.getElem?_eq_getElem (by omega)]
    rfl
  have hclr := fun ty c => run_clear_part w.drew ty F 60 c (fun j hj => Option.isSome_iff_exists.2 ⟨_, hX3.drew.cell _ _ (hidx j hj)⟩) (fun j hj => hX3.drew.fro _ _ (hidx j hj))
  have HEND : Hid (FullAt F P (u.eraseIdx 10) (w.drew.setCells F 60 zeroF) ∧ Mov (fun j => j = F) w (w.drew.setCells F 60 zeroF)) := Lib.hid (by
    refine ⟨⟨X.take 60 ++ zeroF ++ X.drop (60 + zeroF.length), ?_, ?_, CellsAt.sets zeroF 60 X w.drew hX3.drew (by rw [hX1, show zeroF.length = 6 from rfl]; omega)⟩, Mov.sets (S := fun j => j = F) rfl _ _ _ ((Mov.refl _ _).drew)⟩
    · rw [List.length_append, List.length_append, List.length_take, List.length_drop, hX1, show zeroF.length = 6 from rfl]
      omega
    · have e : (u.eraseIdx 10).length * 6 = (X.take 60).length := by rw [List.length_eraseIdx_of_lt (by omega), hu, List.length_take, hX1]; omega
      rw [e, List.append_assoc, List.take_left' rfl, erase_parts P u 10 (by omega), ← hX2, hu, List.take_take, List.drop_of_length_le (by rw [List.length_take, hX1]; omega)]
      simp)
  have HZ := Lib.hid hz1
  have HI := Lib.hid hi0
  have hnil : Hid (∀ (j : Nat) (x : Value), ([] : List Value)[j]? = some x → w.drew.cell? ((⟨F, 0, none⟩ : Addr).add j) = some x) := Lib.hid (fun j x hj => by simp at hj)
  have hnil2 : Hid (∀ x ∈ ([] : List Value), x.oneCell' = true) := Lib.hid (fun x hx => by simp at hx)
  have hnil3 : Hid (∀ j, j < ([] : List Value).length → (w.drew.cell? ⟨F, 0 + 10 * 6 + j, none⟩).isSome = true ∧ w.drew.frozen? ⟨F, 0 + 10 * 6 + j, none⟩ = false) := Lib.hid (fun j hj => by simp at hj)
  clear hX1 hX2 hX3 hz1 hi0 hidx
  go_enter Tryd.func52, Tryd.ntmps52
  go_wp2
  go_region_law (refine step_append_room rfl (.tmp 22) (.tmp 25) 63 rfl 70 i0 6 Tryd.underlying63 HI.out HZ.out F 0 10 11 (by simp [Act.eval, Act.put]) ⟨F, 0, none⟩ 0 0 [] (by simp [Act.eval, Act.put]) rfl hnil.out hnil2.out (by omega) hnil3.out ?_)
  simp only [Act.put, World.setCells]
  go_wp2
  go_ret
  exact ⟨rfl, HEND.out⟩
theorem delete_any (F P : Nat) (u : List Nat) (i : Nat) (hi : i < u.length) (hu : u.length ≤ 11) (w : World) (h : FullAt F P u w) :
    Calls Tryd.prog 52 #[.slice (some ⟨F, 0, none⟩) u.length 11, .int .i64 (i : Int), .int .i64 ((i : Int) + 1)] w fun e w' =>
      e = .returned (.slice (some ⟨F, 0, none⟩) (u.length - 1) 11) ∧ FullAt F P (u.eraseIdx i) w' ∧ Mov (fun j => j = F) w w' := by
  by_cases h10 : i < 10
  · exact delete_mid F P u i hi hu h10 w h
  · obtain rfl : i = 10 := by omega
    have hl : u.length = 11 := by omega
    rw [hl]
    exact delete_end F P u hl w h
end Go.Proofs.YtdhkonaebhpeeaaDoor.Po

