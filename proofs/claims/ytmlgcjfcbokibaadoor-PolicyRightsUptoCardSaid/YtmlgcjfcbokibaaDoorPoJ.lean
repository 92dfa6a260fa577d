/- A part is taken off the list, walked. -/
import Derived.Test.YtmlgcjfcbokibaaDoorPoI
namespace Go.Proofs.YtmlgcjfcbokibaaDoor.Po
open Go Go.RowKit

theorem erase_parts (P : Nat) (u : List Nat) (i : Nat) (_hi : i < u.length) : flatP P (u.eraseIdx i) = (flatP P u).take (i * 6) ++ (flatP P u).drop ((i + 1) * 6) := by
  rw [flatP_take, flatP_drop, ← flatP_app, List.eraseIdx_eq_take_drop_succ]
set_option maxRecDepth 100000 in
set_option maxHeartbeats 8000000 in
theorem delete_mid (F P : Nat) (u : List Nat) (i : Nat) (hi : i < u.length) (hu : u.length ≤ 11) (h10 : i < 10) (w : World) (h : FullAt F P u w) :
    Calls Tryd.prog 52 #[.slice (some ⟨F, 0, none⟩) u.length 11, .int .i64 (i : Int), .int .i64 ((i : Int) + 1)] w fun e w' =>
      e = .returned (.slice (some ⟨F, 0, none⟩) (u.length - 1) 11) ∧ FullAt F P (u.eraseIdx i) w' ∧ Mov (fun j => j = F) w w' := by
  obtain ⟨X, hX1, hX2, hX3⟩ := h
  obtain ⟨i0, hi0, _, hz1, _⟩ := info_parts info_field
  obtain ⟨n, hn⟩ : ∃ n, u.length = n := ⟨_, rfl⟩
  have hfl : (flatP P (u.drop (i + 1))).length = (n - (i + 1)) * 6 := by rw [flatP_len, List.length_drop, hn]
  have hdr : flatP P (u.drop (i + 1)) = (X.take (n * 6)).drop ((i + 1) * 6) := by rw [← flatP_drop, ← hX2, hn]
  have hnews : ∀ j x, (flatP P (u.drop (i + 1)))[j]? = some x → w.drew.cell? ((⟨F, (i + 1) * 6, none⟩ : Addr).add j) = some x := fun j x hj => by
    rw [hdr, List.getElem?_drop, List.getElem?_take] at hj
    split at hj
    · rw [Addr.add_lit]
      exact hX3.cell _ _ (by rw [List.getElem?_toArray]; exact hj)
    · cases hj
  have hone := flatP_one P (u.drop (i + 1))
  have hspare : ∀ j, j < (flatP P (u.drop (i + 1))).length → (w.drew.cell? ⟨F, 0 + i * 6 + j, none⟩).isSome = true ∧ w.drew.frozen? ⟨F, 0 + i * 6 + j, none⟩ = false := fun j hj => by
    rw [hfl] at hj
    have hlt : 0 + i * 6 + j < X.length := by rw [hX1]; omega
    have hx : X.toArray[0 + i * 6 + j]? = some X[0 + i * 6 + j] := by rw [List.getElem?_toArray, List.getElem?_eq_getElem hlt]
    exact ⟨Option.isSome_iff_exists.2 ⟨_, hX3.cell _ _ hx⟩, hX3.fro _ _ hx⟩
  have HN := Lib.hid hn
  have HF := Lib.hid hfl
  have HD := Lib.hid hdr
  have HX1 := Lib.hid hX1
  have HX2 := Lib.hid hX2
  have HX3 := Lib.hid hX3
  have HA := Lib.hid hnews
  have HO := Lib.hid hone
  have HS := Lib.hid hspare
  have HZ := Lib.hid hz1
  have HI := Lib.hid hi0
  have hie : ((i : Int) == (i : Int) + 1) = false := by simp; omega
  rw [hn] at hi hu ⊢
  have hFl := hX3.lt
  have hi1 : (i : Int) + 1 ≤ (n : Int) := by omega
  have hnot : ¬ (11 = i + 1) := by omega
  have hi2 : (i : Int) ≤ 11 := by omega
  have hi5 : (0 : Int) ≤ (i : Int) + 1 := by omega
  have hi3 : (i : Int) + 1 ≤ 11 := by omega
  have hi4 : (n : Int) ≤ 11 := by omega
  clear hfl hdr hnews hone hspare hX1 hX2 hX3 hn hz1 hi0
  go_enter Tryd.func52, Tryd.ntmps52
  go_wp2
  go_region_law (refine step_append_room rfl (.tmp 22) (.tmp 25) 63 rfl 70 i0 6 Tryd.underlying63 HI.out HZ.out F 0 i 11 (by simp [Act.eval, Act.put]) ⟨F, (i + 1) * 6, none⟩ (n - (i + 1)) (10 - i) (flatP P (u.drop (i + 1))) (by simp [Act.eval, Act.put]) HF.out HA.out HO.out (by omega) HS.out ?_)
  have hset := CellsAt.sets (flatP P (u.drop (i + 1))) (i * 6) X w.drew HX3.out.drew (by rw [HF.out, HX1.out]; omega)
  have hmov := Mov.sets (S := fun j => j = F) (a := w) (b := F) rfl (flatP P (u.drop (i + 1))) (i * 6) w.drew ((Mov.refl _ _).drew)
  generalize w.drew.setCells F (i * 6) (flatP P (u.drop (i + 1))) = W at *
  obtain ⟨Y, hY⟩ : ∃ Y, X.take (i * 6) ++ flatP P (u.drop (i + 1)) ++ X.drop (i * 6 + (flatP P (u.drop (i + 1))).length) = Y := ⟨_, rfl⟩
  rw [hY] at hset
  obtain ⟨m, hm⟩ : ∃ m, n = m + 1 := ⟨n - 1, by omega⟩
  have hYl : Y.length = 66 := by
    have := HX1.out
    have := HF.out
    rw [← hY, List.length_append, List.length_append, List.length_take, List.length_drop]
    omega
  have hYt : Y.take (m * 6) = flatP P (u.eraseIdx i) := by
    have e1 : (X.take (i * 6) ++ flatP P (u.drop (i + 1))).length = m * 6 := by rw [List.length_append, List.length_take, HF.out, HX1.out, hm]; omega
    rw [← hY, List.take_left' e1, erase_parts P u i (by rw [HN.out]; exact hi), flatP_drop, ← HX2.out, HN.out, List.take_take, Nat.min_eq_left (by omega)]
  subst hm
  have hidx : ∀ j, j < 6 → Y.toArray[m * 6 + j]? = some (Y.getD (m * 6 + j) undef) := fun j hj => by
    rw [List.getElem?_toArray, List.getD_eq_getElem?_getD, List.getElem?_eq_getElem (by omega)]
    rfl
  have hclr := fun ty c => run_clear_part W ty F (m * 6) c (fun j hj => Option.isSome_iff_exists.2 ⟨_, hset.cell _ _ (hidx j hj)⟩) (fun j hj => hset.fro _ _ (hidx j hj))
  have HEND : Hid (FullAt F P (u.eraseIdx i) (W.setCells F (m * 6) zeroF) ∧ Mov (fun j => j = F) w (W.setCells F (m * 6) zeroF)) := Lib.hid (by
    refine ⟨⟨Y.take (m * 6) ++ zeroF ++ Y.drop (m * 6 + zeroF.length), ?_, ?_, CellsAt.sets zeroF (m * 6) Y W hset (by rw [hYl, show zeroF.length = 6 from rfl]; omega)⟩, Mov.sets (S := fun j => j = F) rfl _ _ _ hmov⟩
    · rw [List.length_append, List.length_append, List.length_take, List.length_drop, hYl, show zeroF.length = 6 from rfl]
      omega
    · have : (u.eraseIdx i).length * 6 = (Y.take (m * 6)).length := by rw [List.length_eraseIdx_of_lt (by rw [HN.out]; exact hi), HN.out, List.length_take, hYl]; omega
      rw [this, List.append_assoc, List.take_left' rfl, hYt])
  have hm1 : i + (m + 1 - (i + 1)) = m := by omega
  have hm2 : ¬ (11 = m) := by omega
  have hm3 : (m : Int) ≤ (m : Int) + 1 := by omega
  have hm4 : (m : Int) + 1 ≤ 11 := by omega
  have hm5 : m + 1 - m = 1 := by omega
  simp only [hm1, Act.put]
  clear hset hmov hY hYl hYt hidx HX3 HX2 HX1 HF HA HO HS HD
  go_wp2
  go_ret
  exact ⟨rfl, HEND.out⟩
set_option maxRecDepth 100000 in
set_option maxHeartbeats 8000000 in
theorem delete_end (F P : Nat) (u : List Nat) (hu : u.length = 11) (w : World) (h : FullAt F P u w) :
    Calls Tryd.prog 52 #[.slice (some ⟨F, 0, none⟩) 11 11, .int .i64 10, .int .i64 11] w fun e w' =>
      e = .returned (.slice (some ⟨F, 0, none⟩) 10 11) ∧ FullAt F P (u.eraseIdx 10) w' ∧ Mov (fun j => j = F) w w' := by
  obtain ⟨X, hX1, hX2, hX3⟩ := h
  obtain ⟨i0, hi0, _, hz1, _⟩ := info_parts info_field
  have hFl := hX3.lt
  have hidx : ∀ j, j < 6 → X.toArray[60 + j]? = some (X.getD (60 + j) undef) := fun j hj => by
    rw [List.getElem?_toArray, List.getD_eq_getElem?_getD, List.getElem?_eq_getElem (by omega)]
    rfl
  have hclr := fun ty c => run_clear_part w.drew ty F 60 c (fun j hj => Option.isSome_iff_exists.2 ⟨_, hX3.drew.cell _ _ (hidx j hj)⟩) (fun j hj => hX3.drew.fro _ _ (hidx j hj))
  have HEND : Hid (FullAt F P (u.eraseIdx 10) (w.drew.setCells F 60 zeroF) ∧ Mov (fun j => j = F) w (w.drew.setCells F 60 zeroF)) := Lib.hid (by
    refine ⟨⟨X.take 60 ++ zeroF ++ X.drop (60 + zeroF.length), ?_, ?_, CellsAt.sets zeroF 60 X w.drew hX3.drew (by rw [hX1, show zeroF.length = 6 from rfl]; omega)⟩, Mov.sets (S := fun j => j = F) rfl _ _ _ ((Mov.refl _ _).drew)⟩
    · rw [List.length_append, List.length_append, List.length_take, List.length_drop, hX1, show zeroF.length = 6 from rfl]
      omega
    · have e : (u.eraseIdx 10).length * 6 = (X.take 60).length := by rw [List.length_eraseIdx_of_lt (by omega), hu, List.length_take, hX1]; omega
      rw [e, List.append_assoc, List.take_left' rfl, erase_parts P u 10 (by omega), ← hX2, hu, List.take_take, List.drop_of_length_le (by rw [List.length_take, hX1]; omega)]
      simp)
  have HZ := Lib.hid hz1
  have HI := Lib.hid hi0
  have hnil : Hid (∀ (j : Nat) (x : Value), ([] : List Value)[j]? = some x → w.drew.cell? ((⟨F, 0, none⟩ : Addr).add j) = some x) := Lib.hid (fun j x hj => by simp at hj)
  have hnil2 : Hid (∀ x ∈ ([] : List Value), x.oneCell' = true) := Lib.hid (fun x hx => by simp at hx)
  have hnil3 : Hid (∀ j, j < ([] : List Value).length → (w.drew.cell? ⟨F, 0 + 10 * 6 + j, none⟩).isSome = true ∧ w.drew.frozen? ⟨F, 0 + 10 * 6 + j, none⟩ = false) := Lib.hid (fun j hj => by simp at hj)
  clear hX1 hX2 hX3 hz1 hi0 hidx
  go_enter Tryd.func52, Tryd.ntmps52
  go_wp2
  go_region_law (refine step_append_room rfl (.tmp 22) (.tmp 25) 63 rfl 70 i0 6 Tryd.underlying63 HI.out HZ.out F 0 10 11 (by simp [Act.eval, Act.put]) ⟨F, 0, none⟩ 0 0 [] (by simp [Act.eval, Act.put]) rfl hnil.out hnil2.out (by omega) hnil3.out ?_)
  simp only [Act.put, World.setCells]
  go_wp2
  go_ret
  exact ⟨rfl, HEND.out⟩
theorem delete_any (F P : Nat) (u : List Nat) (i : Nat) (hi : i < u.length) (hu : u.length ≤ 11) (w : World) (h : FullAt F P u w) :
    Calls Tryd.prog 52 #[.slice (some ⟨F, 0, none⟩) u.length 11, .int .i64 (i : Int), .int .i64 ((i : Int) + 1)] w fun e w' =>
      e = .returned (.slice (some ⟨F, 0, none⟩) (u.length - 1) 11) ∧ FullAt F P (u.eraseIdx i) w' ∧ Mov (fun j => j = F) w w' := by
  by_cases h10 : i < 10
  · exact delete_mid F P u i hi hu h10 w h
  · obtain rfl : i = 10 := by omega
    have hl : u.length = 11 := by omega
    rw [hl]
    exact delete_end F P u hl w h
end Go.Proofs.YtmlgcjfcbokibaaDoor.Po
