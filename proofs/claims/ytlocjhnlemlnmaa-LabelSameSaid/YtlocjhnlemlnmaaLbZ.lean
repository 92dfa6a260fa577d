/- Labels of a few names, by bytes; two lists that are the same. -/
import Derived.Test.YtlocjhnlemlnmaaLbX
namespace Go.Proofs.Ytlocjhnlemlnmaa.Lx
open Go Go.RowKit

/-- A slice of bytes, as it comes in. -/
structure ItemV where
  p : Option Addr
  xs : List Nat
  cap : Nat
def ItemV.val (x : ItemV) : Value := .slice x.p x.xs.length x.cap
/-- Slices of bytes that lie somewhere. -/
def Rows9 (p : Option Addr) (l : List ItemV) (w : World) : Prop :=
  ∀ k (h : k < l.length), ∃ B off, p = some ⟨B, off, none⟩ ∧ B < w.heap.size ∧ w.cell? ⟨B, off + k, none⟩ = some l[k].val ∧ Octs l[k].p l[k].xs w ∧ l[k].xs.length ≤ maxLen
theorem Rows9.below {p : Option Addr} {l : List ItemV} {w w' : World} (h : Rows9 p l w) (hB : Below w.heap.size w w') : Rows9 p l w' := fun k hk => by
  obtain ⟨B, off, h1, h2, h3, h4, h5⟩ := h k hk
  exact ⟨B, off, h1, Nat.lt_of_lt_of_le h2 hB.size, (hB.cell (p := ⟨B, off + k, none⟩) h2).trans h3, h4.below hB, h5⟩
theorem Rows9.take {p : Option Addr} {l : List ItemV} {w : World} (h : Rows9 p l w) (j : Nat) : Rows9 p (l.take j) w := fun k hk => by
  rw [List.length_take] at hk
  obtain ⟨B, off, h1, h2, h3, h4, h5⟩ := h k (by omega)
  simp only [List.getElem_take]
  exact ⟨B, off, h1, h2, h3, h4, h5⟩
def fewAt (l : List ItemV) (k : Nat) : LabB := match l[k]?, l[l.length - 1 - k]? with
  | some x, some y => ((wordS x.xs).take 3, wordS y.xs)
  | _, _ => ([], [])
def fewS (l : List ItemV) : List LabB := (List.range (min l.length 18)).map (fewAt l)
theorem fewAt_of {l : List ItemV} {k : Nat} (h : k < l.length) : fewAt l k = ((wordS l[k].xs).take 3, wordS (l[l.length - 1 - k]'(by omega)).xs) := by
  unfold fewAt
  rw [List.getElem?_eq_getElem h, List.getElem?_eq_getElem (show l.length - 1 - k < l.length by omega)]

set_option maxRecDepth 100000 in
set_option maxHeartbeats 4000000 in
theorem few_raw (p : Option Addr) (n c : Nat) (raw : Value) (w : World) :
    Calls Try.prog 10 #[.slice p n c, raw, .bool false] w fun e w' => e = .returned raw ∧ Below w.heap.size w w' := by
  go_enter Try.func10, Try.ntmps10
  go_wp2
  go_ret
  exact ⟨rfl, Below.refl _ _⟩

set_option maxRecDepth 100000 in
set_option maxHeartbeats 8000000 in
theorem few_any (p : Option Addr) (l : List ItemV) (c : Nat) (hl : l.length ≤ maxLen) (raw : Value) (w : World) (hR : Rows9 p l w) :
    Calls Try.prog 10 #[.slice p l.length c, raw, .bool true] w fun e w' => ∃ v, e = .returned v ∧ OwnL w.heap.size v (fewS l) w' ∧ Below w.heap.size w w' := by
  unfold maxLen at hl
  have HR := Lib.hid hR
  have HO0 := Lib.hid (OwnL.nil w.heap.size w)
  have HB0 := Lib.hid (Below.refl w.heap.size w)
  obtain ⟨n, hn⟩ : ∃ n, l.length = n := ⟨_, rfl⟩
  have HN := Lib.hid hn
  rw [hn] at hl ⊢
  clear hR hn
  go_enter Try.func10, Try.ntmps10
  go_wp2
  go_loopg [7, 8, 9] 18 (fun g s7 s8 s9 wx => ∃ (k : Nat) (A : List LabB), s8 = .int .i64 (k : Int) ∧ g + k = 18 ∧ k ≤ n ∧ A.length = k ∧ Hid (A = (List.range k).map (fewAt l)) ∧ Hid (OwnL w.heap.size s7 A wx) ∧ Hid (Below w.heap.size w wx))
  case atStart => exact ⟨0, [], rfl, rfl, Nat.zero_le _, rfl, Lib.hid rfl, HO0, HB0⟩
  case round =>
    clear HO0 HB0
    obtain ⟨k, A, rfl, hgk, hkn, hAl, HA, HO, HB⟩ := hrel
    by_cases hgo : k < n ∧ k < 18
    · obtain ⟨hk1, hk2⟩ := hgo
      have hkl : k < l.length := by rw [HN.out]; exact hk1
      obtain ⟨q0, d0, rfl⟩ := HO.out.len
      have HR1 := HR.out.below HB.out
      obtain ⟨C, off, rfl, hC, hcell, hx, hxl⟩ := HR1 k hkl
      obtain ⟨j, hj⟩ : ∃ j, j = l.length - 1 - k := ⟨_, rfl⟩
      have hjl : j < l.length := by omega
      have hfa : fewAt l k = ((wordS l[k].xs).take 3, wordS l[j].xs) := by subst hj; exact fewAt_of hkl
      obtain ⟨C', off', hCC, _, hcell2, hx2, hxl2⟩ := HR1 j hjl
      simp only [Option.some.injEq, Addr.mk.injEq, and_true] at hCC
      obtain ⟨rfl, rfl⟩ := hCC
      have hjn : j < n := by have := HN.out; omega
      have hji : (n : Int) - 1 - (k : Int) = (j : Int) := by have := HN.out; omega
      have HFA := Lib.hid hfa
      clear hj
      clear hfa HR1
      generalize l[k] = X at hcell hx hxl HFA
      generalize l[j] = Y at hcell2 hx2 hxl2 HFA
      obtain ⟨p1, xs, c1⟩ := X
      obtain ⟨p2, ys, c2⟩ := Y
      simp only [ItemV.val] at hcell hcell2 hx hx2 hxl hxl2 HFA
      have hwa := word_any p1 xs c1 hxl wr hx
      have HX2 := Lib.hid hx2
      have hcj := hcell2
      have h13 := wordS_len xs
      clear hcell2 hx hx2
      go_wp2_with fail
      refine hwa.mono ?_
      rintro e w3 ⟨rfl, hB3⟩
      have hC3 : C < w3.heap.size := Nat.lt_of_lt_of_le hC hB3.size
      have hcell3 := (hB3.cell (p := ⟨C, off + j, none⟩) hC).trans hcj
      have hwb := word_any p2 ys c2 hxl2 w3 (HX2.out.below hB3)
      have HO3 : Hid (OwnL w.heap.size (.slice q0 A.length d0) A w3) := Lib.hid (HO.out.below hB3)
      have HB3 := Lib.hid (HB.out.trans (hB3.mono HB.out.size))
      have htk : (tx (wordS xs)).extract 0 3 = tx ((wordS xs).take 3) := by rw [tx_extract]; rfl
      have hsz : (tx (wordS xs)).size = (wordS xs).length := tx_len _
      have HTK : Hid ((wordS xs).length ≤ 3 → tx (wordS xs) = tx ((wordS xs).take 3)) := Lib.hid (fun h => by rw [List.take_of_length_le h])
      have hj0 : (0 : Int) ≤ (j : Int) := by omega
      have hjni : (j : Int) < (n : Int) := by omega
      have hw1 : IntKind.i64.wrap ((n : Int) - 1) = (n : Int) - 1 := IntWalk.i64_in _ (by omega)
      have hw2 : IntKind.i64.wrap ((n : Int) - 1 - (k : Int)) = (j : Int) := (IntWalk.i64_in _ (by omega)).trans hji
      clear hcell hcj hB3 HO HB hC hwa hxl hxl2 HX2
      obtain ⟨m, hm⟩ : ∃ m, (wordS xs).length = m := ⟨_, rfl⟩
      rw [hm] at h13 hsz HTK
      have HX3 : Hid (A ++ [((wordS xs).take 3, wordS ys)] = (List.range (k + 1)).map (fewAt l)) := Lib.hid (by
        rw [List.range_succ, List.map_append, HA.out, List.map_singleton, HFA.out])
      clear HA HFA hm
      have HAL := Lib.hid hAl
      by_cases h3 : 3 < m
      · have h3i : (3 : Int) < (m : Int) := by omega
        generalize (wordS xs).take 3 = x1 at *
        generalize tx (wordS xs) = S1 at *
        go_wp2_with fail
        refine hwb.mono ?_
        rintro e w4 ⟨rfl, hB4⟩
        have HB4 := Lib.hid (HB3.out.trans (hB4.mono HB3.out.size))
        have HO4 : Hid (OwnL w.heap.size (.slice q0 A.length d0) A w4) := Lib.hid (HO3.out.below hB4)
        obtain ⟨v', w', hr1, hG⟩ := append_label 23 HO4.out (x1, wordS ys) (by have := HAL.out; unfold maxLab; omega) HB4.out.size
        have HB5 := Lib.hid (HB4.out.trans (hG.low (fun g hg => (HO4.out.lt hg).1) HB4.out.size))
        have HO5 := Lib.hid hG.1
        rw [HAL.out] at hr1
        have HR1 := Lib.hid hr1
        clear hr1 hG HO4 HB4 HO3 HB3 hB4 hwb hcell3 hC3
        go_wp2_with (first | (at_builtin; refine Lib.wpList_append_run _ rfl _ _ _ _ rfl _ _ rfl rfl _ _ HR1.out ?_))
        go_roundg (18 - (k + 1))
        case measure => omega
        case rel => exact ⟨k + 1, A ++ [(x1, wordS ys)], by go_num, by omega, by omega, by rw [List.length_append, HAL.out]; rfl, HX3, HO5, HB5⟩
      · have h3i : ¬ (3 : Int) < (m : Int) := by omega
        have hte := HTK.out (by omega)
        rw [hte] at hsz ⊢
        clear htk hte HTK
        generalize (wordS xs).take 3 = x1 at *
        go_wp2_with fail
        refine hwb.mono ?_
        rintro e w4 ⟨rfl, hB4⟩
        have HB4 := Lib.hid (HB3.out.trans (hB4.mono HB3.out.size))
        have HO4 : Hid (OwnL w.heap.size (.slice q0 A.length d0) A w4) := Lib.hid (HO3.out.below hB4)
        obtain ⟨v', w', hr1, hG⟩ := append_label 23 HO4.out (x1, wordS ys) (by have := HAL.out; unfold maxLab; omega) HB4.out.size
        have HB5 := Lib.hid (HB4.out.trans (hG.low (fun g hg => (HO4.out.lt hg).1) HB4.out.size))
        have HO5 := Lib.hid hG.1
        rw [HAL.out] at hr1
        have HR1 := Lib.hid hr1
        clear hr1 hG HO4 HB4 HO3 HB3 hB4 hwb hcell3 hC3
        go_wp2_with (first | (at_builtin; refine Lib.wpList_append_run _ rfl _ _ _ _ rfl _ _ rfl rfl _ _ HR1.out ?_))
        go_roundg (18 - (k + 1))
        case measure => omega
        case rel => exact ⟨k + 1, A ++ [(x1, wordS ys)], by go_num, by omega, by omega, by rw [List.length_append, HAL.out]; rfl, HX3, HO5, HB5⟩
    · have hend : (((k : Int) < (n : Int)) = False) ∨ ((k : Int) < (n : Int) ∧ ((k : Int) < 18) = False) := by
        by_cases h1 : k < n
        · exact .inr ⟨by omega, eq_false (by omega)⟩
        · exact .inl (eq_false (by omega))
      have hfin : A = fewS l := by
        rw [HA.out]
        unfold fewS
        rw [HN.out, show k = min n 18 by omega]
      have HOf := Lib.hid HO.out
      rw [hfin] at HOf
      obtain ⟨q0, d0, rfl⟩ := HO.out.len
      clear HO hgo HA hfin
      rcases hend with h1 | ⟨h1, h2⟩
      · go_wp2
        go_ret
        exact ⟨_, rfl, HOf.out, HB.out⟩
      · go_wp2
        go_ret
        exact ⟨_, rfl, HOf.out, HB.out⟩
end Go.Proofs.Ytlocjhnlemlnmaa.Lx
