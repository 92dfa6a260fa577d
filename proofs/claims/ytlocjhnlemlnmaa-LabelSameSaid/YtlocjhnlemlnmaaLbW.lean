/- The program's own answer: a key split, told; of what one text off the front tells. -/
import Derived.Test.YtlocjhnlemlnmaaLbV
import Derived.Laws.EntriesVeiled
namespace Go.Proofs.Ytlocjhnlemlnmaa.Lx
open Go Go.RowKit

/-- The key's bytes lie in K; a reader takes some of them away. -/
def Took (K : Nat) (s' : List UInt8) (w w' : World) : Prop := CellsAt K #[.string (tx s')] w' ∧ Mov (fun j => j = K) w w'
theorem Took.same {K : Nat} {s : List UInt8} {w : World} (h : CellsAt K #[.string (tx s)] w) : Took K s w w := ⟨h, Mov.refl _ _⟩
theorem Took.put {K : Nat} {s s' : List UInt8} {w : World} (h : CellsAt K #[.string (tx s)] w) : Took K s' w (w.setCell ⟨K, 0, none⟩ (.string (tx s'))) := by
  have := h.set 0 (.string (tx s')) (by simp)
  exact ⟨by simpa using this, (Mov.refl (fun k => k = K) w).set rfl 0 _⟩
theorem numK_len (l : List UInt8) : (numK l).1 ≤ 255 ∧ (numK l).2.length ≤ l.length := by
  cases l with
  | nil => simp [numK]
  | cons c r =>
    have := c.toNat_lt
    simp only [numK, List.length_cons]
    omega

set_option maxHeartbeats 4000000 in
theorem number_any (K : Nat) (s : List UInt8) (hs : s.length ≤ maxLen) (w : World) (h : CellsAt K #[.string (tx s)] w) :
    Calls Try.prog 43 #[.pointer (some ⟨K, 0, none⟩)] w fun e w' => e = .returned (.int .i64 ((numK s).1 : Int)) ∧ Took K (numK s).2 w w' := by
  unfold maxLen at hs
  cases s with
  | nil =>
    have he := txt_empty
    have c0 : w.cell? ⟨K, 0, none⟩ = some (.string (tx [])) := h.cell 0 _ rfl
    have HE := Lib.hid (Took.same h)
    have hr : (numK []).1 = 0 := rfl
    have hr2 : (numK []).2 = [] := rfl
    rw [hr, hr2]
    clear hr hr2 h
    have HE2 : Hid (∀ T, tx [] = T → Took K [] w w) := Lib.hid (fun _ _ => HE.out)
    generalize hT : tx [] = T at he c0
    clear HE
    go_enter Try.func43, Try.ntmps43
    go_wp2
    go_ret
    exact ⟨rfl, HE2.out _ hT⟩
  | cons c r =>
    have he := txt_no (l := c :: r) (by simp)
    have hz : (tx (c :: r)).size = r.length + 1 := by rw [tx_len]; rfl
    have hx : (tx (c :: r)).extract 1 (tx (c :: r)).size = tx r := by
      rw [tx_extract, tx_len, List.take_of_length_le (Nat.le_refl _)]
      rfl
    have hx' := hx
    rw [hz] at hx'
    have hf := tx_first c r
    have hsl : r.length ≤ 9223372036854775806 := by simp only [List.length_cons] at hs; omega
    have c0 : w.cell? ⟨K, 0, none⟩ = some (.string (tx (c :: r))) := h.cell 0 _ rfl
    have f0 : w.frozen? ⟨K, 0, none⟩ = false := h.fro 0 _ rfl
    have z0 := h.lt
    have HE := Lib.hid (Took.put (s' := r) h)
    have hr : (numK (c :: r)).1 = c.toNat := rfl
    have hr2 : (numK (c :: r)).2 = r := rfl
    rw [hr, hr2]
    have hy8 := c.toNat_lt
    clear hr hr2 h hs
    obtain ⟨R, hR⟩ : ∃ R, tx r = R := ⟨_, rfl⟩
    rw [hR] at hx hx' HE
    generalize tx (c :: r) = S at *
    obtain ⟨y, hy⟩ : ∃ y, c.toNat = y := ⟨_, rfl⟩
    rw [hy] at hy8 ⊢
    generalize r.length = L at *
    have h0 : 0 < S.size := by omega
    have hf2 := hf h0
    have y0 : (y : Int) < 256 := by omega
    clear hf hR
    go_enter Try.func43, Try.ntmps43
    go_wp2
    go_ret
    exact ⟨rfl, HE.out⟩

/-- What a reader of numbers is. -/
abbrev numF (K : Nat) : Value := .func (.func 43) #[] #[.pointer (some ⟨K, 0, none⟩)]
/-- What is asked of the reader of texts. -/
def TextOk : Prop := ∀ (K M : Nat) (s : List UInt8) (w : World), s.length ≤ maxLen → CellsAt K #[.string (tx s)] w → CellsAt M #[numF K] w →
  Calls Try.prog 44 #[.pointer (some ⟨M, 0, none⟩), .pointer (some ⟨K, 0, none⟩)] w fun e w' => e = .returned (.string (tx (takeK s).1)) ∧ Took K (takeK s).2 w w'
theorem takeK_is (s : List UInt8) : takeK s = ((numK s).2.take (numK s).1, (numK s).2.drop (numK s).1) := by
  cases s with
  | nil => simp [takeK, numK]
  | cons c r => rfl
set_option maxRecDepth 100000 in
set_option maxHeartbeats 4000000 in
theorem text_ok : TextOk := by
  intro K M s w hs hK hM
  have h1 := number_any K s hs w hK
  obtain ⟨b1, b2⟩ := numK_len s
  rw [takeK_is]
  have m0 : w.cell? ⟨M, 0, none⟩ = some (numF K) := hM.cell 0 _ rfl
  unfold maxLen at hs
  generalize numK s = x at *
  obtain ⟨n, r⟩ := x
  simp only at h1 b1 b2 ⊢
  have hrl : r.length ≤ 9223372036854775807 := by omega
  obtain ⟨R, hR⟩ : ∃ R, tx r = R := ⟨_, rfl⟩
  obtain ⟨m, hm⟩ : ∃ m, min n r.length = m := ⟨_, rfl⟩
  have hz : R.size = r.length := by rw [← hR, tx_len]
  have hm1 : m ≤ R.size := by omega
  have hmi : min (n : Int) (R.size : Int) = (m : Int) := by omega
  have hz2 : R.size ≤ 9223372036854775807 := by omega
  have hx1 : R.extract 0 m = tx (r.take n) := by
    rw [← hR, tx_extract, List.drop_zero, ← hm]
    rcases Nat.le_total n r.length with h | h
    · rw [Nat.min_eq_left h]
    · rw [Nat.min_eq_right h, List.take_of_length_le (Nat.le_refl _), List.take_of_length_le h]
  have hx2 : R.extract m R.size = tx (r.drop n) := by
    rw [hz, ← hR, tx_extract, List.take_of_length_le (Nat.le_refl _), ← hm]
    rcases Nat.le_total n r.length with h | h
    · rw [Nat.min_eq_left h]
    · rw [Nat.min_eq_right h, List.drop_of_length_le (Nat.le_refl _), List.drop_of_length_le h]
  generalize tx (r.take n) = T1 at *
  have HD : Hid (∀ T, tx (r.drop n) = T → ∀ w1, CellsAt K #[.string R] w1 → Mov (fun j => j = K) w w1 → Took K (r.drop n) w (w1.setCell ⟨K, 0, none⟩ (.string T))) := Lib.hid (fun T hT w1 hK1 hM1 => by
    subst hT
    rw [← hR] at hK1
    have := Took.put (s' := r.drop n) hK1
    exact ⟨this.1, hM1.trans this.2 (fun _ _ h => h)⟩)
  unfold Took at h1
  rw [hR] at h1
  obtain ⟨T2, hT2⟩ : ∃ T, tx (r.drop n) = T := ⟨_, rfl⟩
  rw [hT2] at hx2
  have HD2 := Lib.hid (HD.out T2 hT2)
  generalize r.drop n = r2 at *
  clear HD hR hm hz hrl b2 hs hK hM hT2
  go_enter Try.func44, Try.ntmps44
  go_wp2_with fail
  refine h1.mono ?_
  rintro e w1 ⟨rfl, hK1, hM1⟩
  have k0 : w1.cell? ⟨K, 0, none⟩ = some (.string R) := hK1.cell 0 _ rfl
  have f0 : w1.frozen? ⟨K, 0, none⟩ = false := hK1.fro 0 _ rfl
  have HE := Lib.hid (HD2.out w1 hK1 hM1)
  have z0 := hK1.lt
  clear h1 HD2 hK1 hM1 m0
  go_wp2
  go_ret
  exact ⟨rfl, HE.out⟩
/-- What is told of bytes that are read. -/
def ReadEnd (w : World) (x : List UInt8 × List LabB) (e : Ending) (w' : World) : Prop := ∃ v, e = .returned (.tuple #[.string (tx x.1), v]) ∧ OwnL w.heap.size v x.2 w' ∧ Below w.heap.size w w'

set_option maxRecDepth 100000 in
set_option maxHeartbeats 8000000 in
theorem read_of (hT : TextOk) (s : List UInt8) (hs : s.length ≤ maxLen) (w : World) :
    Calls Try.prog 34 #[.string (tx s)] w (ReadEnd w (readP s)) := by
  obtain ⟨N, hN⟩ : ∃ N, w.heap.size = N := ⟨_, rfl⟩
  have HNN := Lib.hid hN
  have hk0 := CellsAt.newAt #[.string (tx s)] 9 w N hN.symm
  have hm0 := CellsAt.newAt #[numF N] 68 (w.alloc (.cells #[.string (tx s)] 9)) (N + 1) (by simp [hN])
  have HK0 := Lib.hid (hk0.past (.cells #[numF N] 68))
  have HM0 := Lib.hid hm0
  have hB0 : Below N w ((w.alloc (.cells #[.string (tx s)] 9)).alloc (.cells #[numF N] 68)) := ((Below.refl _ _).alloc (by omega) _).alloc (by simp; omega) _
  have HB0 := Lib.hid hB0
  obtain ⟨R, hR⟩ : ∃ R, readP s = R := ⟨_, rfl⟩
  rw [hR]
  unfold readP at hR
  have HR := Lib.hid hR
  clear hk0 hm0 hB0 hR
  obtain ⟨a1, a2⟩ := takeK_len s
  obtain ⟨b1, b2⟩ := numK_len (takeK s).2
  have h1 := hT N (N + 1) s _ hs HK0.out HM0.out
  have HT := Lib.hid hT
  unfold ReadEnd
  rw [hN]
  clear hT
  go_enter Try.func34, Try.ntmps34
  go_wp2_with fail
  refine h1.mono ?_
  rintro e w1 ⟨rfl, hK1, hM1⟩
  have hm1 := cells_mov HM0.out hM1 (by omega)
  have HB1 := Lib.hid (HB0.out.trans (hM1.below (N := N) (fun k hk => by omega) (by simp; omega)))
  have m0 : w1.cell? ⟨N + 1, 0, none⟩ = some (numF N) := hm1.cell 0 _ rfl
  have h2 := number_any N (takeK s).2 (by omega) w1 hK1
  have HM1 := Lib.hid hm1
  clear h1 hK1 hM1 hm1 HK0 HM0 HB0
  go_wp2_with fail
  refine h2.mono ?_
  rintro e w2 ⟨rfl, hK2, hM2⟩
  have HM2 := Lib.hid (cells_mov HM1.out hM2 (by omega))
  have HB2 := Lib.hid (HB1.out.trans (hM2.below (N := N) (fun k hk => by omega) (by have := HM1.out.lt; omega)))
  have HK2 := Lib.hid hK2
  have HO2 : Hid (OwnL (N + 2) (.slice none 0 0) [] w2) := Lib.hid (OwnL.nil _ _)
  clear hK2 hM2 HM1 HB1 h2 m0
  obtain ⟨y, hy⟩ : ∃ y, (numK (takeK s).2).1 = y := ⟨_, rfl⟩
  obtain ⟨r, hr⟩ : ∃ r, (numK (takeK s).2).2 = r := ⟨_, rfl⟩
  rw [hy, hr] at HR
  rw [hr] at HK2
  rw [hy] at b1 ⊢
  have hrl : r.length ≤ 9223372036854775807 := by unfold maxLen at hs; rw [hr] at b2; omega
  clear a2 b2 hs hy hr
  obtain ⟨n, hn⟩ : ∃ n, (takeK s).1 = n := ⟨_, rfl⟩
  rw [hn] at HR ⊢
  clear a1 hn
  go_wp2
  go_loopg [3, 13] y (fun g s3 s13 wx => ∃ (k : Nat) (A : List LabB) (rest : List UInt8), s13 = .int .i64 (k : Int) ∧ k + g = y ∧ A.length = k ∧ rest.length ≤ 9223372036854775807 ∧ Hid ((takesK y r).1 = A ++ (takesK g rest).1) ∧ Hid (OwnL (N + 2) s3 A wx) ∧ Hid (CellsAt N #[.string (tx rest)] wx) ∧ Hid (CellsAt (N + 1) #[numF N] wx) ∧ Hid (Below N w wx))
  case atStart => exact ⟨0, [], r, rfl, by omega, rfl, hrl, Lib.hid rfl, HO2, HK2, HM2, HB2⟩
  case round =>
    clear HO2 HK2 HM2 HB2 hrl
    obtain ⟨k, A, rest, rfl, hkg, hAl, hrest, HX, HO, HK, HM, HB⟩ := hrel
    cases gk with
    | zero =>
      obtain ⟨q, d, rfl⟩ := HO.out.len
      have hA := HX.out
      rw [show (takesK 0 rest).1 = [] from rfl, List.append_nil] at hA
      have hR2 : R = (n, A) := by rw [← HR.out, hA]
      subst hR2
      have HO3 := Lib.hid (HO.out.sub (N := N) (by omega))
      clear HR HX HK HM HO hA
      go_wp2
      go_ret2
      exact ⟨.slice q k d, rfl, by rw [← hAl]; exact HO3.out, HB.out⟩
    | succ g =>
      obtain ⟨a1, a2⟩ := takeK_len rest
      obtain ⟨b1, b2⟩ := takeK_len (takeK rest).2
      have hX := HX.out
      rw [takesK_succ] at hX
      have HX2 : Hid ((takesK y r).1 = A ++ [((takeK rest).1, (takeK (takeK rest).2).1)] ++ (takesK g (takeK (takeK rest).2).2).1) := Lib.hid (by rw [hX]; simp)
      have h1 := HT.out N (N + 1) rest wr (by unfold maxLen; omega) HK.out HM.out
      have hrest1 : (takeK rest).2.length ≤ 9223372036854775807 := by omega
      have hrest2 : (takeK (takeK rest).2).2.length ≤ 9223372036854775807 := by omega
      have HAL := Lib.hid hAl
      clear hX HX a1 a2 b1 b2
      go_wp2_with fail
      refine h1.mono ?_
      rintro e w3 ⟨rfl, hK3, hM3⟩
      have HM3 := Lib.hid hM3
      have hm3 := cells_mov HM.out hM3 (by omega)
      have HKa := Lib.hid (hK3.past (.cells #[.string (tx (takeK rest).1), .string ⟨#[]⟩] 47))
      have HMa := Lib.hid (hm3.past (.cells #[.string (tx (takeK rest).1), .string ⟨#[]⟩] 47))
      have HCa := Lib.hid (CellsAt.new #[.string (tx (takeK rest).1), .string ⟨#[]⟩] 47 w3)
      have hN3 : N + 1 < w3.heap.size := hm3.lt
      have hNr : N + 1 < wr.heap.size := HM.out.lt
      have h2 := HT.out N (N + 1) (takeK rest).2 _ (by unfold maxLen; omega) HKa.out HMa.out
      clear h1 hK3 hm3 hM3 HK HM
      go_wp2_with fail
      refine h2.mono ?_
      rintro e w4 ⟨rfl, hK4, hM4⟩
      have M4 : Mov (fun j => j = N) wr w4 := (HM3.out.alloc (.cells #[.string (tx (takeK rest).1), .string ⟨#[]⟩] 47)).trans hM4 (fun _ _ h => h)
      have hC4 := cells_mov HCa.out hM4 (by omega)
      have hm4 := cells_mov HMa.out hM4 (by omega)
      have hw34 : wr.heap.size ≤ w3.heap.size := HM3.out.size
      have M5 := M4.setNew (k := w3.heap.size) hw34 1 (.string (tx (takeK (takeK rest).2).1))
      have hO5 := HO.out.mov M5 (fun g hg h => by have := HO.out.lt hg; omega)
      have hB5 : Below N w _ := HB.out.trans (M5.below (N := N) (fun k hk => by omega) (by omega))
      have hC5 := hC4.set 1 (.string (tx (takeK (takeK rest).2).1)) (by simp)
      have hK5 := hK4.other ⟨w3.heap.size, 1, none⟩ (.string (tx (takeK (takeK rest).2).1)) (by simp; omega)
      have hm5 := hm4.other ⟨w3.heap.size, 1, none⟩ (.string (tx (takeK (takeK rest).2).1)) (by simp; omega)
      have c0 : w4.cell? ⟨w3.heap.size, 0, none⟩ = some (.string (tx (takeK rest).1)) := hC4.cell 0 _ rfl
      have c1 : w4.cell? ⟨w3.heap.size, 1, none⟩ = some (.string ⟨#[]⟩) := hC4.cell 1 _ rfl
      have f1 : w4.frozen? ⟨w3.heap.size, 1, none⟩ = false := hC4.fro 1 _ rfl
      have z1 := hC4.lt
      have d0 : (w4.setCell ⟨w3.heap.size, 1, none⟩ (.string (tx (takeK (takeK rest).2).1))).cell? ⟨w3.heap.size, 0, none⟩ = some (.string (tx (takeK rest).1)) := hC5.cell 0 _ rfl
      have d1 : (w4.setCell ⟨w3.heap.size, 1, none⟩ (.string (tx (takeK (takeK rest).2).1))).cell? ⟨w3.heap.size, 1, none⟩ = some (.string (tx (takeK (takeK rest).2).1)) := hC5.cell 1 _ rfl
      have hw4 : N + 2 ≤ (w4.setCell ⟨w3.heap.size, 1, none⟩ (.string (tx (takeK (takeK rest).2).1))).heap.size := by simp; omega
      obtain ⟨v', w', hr1, hG⟩ := append_label 23 hO5 ((takeK rest).1, (takeK (takeK rest).2).1) (by have := HAL.out; unfold maxLab; omega) hw4
      have HB6 := Lib.hid (hB5.trans (hG.low (N := N) (fun g hg => by have := hO5.lt hg; omega) (by omega)))
      have HO6 := Lib.hid hG.1
      have HK6 := Lib.hid (cells_mov hK5 hG.2.1 (fun hg => by have := hO5.lt hg; omega))
      have HM6 := Lib.hid (cells_mov hm5 hG.2.1 (fun hg => by have := hO5.lt hg; omega))
      obtain ⟨q, d, rfl⟩ := HO.out.len
      rw [HAL.out, show (w4.setCell ⟨w3.heap.size, 1, none⟩ (.string (tx (takeK (takeK rest).2).1))).heap.size = w4.heap.size by simp] at hr1
      have HR1 := Lib.hid hr1
      clear hr1 hC5 hC4 hK5 hm5 hK4 hm4 M4 M5 hO5 hB5 hG hM4 HKa HMa HCa HM3 h2 HO HB hw4 hw34
      generalize (takeK (takeK rest).2).2 = rest2 at *
      generalize (takeK (takeK rest).2).1 = x2 at *
      generalize (takeK rest).2 = rest1 at *
      generalize (takeK rest).1 = x1 at *
      go_wp2_with (first | (at_builtin; refine Lib.wpList_append_run _ rfl _ _ _ _ rfl _ _ rfl rfl _ _ HR1.out ?_))
      go_roundg g
      case measure => omega
      case rel => exact ⟨k + 1, A ++ [(x1, x2)], rest2, by go_num, by omega, by rw [List.length_append, HAL.out]; rfl, hrest2, HX2, HO6, HK6, HM6, HB6⟩

theorem takesK_short : ∀ (k : Nat) (l : List UInt8), ∀ x ∈ (takesK k l).1, x.1.length ≤ 255 ∧ x.2.length ≤ 255
  | 0, _ => fun x hx => by simp [takesK] at hx
  | k + 1, l => fun x hx => by
    rw [takesK_succ] at hx
    rcases List.mem_cons.1 hx with rfl | hx
    · exact ⟨(takeK_len _).1, (takeK_len _).1⟩
    · exact takesK_short k _ x hx
theorem OwnL.none {B n c : Nat} {ls : List LabB} {w : World} {p : Option Addr} (h : OwnL B (.slice p n c) ls w) (hp : p = none) : c = 0 := by
  rcases h.form with ⟨h0, _⟩ | ⟨g, cap, h0, _⟩
  · cases h0; rfl
  · cases h0; cases hp

set_option maxRecDepth 100000 in
set_option maxHeartbeats 8000000 in
theorem split_of (hT : TextOk) (s : List UInt8) (hs : s.length ≤ maxLen) (w : World) :
    Calls Try.prog 20 #[.string (tx s)] w (SplitEnd w (splitP s)) := by
  have hr := read_of hT s hs w
  have hn : (readP s).1.length ≤ 255 := (takeK_len s).1
  have hl : (readP s).2.length ≤ 255 := by
    unfold readP
    rw [takesK_len]
    exact (numK_len _).1
  have hx : ∀ x ∈ (readP s).2, x.1.length ≤ 255 ∧ x.2.length ≤ 255 := takesK_short _ _
  obtain ⟨R, hR⟩ : ∃ R, splitP s = R := ⟨_, rfl⟩
  rw [hR]
  unfold splitP at hR
  have HR := Lib.hid hR
  have HX := Lib.hid hx
  clear hR hx hT hs
  generalize readP s = x at *
  obtain ⟨n, ls⟩ := x
  simp only at hr hn hl HR HX
  go_enter Try.func20, Try.ntmps20
  go_wp2_with fail
  refine hr.mono ?_
  rintro e w1 ⟨v, rfl, hO, hB1⟩
  obtain ⟨p, c, rfl⟩ := hO.len
  have hli := hO.lies (fun x hx => by have := HX.out x hx; unfold maxLen; omega)
  have hpc := hO.none
  have hk := key_any n (by unfold maxLen; omega) p c ls hpc (by unfold maxLab; omega) w1 hli
  have HO1 := Lib.hid hO
  have HB1 := Lib.hid hB1
  clear hr hO hB1 hli hpc
  go_wp2_with fail
  refine hk.mono ?_
  rintro e w2 ⟨rfl, hB2⟩
  have HO2 := Lib.hid (HO1.out.below hB2)
  have HB2 := Lib.hid (HB1.out.trans (hB2.mono HB1.out.size))
  clear hk hB2 HO1 HB1
  cases hk : keyE n ls with
  | error e =>
    rw [hk] at HR
    have hc : (e : Int) ≠ 0 := by have := keyE_err hk; omega
    have hcn : e ≠ 0 := by have := keyE_err hk; omega
    have hR2 : R = none := HR.out.symm
    subst hR2
    clear HR hk
    rw [show keyV (.error e) = .tuple #[.string ⟨#[]⟩, .int .i64 (e : Int)] from rfl]
    go_wp2
    refine bodyPost_ret (results3 rfl _ _ _) rfl ?_
    exact ⟨rfl, HB2.out⟩
  | ok k' =>
    rw [hk] at HR
    rw [show keyV (.ok k') = .tuple #[.string (tx k'), .int .i64 0] from rfl]
    have he := tx_eq k' s
    by_cases hks : k' = s
    · rw [decide_eq_true hks] at he
      have hR2 : R = some (n, ls) := by rw [← HR.out, if_pos (by simp [okIs, hks])]
      subst hR2
      clear HR hk hks
      generalize tx k' = K1 at *
      generalize tx s = S2 at *
      go_wp2
      refine bodyPost_ret (results3 rfl _ _ _) rfl ?_
      exact ⟨_, rfl, HO2.out, HB2.out⟩
    · rw [decide_eq_false hks] at he
      have hR2 : R = none := by rw [← HR.out, if_neg (by simp [okIs, hks])]
      subst hR2
      clear HR hk hks
      generalize tx k' = K1 at *
      generalize tx s = S2 at *
      go_wp2
      refine bodyPost_ret (results3 rfl _ _ _) rfl ?_
      exact ⟨rfl, HB2.out⟩
end Go.Proofs.Ytlocjhnlemlnmaa.Lx
