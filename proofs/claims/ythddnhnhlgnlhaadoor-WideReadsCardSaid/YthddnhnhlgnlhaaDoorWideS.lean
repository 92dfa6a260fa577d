/- A text read as a sum. -/
import Derived.Test.YthddnhnhlgnlhaaDoorWideR
namespace Go.Proofs.YthddnhnhlgnlhaaDoor
open Go Go.RowKit

theorem rdv_append : ∀ (l : List UInt8) (z : Int) (l' : List UInt8), (∀ c ∈ l, 48 ≤ c.toNat ∧ c.toNat ≤ 57) → rdv z (l ++ l') = rdv (rdv z l) l'
  | [], _, _, _ => rfl
  | c :: cs, z, l', h => by
    have hc := h c (by simp)
    rw [List.cons_append, rdv, if_pos hc, rdv, if_pos hc]
    exact rdv_append cs _ l' (fun d hd => h d (by simp [hd]))
theorem dig_byte (n : Nat) (h : n < 10) : (UInt8.ofNat (48 + n)).toNat = 48 + n := by
  rw [UInt8.toNat_ofNat']; omega
theorem decDigits_all (m : Nat) : ∀ c ∈ Lib.decDigits m, 48 ≤ c.toNat ∧ c.toNat ≤ 57 := by
  induction m using Nat.strongRecOn with
  | _ m ih =>
    intro c hc
    by_cases h : m < 10
    · rw [Lib.decDigits_one h] at hc
      simp only [List.mem_singleton] at hc
      rw [hc, dig_byte _ h]; omega
    · rw [decDigits_big h, List.mem_append] at hc
      rcases hc with hc | hc
      · exact ih (m / 10) (by omega) c hc
      · simp only [List.mem_singleton] at hc
        rw [hc, dig_byte _ (Nat.mod_lt _ (by decide))]; omega
theorem rdv_dec (m : Nat) : rdv 0 (Lib.decDigits m) = w128 m := by
  induction m using Nat.strongRecOn with
  | _ m ih =>
    by_cases h : m < 10
    · rw [Lib.decDigits_one h, rdv, dig_byte _ h, if_pos (by omega), rdv]
      unfold w128; omega
    · rw [decDigits_big h, rdv_append _ _ _ (decDigits_all _), ih (m / 10) (by omega), rdv, dig_byte _ (Nat.mod_lt _ (by decide)), if_pos (by omega), rdv]
      unfold w128; omega
theorem decDigits_ne (m : Nat) : ∃ c cs, Lib.decDigits m = c :: cs ∧ 48 ≤ c.toNat ∧ c.toNat ≤ 57 := by
  have h := decDigits_all m
  have hl : (Lib.decDigits m).length ≠ 0 := by rw [Lib.decDigits_length]; have := Lib.nDigits_pos m; omega
  match hd : Lib.decDigits m with
  | [] => rw [hd] at hl; simp at hl
  | c :: cs => exact ⟨c, cs, rfl, by rw [hd] at h; exact h c (by simp)⟩

/-- What Read has in hand before it looks whether the text is right. -/
def cand : List UInt8 → Int
  | [] => rdv 0 []
  | c :: cs => if c = 45 then w128 (-(rdv 0 cs)) else rdv 0 (c :: cs)
theorem cand_itoa {a : Int} (ha : InS a) : cand (Lib.itoa a) = a := by
  by_cases hn : a < 0
  · rw [itoa_neg' hn, cand, if_pos rfl, rdv_dec]
    unfold w128 InS at *; omega
  · rw [itoa_pos' hn]
    obtain ⟨c, cs, hd, hc⟩ := decDigits_ne a.toNat
    have h45 : c ≠ 45 := by intro h; rw [h] at hc; exact absurd hc.1 (by decide)
    rw [hd, cand, if_neg h45, ← hd, rdv_dec]
    unfold w128 InS at *; omega
theorem itoa_inj {a b : Int} (ha : InS a) (hb : InS b) (h : Lib.itoa a = Lib.itoa b) : a = b := by
  rw [← cand_itoa ha, h, cand_itoa hb]
theorem rdv_in : ∀ (l : List UInt8) (z : Int), InS z → InS (rdv z l)
  | [], _, h => h
  | c :: cs, z, h => by
    rw [rdv]
    split
    · exact rdv_in cs _ (w128_in _)
    · exact h
theorem cand_in (l : List UInt8) : InS (cand l) := by
  unfold cand
  split
  · exact InS.small (by decide) (by decide)
  · split
    · exact w128_in _
    · exact rdv_in _ _ (InS.small (by decide) (by decide))
def cutb : List UInt8 → Bool
  | [] => false
  | c :: _ => c == 45
def cutl : List UInt8 → List UInt8
  | [] => []
  | c :: cs => if c == 45 then cs else c :: cs
theorem pre_eq (l : List UInt8) : Lib.hasPrefix l [45] = cutb l := by
  cases l with
  | nil => rfl
  | cons c cs =>
    show (45 == c && true) = (c == 45)
    rw [Bool.and_true]
    exact Bool.eq_iff_iff.2 ⟨fun h => by simpa using (eq_of_beq h).symm, fun h => by simpa using (eq_of_beq h).symm⟩
theorem trim_eq (l : List UInt8) : Lib.trimPrefix l [45] = cutl l := by
  rw [Lib.trimPrefix, pre_eq]
  cases l with
  | nil => rfl
  | cons c cs => rfl
theorem cand_cut (l : List UInt8) : cand l = if cutb l then w128 (-(rdv 0 (cutl l))) else rdv 0 (cutl l) := by
  cases l with
  | nil => rfl
  | cons c cs =>
    unfold cand cutb cutl
    by_cases h : c = 45
    · simp [h]
    · simp [h]
theorem cutl_len (l : List UInt8) : (cutl l).length ≤ l.length := by
  cases l with
  | nil => simp [cutl]
  | cons c cs => simp only [cutl]; split <;> simp
theorem cut_any (s : ByteArray) (w : World) :
    Calls Tryd.prog 36 #[.string s, .string ⟨#[45]⟩] w fun e w' => e = .returned (.tuple #[.string (tx (cutl s.data.toList)), .bool (cutb s.data.toList)]) ∧ w = w' := by
  refine (Tryd.strings_CutPrefix s ⟨#[45]⟩ w).mono ?_
  rintro e w' ⟨rfl, rfl⟩
  refine ⟨?_, rfl⟩
  have h1 := trim_eq s.data.toList
  have h2 := pre_eq s.data.toList
  rw [← h1, ← h2]

set_option maxRecDepth 100000 in
set_option maxHeartbeats 4000000 in
theorem read_any (s : ByteArray) (hs : s.size ≤ maxLen) (w : World) (hT : Tens w) :
    Calls Tryd.prog 28 #[.string s] w fun e w' => e = .returned (if Lib.itoa (cand s.data.toList) = s.data.toList then .tuple #[sv (cand s.data.toList), .bool true] else .tuple #[sv 0, .bool false]) ∧ Below w.heap.size w w' := by
  have hcl := cutl_len s.data.toList
  have hts : (tx (cutl s.data.toList)).size ≤ maxLen := by rw [tx_size]; exact Nat.le_trans hcl (by rw [← Lib.size_eq]; exact hs)
  have hcut := cut_any s
  have hrd : ∀ w, Calls Tryd.prog 37 #[.string (tx (cutl s.data.toList))] w fun e w' => e = .returned (sv (rdv 0 (cutl s.data.toList))) ∧ Below w.heap.size w w' := readDigits_any (tx (cutl s.data.toList)) hts
  have hc := cand_cut s.data.toList
  have hin := cand_in s.data.toList
  have hri := rdv_in (cutl s.data.toList) 0 (InS.small (by decide) (by decide))
  obtain ⟨c, hcc⟩ : ∃ c, cand s.data.toList = c := ⟨_, rfl⟩
  rw [hcc] at hc hin ⊢
  have htx := fun w h => text_any c hin w h
  obtain ⟨d, hd⟩ : ∃ d, tx (cutl s.data.toList) = d := ⟨_, rfl⟩
  obtain ⟨z, hz⟩ : ∃ z, rdv 0 (cutl s.data.toList) = z := ⟨_, rfl⟩
  rw [hd, hz] at hrd
  rw [hz] at hc hri
  rw [hd] at hcut
  have hneg := fun w => neg_any z hri w
  have HT := Lib.hid hT
  have HI := Lib.hid hri
  clear hT hts hcl hcc hd hz hri hs
  by_cases he : Lib.itoa c = s.data.toList
  · rw [if_pos he]
    obtain ⟨t, ht⟩ : ∃ t, tx (Lib.itoa c) = t := ⟨_, rfl⟩
    have hts : t = s := by rw [← ht, he]
    rw [ht, hts] at htx
    clear he ht hts t
    cases hb : cutb s.data.toList with
    | false =>
      rw [hb] at hcut hc
      obtain rfl : c = z := hc
      clear hb hneg
      go_enter Tryd.func28, Tryd.ntmps28
      go_wp2_with fail
      refine (hcut _).mono ?_
      rintro e w1 ⟨rfl, rfl⟩
      go_wp2_with fail
      refine (hrd _).mono ?_
      rintro e w2 ⟨rfl, hB2⟩
      have hR : CellsAt w.heap.size #[.int .i64 0, .int .u64 0] w2 := (CellsAt.new _ _ _).below hB2
      have hE2 : Below w.heap.size w w2 := ((Below.refl _ _).alloc (Nat.le_refl _) _).trans (hB2.mono (by simp))
      have hlt : w.heap.size < w2.heap.size := hR.lt
      have hZ : CellsAt w2.heap.size #[.int .i64 (shi c), .int .u64 (slo c)] (w2.alloc (.cells #[.int .i64 (shi c), .int .u64 (slo c)] 24)) := CellsAt.new _ _ _
      have hE3 : Below w.heap.size w (w2.alloc (.cells #[.int .i64 (shi c), .int .u64 (slo c)] 24)) := hE2.alloc hE2.size _
      have hR3 := hR.past (.cells #[.int .i64 (shi c), .int .u64 (slo c)] 24)
      clear hcut hrd hB2
      go_wp2_with fail
      have hZ5 := hZ
      have hR5 := hR3
      have hE5 := hE3
      refine (htx _ (HT.out.below hE5)).mono ?_
      rintro e w6 ⟨rfl, hB6⟩
      have hZ6 := hZ5.below hB6
      have hR6 := hR5.below hB6
      have hE6 := hE5.trans (hB6.mono hE5.size)
      have y0 := hZ6.cell 0 (.int .i64 (shi c)) rfl
      have y1 := hZ6.cell 1 (.int .u64 (slo c)) rfl
      have r0 := hR6.cell 0 (.int .i64 0) rfl
      have r1 := hR6.cell 1 (.int .u64 0) rfl
      have rf0 := hR6.fro 0 (.int .i64 0) rfl
      have rf1 := hR6.fro 1 (.int .u64 0) rfl
      clear htx hB6
      go_wp2
      have hD := (hR6.set 0 (.int .i64 (shi c)) (by simp)).set 1 (.int .u64 (slo c)) (by simp)
      have k0 := hD.cell 0 (.int .i64 (shi c)) rfl
      have k1 := hD.cell 1 (.int .u64 (slo c)) rfl
      simp [bodyPost, results, Tryd.results28, go_sem, k0, k1]
      exact (hE6.setCell (Nat.le_refl _) _).setCell (Nat.le_refl _) _
    | true =>
      rw [hb] at hcut hc
      obtain rfl : c = w128 (-z) := hc
      obtain ⟨c, hc⟩ : ∃ c, w128 (-z) = c := ⟨_, rfl⟩
      rw [hc] at hneg htx ⊢
      clear hb hc hin
      go_enter Tryd.func28, Tryd.ntmps28
      go_wp2_with fail
      refine (hcut _).mono ?_
      rintro e w1 ⟨rfl, rfl⟩
      go_wp2_with fail
      refine (hrd _).mono ?_
      rintro e w2 ⟨rfl, hB2⟩
      have hR : CellsAt w.heap.size #[.int .i64 0, .int .u64 0] w2 := (CellsAt.new _ _ _).below hB2
      have hE2 : Below w.heap.size w w2 := ((Below.refl _ _).alloc (Nat.le_refl _) _).trans (hB2.mono (by simp))
      have hlt : w.heap.size < w2.heap.size := hR.lt
      have hZ : CellsAt w2.heap.size #[.int .i64 (shi z), .int .u64 (slo z)] (w2.alloc (.cells #[.int .i64 (shi z), .int .u64 (slo z)] 24)) := CellsAt.new _ _ _
      have hE3 : Below w.heap.size w (w2.alloc (.cells #[.int .i64 (shi z), .int .u64 (slo z)] 24)) := hE2.alloc hE2.size _
      have hR3 := hR.past (.cells #[.int .i64 (shi z), .int .u64 (slo z)] 24)
      clear hcut hrd hB2
      go_wp2_with fail
      refine (hneg _).mono ?_
      rintro e w4 ⟨rfl, hB4⟩
      have hZ4 := hZ.below hB4
      have hR4 := hR3.below hB4
      have hE4 := hE3.trans (hB4.mono hE3.size)
      have z0 := hZ4.cell 0 (.int .i64 (shi z)) rfl
      have z1 := hZ4.cell 1 (.int .u64 (slo z)) rfl
      have zf0 := hZ4.fro 0 (.int .i64 (shi z)) rfl
      have zf1 := hZ4.fro 1 (.int .u64 (slo z)) rfl
      clear hneg hB4
      go_wp2_with fail
      have hZ5 := (hZ4.set 0 (.int .i64 (shi c)) (by simp)).set 1 (.int .u64 (slo c)) (by simp)
      have hR5 := (hR4.other ⟨w2.heap.size, 0, none⟩ (.int .i64 (shi c)) (by simp; omega)).other ⟨w2.heap.size, 1, none⟩ (.int .u64 (slo c)) (by simp; omega)
      have hE5 := (hE4.setCell (p := ⟨w2.heap.size, 0, none⟩) (by simp; omega) (.int .i64 (shi c))).setCell (p := ⟨w2.heap.size, 1, none⟩) (by simp; omega) (.int .u64 (slo c))
      refine (htx _ (HT.out.below hE5)).mono ?_
      rintro e w6 ⟨rfl, hB6⟩
      have hZ6 := hZ5.below hB6
      have hR6 := hR5.below hB6
      have hE6 := hE5.trans (hB6.mono hE5.size)
      have y0 := hZ6.cell 0 (.int .i64 (shi c)) rfl
      have y1 := hZ6.cell 1 (.int .u64 (slo c)) rfl
      have r0 := hR6.cell 0 (.int .i64 0) rfl
      have r1 := hR6.cell 1 (.int .u64 0) rfl
      have rf0 := hR6.fro 0 (.int .i64 0) rfl
      have rf1 := hR6.fro 1 (.int .u64 0) rfl
      clear htx hB6
      go_wp2
      have hD := (hR6.set 0 (.int .i64 (shi c)) (by simp)).set 1 (.int .u64 (slo c)) (by simp)
      have k0 := hD.cell 0 (.int .i64 (shi c)) rfl
      have k1 := hD.cell 1 (.int .u64 (slo c)) rfl
      simp [bodyPost, results, Tryd.results28, go_sem, k0, k1]
      exact (hE6.setCell (Nat.le_refl _) _).setCell (Nat.le_refl _) _
  · rw [if_neg he]
    obtain ⟨t, ht⟩ : ∃ t, tx (Lib.itoa c) = t := ⟨_, rfl⟩
    have hne : t.toList ≠ s.toList := by
      intro h
      apply he
      have : t.data.toList = s.data.toList := by rw [← Lib.toList_data, ← Lib.toList_data]; exact h
      rw [← this, ← ht]
    have hts1 : (t.toList == s.toList) = false := by simpa using hne
    have hts2 : (t.toList != s.toList) = true := by simpa using hne
    have e0 : sv 0 = .agg #[.int .i64 0, .int .u64 0] := by unfold sv; rw [show shi 0 = 0 by decide, show slo 0 = 0 by decide]
    rw [ht] at htx
    rw [e0]
    clear he ht hne e0
    cases hb : cutb s.data.toList with
    | false =>
      rw [hb] at hcut hc
      obtain rfl : c = z := hc
      clear hb hneg
      go_enter Tryd.func28, Tryd.ntmps28
      go_wp2_with fail
      refine (hcut _).mono ?_
      rintro e w1 ⟨rfl, rfl⟩
      go_wp2_with fail
      refine (hrd _).mono ?_
      rintro e w2 ⟨rfl, hB2⟩
      have hR : CellsAt w.heap.size #[.int .i64 0, .int .u64 0] w2 := (CellsAt.new _ _ _).below hB2
      have hE2 : Below w.heap.size w w2 := ((Below.refl _ _).alloc (Nat.le_refl _) _).trans (hB2.mono (by simp))
      have hlt : w.heap.size < w2.heap.size := hR.lt
      have hZ : CellsAt w2.heap.size #[.int .i64 (shi c), .int .u64 (slo c)] (w2.alloc (.cells #[.int .i64 (shi c), .int .u64 (slo c)] 24)) := CellsAt.new _ _ _
      have hE3 : Below w.heap.size w (w2.alloc (.cells #[.int .i64 (shi c), .int .u64 (slo c)] 24)) := hE2.alloc hE2.size _
      have hR3 := hR.past (.cells #[.int .i64 (shi c), .int .u64 (slo c)] 24)
      clear hcut hrd hB2
      go_wp2_with fail
      have hZ5 := hZ
      have hR5 := hR3
      have hE5 := hE3
      refine (htx _ (HT.out.below hE5)).mono ?_
      rintro e w6 ⟨rfl, hB6⟩
      have hZ6 := hZ5.below hB6
      have hR6 := hR5.below hB6
      have hE6 := hE5.trans (hB6.mono hE5.size)
      have y0 := hZ6.cell 0 (.int .i64 (shi c)) rfl
      have y1 := hZ6.cell 1 (.int .u64 (slo c)) rfl
      have r0 := hR6.cell 0 (.int .i64 0) rfl
      have r1 := hR6.cell 1 (.int .u64 0) rfl
      have rf0 := hR6.fro 0 (.int .i64 0) rfl
      have rf1 := hR6.fro 1 (.int .u64 0) rfl
      clear htx hB6
      go_wp2
      have hD := (hR6.set 0 (.int .i64 (0)) (by simp)).set 1 (.int .u64 (0)) (by simp)
      have k0 := hD.cell 0 (.int .i64 (0)) rfl
      have k1 := hD.cell 1 (.int .u64 (0)) rfl
      simp [bodyPost, results, Tryd.results28, go_sem, k0, k1]
      exact (hE6.setCell (Nat.le_refl _) _).setCell (Nat.le_refl _) _
    | true =>
      rw [hb] at hcut hc
      obtain rfl : c = w128 (-z) := hc
      obtain ⟨c, hc⟩ : ∃ c, w128 (-z) = c := ⟨_, rfl⟩
      rw [hc] at hneg htx
      clear hb hc hin
      go_enter Tryd.func28, Tryd.ntmps28
      go_wp2_with fail
      refine (hcut _).mono ?_
      rintro e w1 ⟨rfl, rfl⟩
      go_wp2_with fail
      refine (hrd _).mono ?_
      rintro e w2 ⟨rfl, hB2⟩
      have hR : CellsAt w.heap.size #[.int .i64 0, .int .u64 0] w2 := (CellsAt.new _ _ _).below hB2
      have hE2 : Below w.heap.size w w2 := ((Below.refl _ _).alloc (Nat.le_refl _) _).trans (hB2.mono (by simp))
      have hlt : w.heap.size < w2.heap.size := hR.lt
      have hZ : CellsAt w2.heap.size #[.int .i64 (shi z), .int .u64 (slo z)] (w2.alloc (.cells #[.int .i64 (shi z), .int .u64 (slo z)] 24)) := CellsAt.new _ _ _
      have hE3 : Below w.heap.size w (w2.alloc (.cells #[.int .i64 (shi z), .int .u64 (slo z)] 24)) := hE2.alloc hE2.size _
      have hR3 := hR.past (.cells #[.int .i64 (shi z), .int .u64 (slo z)] 24)
      clear hcut hrd hB2
      go_wp2_with fail
      refine (hneg _).mono ?_
      rintro e w4 ⟨rfl, hB4⟩
      have hZ4 := hZ.below hB4
      have hR4 := hR3.below hB4
      have hE4 := hE3.trans (hB4.mono hE3.size)
      have z0 := hZ4.cell 0 (.int .i64 (shi z)) rfl
      have z1 := hZ4.cell 1 (.int .u64 (slo z)) rfl
      have zf0 := hZ4.fro 0 (.int .i64 (shi z)) rfl
      have zf1 := hZ4.fro 1 (.int .u64 (slo z)) rfl
      clear hneg hB4
      go_wp2_with fail
      have hZ5 := (hZ4.set 0 (.int .i64 (shi c)) (by simp)).set 1 (.int .u64 (slo c)) (by simp)
      have hR5 := (hR4.other ⟨w2.heap.size, 0, none⟩ (.int .i64 (shi c)) (by simp; omega)).other ⟨w2.heap.size, 1, none⟩ (.int .u64 (slo c)) (by simp; omega)
      have hE5 := (hE4.setCell (p := ⟨w2.heap.size, 0, none⟩) (by simp; omega) (.int .i64 (shi c))).setCell (p := ⟨w2.heap.size, 1, none⟩) (by simp; omega) (.int .u64 (slo c))
      refine (htx _ (HT.out.below hE5)).mono ?_
      rintro e w6 ⟨rfl, hB6⟩
      have hZ6 := hZ5.below hB6
      have hR6 := hR5.below hB6
      have hE6 := hE5.trans (hB6.mono hE5.size)
      have y0 := hZ6.cell 0 (.int .i64 (shi c)) rfl
      have y1 := hZ6.cell 1 (.int .u64 (slo c)) rfl
      have r0 := hR6.cell 0 (.int .i64 0) rfl
      have r1 := hR6.cell 1 (.int .u64 0) rfl
      have rf0 := hR6.fro 0 (.int .i64 0) rfl
      have rf1 := hR6.fro 1 (.int .u64 0) rfl
      clear htx hB6
      go_wp2
      have hD := (hR6.set 0 (.int .i64 (0)) (by simp)).set 1 (.int .u64 (0)) (by simp)
      have k0 := hD.cell 0 (.int .i64 (0)) rfl
      have k1 := hD.cell 1 (.int .u64 (0)) rfl
      simp [bodyPost, results, Tryd.results28, go_sem, k0, k1]
      exact (hE6.setCell (Nat.le_refl _) _).setCell (Nat.le_refl _) _

/-- What is a sum's text is read as it. -/
theorem read_yes (a : Int) (ha : InS a) (w : World) (hT : Tens w) :
    Calls Tryd.prog 28 #[.string (tx (Lib.itoa a))] w fun e w' => e = .returned (.tuple #[sv a, .bool true]) ∧ Below w.heap.size w w' := by
  have hl : (tx (Lib.itoa a)).size ≤ maxLen := by
    rw [tx_size]
    unfold InS at ha
    by_cases hn : a < 0
    · rw [itoa_neg' hn, List.length_cons, Lib.decDigits_length]
      have := nDigits_le 39 (-a).toNat (by decide) (by simp; omega)
      unfold maxLen; omega
    · rw [itoa_pos' hn, Lib.decDigits_length]
      have := nDigits_le 39 a.toNat (by decide) (by simp; omega)
      unfold maxLen; omega
  have h := read_any (tx (Lib.itoa a)) hl w hT
  have e : cand (tx (Lib.itoa a)).data.toList = a := cand_itoa ha
  rw [e, if_pos rfl] at h
  exact h
/-- What is none is not. -/
theorem read_no (s : ByteArray) (hs : s.size ≤ maxLen) (hn : ∀ a, InS a → Lib.itoa a ≠ s.data.toList) (w : World) (hT : Tens w) :
    Calls Tryd.prog 28 #[.string s] w fun e w' => e = .returned (.tuple #[sv 0, .bool false]) ∧ Below w.heap.size w w' := by
  have h := read_any s hs w hT
  rw [if_neg (hn _ (cand_in _))] at h
  exact h
end Go.Proofs.YthddnhnhlgnlhaaDoor
