/- Lines printed. -/
import Derived.Test.YtdmkiiggpelmaaaGreatDoorLnF
import Derived.Lib.ItoaMem
import Derived.Lib.AppendIntMem
namespace Go.Proofs.YtdmkiiggpelmaaaGreatDoor.Lx
open Go Go.RowKit

/-- A world in which nothing has turned that lay there in w. -/
structure Beh (w : World) where
  u : World
  h : Below w.heap.size w u
instance (w : World) : Inhabited (Beh w) := ⟨⟨w, Below.refl _ _⟩⟩
theorem wp_region_beh {P : Program} {id : Nat} {Q : Exit → Act → World → Prop} {a : Act} {w : World} {l : List Oper} (hm : P.follows .mixedOrders = true) (hB : Region.lexB .any l.toArray = true)
    (h : wpQuiet P l.toArray (fun w' => ∃ p : Beh w, w' = p.u) (fun a' => ∀ w', (∃ p : Beh w, w' = p.u) → Q .normal a' w') l a) : (Code.region id l.toArray true).wp P Q a w :=
  wp_region_quiet (C := fun w' => ∃ p : Beh w, w' = p.u) hm hB ⟨⟨{ w with drawn := w.drawn + 1 }, ⟨rfl, rfl, rfl, Nat.le_refl _, fun _ _ => rfl⟩⟩, rfl⟩ (by simpa using h)
theorem calls_beh {P : Program} {f : FuncId} {args : Array Value} {w : World} {v : Value} (p : Beh w) (h : Calls P f args p.u fun e w' => e = .returned v ∧ Below p.u.heap.size p.u w') : Calls P f args p.u fun e w'' => e = .returned v ∧ ∃ q : Beh w, w'' = q.u :=
  h.mono fun _ w' ⟨he, hB⟩ => ⟨he, ⟨w', p.h.trans (hB.mono p.h.size)⟩, rfl⟩
theorem Beh.cell {w : World} {b i : Nat} {v : Value} (hb : b < w.heap.size) (h : w.cell? ⟨b, i, none⟩ = some v) (p : Beh w) : p.u.cell? ⟨b, i, none⟩ = some v := (p.h.cell (p := ⟨b, i, none⟩) hb).trans h
theorem tx_append (a b : List UInt8) : tx a ++ tx b = tx (a ++ b) := by
  apply ByteArray.ext
  simp [tx, ByteArray.data_append]
theorem Tens.beh {w : World} (h : Tens w) (p : Beh w) : Tens p.u := Go.Proofs.YtdmkiiggpelmaaaGreatDoor.Tens.below h p.h
theorem formatInt_any (t : Nat) (ht : t ≤ 9223372036854775807) (w : World) (hT : Tens w) :
    Calls Tryz.prog 26 #[.int .i64 (t : Int), .int .i64 10] w fun e w' => e = .returned (.string (tx (Lib.decDigits t))) ∧ Below w.heap.size w w' := by
  refine (Tryz.strconv_FormatInt_10 (t : Int) (by omega) (by omega) w hT).mono ?_
  rintro e w' ⟨rfl, k, os, rfl⟩
  rw [Lib.itoa_nonneg]
  exact ⟨rfl, Lib.below_grow _ _ (Nat.le_refl _) k os⟩
theorem text_ok (n : Int) (hn : In64 n) (w : World) (hT : Tens w) :
    Calls Tryz.prog 25 #[.int .i64 n] w fun e w' => e = .returned (.string (tx (textF n))) ∧ Below w.heap.size w w' := text_any n hn w hT
theorem escape_any (l : List UInt8) (hl : l.length ≤ 64) (w : World) :
    Calls Tryz.prog 24 #[.string (tx l)] w fun e w' => e = .returned (.string (tx (escL l))) ∧ Below w.heap.size w w' := by
  have h := escape_ok (tx l) (by rw [tx_len]; omega) w
  rwa [list_tx] at h
theorem esc_size {l : List UInt8} (hl : l.length ≤ 64) : (tx (escL l)).size ≤ 128 := by
  rw [tx_len]
  have := escL_le l
  omega
theorem named_short {l : List UInt8} (h : namedL l = true) : l.length ≤ 64 := by
  unfold namedL shortL at h
  simp only [Bool.and_eq_true, decide_eq_true_eq] at h
  exact h.2.2
theorem right_parts {n : List UInt8} {ls : List Lab} {a b : Int} (h : rightF ⟨n, ls, a, b⟩ = true) : 0 ≤ b ∧ ls.length ≤ 16 ∧ n.length ≤ 64 ∧ ∀ x ∈ ls, x.1.length ≤ 64 ∧ x.2.length ≤ 64 := by
  rw [rightF_eq] at h
  simp only [Bool.and_eq_true, decide_eq_true_eq, List.all_eq_true] at h
  obtain ⟨h1, h2, h3, h4⟩ := h
  refine ⟨h1, h2, named_short h3, fun x hx => ?_⟩
  have := h4 x hx
  unfold okL at this
  rw [Bool.and_eq_true] at this
  exact ⟨named_short this.1, named_short this.2⟩
theorem labs_len : ∀ (ls : List Lab), (∀ x ∈ ls, x.1.length ≤ 64 ∧ x.2.length ≤ 64) → (ls.flatMap labelP).length ≤ 258 * ls.length
  | [], _ => by simp
  | x :: r, h => by
    have ih := labs_len r fun y hy => h y (by simp [hy])
    obtain ⟨h1, h2⟩ := h x (by simp)
    have e1 := escL_le x.1
    have e2 := escL_le x.2
    simp only [List.flatMap_cons, List.length_append, labelP, List.length_cons]
    omega
/-- What is told of a line that is printed. -/
def printV (L : LineV) : Bool → Value
  | true => .tuple #[.string (tx (printF L)), .bool true]
  | false => .tuple #[.string ⟨#[]⟩, .bool false]
def printB (L : LineV) : Bool := rightF L && decide ((printF L).length ≤ 1024)

set_option maxRecDepth 100000 in
set_option maxHeartbeats 4000000 in
theorem print_wrong (n : List UInt8) (hn : n.length ≤ maxLen) (p : Option Addr) (cap : Nat) (ls : List Lab) (a b : Int) (hlm : ls.length ≤ maxLen) (hr : rightF ⟨n, ls, a, b⟩ = false) (w : World) (hL : LbAt p ls w) :
    Calls Tryz.prog 12 #[.agg (lineC (tx n) (.slice p ls.length cap) a b)] w fun e w' => e = .returned (.tuple #[.string ⟨#[]⟩, .bool false]) ∧ Below w.heap.size w w' := by
  have hR := fun w h => right_any n hn p cap ls a b hlm w h
  rw [hr] at hR
  have HL0 := Lib.hid (hL.below ((Below.refl _ _).alloc (Nat.le_refl _) (.cells (lineC (tx n) (.slice p ls.length cap) a b) 24)))
  have HB0 : Hid (Below w.heap.size w (w.alloc (.cells (lineC (tx n) (.slice p ls.length cap) a b) 24))) := Lib.hid ((Below.refl _ _).alloc (Nat.le_refl _) _)
  unfold maxLen at hlm
  clear hL hn hr
  go_enter Tryz.func12, Tryz.ntmps12
  go_wp2_with fail
  refine (hR _ HL0.out).mono ?_
  rintro e w1 ⟨rfl, hB1⟩
  have HB1 := Lib.hid (HB0.out.trans (hB1.mono HB0.out.size))
  clear hR hB1 HL0 HB0
  go_wp2
  go_ret2
  exact ⟨rfl, HB1.out⟩

set_option maxRecDepth 100000 in
set_option maxHeartbeats 8000000 in
theorem print_right (n : List UInt8) (p : Option Addr) (cap : Nat) (ls : List Lab) (a b : Int) (ha : In64 a) (hb : b ≤ 9223372036854775807) (hr : rightF ⟨n, ls, a, b⟩ = true) (w : World) (hT : Tens w) (hL : LbAt p ls w) :
    Calls Tryz.prog 12 #[.agg (lineC (tx n) (.slice p ls.length cap) a b)] w fun e w' => e = .returned (printV ⟨n, ls, a, b⟩ (decide ((printF ⟨n, ls, a, b⟩).length ≤ 1024))) ∧ Below w.heap.size w w' := by
  obtain ⟨hb0, hm, hn, hx⟩ := right_parts hr
  have hR := fun w h => right_any n (by unfold maxLen; omega) p cap ls a b (by unfold maxLen; omega) w h
  rw [hr] at hR
  have hbel : Below w.heap.size w (w.alloc (.cells (lineC (tx n) (.slice p ls.length cap) a b) 24)) := (Below.refl _ _).alloc (Nat.le_refl _) _
  have HL0 := Lib.hid (hL.below hbel)
  have HB0 := Lib.hid hbel
  have HC0 := Lib.hid (CellsAt.new (lineC (tx n) (.slice p ls.length cap) a b) 24 w)
  have HT := Lib.hid hT
  have he := escape_any n hn
  obtain ⟨R, hRR⟩ : ∃ R, printV ⟨n, ls, a, b⟩ (decide ((printF ⟨n, ls, a, b⟩).length ≤ 1024)) = R := ⟨_, rfl⟩
  rw [hRR]
  have HRR := Lib.hid hRR
  have HX := Lib.hid hx
  have hS0 := esc_size hn
  obtain ⟨t, rfl⟩ : ∃ t : Nat, b = (t : Int) := ⟨b.toNat, by omega⟩
  clear hL hn hr hbel hT hRR hx
  go_enter Tryz.func12, Tryz.ntmps12
  go_wp2_with fail
  refine (hR _ HL0.out).mono ?_
  rintro e w1 ⟨rfl, hB1⟩
  have HB1 := Lib.hid (HB0.out.trans (hB1.mono HB0.out.size))
  have HL1 := Lib.hid (HL0.out.below hB1)
  have HC1 := Lib.hid (HC0.out.below hB1)
  clear hR hB1 HL0 HB0 HC0
  have k0 := HC1.out.cell 0 _ rfl
  go_wp2_with fail
  refine (he _).mono ?_
  rintro e w2 ⟨rfl, hB2⟩
  have HB2 := Lib.hid (HB1.out.trans (hB2.mono HB1.out.size))
  have HL2 := Lib.hid (HL1.out.below hB2)
  have HC2 := Lib.hid (HC1.out.below hB2)
  clear k0 hB2 HL1 HB1 HC1 he
  have k0 := HC2.out.cell 1 _ rfl
  obtain ⟨S0, hS⟩ : ∃ S, tx (escL n) = S := ⟨_, rfl⟩
  rw [hS] at hS0 ⊢
  have HS := Lib.hid hS
  clear hS
  go_wp2
  clear k0
  go_loopg [4, 16] ls.length (fun g s4 s16 wx => ∃ (k : Nat) (S : ByteArray), k + g = ls.length ∧ s16 = .int .i64 (k : Int) ∧ s4 = .string S ∧ S.size ≤ 128 + 258 * k ∧ Hid (S = tx (escL n ++ (ls.take k).flatMap labelP)) ∧ Hid (LbAt p ls wx) ∧ Hid (CellsAt w.heap.size (lineC (tx n) (.slice p ls.length cap) a (t : Int)) wx) ∧ Hid (Below w.heap.size w wx))
  case atStart => exact ⟨0, S0, by omega, rfl, rfl, by omega, Lib.hid (by rw [← HS.out]; simp), HL2, HC2, HB2⟩
  case round =>
    clear HL2 HC2 HB2 HS hS0
    obtain ⟨k, S, hkg, rfl, rfl, hSs, HS, HL, HC, HB⟩ := hrel
    cases gk with
    | zero =>
      obtain rfl : k = ls.length := by omega
      have hT1 := Go.Proofs.YtdmkiiggpelmaaaGreatDoor.Tens.below HT.out HB.out
      have hHT1 := Lib.hid hT1
      have he1 := fun (p : Beh wr) => text_ok a ha p.u (Tens.beh hHT1.out p)
      have he2 := fun (p : Beh wr) => formatInt_any t (by omega) p.u (Tens.beh hHT1.out p)
      have hBl := HC.out.lt
      have q1 := Beh.cell (w := wr) hBl (HC.out.cell 2 _ rfl)
      have q2 := Beh.cell (w := wr) hBl (HC.out.cell 3 _ rfl)
      have s1 : (tx (textF a)).size ≤ 21 := by rw [tx_len]; exact (text_len ha).1
      have s2 : (tx (Lib.decDigits t)).size ≤ 20 := by rw [tx_len]; exact dec_20 (by omega)
      have HP : Hid (S ++ (⟨#[32, 118, 97, 108, 117, 101, 61]⟩ ++ tx (textF a) ++ ⟨#[32]⟩ ++ tx (Lib.decDigits t)) = tx (printF ⟨n, ls, a, (t : Int)⟩)) := Lib.hid (by
        rw [HS.out, show (⟨#[32, 118, 97, 108, 117, 101, 61]⟩ : ByteArray) = tx [32, 118, 97, 108, 117, 101, 61] from rfl, show (⟨#[32]⟩ : ByteArray) = tx [32] from rfl]
        simp only [tx_append]
        rw [List.take_length]
        simp [printF, valueL])
      generalize tx (textF a) = E1 at *
      generalize tx (Lib.decDigits t) = E2 at *
      have z1 : (9223372036854775807 < 7 + E1.size) = False := eq_false (by omega)
      have z2 : (9223372036854775807 < 7 + E1.size + 1) = False := eq_false (by omega)
      have z3 : (9223372036854775807 < 7 + E1.size + 1 + E2.size) = False := eq_false (by omega)
      have z4 : (9223372036854775807 < S.size + (7 + E1.size + 1 + E2.size)) = False := eq_false (by omega)
      clear hT1
      go_wp2
      refine wp_region_beh (by kernel_rfl) (by kernel_rfl) ?_
      iterate 4 (quiet_step (exact calls_beh _ (he1 _)))
      repeat (quiet_step (exact calls_beh _ (he2 _)))
      refine wpQuiet_nil ?_
      intro _ hw'
      obtain ⟨⟨W, hBW⟩, hw''⟩ := hw'
      subst hw''
      have HB2 := Lib.hid (HB.out.trans (hBW.mono HB.out.size))
      have hS2 : (S ++ (⟨#[32, 118, 97, 108, 117, 101, 61]⟩ ++ E1 ++ ⟨#[32]⟩ ++ E2)).size ≤ 128 + 258 * ls.length + 100 := by
        rw [ByteArray.size_append, ByteArray.size_append, ByteArray.size_append, ByteArray.size_append]
        show S.size + (7 + E1.size + 1 + E2.size) ≤ _
        omega
      clear he1 he2 q1 q2 hBW z1 z2 z3 z4 HB
      generalize S ++ (⟨#[32, 118, 97, 108, 117, 101, 61]⟩ ++ E1 ++ ⟨#[32]⟩ ++ E2) = S2 at *
      have hlen : (printF ⟨n, ls, a, (t : Int)⟩).length = S2.size := by rw [HP.out, tx_len]
      have hr := HRR.out
      rw [hlen] at hr
      clear hlen
      by_cases h : S2.size ≤ 1024
      · rw [decide_eq_true h] at hr
        unfold printV at hr
        simp only at hr
        rw [← HP.out] at hr
        subst hr
        clear HP HRR
        go_wp2
        go_ret2
        exact ⟨rfl, HB2.out⟩
      · rw [decide_eq_false h] at hr
        unfold printV at hr
        simp only at hr
        subst hr
        have h : 1024 < S2.size := by omega
        clear HP HRR
        go_wp2
        go_ret2
        exact ⟨rfl, HB2.out⟩
    | succ g =>
      have hlt : k < ls.length := by omega
      obtain ⟨C, off, rfl, hC, c0, c1, _, _⟩ := HL.out k hlt
      obtain ⟨b0, b1⟩ := HX.out _ (List.getElem_mem hlt)
      have htk : (ls.take (k + 1)).flatMap labelP = (ls.take k).flatMap labelP ++ labelP ls[k] := by
        rw [List.take_succ_eq_append_getElem hlt, List.flatMap_append]
        simp
      have HTK := Lib.hid htk
      clear htk
      generalize ls[k] = x at c0 c1 b0 b1 HTK
      obtain ⟨x1, x2⟩ := x
      have he1 := fun (p : Beh (wr.alloc (.cells #[.string (tx x1), .string (tx x2)] 46))) => escape_any x1 b0 p.u
      have he2 := fun (p : Beh (wr.alloc (.cells #[.string (tx x1), .string (tx x2)] 46))) => escape_any x2 b1 p.u
      have s1 := esc_size b0
      have s2 := esc_size b1
      have q1 := Beh.cell (w := wr.alloc (.cells #[.string (tx x1), .string (tx x2)] 46)) (b := wr.heap.size) (i := 0) (v := .string (tx x1)) (by simp) (by rw [World.cell?_alloc_new]; rfl)
      have q2 := Beh.cell (w := wr.alloc (.cells #[.string (tx x1), .string (tx x2)] 46)) (b := wr.heap.size) (i := 1) (v := .string (tx x2)) (by simp) (by rw [World.cell?_alloc_new]; rfl)
      have HP : Hid (S ++ (⟨#[44]⟩ ++ tx (escL x1) ++ ⟨#[61]⟩ ++ tx (escL x2)) = tx (escL n ++ (ls.take (k + 1)).flatMap labelP)) := Lib.hid (by
        rw [HTK.out, HS.out, show (⟨#[44]⟩ : ByteArray) = tx [44] from rfl, show (⟨#[61]⟩ : ByteArray) = tx [61] from rfl]
        simp only [tx_append]
        simp [labelP])
      have HL1 := Lib.hid (HL.out.below ((Below.refl _ _).alloc (Nat.le_refl _) (.cells #[.string (tx x1), .string (tx x2)] 46)))
      have HC1 := Lib.hid (HC.out.below ((Below.refl _ _).alloc (Nat.le_refl _) (.cells #[.string (tx x1), .string (tx x2)] 46)))
      have HB1 := Lib.hid (HB.out.alloc HB.out.size (.cells #[.string (tx x1), .string (tx x2)] 46))
      clear HL HC HB HTK b0 b1
      generalize tx (escL x1) = E1 at *
      generalize tx (escL x2) = E2 at *
      generalize tx x1 = y1 at *
      generalize tx x2 = y2 at *
      have z1 : (9223372036854775807 < 1 + E1.size) = False := eq_false (by omega)
      have z2 : (9223372036854775807 < 1 + E1.size + 1) = False := eq_false (by omega)
      have z3 : (9223372036854775807 < 1 + E1.size + 1 + E2.size) = False := eq_false (by omega)
      have z4 : (9223372036854775807 < S.size + (1 + E1.size + 1 + E2.size)) = False := eq_false (by omega)
      go_wp2
      refine wp_region_beh (by kernel_rfl) (by kernel_rfl) ?_
      iterate 4 (quiet_step (exact calls_beh _ (he1 _)))
      repeat (quiet_step (exact calls_beh _ (he2 _)))
      refine wpQuiet_nil ?_
      intro _ hw'
      obtain ⟨⟨W, hBW⟩, hw''⟩ := hw'
      subst hw''
      have HB2 := Lib.hid (HB1.out.trans (hBW.mono HB1.out.size))
      have HL2 := Lib.hid (HL1.out.below hBW)
      have HC2 := Lib.hid (HC1.out.below hBW)
      have hS2 : (S ++ (⟨#[44]⟩ ++ E1 ++ ⟨#[61]⟩ ++ E2)).size ≤ 128 + 258 * (k + 1) := by
        rw [ByteArray.size_append, ByteArray.size_append, ByteArray.size_append, ByteArray.size_append]
        show S.size + (1 + E1.size + 1 + E2.size) ≤ _
        omega
      clear he1 he2 q1 q2 hBW z1 z2 z3 z4 HB1 HL1 HC1
      generalize S ++ (⟨#[44]⟩ ++ E1 ++ ⟨#[61]⟩ ++ E2) = S2 at *
      go_wp2
      go_roundg g
      case measure => omega
      case rel => exact ⟨k + 1, S2, by omega, by go_num, rfl, hS2, HP, HL2, HC2, HB2⟩
theorem print_any (n : List UInt8) (hn : n.length ≤ maxLen) (p : Option Addr) (cap : Nat) (ls : List Lab) (a b : Int) (ha : In64 a) (hb : b ≤ 9223372036854775807) (hlm : ls.length ≤ maxLen) (w : World) (hT : Tens w) (hL : LbAt p ls w) :
    Calls Tryz.prog 12 #[.agg (lineC (tx n) (.slice p ls.length cap) a b)] w fun e w' => e = .returned (printV ⟨n, ls, a, b⟩ (printB ⟨n, ls, a, b⟩)) ∧ Below w.heap.size w w' := by
  unfold printB
  by_cases hr : rightF ⟨n, ls, a, b⟩ = true
  · rw [hr]
    exact print_right n p cap ls a b ha hb hr w hT hL
  · have hr : rightF ⟨n, ls, a, b⟩ = false := by simpa using hr
    rw [hr]
    exact print_wrong n hn p cap ls a b hlm hr w hL
end Go.Proofs.YtdmkiiggpelmaaaGreatDoor.Lx
