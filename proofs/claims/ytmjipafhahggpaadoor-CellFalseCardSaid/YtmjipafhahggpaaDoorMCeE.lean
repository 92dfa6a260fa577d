/- The examples, and a cell of numbers. -/
import Derived.Test.YtmjipafhahggpaaDoorMCeH
import Derived.Test.YtmjipafhahggpaaDoorMcJ
import Derived.Test.YtmjipafhahggpaaDoorMwB
namespace Go.Proofs.YtmjipafhahggpaaDoor.Ce
open Go Go.RowKit Hi

theorem tx_m1 : Wi.tx (Lib.itoa (-1)) = ⟨#[45, 49]⟩ := by
  rw [Wi.itoa_neg' (by decide), show (-(-1 : Int)).toNat = 1 from rfl, Lib.decDigits_one (by decide)]; rfl
theorem text_m1 (w : World) (hT : Wi.Tens w) :
    Calls Tryd.prog 26 #[Wi.sv (-1)] w fun e w' => e = .returned (.string ⟨#[45, 49]⟩) ∧ Below w.heap.size w w' := by
  have h := Wi.text_any (-1) (by unfold Wi.InS; omega) w hT
  rw [tx_m1] at h
  exact h
theorem ex_cel : (celN 1 5 [3, -4]).sum = -1 ∧ (celN 1 5 [3, -4]).lowT = -4 ∧ (celN 1 5 [3, -4]).topT = 3 ∧ countH (celN 1 5 [3, -4]).its = 2 := by decide
theorem ex_get : getC ((celN 1 5 [3, -4]).put ++ [120]) = some (celN 1 5 [3, -4], [120]) :=
  getC_put (celN_fit (by omega) (by unfold In64; omega) (by simp) (by intro x hx; simp at hx; unfold In64; omega)) [120]
set_option maxRecDepth 100000 in
set_option maxHeartbeats 8000000 in
theorem examples_any (w : World) (hT : Wi.Tens w) :
    Calls Tryd.prog 7 #[] w fun e w' => e = .returned (.bool true) ∧ Below w.heap.size w w' := by
  have HT := Lib.hid hT
  have hx1 := fun W => new_out 9 0 (.inr (by omega)) W
  have hx2 := fun W => new_any 1 (by omega) 5 (by unfold In64; omega) W
  have HX1 := Lib.hid hx1
  have HX2 := Lib.hid hx2
  obtain ⟨q, hq⟩ : ∃ q, celN 1 5 [3, -4] = q := ⟨_, rfl⟩
  have hcel := ex_cel
  have hget := ex_get
  rw [hq] at hcel hget
  obtain ⟨q1, q2, q3, q4⟩ := hcel
  have HQ := Lib.hid hq
  have HG := Lib.hid hget
  have HQ1 := Lib.hid q1
  have HQ2 := Lib.hid q2
  have HQ3 := Lib.hid q3
  have HQ4 := Lib.hid q4
  clear hT hx1 hx2 hq hget q1 q2 q3 q4
  go_enter Tryd.func7, Tryd.ntmps7
  have HB0 : Hid (Below w.heap.size w w) := Lib.hid (Below.refl _ _)
  go_wp2_with fail
  refine (HX1.out _).mono ?_
  rintro e w1 ⟨rfl, hB⟩
  have HB1 : Hid (Below w.heap.size w w1) := Lib.hid (HB0.out.trans (hB.mono HB0.out.size))
  clear hB HB0 HX1
  go_wp2_with fail
  refine (HX2.out _).mono ?_
  rintro e w2 ⟨Ca, Sa, rfl, hA, hlo, hB⟩
  have HA := Lib.hid hA
  have HSa : Hid (∀ i, Sa i → w.heap.size ≤ i) := Lib.hid fun i hi => Nat.le_trans HB1.out.size (hlo i hi)
  clear hA hlo
  have HB2 : Hid (Below w.heap.size w w2) := Lib.hid (HB1.out.trans (hB.mono HB1.out.size))
  clear hB HB1 HX2
  have Ha2 : Hid (At Sa Ca (Cel.new 1 5) w2) := HA
  clear HA
  have hb := bounds_any Ha2.out
  rw [show decide (countH (Cel.new 1 5).its ≠ 0) = false from rfl] at hb
  go_wp2_with fail
  refine (hb).mono ?_
  rintro e w3 ⟨rfl, hB⟩
  have HB3 : Hid (Below w.heap.size w w3) := Lib.hid (HB2.out.trans (hB.mono HB2.out.size))
  have Ha3 := Lib.hid (Ha2.out.below hB)
  clear hB HB2 Ha2 hb
  have ha := add_any Ha3.out 3 (by unfold In64; omega) (by show 0 < 1099511627776; omega)
  go_wp2_with fail
  refine (ha).mono ?_
  rintro e w4 ⟨rfl, Sax1, hA, hM, hat⟩
  have HSSax1 : Hid (∀ i, Sax1 i → w.heap.size ≤ i) := Lib.hid fun i hi => (hat i hi).elim (fun h => HSa.out i h) (fun h => Nat.le_trans HB3.out.size h)
  have HB4 : Hid (Below w.heap.size w w4) := Lib.hid (HB3.out.trans (hM.below (fun i hi => HSa.out i hi) HB3.out.size))
  have Ha4 : Hid (At Sax1 Ca ((Cel.new 1 5).add 3) w4) := Lib.hid hA
  clear hA hM hat HB3 Ha3 HSa  ha
  have HSax1 := HSSax1
  clear HSSax1
  have ha := add_any Ha4.out (-4) (by unfold In64; omega) (by show countH (celN 1 5 [3]).its < _; rw [celN_many]; show 1 < 1099511627776; omega)
  rw [show ((Cel.new 1 5).add 3).add (-4) = q from HQ.out] at ha
  go_wp2_with fail
  refine (ha).mono ?_
  rintro e w5 ⟨rfl, Sax2, hA, hM, hat⟩
  have HSSax2 : Hid (∀ i, Sax2 i → w.heap.size ≤ i) := Lib.hid fun i hi => (hat i hi).elim (fun h => HSax1.out i h) (fun h => Nat.le_trans HB4.out.size h)
  have HB5 : Hid (Below w.heap.size w w5) := Lib.hid (HB4.out.trans (hM.below (fun i hi => HSax1.out i hi) HB4.out.size))
  have Ha5 : Hid (At Sax2 Ca q w5) := Lib.hid hA
  clear hA hM hat HB4 Ha4 HSax1  ha
  have HSax2 := HSSax2
  clear HSSax2
  have hb := bounds_any Ha5.out
  rw [HQ2.out, HQ3.out, HQ4.out, show decide ((2 : Nat) ≠ 0) = true from rfl] at hb
  go_wp2_with fail
  refine (hb).mono ?_
  rintro e w6 ⟨rfl, hB⟩
  have HB6 : Hid (Below w.heap.size w w6) := Lib.hid (HB5.out.trans (hB.mono HB5.out.size))
  have Ha6 := Lib.hid (Ha5.out.below hB)
  clear hB HB5 Ha5 hb
  have hp := put_any Ha6.out
  go_wp2_with fail
  refine (hp).mono ?_
  rintro e w7 ⟨rfl, hB⟩
  have HB7 : Hid (Below w.heap.size w w7) := Lib.hid (HB6.out.trans (hB.mono HB6.out.size))
  have Ha7 := Lib.hid (Ha6.out.below hB)
  clear hB HB6 Ha6 hp
  have hs : (tx q.put).size ≤ 20100 := by rw [tx_size]; exact Ha7.out.ok.len
  obtain ⟨P, hP⟩ : ∃ P, tx q.put = P := ⟨_, rfl⟩
  have hg := fun W => get_any (tx q.put ++ ⟨#[120]⟩) (by rw [ByteArray.size_append]; show _ + 1 ≤ _; unfold maxLen; omega) W
  have hl : (tx q.put ++ ⟨#[120]⟩).data.toList = q.put ++ [120] := by simp [tx]
  rw [hl, HG.out] at hg
  rw [hP] at hg hs ⊢
  have z1 : (9223372036854775807 < P.size + 1) = False := eq_false (by omega)
  have HGG := Lib.hid hg
  clear hg hl hP hs
  go_wp2_with fail
  refine (HGG.out _).mono ?_
  rintro e w8 ⟨⟨Cd, Sd, rfl, hA, hlo⟩, hB⟩
  have HA := Lib.hid hA
  have HSd : Hid (∀ i, Sd i → w.heap.size ≤ i) := Lib.hid fun i hi => Nat.le_trans HB7.out.size (hlo i hi)
  have HDad : Hid (∀ i, Sax2 i → ¬ Sd i) := Lib.hid fun i hi hj => by
    have h1 := Ha7.out.own i hi
    have h2 := hlo i hj
    omega
  clear hA hlo
  have HB8 : Hid (Below w.heap.size w w8) := Lib.hid (HB7.out.trans (hB.mono HB7.out.size))
  have Ha8 := Lib.hid (Ha7.out.below hB)
  clear hB HB7 Ha7 HGG z1
  have Hd8 : Hid (At Sd Cd q w8) := HA
  clear HA
  rw [show tx [120] = ⟨#[120]⟩ from rfl]
  have h1 := sum_any Ha8.out
  rw [HQ1.out] at h1
  go_wp2_with fail
  refine (h1).mono ?_
  rintro e w9 ⟨rfl, hB⟩
  have HB9 : Hid (Below w.heap.size w w9) := Lib.hid (HB8.out.trans (hB.mono HB8.out.size))
  have Ha9 := Lib.hid (Ha8.out.below hB)
  have Hd9 := Lib.hid (Hd8.out.below hB)
  clear hB HB8 Ha8 Hd8 h1
  have h1 := text_m1 w9 (HT.out.below HB9.out)
  go_wp2_with fail
  refine (h1).mono ?_
  rintro e w10 ⟨rfl, hB⟩
  have HB10 : Hid (Below w.heap.size w w10) := Lib.hid (HB9.out.trans (hB.mono HB9.out.size))
  have Ha10 := Lib.hid (Ha9.out.below hB)
  have Hd10 := Lib.hid (Hd9.out.below hB)
  clear hB HB9 Ha9 Hd9 h1
  obtain ⟨B1, hB1, h1⟩ := count_any Ha10.out
  have h1 := h1 _ (Below.refl _ _)
  rw [HQ4.out] at h1
  go_wp2_with fail
  refine (h1).mono ?_
  rintro e w11 ⟨rfl, hB⟩
  have HB11 : Hid (Below w.heap.size w w11) := Lib.hid (HB10.out.trans (hB.mono HB10.out.size))
  have Ha11 := Lib.hid (Ha10.out.below hB)
  have Hd11 := Lib.hid (Hd10.out.below hB)
  clear hB HB10 Ha10 Hd10 h1 hB1
  have h1 := same_any Ha11.out Hd11.out
  rw [show decide (q.put = q.put) = true from decide_eq_true rfl] at h1
  go_wp2_with fail
  refine (h1).mono ?_
  rintro e w12 ⟨rfl, hB⟩
  have HB12 : Hid (Below w.heap.size w w12) := Lib.hid (HB11.out.trans (hB.mono HB11.out.size))
  have Ha12 := Lib.hid (Ha11.out.below hB)
  have Hd12 := Lib.hid (Hd11.out.below hB)
  clear hB HB11 Ha11 Hd11 h1
  have h1 := from_any Ha12.out
  rw [show q.frm = 5 by rw [← HQ.out]; rfl] at h1
  go_wp2_with fail
  refine (h1).mono ?_
  rintro e w13 ⟨rfl, hB⟩
  have HB13 : Hid (Below w.heap.size w w13) := Lib.hid (HB12.out.trans (hB.mono HB12.out.size))
  have Ha13 := Lib.hid (Ha12.out.below hB)
  have Hd13 := Lib.hid (Hd12.out.below hB)
  clear hB HB12 Ha12 Hd12 h1
  have h1 := move_any Ha13.out 9 (by unfold In64; omega)
  go_wp2_with fail
  refine (h1).mono ?_
  rintro e w14 ⟨Cm, Sm, rfl, hA, hlo, hB⟩
  have HA := Lib.hid hA
  have HSm : Hid (∀ i, Sm i → w.heap.size ≤ i) := Lib.hid fun i hi => Nat.le_trans HB13.out.size (hlo i hi)
  have HDam : Hid (∀ i, Sax2 i → ¬ Sm i) := Lib.hid fun i hi hj => by
    have h1 := Ha13.out.own i hi
    have h2 := hlo i hj
    omega
  have HDdm : Hid (∀ i, Sd i → ¬ Sm i) := Lib.hid fun i hi hj => by
    have h1 := Hd13.out.own i hi
    have h2 := hlo i hj
    omega
  clear hA hlo
  have HB14 : Hid (Below w.heap.size w w14) := Lib.hid (HB13.out.trans (hB.mono HB13.out.size))
  have Ha14 := Lib.hid (Ha13.out.below hB)
  have Hd14 := Lib.hid (Hd13.out.below hB)
  clear hB HB13 Ha13 Hd13 h1
  have Hm14 : Hid (At Sm Cm (q.move 9) w14) := HA
  clear HA
  have h1 := from_any Hm14.out
  rw [show (q.move 9).frm = 9 from rfl] at h1
  go_wp2_with fail
  refine (h1).mono ?_
  rintro e w15 ⟨rfl, hB⟩
  have HB15 : Hid (Below w.heap.size w w15) := Lib.hid (HB14.out.trans (hB.mono HB14.out.size))
  have Ha15 := Lib.hid (Ha14.out.below hB)
  have Hd15 := Lib.hid (Hd14.out.below hB)
  have Hm15 := Lib.hid (Hm14.out.below hB)
  clear hB HB14 Ha14 Hd14 Hm14 h1
  have h1 := spread_any Ha15.out
  go_wp2_with fail
  refine h1.mono ?_
  rintro e w16 ⟨B9, v9, rfl, hH, hB⟩
  have h2 := Hi.count_any hH
  rw [HQ4.out] at h2
  clear hH h1
  have HB16 : Hid (Below w.heap.size w w16) := Lib.hid (HB15.out.trans (hB.mono HB15.out.size))
  have Ha16 := Lib.hid (Ha15.out.below hB)
  have Hd16 := Lib.hid (Hd15.out.below hB)
  have Hm16 := Lib.hid (Hm15.out.below hB)
  clear hB HB15 Ha15 Hd15 Hm15
  go_wp2_with fail
  refine (h2).mono ?_
  rintro e w17 ⟨rfl, hB⟩
  have HB17 : Hid (Below w.heap.size w w17) := Lib.hid (HB16.out.trans (hB.mono HB16.out.size))
  have Ha17 := Lib.hid (Ha16.out.below hB)
  have Hd17 := Lib.hid (Hd16.out.below hB)
  have Hm17 := Lib.hid (Hm16.out.below hB)
  clear hB HB16 Ha16 Hd16 Hm16 h2
  go_wp2
  go_ret
  exact ⟨rfl, HB17.out⟩
set_option maxRecDepth 100000 in
set_option maxHeartbeats 4000000 in
theorem of_any (f : Int) (hf : In64 f) (k : Nat) (hk : k ≤ 4) (p : Option Addr) (xs : List Int) (cap : Nat) (hlen : xs.length ≤ 1000) (w : World) (hN : Ints p xs w) :
    Calls Tryd.prog 10 #[.int .i64 f, .int .i64 k, .slice p xs.length cap] w fun e w' => ∃ C S, e = .returned (.pointer (some ⟨C, 0, none⟩)) ∧ At.Made (celN k f xs) w C S w' := by
  have hn := new_any k hk f hf w
  have HN := Lib.hid hN
  have HFK := Lib.hid (And.intro hf hk)
  clear hN hf hk
  obtain ⟨n, hln⟩ : ∃ n, xs.length = n := ⟨_, rfl⟩
  have HLN := Lib.hid hln
  rw [hln] at hlen ⊢
  clear hln
  go_enter Tryd.func10, Tryd.ntmps10
  go_wp2_with fail
  refine hn.mono ?_
  rintro e W ⟨C, S, rfl, hA, hlo, hB⟩
  have HA : Hid (At S C (celN k f (xs.take 0)) W) := Lib.hid hA
  have HS := Lib.hid hlo
  have HB := Lib.hid hB
  clear hn hA hlo hB
  go_wp2
  go_loopg [9] n (fun g s9 wx => ∃ (i : Nat) (S : Nat → Prop), i + g = n ∧ s9 = .int .i64 i ∧ Hid (At S C (celN k f (xs.take i)) wx) ∧ Hid (∀ i, S i → w.heap.size ≤ i) ∧ Hid (Below w.heap.size w wx))
  case atStart => exact ⟨0, S, by omega, rfl, HA, HS, HB⟩
  case round =>
    clear HA HS HB
    obtain ⟨i, S, hig, rfl, HA, HS, HB⟩ := hrel
    cases gk with
    | zero =>
      obtain rfl : i = n := by omega
      have HE : Hid (xs.take i = xs) := Lib.hid (List.take_of_length_le (by rw [HLN.out]; exact Nat.le_refl _))
      go_wp2
      go_ret
      exact ⟨C, S, rfl, by rw [← HE.out]; exact HA.out, HS.out, HB.out⟩
    | succ g =>
      have hi : i < n := by omega
      have hix : i < xs.length := by rw [HLN.out]; exact hi
      obtain ⟨D, off, rfl, hC, hcell, hlt⟩ := HN.out i hix
      have hcx := (HB.out.cell (p := ⟨D, off + i, none⟩) hC).trans hcell
      have had := add_any HA.out xs[i] hlt (by rw [celN_many, List.length_take]; omega)
      have hsn : (celN k f (xs.take i)).add xs[i] = celN k f (xs.take (i + 1)) := by
        rw [← celN_snoc, List.take_add_one, List.getElem?_eq_getElem hix]
        rfl
      rw [hsn] at had
      obtain ⟨x, hx⟩ : ∃ x, xs[i] = x := ⟨_, rfl⟩
      rw [hx] at hcx had
      clear hcell hlt hx hsn
      go_wp2_with fail
      refine had.mono ?_
      rintro e w2 ⟨rfl, S2, hA2, hM2, hat2⟩
      have HA2 := Lib.hid hA2
      have HS2 : Hid (∀ i, S2 i → w.heap.size ≤ i) := Lib.hid fun i hi => (hat2 i hi).elim (HS.out i) (fun h => Nat.le_trans HB.out.size h)
      have HB2 : Hid (Below w.heap.size w w2) := Lib.hid (HB.out.trans (hM2.below (fun i hi => HS.out i hi) HB.out.size))
      clear had hA2 hM2 hat2
      go_wp2
      go_roundg g
      case measure => omega
      case rel => exact ⟨i + 1, S2, by omega, by go_num, HA2, HS2, HB2⟩
end Go.Proofs.YtmjipafhahggpaaDoor.Ce

