/- What a series goes by; a label's value by its name. -/
import Derived.Test.YtlocjhnlemlnmaaLbJ
namespace Go.Proofs.Ytlocjhnlemlnmaa.Lx
open Go Go.RowKit

/-- What is told of a key. -/
def keyV : Except Nat (List UInt8) → Value
  | .ok k => .tuple #[.string (tx k), .int .i64 0]
  | .error c => .tuple #[.string ⟨#[]⟩, .int .i64 (c : Int)]

set_option maxRecDepth 100000 in
set_option maxHeartbeats 8000000 in
theorem key_any (n : List UInt8) (hn : n.length ≤ maxLen) (p : Option Addr) (c : Nat) (ls : List LabB) (hp : p = none → c = 0) (hlen : ls.length ≤ maxLab) (w : World) (hL : LbAt p ls w) :
    Calls Try.prog 15 #[.string (tx n), .slice p ls.length c] w fun e w' => e = .returned (keyV (keyE n ls)) ∧ Below w.heap.size w w' := by
  have hnm := fun w => isname_any n hn w
  have HLEN := hlen
  unfold maxLab at hlen
  by_cases hm : 16 < ls.length
  · rw [keyE_many hm]
    clear hnm hp hn HLEN
    have hr : keyV (.error 1) = .tuple #[.string ⟨#[]⟩, .int .i64 1] := rfl
    rw [hr]
    clear hr hL
    go_enter Try.func15, Try.ntmps15
    go_wp2
    go_ret2
    exact ⟨rfl, Below.refl _ _⟩
  have hm : ls.length ≤ 16 := by omega
  by_cases hnn : namedL n = true
  rotate_left
  · have hnn : namedL n = false := by simpa using hnn
    rw [keyE_name hnn]
    rw [hnn] at hnm
    have hr : keyV (.error 1) = .tuple #[.string ⟨#[]⟩, .int .i64 1] := rfl
    rw [hr]
    clear hr hL hnn hp hn HLEN
    go_enter Try.func15, Try.ntmps15
    go_wp2_with fail
    refine (hnm _).mono ?_
    rintro e w1 ⟨rfl, rfl⟩
    go_wp2
    go_ret2
    exact ⟨rfl, Below.refl _ _⟩
  rw [hnn] at hnm
  have hns := named_short hnn
  obtain ⟨Rk, hRk⟩ : ∃ Rk, keyE n ls = Rk := ⟨_, rfl⟩
  rw [hRk]
  have HRK := Lib.hid hRk
  have HNN := Lib.hid hnn
  have HL := Lib.hid hL
  have HB0 := Lib.hid (Below.refl w.heap.size w)
  have HS := Lib.hid (fun W h => sort_any p c ls hp HLEN W h)
  clear hRk hnn hL hp HLEN
  go_enter Try.func15, Try.ntmps15
  go_wp2_with fail
  refine (hnm _).mono ?_
  rintro e w1 ⟨rfl, rfl⟩
  clear hnm
  go_wp2
  go_loopg [21] ls.length (fun g s21 wx => ∃ k : Nat, s21 = .int .i64 (k : Int) ∧ g + k = ls.length ∧ Hid ((ls.take k).all okL = true) ∧ Hid (LbAt p ls wx) ∧ Hid (Below w1.heap.size w1 wx))
  case atStart => exact ⟨0, rfl, rfl, Lib.hid (by simp), HL, HB0⟩
  case round =>
    clear HL HB0
    obtain ⟨k, rfl, hgk, HV, HL, HB⟩ := hrel
    cases gk with
    | zero =>
      have hk : k = ls.length := by omega
      subst hk
      have hall := HV.out
      rw [List.take_length] at hall
      have hfine := keyE_fine hm HNN.out hall
      rw [HRK.out] at hfine
      have HALL := Lib.hid hall
      clear hall HV
      go_wp2_with fail
      refine (HS.out _ HL.out).mono ?_
      intro e w2 hE
      cases hs : sortK ls with
      | none =>
        rw [hs] at hE hfine
        obtain ⟨rfl, hB2⟩ := hE
        simp only at hfine
        subst hfine
        have HB2 := Lib.hid (HB.out.trans (hB2.mono HB.out.size))
        clear hB2 hs HB HS HL HRK
        go_wp2
        go_ret2
        exact ⟨rfl, HB2.out⟩
      | some s =>
        rw [hs] at hE hfine
        obtain ⟨v, rfl, hO, hB2⟩ := hE
        simp only at hfine
        obtain ⟨s1, s2⟩ := sortK_some hs
        have hsl : s.length ≤ 16 := by rw [s2.length_eq]; exact hm
        have hsf : ∀ x ∈ s, x.1.length ≤ 64 ∧ x.2.length ≤ 64 := fun x hx => okL_fit (List.all_eq_true.1 HALL.out x (s2.mem_iff.1 hx))
        obtain ⟨q, d, rfl⟩ := hO.len
        have hlies := hO.lies (fun x hx => by have := hsf x hx; unfold maxLen; omega)
        have hj := join_any n q d s hns.2 hsl hsf w2 hlies
        have hkl : (keyK n s).length ≤ 2500 := by
          have := labK_fit s hsf
          rw [keyK_len]
          omega
        have hks : (tx (keyK n s)).size = (keyK n s).length := tx_len _
        have HB2 := Lib.hid (HB.out.trans (hB2.mono HB.out.size))
        clear hB2 hs HB HS HL HRK hO hlies hsf s1 s2 HALL
        generalize (keyK n s).length = L at *
        obtain ⟨T, hT⟩ : ∃ T, tx (keyK n s) = T := ⟨_, rfl⟩
        rw [hT] at hj hks
        have HT := Lib.hid hT
        clear hT
        go_wp2_with fail
        refine hj.mono ?_
        rintro e w3 ⟨rfl, hB3⟩
        have HB3 := Lib.hid (HB2.out.trans (hB3.mono HB2.out.size))
        clear hj hB3 HB2
        by_cases h4 : 2048 < L
        · rw [if_pos h4] at hfine
          subst hfine
          go_wp2
          go_ret2
          exact ⟨rfl, HB3.out⟩
        · rw [if_neg h4] at hfine
          subst hfine
          have h4 : L ≤ 2048 := by omega
          have hv : keyV (.ok (keyK n s)) = .tuple #[.string T, .int .i64 0] := by rw [← HT.out]; rfl
          have HV := Lib.hid hv
          clear hv
          go_wp2
          go_ret2
          exact ⟨by rw [HV.out]; rfl, HB3.out⟩
    | succ g =>
      have hlt : k < ls.length := by omega
      obtain ⟨C, off, rfl, hC, c0, c1, b0, b1⟩ := HL.out k hlt
      have htk : (ls.take (k + 1)).all okL = (okL ls[k] && true) := by
        rw [List.take_succ_eq_append_getElem hlt, List.all_append, HV.out]
        simp
      have hin := List.getElem_mem hlt
      have hno : okL ls[k] = false → Rk = .error 1 := fun h => by
        rw [← HRK.out]
        refine keyE_all ?_
        rw [Bool.eq_false_iff]
        intro ha
        have := List.all_eq_true.1 ha _ hin
        rw [h] at this
        cases this
      have HTK := Lib.hid htk
      have HNO := Lib.hid hno
      clear htk hno hin HV
      generalize ls[k] = x at c0 c1 b0 b1 HTK HNO
      obtain ⟨x1, x2⟩ := x
      have hn1 := fun w => isname_any x1 b0 w
      have hn2 := fun w => isname_any x2 b1 w
      have HB1 := Lib.hid (HB.out.alloc HB.out.size (.cells #[.string (tx x1), .string (tx x2)] 47))
      have HL1 := Lib.hid (HL.out.below ((Below.refl _ _).alloc (Nat.le_refl _) (.cells #[.string (tx x1), .string (tx x2)] 47)))
      clear HB HL b0 b1
      by_cases h1 : namedL x1 = true
      · rw [h1] at hn1
        by_cases h2 : namedL x2 = true
        · rw [h2] at hn2
          have HR2 : Hid ((ls.take (k + 1)).all okL = true) := Lib.hid (by rw [HTK.out]; unfold okL; rw [h1, h2]; rfl)
          clear h1 h2 HTK HNO
          generalize tx x1 = y1 at *
          generalize tx x2 = y2 at *
          go_wp2_with fail
          refine (hn1 _).mono ?_
          rintro e w1 ⟨rfl, rfl⟩
          go_wp2_with fail
          refine (hn2 _).mono ?_
          rintro e w1 ⟨rfl, rfl⟩
          go_wp2
          go_roundg g
          case measure => omega
          case rel => exact ⟨k + 1, by go_num, by omega, HR2, HL1, HB1⟩
        · have h2 : namedL x2 = false := by simpa using h2
          rw [h2] at hn2
          obtain rfl : Rk = .error 1 := HNO.out (by unfold okL; rw [h1, h2]; rfl)
          clear h1 h2 HTK HNO HRK
          generalize tx x1 = y1 at *
          generalize tx x2 = y2 at *
          go_wp2_with fail
          refine (hn1 _).mono ?_
          rintro e w1 ⟨rfl, rfl⟩
          go_wp2_with fail
          refine (hn2 _).mono ?_
          rintro e w1 ⟨rfl, rfl⟩
          go_wp2
          go_ret2
          exact ⟨rfl, HB1.out⟩
      · have h1 : namedL x1 = false := by simpa using h1
        rw [h1] at hn1
        obtain rfl : Rk = .error 1 := HNO.out (by unfold okL; rw [h1]; rfl)
        clear h1 HTK HNO HRK hn2
        generalize tx x1 = y1 at *
        generalize tx x2 = y2 at *
        go_wp2_with fail
        refine (hn1 _).mono ?_
        rintro e w1 ⟨rfl, rfl⟩
        go_wp2
        go_ret2
        exact ⟨rfl, HB1.out⟩

/-- What is told of a value by a name. -/
def getV : Option (List UInt8) → Value
  | some v => .tuple #[.string (tx v), .bool true]
  | none => .tuple #[.string ⟨#[]⟩, .bool false]

set_option maxRecDepth 100000 in
set_option maxHeartbeats 4000000 in
theorem get_any (p : Option Addr) (c : Nat) (ls : List LabB) (hlen : ls.length ≤ maxLab) (n : List UInt8) (w : World) (hL : LbAt p ls w) :
    Calls Try.prog 17 #[.slice p ls.length c, .string (tx n)] w fun e w' => e = .returned (getV (getK ls n)) ∧ Below w.heap.size w w' := by
  unfold maxLab at hlen
  obtain ⟨R, hR⟩ : ∃ R, getK ls n = R := ⟨_, rfl⟩
  rw [hR]
  have HR0 := Lib.hid hR
  have HL := Lib.hid hL
  have HB0 := Lib.hid (Below.refl w.heap.size w)
  clear hR hL
  go_enter Try.func17, Try.ntmps17
  go_wp2
  go_loopg [10] ls.length (fun g sk wx => ∃ k : Nat, sk = .int .i64 (k : Int) ∧ g + k = ls.length ∧ Hid (getK (ls.drop k) n = R) ∧ Hid (LbAt p ls wx) ∧ Hid (Below w.heap.size w wx))
  case atStart => exact ⟨0, rfl, rfl, HR0, HL, HB0⟩
  case round =>
    clear HL HB0 HR0
    obtain ⟨k, rfl, hgk, HV, HL, HB⟩ := hrel
    cases gk with
    | zero =>
      have hk : k = ls.length := by omega
      subst hk
      obtain rfl : R = none := by rw [← HV.out, List.drop_length]; rfl
      clear HV HL
      go_wp2
      go_ret2
      exact ⟨rfl, HB.out⟩
    | succ g =>
      have hlt : k < ls.length := by omega
      obtain ⟨C, off, rfl, hC, c0, c1, _, _⟩ := HL.out k hlt
      have hv := HV.out
      rw [List.drop_eq_getElem_cons hlt, getK_cons] at hv
      have HX := Lib.hid hv
      clear hv HV
      generalize ls[k] = x at c0 c1 HX
      obtain ⟨x1, x2⟩ := x
      have HB1 := Lib.hid (HB.out.alloc HB.out.size (.cells #[.string (tx x1), .string (tx x2)] 47))
      have HL1 := Lib.hid (HL.out.below ((Below.refl _ _).alloc (Nat.le_refl _) (.cells #[.string (tx x1), .string (tx x2)] 47)))
      clear HB HL
      by_cases h1 : x1 = n
      · obtain rfl : R = some x2 := by rw [← HX.out, if_pos h1]
        have he : ((tx x1).toList == (tx n).toList) = true := by rw [tx_eq]; exact decide_eq_true h1
        have hv : getV (some x2) = .tuple #[.string (tx x2), .bool true] := rfl
        have HVV := Lib.hid hv
        clear h1 HX hv
        generalize tx x1 = y1 at *
        generalize tx x2 = y2 at *
        generalize tx n = yn at *
        go_wp2
        go_ret2
        exact ⟨by rw [HVV.out]; rfl, HB1.out⟩
      · have HV2 : Hid (getK (ls.drop (k + 1)) n = R) := Lib.hid (by rw [← HX.out, if_neg h1])
        have he : ((tx x1).toList == (tx n).toList) = false := by rw [tx_eq]; exact decide_eq_false h1
        clear h1 HX
        generalize tx x1 = y1 at *
        generalize tx x2 = y2 at *
        generalize tx n = yn at *
        go_wp2
        go_roundg g
        case measure => omega
        case rel => exact ⟨k + 1, by go_num, by omega, HV2, HL1, HB1⟩

set_option maxRecDepth 100000 in
set_option maxHeartbeats 4000000 in
theorem ref_get (p : Option Addr) (c : Nat) (ls : List LabB) (hlen : ls.length ≤ maxLab) (n : List UInt8) (w : World) (hL : LbAt p ls w) :
    Calls Try.prog 18 #[.slice p ls.length c, .string (tx n)] w fun e w' => e = .returned (getV (getK ls n)) ∧ Below w.heap.size w w' := by
  unfold maxLab at hlen
  obtain ⟨R, hR⟩ : ∃ R, getK ls n = R := ⟨_, rfl⟩
  rw [hR]
  have HR0 := Lib.hid hR
  have HL := Lib.hid hL
  have HB0 := Lib.hid (Below.refl w.heap.size w)
  clear hR hL
  go_enter Try.func18, Try.ntmps18
  go_wp2
  go_loopg [6] ls.length (fun g sk wx => ∃ k : Nat, sk = .int .i64 (k : Int) ∧ g + k = ls.length ∧ Hid (getK (ls.drop k) n = R) ∧ Hid (LbAt p ls wx) ∧ Hid (Below w.heap.size w wx))
  case atStart => exact ⟨0, rfl, rfl, HR0, HL, HB0⟩
  case round =>
    clear HL HB0 HR0
    obtain ⟨k, rfl, hgk, HV, HL, HB⟩ := hrel
    cases gk with
    | zero =>
      have hk : k = ls.length := by omega
      subst hk
      obtain rfl : R = none := by rw [← HV.out, List.drop_length]; rfl
      clear HV HL
      go_wp2
      go_ret2
      exact ⟨rfl, HB.out⟩
    | succ g =>
      have hlt : k < ls.length := by omega
      obtain ⟨C, off, rfl, hC, c0, c1, _, _⟩ := HL.out k hlt
      have hv := HV.out
      rw [List.drop_eq_getElem_cons hlt, getK_cons] at hv
      have HX := Lib.hid hv
      clear hv HV
      generalize ls[k] = x at c0 c1 HX
      obtain ⟨x1, x2⟩ := x
      have HB1 := HB
      have HL1 := HL
      clear HB HL
      by_cases h1 : x1 = n
      · obtain rfl : R = some x2 := by rw [← HX.out, if_pos h1]
        have he : ((tx x1).toList == (tx n).toList) = true := by rw [tx_eq]; exact decide_eq_true h1
        have hv : getV (some x2) = .tuple #[.string (tx x2), .bool true] := rfl
        have HVV := Lib.hid hv
        clear h1 HX hv
        generalize tx x1 = y1 at *
        generalize tx x2 = y2 at *
        generalize tx n = yn at *
        go_wp2
        go_ret2
        exact ⟨by rw [HVV.out]; rfl, HB1.out⟩
      · have HV2 : Hid (getK (ls.drop (k + 1)) n = R) := Lib.hid (by rw [← HX.out, if_neg h1])
        have he : ((tx x1).toList == (tx n).toList) = false := by rw [tx_eq]; exact decide_eq_false h1
        clear h1 HX
        generalize tx x1 = y1 at *
        generalize tx x2 = y2 at *
        generalize tx n = yn at *
        go_wp2
        go_roundg g
        case measure => omega
        case rel => exact ⟨k + 1, by go_num, by omega, HV2, HL1, HB1⟩
end Go.Proofs.Ytlocjhnlemlnmaa.Lx
