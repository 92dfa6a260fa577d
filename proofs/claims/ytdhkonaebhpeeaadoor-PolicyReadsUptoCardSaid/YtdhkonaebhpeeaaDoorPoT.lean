/- A policy is told. -/
import Derived.Test.YtdhkonaebhpeeaaDoorPoR
import Derived.Test.YtdhkonaebhpeeaaDoorShelf
import Derived.Lib.AppendStr
import Derived.Lib.OthersKept
import Derived.Lib.ItoaMem
namespace Go.Proofs.YtdhkonaebhpeeaaDoor.Po
open Go Go.RowKit

theorem itoa_dig (x : Int) : Lib.itoa x = digF x := by
  unfold Lib.itoa digF sgL farF
  by_cases h : x < 0
  · rw [if_pos h, if_pos h]; rfl
  · rw [if_neg h, if_neg h, List.nil_append]
    congr 1
    omega
theorem append_string {B : Nat} {v : Value} {l : List UInt8} {w : World} (ty : TypeId) (hO : OwnB B v l w) (s : List UInt8) (hlen : l.length + s.length ≤ 140737488355328) (hB : B ≤ w.heap.size) :
    ∃ v' w', (Builtin.append_ #[62, 9] ty #[v, .string (tx s)]).run Tryd.prog w = .ok v' w' ∧ OwnB B v' (l ++ s) w' ∧ Mov (fun j => v.ownBlock = some j) w w' := by
  obtain ⟨i, hi, hz0, hz1, hz2⟩ := info_parts info_u8
  obtain ⟨v', w', h1, h2, h3, _⟩ := Lib.run_append_own_string (P := Tryd.prog) w B 62 9 ty 5 i Tryd.underlying62 Tryd.underlying9 hi hz0 hz1 hz2 v l.length (u8s l) hO (tx s) (by rw [tx_len]; unfold maxLen; omega) (by rw [tx_len]; omega) hB
  refine ⟨v', w', h1, ?_, Mov.grown h3⟩
  rw [tx_len] at h2
  unfold OwnB
  rw [List.length_append, u8s_append]
  exact h2
theorem OwnB.form {B : Nat} {v : Value} {l : List UInt8} {w : World} (h : OwnB B v l w) : ∃ p c, v = .slice p l.length c := by
  rcases h.2 with ⟨rfl, h0⟩ | ⟨g, cap, cur, rfl, _⟩
  · rw [show l.length = 0 from h0]; exact ⟨_, _, rfl⟩
  · exact ⟨_, _, rfl⟩
/-- The table of powers of ten lies as the library lays it. -/
abbrev Tens (w : World) : Prop := Lib.TabIs Tryd.prog w "internal/strconv.uint64pow10" .u64 Lib.pow10Tab
theorem Tens.below {w w' : World} (h : Tens w) (hB : Below w.heap.size w w') : Tens w' := by
  unfold Tens Lib.TabIs World.var? at *
  cases hg : Tryd.prog.globalNamed "internal/strconv.uint64pow10" with
  | none => simp [hg] at h
  | some g =>
    simp only [hg, Option.bind_some] at h ⊢
    have hlt : g < w.heap.size := by
      rcases Nat.lt_or_ge g w.heap.size with h' | h'
      · exact h'
      · rw [Array.getElem?_eq_none h'] at h; simp at h
    rw [hB.block g hlt]
    exact h
/-- The table lies below a block, and stays. -/
def TenB (B : Nat) (w : World) : Prop := Lib.TabBelow Tryd.prog B w "internal/strconv.uint64pow10" .u64 Lib.pow10Tab
theorem Tens.ten {w : World} (h : Tens w) : TenB w.heap.size w := fun _ hB => h.below hB
theorem TenB.on {B : Nat} {w w' : World} (h : TenB B w) (hB : Below B w w') : TenB B w' := fun w'' h' => h w'' (hB.trans h')
theorem TenB.up {B C : Nat} {w : World} (h : TenB B w) (hBC : B ≤ C) : TenB C w := fun w' h' => h w' (h'.mono hBC)
/-- A number's digits behind a row of bytes. -/
theorem append_int {B : Nat} {v : Value} {l : List UInt8} {w : World} (hO : OwnB B v l w) (x : Int) (hx : In64 x) (hB : B ≤ w.heap.size) (hlen : l.length + 21 ≤ 140737488355328) (hT : TenB B w) :
    Calls Tryd.prog 37 #[v, .int .i64 x, .int .i64 10] w fun e w' => ∃ v', e = .returned v' ∧ OwnB B v' (l ++ digF x) w' ∧ Below B w w' := by
  refine (Tryd.strconv_AppendInt_10 B l.length x hx.1 hx.2 v (u8s l) w hO hB hlen hT).mono ?_
  rintro e w' ⟨v', rfl, h1, h2, _⟩
  rw [itoa_dig] at h1
  refine ⟨v', rfl, ?_, h2⟩
  unfold OwnB
  rw [List.length_append, u8s_append]
  exact h1
theorem OwnB.lowB {B : Nat} {v : Value} {l : List UInt8} {w w' : World} (h : OwnB B v l w) (hM : Mov (fun j => v.ownBlock = some j) w w') (hB : B ≤ w.heap.size) : Below B w w' := hM.below (fun _k hk => (h.lt hk).1) hB
theorem tell_len {k : Nat} (hk : k < 11) : (tellN k).length ≤ 7 := by
  have : ∀ k : Fin 11, (tellN k).length ≤ 7 := by decide +kernel
  exact this ⟨k, hk⟩
theorem one_len {n t : List Int} (hn : n.length = 10) (h : ∀ x ∈ n, In64 x) {k : Nat} (hk : k < 10) : (oneN n t k).length ≤ 27 := by
  unfold oneN numsN
  rw [if_neg (by omega), List.length_append]
  have h1 := tell_len (k := k) (by omega)
  have h2 : (digF (n.getD k 0)).length ≤ 20 := by
    apply dig_len21
    rw [List.getD_eq_getElem?_getD, List.getElem?_eq_getElem (by omega)]
    exact h _ (List.getElem_mem (by omega))
  simp only [List.map_cons, List.map_nil, joinB]
  omega
theorem some_len {n t : List Int} (hn : n.length = 10) (h : ∀ x ∈ n, In64 x) : ∀ {k : Nat}, k ≤ 10 → (someN n t k).length ≤ 28 * k
  | 0, _ => by simp [someN, joinB]
  | k + 1, hk => by
    have ih := some_len hn h (t := t) (k := k) (by omega)
    have h1 := one_len hn h (t := t) (k := k) (by omega)
    rw [someN_succ]
    split
    · omega
    · rw [List.length_append, List.length_cons]; omega
/-- A part's numbers: one that is new, or those that lie below a block. -/
theorem numbers_two (B P k : Nat) (hk : k < 11) (n t : List Int) (v : Value) (w : World) (hn : n.length = 10) (hin : ∀ x ∈ n, In64 x) (hP : PolAt P n v w) (hT : Tr (fun j => B ≤ j) v t w) :
    Calls Tryd.prog 30 #[fieldV P k] w fun e w' => ∃ u, e = .returned u ∧ (((numsN n t k).length ≤ 1 ∧ Tr (fun _ => False) u (numsN n t k) w') ∨ Tr (fun j => B ≤ j) u (numsN n t k) w') ∧ Below w.heap.size w w' := by
  by_cases h10 : k = 10
  · subst h10
    have hf : fieldV P 10 = .agg #[.string (tx (tellN 10)), .int .i64 (loN 10), .int .i64 (hiN 10), .pointer none, .pointer none, .pointer (some ⟨P, 10, none⟩)] := rfl
    rw [hf]
    obtain ⟨p, cap, rfl⟩ := hT.len
    refine (numbers_tie (tx (tellN 10)) (loN 10) (hiN 10) ⟨P, 10, none⟩ p t.length cap w hP.lt (hP.cell 10 _ (valsP_last n _ hn))).mono ?_
    rintro e w' ⟨rfl, rfl⟩
    have hB : Below w.heap.size w (w.alloc (.cells #[.string (tx (tellN 10)), .int .i64 (loN 10), .int .i64 (hiN 10), .pointer none, .pointer none, .pointer (some ⟨P, 10, none⟩)] 70)) := (Below.refl _ _).alloc (Nat.le_refl _) _
    exact ⟨_, rfl, .inr (hT.below hB), hB⟩
  · refine (numbers_any P k hk n t v w (fun _ => False) hn hin hP (hT.weak (fun _ h _ => h.elim)) (fun _ h => h.elim)).mono ?_
    rintro e w' ⟨u, rfl, h1, h2⟩
    exact ⟨u, rfl, .inl ⟨by unfold numsN; rw [if_neg h10]; simp, h1⟩, h2⟩
set_option maxRecDepth 100000 in
set_option maxHeartbeats 16000000 in
theorem text_any (S : Nat → Prop) (n t : List Int) (v : Value) (w : World) (hn : n.length = 10) (hin : ∀ x ∈ n, In64 x) (hT : Tr S v t w) (hl : t.length ≤ 1099511627776) (hX : Tens w) :
    Calls Tryd.prog 19 #[.agg (valsP n v)] w fun e w' => e = .returned (.string (tx (textZ n t))) ∧ Below w.heap.size w w' := by
  obtain ⟨N, hN⟩ : ∃ N, w.heap.size = N := ⟨_, rfl⟩
  have hB0 : Below w.heap.size w (w.alloc (.cells (valsP n v) 24)) := (Below.refl _ _).alloc (Nat.le_refl _) _
  have HP0 := Lib.hid (CellsAt.newAt (valsP n v) 24 w N hN.symm)
  have HT0 := Lib.hid ((hT.weak (S' := fun j => N ≤ j) (fun j h hlt => by omega)).below hB0)
  have HB0 : Hid (Below N w (w.alloc (.cells (valsP n v) 24))) := Lib.hid (hN ▸ hB0)
  have HX0 : Hid (TenB N w) := Lib.hid (hN ▸ hX.ten)
  have HNL := Lib.hid hn
  have HIN := Lib.hid hin
  obtain ⟨p, c, rfl⟩ := hT.len
  obtain ⟨a0, a1, a2, a3, a4, a5, a6, a7, a8, a9, hne⟩ := ten_of hn
  have e : valsP n (.slice p t.length c) = #[.int .i64 a0, .int .i64 a1, .int .i64 a2, .int .i64 a3, .int .i64 a4, .int .i64 a5, .int .i64 a6, .int .i64 a7, .int .i64 a8, .int .i64 a9, .slice p t.length c] := by rw [hne]; rfl
  rw [e] at HT0 HB0 ⊢
  have HP1 : Hid (PolAt N n (.slice p t.length c) (w.alloc (.cells #[.int .i64 a0, .int .i64 a1, .int .i64 a2, .int .i64 a3, .int .i64 a4, .int .i64 a5, .int .i64 a6, .int .i64 a7, .int .i64 a8, .int .i64 a9, .slice p t.length c] 24))) := Lib.hid (by rw [← e]; exact HP0.out)
  obtain ⟨TX, hTX⟩ : ∃ T, textZ n t = T := ⟨_, rfl⟩
  have HTX : Hid (someN n t 11 = TX) := Lib.hid (by rw [← hTX, text_some n t hn])
  rw [hTX]
  have hf := fun W => fields_of N W
  have hs1 : (w.alloc (.cells #[.int .i64 a0, .int .i64 a1, .int .i64 a2, .int .i64 a3, .int .i64 a4, .int .i64 a5, .int .i64 a6, .int .i64 a7, .int .i64 a8, .int .i64 a9, .slice p t.length c] 24)).heap.size = N + 1 := by simp [hN]
  clear hT hin hX hB0 e hne HP0 hTX hn
  go_enter Tryd.func19, Tryd.ntmps19
  go_wp2_with fail
  refine (hf _).mono ?_
  rintro e w2 ⟨rfl, hF2, hB2⟩
  rw [hs1] at hF2 hB2 ⊢
  obtain ⟨B, hB⟩ : ∃ B, w2.heap.size = B := ⟨_, rfl⟩
  have hFB : N + 1 < B := by rw [← hB]; exact hF2.lt
  have hNB : N < B := by omega
  have HF2 := Lib.hid hF2
  have HP2 := Lib.hid (CellsAt.belowAt HP1.out hB2 (by omega))
  have HT2 : Hid (Tr (fun j => B ≤ j) (.slice p t.length c) t w2) := Lib.hid (((HT0.out.mov (Mov.of hB2) (fun j h1 h2 => by omega))).weak (fun j h _ => by omega))
  have HBw := Lib.hid (HB0.out.trans (hB2.mono (by omega)))
  have HTB : Hid (TenB B w2) := Lib.hid ((HX0.out.on HBw.out).up (by omega))
  have HO2 : Hid (OwnB B (.slice none 0 0) (someN n t 0) w2) := Lib.hid (OwnB.nil B w2)
  have HBB : Hid (Below B w2 w2) := Lib.hid (Below.refl B w2)
  clear hF2 HP1 HT0 hB2 HB0 hf hs1 HX0
  go_wp2
  go_loopg [3, 10] 11 (fun g s3 s10 wx => ∃ k : Nat, s10 = .int .i64 (k : Int) ∧ g + k = 11 ∧ Hid (OwnB B s3 (someN n t k) wx) ∧ Hid (Below B w2 wx))
  case atStart => exact ⟨0, rfl, rfl, HO2, HBB⟩
  case round =>
    clear HO2 HBB
    obtain ⟨k, rfl, hgk, HO, HBx⟩ := hrel
    obtain ⟨px, cx', rfl⟩ := HO.out.form
    cases gk with
    | zero =>
      obtain rfl : k = 11 := by omega
      have hcv := own_back HO.out
      rw [HTX.out] at hcv ⊢
      have HEB := Lib.hid (HBw.out.trans (HBx.out.mono (by omega)))
      clear HO HBx HBw
      go_wp2
      go_ret
      exact ⟨rfl, by first | exact HEB.out | exact hN ▸ HEB.out⟩
    | succ g =>
      have hk : k < 11 := by omega
      have hFx := CellsAt.belowAt HF2.out HBx.out hFB
      obtain ⟨f0, f1, f2, f3, f4, f5⟩ := PartsAt.row hFx hk
      have hFl : N + 1 < wr.heap.size := hFx.lt
      have hszx : B ≤ wr.heap.size := by have := HBx.out.size; omega
      have HFV : Hid (fieldV N k = .agg #[.string (tx (tellN k)), .int .i64 (loN k), .int .i64 (hiN k), .pointer (cntP N k), .pointer (timP N k), .pointer (tieP N k)]) := Lib.hid rfl
      obtain ⟨ns, hns⟩ : ∃ z, numsN n t k = z := ⟨_, rfl⟩
      have HNS := Lib.hid hns
      have hnl : ns.length ≤ 1099511627777 := by
        rw [← hns]
        unfold numsN
        split
        · omega
        · simp
      have htl := tell_len hk
      have hsl := some_len (t := t) HNL.out HIN.out (k := k) (by omega)
      obtain ⟨A0, hA0⟩ : ∃ A0, (if k = 0 then [] else someN n t k ++ [32]) ++ tellN k = A0 := ⟨_, rfl⟩
      have hAl : A0.length ≤ 289 := by
        rw [← hA0, List.length_append]
        split
        · simp; omega
        · rw [List.length_append, List.length_singleton]; omega
      have HEND : Hid (A0 ++ slashN ns ns.length = someN n t (k + 1)) := Lib.hid (by
        rw [slashN_all, ← hns, ← hA0, someN_succ]
        unfold oneN
        split <;> simp)
      obtain ⟨TN, hTN⟩ : ∃ T, tx (tellN k) = T := ⟨_, rfl⟩
      have HTN := Lib.hid hTN
      rw [hTN] at f0 HFV
      generalize loN k = lo at *
      generalize hiN k = hi at *
      generalize cntP N k = q1 at *
      generalize timP N k = q2 at *
      generalize tieP N k = q3 at *
      have hBa : Below B w2 (wr.alloc (.cells #[.string TN, .int .i64 lo, .int .i64 hi, .pointer q1, .pointer q2, .pointer q3] 70)) := HBx.out.alloc hszx _
      have hCa := CellsAt.new #[.string TN, .int .i64 lo, .int .i64 hi, .pointer q1, .pointer q2, .pointer q3] 70 wr
      have hOa := HO.out.below (show Below wr.heap.size wr (wr.alloc (.cells #[.string TN, .int .i64 lo, .int .i64 hi, .pointer q1, .pointer q2, .pointer q3] 70)) from (Below.refl _ _).alloc (Nat.le_refl _) _)
      have hnb : ¬ (Value.slice px (someN n t k).length cx').ownBlock = some wr.heap.size := fun h => by have := (HO.out.lt h).2; omega
      clear hFx hns hTN
      by_cases hk0 : k = 0
      · have hA1 : someN n t k = [] := by rw [hk0]; rfl
        have HA0 : Hid (A0 = someN n t k ++ tellN k) := Lib.hid (by rw [← hA0, if_pos hk0, hA1])
        have hk0' : ¬ (0 : Int) < ((someN n t k).length : Int) := by rw [hA1]; simp
        have hk0'' : (someN n t k).length ≤ 280 := by omega
        have HO1 := Lib.hid hOa
        have HC1 := Lib.hid hCa
        have HB1 := Lib.hid hBa
        have hne := hnb
        clear hA1 hA0 hOa hCa hBa hnb hsl HO hk0
        obtain ⟨v2, w4, hr2, hO2, hM2⟩ := append_string 62 HO1.out (tellN k) (by omega) (by have := HB1.out.size; omega)
        have hC2 := cells_mov HC1.out hM2 hne
        have hB2 : Below B w2 w4 := HB1.out.trans (hM2.below (fun g hg => (HO1.out.lt hg).1) (by have := HB1.out.size; omega))
        obtain ⟨p2, c2', rfl⟩ := hO2.form
        have hnum := numbers_two B N k hk n t (.slice p t.length c) w4 HNL.out HIN.out (HP2.out.belowAt hB2 hNB) (HT2.out.mov (Mov.of hB2) (fun _ h _ => h))
        rw [HNS.out, HFV.out] at hnum
        rw [HTN.out] at hr2
        have m0 := HC1.out.cell 0 _ rfl
        have m1 := hC2.cell 0 _ rfl
        have m2 := hC2.cell 1 _ rfl
        have m3 := hC2.cell 2 _ rfl
        have m4 := hC2.cell 3 _ rfl
        have m5 := hC2.cell 4 _ rfl
        have m6 := hC2.cell 5 _ rfl
        simp only [List.getElem_toArray, List.getElem_cons_zero, List.getElem_cons_succ] at m0 m1 m2 m3 m4 m5 m6
        have HO2 := Lib.hid hO2
        have HB2 := Lib.hid hB2
        obtain ⟨L2, hL2⟩ : ∃ L, (someN n t k ++ tellN k).length = L := ⟨_, rfl⟩
        rw [hL2] at hr2 HO2
        clear hO2 hM2 hC2 hB2 HC1 HO1 HB1
        go_wp2_with ((at_builtin; refine Lib.wpList_append_run _ rfl _ _ _ _ rfl _ _ rfl rfl _ _ hr2 ?_))
        refine hnum.mono ?_
        rintro e w5 ⟨u, rfl, hU, hB5⟩
        obtain ⟨pu, cu, rfl⟩ : ∃ pu cu, u = .slice pu ns.length cu := by
          rcases hU with h | h
          · exact h.2.len
          · exact h.len
        have hO5 := HO2.out.below hB5
        have HO3 : Hid (OwnB B (.slice p2 L2 c2') (A0 ++ slashN ns 0) w5) := Lib.hid (by
          have e0 : A0 ++ slashN ns 0 = someN n t k ++ tellN k := by rw [show slashN ns 0 = [] from rfl, List.append_nil, HA0.out]
          rw [e0]
          exact hO5)
        have HU3 := Lib.hid hU
        have HB3 := Lib.hid (HB2.out.trans (hB5.mono (by have := HB2.out.size; omega)))
        clear hO5 hU hB5 HO2 HB2 hnum hr2 m0 m1 m2 m3 m4 m5 m6
        go_wp2
        go_loopg [3, 27] ns.length (fun g2 s3 s27 wy => ∃ j : Nat, s27 = .int .i64 (j : Int) ∧ g2 + j = ns.length ∧ Hid (OwnB B s3 (A0 ++ slashN ns j) wy) ∧ Hid ((j = 0 ∧ ns.length ≤ 1 ∧ Tr (fun _ => False) (.slice pu ns.length cu) ns wy) ∨ (1 ≤ j ∧ ns.length ≤ 1) ∨ Tr (fun j => B ≤ j) (.slice pu ns.length cu) ns wy) ∧ Hid (Below B w2 wy))
        case atStart => exact ⟨0, rfl, rfl, HO3, Lib.hid (HU3.out.elim (fun h => .inl ⟨rfl, h.1, h.2⟩) (fun h => .inr (.inr h))), HB3⟩
        case round =>
          clear HO3 HU3 HB3
          obtain ⟨j, rfl, hgj, HOy, HU, HBy⟩ := hrel
          obtain ⟨py, cy, rfl⟩ := HOy.out.form
          have hszy : B ≤ wr.heap.size := by have := HBy.out.size; omega
          cases gk with
          | zero =>
            obtain rfl : j = ns.length := by omega
            have hle : (A0 ++ slashN ns ns.length).length = (someN n t (k + 1)).length := by rw [HEND.out]
            have HO2 : Hid (OwnB B (.slice py (someN n t (k + 1)).length cy) (someN n t (k + 1)) wr) := Lib.hid (by rw [← hle, ← HEND.out]; exact HOy.out)
            rw [hle]
            clear HOy HU hle
            go_wp2
            go_roundg g
            case measure => omega
            case rel => exact ⟨k + 1, by go_num, by omega, HO2, HBy⟩
          | succ g2 =>
            have hj : j < ns.length := by omega
            have htr : Tr (fun _ => False) (.slice pu ns.length cu) ns wr := by
              rcases HU.out with h | h | h
              · exact h.2.2
              · omega
              · exact h.weak (fun _ h _ => h.elim)
            obtain ⟨_, _, _, _, hat⟩ := htr.at
            obtain ⟨C, off, hpu, hC, cx⟩ := hat j hj
            have hxi := htr.in64 _ (List.getElem_mem hj)
            have hsl := slashN_succ ns j hj
            have hslen := slashN_len ns htr.in64 j
            have hnext : ∀ W, Below B wr W → (j + 1 = 0 ∧ ns.length ≤ 1 ∧ Tr (fun _ => False) (.slice pu ns.length cu) ns W) ∨ (1 ≤ j + 1 ∧ ns.length ≤ 1) ∨ Tr (fun j => B ≤ j) (.slice pu ns.length cu) ns W := fun W hW => by
              rcases HU.out with h | h | h
              · exact .inr (.inl ⟨by omega, h.2.1⟩)
              · exact .inr (.inl ⟨by omega, h.2⟩)
              · exact .inr (.inr (h.mov (Mov.of hW) (fun _ h _ => h)))
            have HNX := Lib.hid hnext
            obtain ⟨x, hx⟩ : ∃ x, ns[j]'hj = x := ⟨_, rfl⟩
            rw [hx] at cx hxi hsl
            have HSL := Lib.hid hsl
            have HXI := Lib.hid hxi
            obtain ⟨sl, hsle⟩ : ∃ z, slashN ns j = z := ⟨_, rfl⟩
            rw [hsle] at HOy HSL hslen ⊢
            have hAl2 : (A0 ++ sl).length + 22 ≤ 140737488355328 := by rw [List.length_append]; omega
            subst hpu
            clear htr hat hnext hx hsl hxi hsle HU
            by_cases hj0 : j = 0
            · subst hj0
              have cx0 : wr.cell? ⟨C, off, none⟩ = some (.int .i64 x) := cx
              have hcall := append_int HOy.out x HXI.out hszy (by omega) ((HTB.out.on HBy.out))
              have hs0 : Hid (sl = []) := Lib.hid (List.length_eq_zero_iff.1 (show sl.length = 0 by omega))
              have HSL2 : Hid (slashN ns (0 + 1) = digF x) := Lib.hid (by have := HSL.out; rwa [if_pos rfl] at this)
              obtain ⟨L, hL⟩ : ∃ L, (A0 ++ sl).length = L := ⟨_, rfl⟩
              rw [hL] at hcall ⊢
              clear HSL hL
              go_wp2_with fail
              refine hcall.mono ?_
              rintro e w7 ⟨v7, rfl, hO7, hB7⟩
              have HO7 : Hid (OwnB B v7 (A0 ++ slashN ns (0 + 1)) w7) := Lib.hid (by rw [HSL2.out]; rw [hs0.out, List.append_nil] at hO7; exact hO7)
              have HU7 := Lib.hid (HNX.out w7 hB7)
              have HB7 := Lib.hid (HBy.out.trans hB7)
              clear hO7 hB7 hcall HNX HSL2 hs0 HOy HBy cx cx0
              go_wp2
              go_roundg g2
              case measure => omega
              case rel => exact ⟨0 + 1, by go_num, by omega, HO7, HU7, HB7⟩
            · have hj1 : (0 : Int) < (j : Int) := by omega
              obtain ⟨v6, w6, hr6, hG6⟩ := append_byte 62 HOy.out 47 (by omega) hszy
              have hb6 : Below B wr w6 := hG6.below (fun g hg => (HOy.out.lt hg).1) hszy
              obtain ⟨p6, c6, h6⟩ := hG6.1.form
              have hcall := append_int hG6.1 x HXI.out (by have := hb6.size; omega) (by rw [List.length_append, List.length_singleton]; omega) ((HTB.out.on HBy.out).on hb6)
              rw [List.length_append, List.length_singleton] at h6
              subst h6
              rw [show (((47 : UInt8).toNat : Nat) : Int) = 47 from rfl] at hr6
              have HSL2 : Hid (slashN ns (j + 1) = sl ++ 47 :: digF x) := Lib.hid (by have := HSL.out; rwa [if_neg hj0] at this)
              have HB6 := Lib.hid hb6
              obtain ⟨L, hL⟩ : ∃ L, (A0 ++ sl).length = L := ⟨_, rfl⟩
              rw [hL] at hcall hr6 ⊢
              clear HSL hL hG6 hb6
              go_wp2_with (at_builtin; refine Lib.wpList_append_run _ rfl _ _ _ _ rfl _ _ rfl rfl _ _ hr6 ?_)
              refine hcall.mono ?_
              rintro e w7 ⟨v7, rfl, hO7, hB7⟩
              have HO7 : Hid (OwnB B v7 (A0 ++ slashN ns (j + 1)) w7) := Lib.hid (by rw [HSL2.out]; simpa using hO7)
              have HU7 := Lib.hid (HNX.out w7 (HB6.out.trans hB7))
              have HB7 := Lib.hid ((HBy.out.trans HB6.out).trans hB7)
              clear hO7 hB7 hcall HNX HSL2 HOy HBy cx hr6 HB6
              go_wp2
              go_roundg g2
              case measure => omega
              case rel => exact ⟨j + 1, by go_num, by omega, HO7, HU7, HB7⟩
      · have hpos : 0 < (someN n t k).length := by
          obtain ⟨k', rfl⟩ : ∃ k', k = k' + 1 := ⟨k - 1, by omega⟩
          exact List.length_pos_iff.2 (someN_ne n t k')
        have hpos' : (0 : Int) < ((someN n t k).length : Int) := by omega
        have HA0 : Hid (A0 = someN n t k ++ [32] ++ tellN k) := Lib.hid (by rw [← hA0, if_neg hk0])
        obtain ⟨v1, w3, hr1, hG1⟩ := append_byte 62 hOa 32 (by omega) (by simp; omega)
        rw [show (((32 : UInt8).toNat : Nat) : Int) = 32 from rfl] at hr1
        simp only [World.size_alloc] at hr1
        have hne : ¬ v1.ownBlock = some wr.heap.size := fun h => by
          rcases hG1.2.2 _ h with h2 | h2
          · exact hnb h2
          · have h3 : wr.heap.size + 1 ≤ wr.heap.size := by simpa using h2
            omega
        have HC1 := Lib.hid (cells_mov hCa hG1.2.1 hnb)
        have HB1 := Lib.hid (hBa.trans (hG1.below (N := B) (fun g hg => (hOa.lt hg).1) (by simp; omega)))
        have HO1 := Lib.hid hG1.1
        obtain ⟨p1, c1', h1⟩ := hG1.1.form
        rw [List.length_append, List.length_singleton] at h1
        subst h1
        have hl1 : (someN n t k ++ [32]).length ≤ 281 := by rw [List.length_append, List.length_singleton]; omega
        clear hA0 hOa hCa hBa hnb hsl HO hG1 hk0 hpos
        obtain ⟨v2, w4, hr2, hO2, hM2⟩ := append_string 62 HO1.out (tellN k) (by omega) (by have := HB1.out.size; omega)
        have hC2 := cells_mov HC1.out hM2 hne
        have hB2 : Below B w2 w4 := HB1.out.trans (hM2.below (fun g hg => (HO1.out.lt hg).1) (by have := HB1.out.size; omega))
        obtain ⟨p2, c2', rfl⟩ := hO2.form
        have hnum := numbers_two B N k hk n t (.slice p t.length c) w4 HNL.out HIN.out (HP2.out.belowAt hB2 hNB) (HT2.out.mov (Mov.of hB2) (fun _ h _ => h))
        rw [HNS.out, HFV.out] at hnum
        rw [HTN.out] at hr2
        have m0 := HC1.out.cell 0 _ rfl
        have m1 := hC2.cell 0 _ rfl
        have m2 := hC2.cell 1 _ rfl
        have m3 := hC2.cell 2 _ rfl
        have m4 := hC2.cell 3 _ rfl
        have m5 := hC2.cell 4 _ rfl
        have m6 := hC2.cell 5 _ rfl
        simp only [List.getElem_toArray, List.getElem_cons_zero, List.getElem_cons_succ] at m0 m1 m2 m3 m4 m5 m6
        have HO2 := Lib.hid hO2
        have HB2 := Lib.hid hB2
        obtain ⟨L2, hL2⟩ : ∃ L, ((someN n t k ++ [32]) ++ tellN k).length = L := ⟨_, rfl⟩
        rw [hL2] at hr2 HO2
        clear hO2 hM2 hC2 hB2 HC1 HO1 HB1
        go_wp2_with (first | (at_builtin; refine Lib.wpList_append_run _ rfl _ _ _ _ rfl _ _ rfl rfl _ _ hr1 ?_) | (at_builtin; refine Lib.wpList_append_run _ rfl _ _ _ _ rfl _ _ rfl rfl _ _ hr2 ?_))
        refine hnum.mono ?_
        rintro e w5 ⟨u, rfl, hU, hB5⟩
        obtain ⟨pu, cu, rfl⟩ : ∃ pu cu, u = .slice pu ns.length cu := by
          rcases hU with h | h
          · exact h.2.len
          · exact h.len
        have hO5 := HO2.out.below hB5
        have HO3 : Hid (OwnB B (.slice p2 L2 c2') (A0 ++ slashN ns 0) w5) := Lib.hid (by
          have e0 : A0 ++ slashN ns 0 = (someN n t k ++ [32]) ++ tellN k := by rw [show slashN ns 0 = [] from rfl, List.append_nil, HA0.out]
          rw [e0]
          exact hO5)
        have HU3 := Lib.hid hU
        have HB3 := Lib.hid (HB2.out.trans (hB5.mono (by have := HB2.out.size; omega)))
        clear hO5 hU hB5 HO2 HB2 hnum hr2 m0 m1 m2 m3 m4 m5 m6
        go_wp2
        go_loopg [3, 27] ns.length (fun g2 s3 s27 wy => ∃ j : Nat, s27 = .int .i64 (j : Int) ∧ g2 + j = ns.length ∧ Hid (OwnB B s3 (A0 ++ slashN ns j) wy) ∧ Hid ((j = 0 ∧ ns.length ≤ 1 ∧ Tr (fun _ => False) (.slice pu ns.length cu) ns wy) ∨ (1 ≤ j ∧ ns.length ≤ 1) ∨ Tr (fun j => B ≤ j) (.slice pu ns.length cu) ns wy) ∧ Hid (Below B w2 wy))
        case atStart => exact ⟨0, rfl, rfl, HO3, Lib.hid (HU3.out.elim (fun h => .inl ⟨rfl, h.1, h.2⟩) (fun h => .inr (.inr h))), HB3⟩
        case round =>
          clear HO3 HU3 HB3
          obtain ⟨j, rfl, hgj, HOy, HU, HBy⟩ := hrel
          obtain ⟨py, cy, rfl⟩ := HOy.out.form
          have hszy : B ≤ wr.heap.size := by have := HBy.out.size; omega
          cases gk with
          | zero =>
            obtain rfl : j = ns.length := by omega
            have hle : (A0 ++ slashN ns ns.length).length = (someN n t (k + 1)).length := by rw [HEND.out]
            have HO2 : Hid (OwnB B (.slice py (someN n t (k + 1)).length cy) (someN n t (k + 1)) wr) := Lib.hid (by rw [← hle, ← HEND.out]; exact HOy.out)
            rw [hle]
            clear HOy HU hle
            go_wp2
            go_roundg g
            case measure => omega
            case rel => exact ⟨k + 1, by go_num, by omega, HO2, HBy⟩
          | succ g2 =>
            have hj : j < ns.length := by omega
            have htr : Tr (fun _ => False) (.slice pu ns.length cu) ns wr := by
              rcases HU.out with h | h | h
              · exact h.2.2
              · omega
              · exact h.weak (fun _ h _ => h.elim)
            obtain ⟨_, _, _, _, hat⟩ := htr.at
            obtain ⟨C, off, hpu, hC, cx⟩ := hat j hj
            have hxi := htr.in64 _ (List.getElem_mem hj)
            have hsl := slashN_succ ns j hj
            have hslen := slashN_len ns htr.in64 j
            have hnext : ∀ W, Below B wr W → (j + 1 = 0 ∧ ns.length ≤ 1 ∧ Tr (fun _ => False) (.slice pu ns.length cu) ns W) ∨ (1 ≤ j + 1 ∧ ns.length ≤ 1) ∨ Tr (fun j => B ≤ j) (.slice pu ns.length cu) ns W := fun W hW => by
              rcases HU.out with h | h | h
              · exact .inr (.inl ⟨by omega, h.2.1⟩)
              · exact .inr (.inl ⟨by omega, h.2⟩)
              · exact .inr (.inr (h.mov (Mov.of hW) (fun _ h _ => h)))
            have HNX := Lib.hid hnext
            obtain ⟨x, hx⟩ : ∃ x, ns[j]'hj = x := ⟨_, rfl⟩
            rw [hx] at cx hxi hsl
            have HSL := Lib.hid hsl
            have HXI := Lib.hid hxi
            obtain ⟨sl, hsle⟩ : ∃ z, slashN ns j = z := ⟨_, rfl⟩
            rw [hsle] at HOy HSL hslen ⊢
            have hAl2 : (A0 ++ sl).length + 22 ≤ 140737488355328 := by rw [List.length_append]; omega
            subst hpu
            clear htr hat hnext hx hsl hxi hsle HU
            by_cases hj0 : j = 0
            · subst hj0
              have cx0 : wr.cell? ⟨C, off, none⟩ = some (.int .i64 x) := cx
              have hcall := append_int HOy.out x HXI.out hszy (by omega) ((HTB.out.on HBy.out))
              have hs0 : Hid (sl = []) := Lib.hid (List.length_eq_zero_iff.1 (show sl.length = 0 by omega))
              have HSL2 : Hid (slashN ns (0 + 1) = digF x) := Lib.hid (by have := HSL.out; rwa [if_pos rfl] at this)
              obtain ⟨L, hL⟩ : ∃ L, (A0 ++ sl).length = L := ⟨_, rfl⟩
              rw [hL] at hcall ⊢
              clear HSL hL
              go_wp2_with fail
              refine hcall.mono ?_
              rintro e w7 ⟨v7, rfl, hO7, hB7⟩
              have HO7 : Hid (OwnB B v7 (A0 ++ slashN ns (0 + 1)) w7) := Lib.hid (by rw [HSL2.out]; rw [hs0.out, List.append_nil] at hO7; exact hO7)
              have HU7 := Lib.hid (HNX.out w7 hB7)
              have HB7 := Lib.hid (HBy.out.trans hB7)
              clear hO7 hB7 hcall HNX HSL2 hs0 HOy HBy cx cx0
              go_wp2
              go_roundg g2
              case measure => omega
              case rel => exact ⟨0 + 1, by go_num, by omega, HO7, HU7, HB7⟩
            · have hj1 : (0 : Int) < (j : Int) := by omega
              obtain ⟨v6, w6, hr6, hG6⟩ := append_byte 62 HOy.out 47 (by omega) hszy
              have hb6 : Below B wr w6 := hG6.below (fun g hg => (HOy.out.lt hg).1) hszy
              obtain ⟨p6, c6, h6⟩ := hG6.1.form
              have hcall := append_int hG6.1 x HXI.out (by have := hb6.size; omega) (by rw [List.length_append, List.length_singleton]; omega) ((HTB.out.on HBy.out).on hb6)
              rw [List.length_append, List.length_singleton] at h6
              subst h6
              rw [show (((47 : UInt8).toNat : Nat) : Int) = 47 from rfl] at hr6
              have HSL2 : Hid (slashN ns (j + 1) = sl ++ 47 :: digF x) := Lib.hid (by have := HSL.out; rwa [if_neg hj0] at this)
              have HB6 := Lib.hid hb6
              obtain ⟨L, hL⟩ : ∃ L, (A0 ++ sl).length = L := ⟨_, rfl⟩
              rw [hL] at hcall hr6 ⊢
              clear HSL hL hG6 hb6
              go_wp2_with (at_builtin; refine Lib.wpList_append_run _ rfl _ _ _ _ rfl _ _ rfl rfl _ _ hr6 ?_)
              refine hcall.mono ?_
              rintro e w7 ⟨v7, rfl, hO7, hB7⟩
              have HO7 : Hid (OwnB B v7 (A0 ++ slashN ns (j + 1)) w7) := Lib.hid (by rw [HSL2.out]; simpa using hO7)
              have HU7 := Lib.hid (HNX.out w7 (HB6.out.trans hB7))
              have HB7 := Lib.hid ((HBy.out.trans HB6.out).trans hB7)
              clear hO7 hB7 hcall HNX HSL2 HOy HBy cx hr6 HB6
              go_wp2
              go_roundg g2
              case measure => omega
              case rel => exact ⟨j + 1, by go_num, by omega, HO7, HU7, HB7⟩
end Go.Proofs.YtdhkonaebhpeeaaDoor.Po

