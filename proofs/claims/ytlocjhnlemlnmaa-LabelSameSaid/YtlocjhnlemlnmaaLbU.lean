/- The chapter's own answer: a key split, told. -/
import Derived.Test.YtlocjhnlemlnmaaLbT
namespace Go.Proofs.Ytlocjhnlemlnmaa.Lx
open Go Go.RowKit

theorem tx_extract (l : List UInt8) (a b : Nat) : (tx l).extract a b = tx ((l.take b).drop a) := by
  apply ByteArray.ext
  simp [tx, List.drop_take]
theorem tx_first (c : UInt8) (r : List UInt8) (h : 0 < (tx (c :: r)).size) : (tx (c :: r))[0] = c := rfl

set_option maxHeartbeats 4000000 in
theorem take_any (s : List UInt8) (hs : s.length ≤ maxLen) (w : World) :
    Calls Try.prog 35 #[.string (tx s)] w fun e w' => e = .returned (.tuple #[.string (tx (takeK s).1), .string (tx (takeK s).2)]) ∧ Below w.heap.size w w' := by
  unfold maxLen at hs
  cases s with
  | nil =>
    have he := txt_empty
    have hr : ((.tuple #[.string (tx (takeK []).1), .string (tx (takeK []).2)] : Value)) = .tuple #[.string ⟨#[]⟩, .string ⟨#[]⟩] := rfl
    rw [hr]
    clear hr
    generalize tx [] = T at *
    go_enter Try.func35, Try.ntmps35
    go_wp2
    go_ret2
    exact ⟨rfl, Below.refl _ _⟩
  | cons c r =>
    have he := txt_no (l := c :: r) (by simp)
    have hz : (tx (c :: r)).size = r.length + 1 := by rw [tx_len]; rfl
    obtain ⟨m, hm⟩ : ∃ m, min c.toNat r.length = m := ⟨_, rfl⟩
    have hmi : min (c.toNat : Int) (r.length : Int) = (m : Int) := by omega
    have hx1 : (tx (c :: r)).extract 1 (1 + m) = tx (takeK (c :: r)).1 := by
      rw [tx_extract]
      simp only [takeK]
      rw [show 1 + m = m + 1 by omega, List.take_succ_cons, List.drop_succ_cons, List.drop_zero]
      congr 1
      rw [← hm, ← List.take_eq_take_min]
    have hx2 : (tx (c :: r)).extract (1 + m) (tx (c :: r)).size = tx (takeK (c :: r)).2 := by
      rw [tx_extract, tx_len]
      simp only [takeK]
      rw [List.take_of_length_le (Nat.le_refl _), show 1 + m = m + 1 by omega, List.drop_succ_cons]
      congr 1
      by_cases h : c.toNat ≤ r.length
      · rw [show m = c.toNat by omega]
      · rw [List.drop_of_length_le (by omega), List.drop_of_length_le (by omega)]
    have hm1 : m ≤ r.length := by omega
    have hf := tx_first c r
    have hsl : r.length ≤ 9223372036854775806 := by simp only [List.length_cons] at hs; omega
    generalize tx (takeK (c :: r)).1 = R1 at *
    generalize tx (takeK (c :: r)).2 = R2 at *
    generalize tx (c :: r) = S at *
    have hy8 := c.toNat_lt
    obtain ⟨y, hy⟩ : ∃ y, c.toNat = y := ⟨_, rfl⟩
    rw [hy] at hm hmi hy8
    generalize r.length = L at *
    have h0 : 0 < S.size := by omega
    have hf2 := hf h0
    go_enter Try.func35, Try.ntmps35
    have y0 : (y : Int) < 256 := by omega
    obtain ⟨k, hk⟩ : ∃ k, 1 + m = k := ⟨_, rfl⟩
    rw [hk] at hx1 hx2
    have hkw : IntKind.i64.wrap (1 + (m : Int)) = (k : Int) := by
      rw [← hk]
      simp [IntKind.wrap, IntKind.signed, IntKind.bits]
      omega
    have hk2 : (1 : Int) + (m : Int) = (k : Int) := by omega
    have k1 : (1 : Int) ≤ (k : Int) := by omega
    have k2 : (k : Int) ≤ (L : Int) + 1 := by omega
    have hx3 := hx2
    rw [hz] at hx3
    have hmL : (m : Int) ≤ 9223372036854775806 := by omega
    go_wp2
    go_quiet (fail)
    go_wp2
    go_ret2
    exact ⟨rfl, below_drewN (Below.refl _ _) _⟩

theorem takeK_len (l : List UInt8) : (takeK l).1.length ≤ 255 ∧ (takeK l).2.length ≤ l.length := by
  cases l with
  | nil => simp [takeK]
  | cons c r =>
    have := c.toNat_lt
    simp only [takeK, List.length_take, List.length_drop, List.length_cons]
    omega
theorem keyE_err {n : List UInt8} {ls : List LabB} {c : Nat} (h : keyE n ls = .error c) : c = 1 ∨ c = 3 ∨ c = 11 := by
  unfold keyE at h
  split at h
  · cases h; exact .inl rfl
  · split at h
    · cases h; exact .inr (.inr rfl)
    · split at h
      · cases h; exact .inr (.inl rfl)
      · cases h
/-- What is told of a key that is split. -/
def SplitEnd (w : World) : Option (List UInt8 × List LabB) → Ending → World → Prop
  | none, e, w' => e = .returned (.tuple #[.string ⟨#[]⟩, .slice none 0 0, .bool false]) ∧ Below w.heap.size w w'
  | some x, e, w' => ∃ v, e = .returned (.tuple #[.string (tx x.1), v, .bool true]) ∧ OwnL w.heap.size v x.2 w' ∧ Below w.heap.size w w'
theorem results3 {fn : Func} {a b c : Tmp} (h : fn.results = #[.tmp a, .tmp b, .tmp c]) (tmps : Array Value) (P : Program) (w : World) :
    (results fn tmps).run P w = .ok (.tuple #[tmps.getD a undef, tmps.getD b undef, tmps.getD c undef]) w := by
  simp [results, h]
theorem takesK_succ (k : Nat) (l : List UInt8) : (takesK (k + 1) l).1 = ((takeK l).1, (takeK (takeK l).2).1) :: (takesK k (takeK (takeK l).2).2).1 := rfl

set_option maxRecDepth 100000 in
set_option maxHeartbeats 8000000 in
theorem ref_split (s : List UInt8) (hs : s.length ≤ 4611686018427387904) (w : World) :
    Calls Try.prog 21 #[.string (tx s)] w (SplitEnd w (splitR s)) := by
  have ht := fun w => take_any s (by unfold maxLen; omega) w
  obtain ⟨R, hR⟩ : ∃ R, splitR s = R := ⟨_, rfl⟩
  rw [hR]
  unfold splitR at hR
  obtain ⟨t1, t2⟩ := takeK_len s
  by_cases h0 : (takeK s).2 = []
  · rw [if_pos h0] at hR
    subst hR
    have he : tx (takeK s).2 = ⟨#[]⟩ := by rw [h0]; rfl
    rw [he] at ht
    clear he h0
    generalize tx (takeK s).1 = T1 at *
    generalize tx s = S at *
    go_enter Try.func21, Try.ntmps21
    go_wp2_with fail
    refine (ht _).mono ?_
    rintro e w1 ⟨rfl, hB1⟩
    go_wp2
    refine bodyPost_ret (results3 rfl _ _ _) rfl ?_
    exact ⟨rfl, hB1⟩
  · rw [if_neg h0] at hR
    obtain ⟨c, r, hcr⟩ := List.exists_cons_of_ne_nil h0
    have he := txt_no h0
    rw [hcr] at ht he t2
    have hz : (tx (c :: r)).size = r.length + 1 := by rw [tx_len]; rfl
    have hx : (tx (c :: r)).extract 1 (tx (c :: r)).size = tx r := by
      rw [tx_extract, tx_len, List.take_of_length_le (Nat.le_refl _)]
      rfl
    have hx' := hx
    rw [hz] at hx'
    have hf : ∀ h, (tx (c :: r))[0]'h = c := fun h => tx_first c r h
    unfold readR numK at hR
    rw [hcr] at hR
    simp only at hR
    have hy8 := c.toNat_lt
    obtain ⟨y, hy⟩ : ∃ y, c.toNat = y := ⟨_, rfl⟩
    rw [hy] at hR hy8
    obtain ⟨K, hK⟩ : ∃ K, min y 17 = K := ⟨_, rfl⟩
    rw [hK] at hR
    have HR := Lib.hid hR
    have hrl : r.length ≤ 4611686018427387904 := by simp only [List.length_cons] at t2; omega
    clear hR hcr t2 h0
    have HT1 := Lib.hid t1
    have HNE := Lib.hid (fun w p c ls h1 h2 h3 => ref_key (takeK s).1 (by unfold maxLen; omega) p c ls h1 w h3)
    clear t1 HNE
    obtain ⟨n, hn⟩ : ∃ n, (takeK s).1 = n := ⟨_, rfl⟩
    rw [hn] at ht HR HT1
    clear hn
    generalize tx (c :: r) = S1 at *
    have hsz : 0 < S1.size := by omega
    have hf0 := hf hsz
    have y0 : (y : Int) < 256 := by omega
    have hyn : ((c.toNat : Nat) : Int) = (y : Int) := by omega
    clear hf
    go_enter Try.func21, Try.ntmps21
    go_wp2_with fail
    refine (ht _).mono ?_
    rintro e w1 ⟨rfl, hB1⟩
    have HB1 := Lib.hid hB1
    clear ht hB1
    have HO0 := Lib.hid (OwnL.nil w.heap.size w1)
    go_wp2
    go_loopg [6, 8, 9] K (fun g s6 s8 s9 wx => ∃ (k : Nat) (A : List LabB) (rest : List UInt8), s9 = .int .i64 (k : Int) ∧ s6 = .string (tx rest) ∧ k + g = K ∧ rest.length ≤ 4611686018427387904 ∧ A.length = k ∧ Hid ((takesK K r).1 = A ++ (takesK g rest).1) ∧ Hid (∀ x ∈ A, x.1.length ≤ 255 ∧ x.2.length ≤ 255) ∧ Hid (OwnL w.heap.size s8 A wx) ∧ Hid (Below w.heap.size w wx))
    case atStart => exact ⟨0, [], r, rfl, rfl, by omega, hrl, rfl, Lib.hid rfl, Lib.hid (fun x hx => by cases hx), HO0, HB1⟩
    case round =>
      clear HO0 HB1 hrl hx hx' hf0 he hz hsz
      obtain ⟨k, A, rest, rfl, rfl, hkg, hrest, hAl, HK, HA, HO, HB⟩ := hrel
      cases gk with
      | zero =>
        obtain ⟨q, d, rfl⟩ := HO.out.len
        have hA := HK.out
        rw [show (takesK 0 rest).1 = [] from rfl, List.append_nil] at hA
        rw [hA] at HR
        have hli := HO.out.lies (fun x hx => by have := HA.out x hx; unfold maxLen; omega)
        have hkey := ref_key n (by have := HT1.out; unfold maxLen; omega) q d A (by unfold maxLab; omega)
        have HKEY := Lib.hid (hkey wr hli)
        have HA3 := Lib.hid hAl
        clear hkey hli hA HK HT1 HA hs
        have hg : ((k : Int) < (y : Int) ∧ ¬ ((k : Int) < 17)) ∨ ¬ ((k : Int) < (y : Int)) := by omega
        rcases hg with ⟨k1, k2⟩ | k1
        all_goals
          clear hkg hK hrest hAl
          go_wp2_with fail
          refine HKEY.out.mono ?_
          rintro e w3 ⟨rfl, hB3⟩
          have HB3 := Lib.hid (HB.out.trans (hB3.mono HB.out.size))
          have HO3 := Lib.hid (HO.out.below hB3)
          clear hB3 HB HO HKEY
          cases hk : keyE n A with
          | error c =>
            rw [hk] at HR
            have hc : (c : Int) ≠ 0 := by have := keyE_err hk; omega
            have hcn : c ≠ 0 := by have := keyE_err hk; omega
            have hR2 : R = none := HR.out.symm
            subst hR2
            clear HR hk
            rw [show keyV (.error c) = .tuple #[.string ⟨#[]⟩, .int .i64 (c : Int)] from rfl]
            go_wp2
            refine bodyPost_ret (results3 rfl _ _ _) rfl ?_
            exact ⟨rfl, HB3.out⟩
          | ok k' =>
            rw [hk] at HR
            rw [show keyV (.ok k') = .tuple #[.string (tx k'), .int .i64 0] from rfl]
            have he := tx_eq k' s
            by_cases hks : k' = s
            · rw [decide_eq_true hks] at he
              have hR2 : R = some (n, A) := by rw [← HR.out, if_pos (by simp [okIs, hks])]
              subst hR2
              clear HR hk hks
              generalize tx k' = K1 at *
              generalize tx s = S2 at *
              go_wp2
              refine bodyPost_ret (results3 rfl _ _ _) rfl ?_
              exact ⟨_, rfl, HO3.out, HB3.out⟩
            · rw [decide_eq_false hks] at he
              have hR2 : R = none := by rw [← HR.out, if_neg (by simp [okIs, hks])]
              subst hR2
              clear HR hk hks
              generalize tx k' = K1 at *
              generalize tx s = S2 at *
              go_wp2
              refine bodyPost_ret (results3 rfl _ _ _) rfl ?_
              exact ⟨rfl, HB3.out⟩
      | succ g =>
        have k1 : (k : Int) < (y : Int) := by omega
        have k2 : (k : Int) < 17 := by omega
        obtain ⟨q, d, rfl⟩ := HO.out.len
        obtain ⟨a1, a2⟩ := takeK_len rest
        obtain ⟨b1, b2⟩ := takeK_len (takeK rest).2
        have ht1 := fun w => take_any rest (by unfold maxLen; omega) w
        have ht2 := fun w => take_any (takeK rest).2 (by unfold maxLen; omega) w
        have hk := HK.out
        rw [takesK_succ] at hk
        have HX0 := Lib.hid (CellsAt.new #[.string ⟨#[]⟩, .string ⟨#[]⟩] 47 wr)
        have HN1 := Lib.hid ((Below.refl wr.heap.size wr).alloc (Nat.le_refl _) (.cells #[.string ⟨#[]⟩, .string ⟨#[]⟩] 47))
        have HA2 : Hid (∀ x ∈ A ++ [((takeK rest).1, (takeK (takeK rest).2).1)], x.1.length ≤ 255 ∧ x.2.length ≤ 255) := Lib.hid (fun x hx => by
          rcases List.mem_append.1 hx with h | h
          · exact HA.out x h
          · rw [List.mem_singleton.1 h]; exact ⟨a1, b1⟩)
        have HK2 : Hid ((takesK K r).1 = A ++ [((takeK rest).1, (takeK (takeK rest).2).1)] ++ (takesK g (takeK (takeK rest).2).2).1) := Lib.hid (by rw [hk]; simp)
        have hrest2 : (takeK (takeK rest).2).2.length ≤ 4611686018427387904 := by omega
        have hNw : w.heap.size ≤ wr.heap.size := HB.out.size
        have HAL := Lib.hid hAl
        clear hk HK HA a1 a2 b1 b2
        generalize (takeK (takeK rest).2).2 = rest2 at *
        generalize (takeK (takeK rest).2).1 = x2 at *
        generalize (takeK rest).2 = rest1 at *
        generalize (takeK rest).1 = x1 at *
        go_wp2_with fail
        refine (ht1 _).mono ?_
        rintro e w3 ⟨rfl, hB3⟩
        have hX := HX0.out.below hB3
        have c0 := hX.cell 0 _ rfl
        have f0 := hX.fro 0 _ rfl
        have z0 := hX.lt
        have HXa := Lib.hid (hX.set 0 (.string (tx x1)) (by simp))
        have HNa := Lib.hid ((HN1.out.trans (hB3.mono HN1.out.size)).setCell (p := ⟨wr.heap.size, 0, none⟩) (Nat.le_refl _) (.string (tx x1)))
        clear hX hB3 HX0 HN1 ht1
        go_wp2_with fail
        refine (ht2 _).mono ?_
        rintro e w4 ⟨rfl, hB4⟩
        have hX := HXa.out.below hB4
        have HNb := Lib.hid (HNa.out.trans (hB4.mono HNa.out.size))
        have c0 : w4.cell? ⟨wr.heap.size, 0, none⟩ = some (.string (tx x1)) := hX.cell 0 _ rfl
        have c1 : w4.cell? ⟨wr.heap.size, 1, none⟩ = some (.string ⟨#[]⟩) := hX.cell 1 _ rfl
        have f1 := hX.fro 1 _ rfl
        have z1 := hX.lt
        have hX5 := hX.set 1 (.string (tx x2)) (by simp)
        have HN5 := Lib.hid (HNb.out.setCell (p := ⟨wr.heap.size, 1, none⟩) (Nat.le_refl _) (.string (tx x2)))
        have d0 : (w4.setCell ⟨wr.heap.size, 1, none⟩ (.string (tx x2))).cell? ⟨wr.heap.size, 0, none⟩ = some (.string (tx x1)) := hX5.cell 0 _ rfl
        have d1 : (w4.setCell ⟨wr.heap.size, 1, none⟩ (.string (tx x2))).cell? ⟨wr.heap.size, 1, none⟩ = some (.string (tx x2)) := hX5.cell 1 _ rfl
        have hO5 := HO.out.below HN5.out
        have hB5 := HB.out.trans (HN5.out.mono HB.out.size)
        obtain ⟨v', w', hr1, hG⟩ := append_label 23 hO5 (x1, x2) (by have := HAL.out; unfold maxLab; omega) hB5.size
        have HB6 := Lib.hid (hB5.trans (hG.low (fun g hg => (hO5.lt hg).1) hB5.size))
        have HO6 := Lib.hid hG.1
        rw [HAL.out, show (w4.setCell ⟨wr.heap.size, 1, none⟩ (.string (tx x2))).heap.size = w4.heap.size by simp] at hr1
        clear hX hX5 hO5 hB5 hG hB4 HXa HNa HNb HN5 ht2 HB HO
        have HR1 := Lib.hid hr1
        clear hr1 
        go_wp2_with (first | (at_builtin; refine Lib.wpList_append_run _ rfl _ _ _ _ rfl _ _ rfl rfl _ _ HR1.out ?_))
        go_roundg g
        case measure => omega
        case rel => exact ⟨k + 1, A ++ [(x1, x2)], rest2, by go_num, rfl, by omega, hrest2, by rw [List.length_append, HAL.out]; rfl, HK2, HA2, HO6, HB6⟩
end Go.Proofs.Ytlocjhnlemlnmaa.Lx
