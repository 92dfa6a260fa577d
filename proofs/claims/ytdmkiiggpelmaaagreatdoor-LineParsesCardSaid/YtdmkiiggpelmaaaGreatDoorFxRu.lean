/- The chapter's own answer: the last part: zeros taken off, or put behind. -/
import Derived.Test.YtdmkiiggpelmaaaGreatDoorFxRb
import Derived.Test.YtdmkiiggpelmaaaGreatDoorLnT
import Derived.Deep.Cut
import Derived.Deep.CutBlock
import Derived.Deep.DeepCutAuto
namespace Go.Proofs.YtdmkiiggpelmaaaGreatDoor
open Go Go.RowKit

/-- The first region of a piece of code. -/
def leftR : Code → Option Nat
  | .region i _ _ => some i
  | .seq a _ => leftR a
  | _ => none
/-- The outermost sequence that begins with region n. -/
def findR (n : Nat) : Code → Option Code
  | .seq a b => match leftR a == some n with
    | true => some (.seq a b)
    | false => match findR n a with
      | some c => some c
      | none => findR n b
  | .cond _ a b => match findR n a with
      | some c => some c
      | none => findR n b
  | .block _ a => findR n a
  | .loop a => findR n a
  | .scope a => findR n a
  | _ => none
def isT : Operand → Nat → Bool
  | .tmp d, t => d == t
  | _, _ => false
/-- The outermost test of slot t. -/
def findC (t : Nat) : Code → Option Code
  | .cond c a b => match isT c t with
    | true => some (.cond c a b)
    | false => match findC t a with
      | some c => some c
      | none => findC t b
  | .seq a b => match findC t a with
      | some c => some c
      | none => findC t b
  | .block _ a => findC t a
  | .loop a => findC t a
  | .scope a => findC t a
  | _ => none
theorem byte_ne {c d : UInt8} {i : Int} (hd : (d.toNat : Int) = i) (hc : c ≠ d) : ((c.toNat : Int) == i) = false := by
  rw [beq_eq_false_iff_ne]
  intro h
  exact hc (UInt8.toNat_inj.1 (by omega))
theorem dig_take (l : List UInt8) : l.take (dig l).length = dig l := by
  have h := List.take_left (l₁ := dig l) (l₂ := rst l)
  rwa [dig_rst] at h
theorem dig_drop (l : List UInt8) : l.drop (dig l).length = rst l := by
  have h := List.drop_left (l₁ := dig l) (l₂ := rst l)
  rwa [dig_rst] at h

abbrev RPost (w : World) (r : Int × Int) : Ending → World → Prop := fun e w' => e = .returned (.tuple #[.int .i64 r.1, .int .i64 r.2]) ∧ ∃ n, w' = w.drewN n

set_option maxRecDepth 100000 in
set_option maxHeartbeats 16000000 in
theorem ref_tail (C : Code) (hC : Tryz.f22.body.bind (findR 32) = some C) (w : World) (n : Nat) (b : Bool) (D : List UInt8) (k : Int) (r : Int × Int) (hD : AllDig D) (hl : D.length ≤ 128) (hk1 : -20000 ≤ k) (hk2 : k ≤ 20000) (hr : r = shV b (val D) k) (s0 s1 s2 s3 s5 s6 s8 s10 s11 s12 s13 s14 s15 s16 s17 s18 s19 s20 s21 s22 s23 s24 s25 s26 s27 s28 s29 s30 s31 s32 s33 s34 s35 s36 s37 s38 s39 s40 s41 s42 s43 s44 s45 s46 s47 s48 s49 s50 s51 s52 s53 s54 s55 s56 s57 s58 s59 s60 s61 s62 s63 s64 s65 s66 s67 s68 s69 s70 s71 s72 s73 s74 s75 s76 s77 s78 s79 s80 s81 s82 s83 s84 s85 s86 s87 s88 s89 s90 s91 s92 s93 s94 s95 s96 s97 s98 s99 s100 s101 s102 s103 s104 s105 s106 s107 s108 s109 s110 s111 s112 s113 s114 s115 s116 s117 s118 s119 s120 s121 s122 s123 s124 s125 s126 s127 s128 s129 s130 s131 s132 s133 s134 s135 s136 s137 s138 s139 s140 s141 s142 : Value) :
    Code.wp Tryz.prog C (bodyPost Tryz.prog Tryz.f22 (RPost w r)) { tmps := (s0 :: s1 :: s2 :: s3 :: .bool b :: s5 :: s6 :: .string (tx D) :: s8 :: .int .i64 k :: s10 :: s11 :: s12 :: s13 :: s14 :: s15 :: s16 :: s17 :: s18 :: s19 :: s20 :: s21 :: s22 :: s23 :: s24 :: s25 :: s26 :: s27 :: s28 :: s29 :: s30 :: s31 :: s32 :: s33 :: s34 :: s35 :: s36 :: s37 :: s38 :: s39 :: s40 :: s41 :: s42 :: s43 :: s44 :: s45 :: s46 :: s47 :: s48 :: s49 :: s50 :: s51 :: s52 :: s53 :: s54 :: s55 :: s56 :: s57 :: s58 :: s59 :: s60 :: s61 :: s62 :: s63 :: s64 :: s65 :: s66 :: s67 :: s68 :: s69 :: s70 :: s71 :: s72 :: s73 :: s74 :: s75 :: s76 :: s77 :: s78 :: s79 :: s80 :: s81 :: s82 :: s83 :: s84 :: s85 :: s86 :: s87 :: s88 :: s89 :: s90 :: s91 :: s92 :: s93 :: s94 :: s95 :: s96 :: s97 :: s98 :: s99 :: s100 :: s101 :: s102 :: s103 :: s104 :: s105 :: s106 :: s107 :: s108 :: s109 :: s110 :: s111 :: s112 :: s113 :: s114 :: s115 :: s116 :: s117 :: s118 :: s119 :: s120 :: s121 :: s122 :: s123 :: s124 :: s125 :: s126 :: s127 :: s128 :: s129 :: s130 :: s131 :: s132 :: s133 :: s134 :: s135 :: s136 :: s137 :: s138 :: s139 :: s140 :: s141 :: s142 :: []).toArray, defers := [] } (w.drewN n) := by
  cases hC
  have h1 := fun w => ref_trim D (by unfold maxLen; omega) w
  by_cases h0 : val D = 0
  · have ht : Lib.trimLeftB D 48 = [] := (trimL_nil hD).2 h0
    have hr0 : r = (0, 0) := by rw [hr, h0]; rfl
    have hem := empty_eq ht
    subst hr0
    clear hr h0 ht
    generalize tx (Lib.trimLeftB D 48) = M at h1 hem
    generalize tx D = S at *
    go_wp2_with fail
    refine (h1 _).mono ?_
    rintro e w1 ⟨rfl, rfl⟩
    go_wp2
    go_ret2
    exact ⟨rfl, _, rfl⟩
  · have ht : Lib.trimLeftB D 48 ≠ [] := fun h => h0 ((trimL_nil hD).1 h)
    have hem := tx_ne2 ht
    have HI : Hid (AllDig D ∧ val D ≠ 0 ∧ r = shV b (val D) k) := Lib.hid ⟨hD, h0, hr⟩
    clear hr h0 ht hD
    generalize tx (Lib.trimLeftB D 48) = M at h1 hem
    have HL := Lib.hid hl
    go_wp2_with fail
    refine (h1 _).mono ?_
    rintro e w1 ⟨rfl, rfl⟩
    clear h1
    go_wp2
    clear hem
    go_loopg [7, 9] (-k).toNat (fun g s7 s9 wx => ∃ (A : List UInt8) (j : Int), (-j).toNat ≤ g ∧ -20000 ≤ j ∧ j ≤ 20000 ∧ s7 = .string (tx A) ∧ s9 = .int .i64 j ∧ Hid (A.length ≤ 128) ∧ Hid (AllDig A ∧ val A ≠ 0 ∧ r = shV b (val A) j) ∧ wx = w.drewN n)
    case atStart => exact ⟨D, k, Nat.le_refl _, hk1, hk2, rfl, rfl, HL, HI, rfl⟩
    case round =>
      obtain ⟨A, j, hjg, hj1, hj2, rfl, rfl, HAL, HA, rfl⟩ := hrel
      by_cases hj : j < 0
      · have hne : A ≠ [] := by intro h; have := HA.out.2.1; rw [h] at this; exact this rfl
        obtain ⟨t, c, rfl⟩ : ∃ t c, A = t ++ [c] := ⟨A.dropLast, A.getLast hne, (List.dropLast_concat_getLast hne).symm⟩
        obtain ⟨hz, hx, hex⟩ := last_of t c
        have hsz : ((tx (t ++ [c])).size : Int) - 1 = (t.length : Int) := by rw [tx_len]; simp
        have hszb : (tx (t ++ [c])).size ≤ 128 := by rw [tx_len]; exact HAL.out
        have hjb : t.length ≤ 128 := by have := HAL.out; simp at this; omega
        have hem := tx_ne2 hne
        have hdc : isDig c = true := HA.out.1 c (by simp)
        by_cases hc : c = 48
        · have e4 : (c.toNat : Int) = 48 := by rw [hc]; rfl
          have hvt : val (t ++ [c]) = val t * 10 := by rw [val_snoc, hc]; rfl
          have HN : Hid (AllDig t ∧ val t ≠ 0 ∧ r = shV b (val t) (j + 1)) := Lib.hid (by
            obtain ⟨g1, g2, g3⟩ := HA.out
            have g4 : val t ≠ 0 := fun h => g2 (by rw [hvt, h])
            exact ⟨fun x hx => g1 x (by simp [hx]), g4, by rw [g3, hvt, shV_ten g4]⟩)
          have HTL : Hid (t.length ≤ 128) := Lib.hid hjb
          cases gk with
          | zero => omega
          | succ g =>
            clear hne hc hvt HA HAL hdc
            generalize t.length = tl at hz hx hex hsz hjb
            generalize tx (t ++ [c]) = M at *
            go_wp2
            go_roundg g
            case measure => omega
            case rel => exact ⟨t, j + 1, by omega, by omega, by omega, by first | rfl | rw [hex], rfl, HTL, HN, rfl⟩
        · have e4 := byte_ne (c := c) (d := 48) (i := 48) rfl hc
          have hr0 : r = (0, 7) := by
            obtain ⟨g1, g2, g3⟩ := HA.out
            rw [g3]
            exact shV_odd (val_mod g1 hne (fun x y h => by have h5 := (List.append_inj' h rfl).2; simp only [List.cons.injEq, and_true] at h5; rw [← h5]; exact hc)) hj
          subst hr0
          clear hne hc HA HAL hdc
          generalize t.length = tl at hz hx hex hsz hjb
          generalize tx (t ++ [c]) = M at *
          go_wp2
          go_ret2
          exact ⟨rfl, _, rfl⟩
      · clear hjg
        go_wp2
        go_loopg [7, 9] j.toNat (fun g s7 s9 wx => ∃ (A : List UInt8) (i : Int), i.toNat ≤ g ∧ 0 ≤ i ∧ i ≤ 20000 ∧ s7 = .string (tx A) ∧ s9 = .int .i64 i ∧ Hid (A.length + i.toNat ≤ 20128) ∧ Hid (AllDig A ∧ val A ≠ 0 ∧ r = shV b (val A) i) ∧ wx = w.drewN n)
        case atStart => exact ⟨A, j, Nat.le_refl _, by omega, hj2, rfl, rfl, Lib.hid (by have := HAL.out; omega), HA, rfl⟩
        case round =>
          clear HA HAL
          obtain ⟨A, i, hig, hi1, hi2, rfl, rfl, HAL, HA, rfl⟩ := hrel
          have hal := HAL.out
          have hsz : (tx A).size ≤ 20128 := by rw [tx_len]; omega
          by_cases hi : 0 < i
          · have h2 := fun w => ref_trim A (by unfold maxLen; omega) w
            by_cases h19 : 19 < (Lib.trimLeftB A 48).length
            · have hr0 : r = (0, 7) := by
                obtain ⟨g1, g2, g3⟩ := HA.out
                rw [g3]
                exact shV_far (Nat.le_trans (Nat.pow_le_pow_right (by decide) (by omega)) (trimL_ge g1 (by intro h; rw [h] at h19; simp at h19))) hi1
              have hz : (19 : Int) < ((tx (Lib.trimLeftB A 48)).size : Int) := by rw [tx_len]; omega
              subst hr0
              clear HA hal h19 hig
              generalize tx (Lib.trimLeftB A 48) = M at *
              generalize tx A = S at *
              go_wp2_with fail
              refine (h2 _).mono ?_
              rintro e w1 ⟨rfl, rfl⟩
              go_wp2
              go_ret2
              exact ⟨rfl, _, rfl⟩
            · have hz : ¬ ((19 : Int) < ((tx (Lib.trimLeftB A 48)).size : Int)) := by rw [tx_len]; omega
              have HN : Hid (AllDig (A ++ [48]) ∧ val (A ++ [48]) ≠ 0 ∧ r = shV b (val (A ++ [48])) (i - 1)) := Lib.hid (by
                obtain ⟨g1, g2, g3⟩ := HA.out
                have hv : val (A ++ [48]) = val A * 10 := by rw [val_snoc]; rfl
                refine ⟨g1.app (fun x hx => by rw [List.mem_singleton.1 hx]; decide), by rw [hv]; omega, ?_⟩
                rw [g3, hv, shV_ten g2]
                congr 1
                omega)
              have HNL : Hid ((A ++ [48]).length + (i - 1).toNat ≤ 20128) := Lib.hid (by simp; omega)
              have hap : (tx A).size + (⟨#[48]⟩ : ByteArray).size ≤ 9223372036854775807 := by show (tx A).size + 1 ≤ _; omega
              have HAP := Lib.hid (tx_app A [48])
              cases gk with
              | zero => omega
              | succ g =>
                clear HA hal h19 HAL
                generalize tx (Lib.trimLeftB A 48) = M at *
                generalize tx A = S at *
                go_wp2_with fail
                refine (h2 _).mono ?_
                rintro e w1 ⟨rfl, rfl⟩
                clear h2
                go_wp2
                go_roundg g
                case measure => omega
                case rel => exact ⟨A ++ [48], i - 1, by omega, by omega, by omega, by rw [← HAP.out], rfl, HNL, HN, rfl⟩
          · have h2 := fun w => ref_number b A HA.out.1 (by omega) w
            have hi0 : i = 0 := by omega
            have hr0 : r = fitF b (val A) := by rw [HA.out.2.2, hi0, shV_zero]
            rw [← hr0] at h2
            subst hi0
            clear HA hal HAL hr0 hig
            generalize tx A = S at *
            obtain ⟨r1, r2⟩ := r
            go_wp2_with fail
            refine (h2 _).mono ?_
            rintro e w1 ⟨rfl, rfl⟩
            go_wp2
            go_ret2
            exact ⟨rfl, _, rfl⟩
end Go.Proofs.YtdmkiiggpelmaaaGreatDoor
