/- Any bytes are split, or not, and told, as the chapter says. -/
import Derived.Test.YtlocjhnlemlnmaaLbLk
import Derived.Test.YtlocjhnlemlnmaaLbY
namespace Go.Proofs.Ytlocjhnlemlnmaa.Lx
open Go Go.RowKit

def nameOf : Option (List UInt8 × List LabB) → ByteArray
  | none => ⟨#[]⟩
  | some x => tx x.1
def labsOf : Option (List UInt8 × List LabB) → List LabB
  | none => []
  | some x => x.2
theorem split_ends {w : World} {s : List UInt8} {e : Ending} {w' : World} (hE : SplitEnd w (splitP s) e w') :
    ∃ (N : ByteArray) (P : Option Addr) (ls : List LabB) (C : Nat) (b : Bool), e = .returned (.tuple #[.string N, .slice P ls.length C, .bool b]) ∧ N = nameOf (splitP s) ∧ ls = labsOf (splitP s) ∧ b = (splitP s).isSome ∧ ls.length ≤ maxLab ∧ LbAt P ls w' ∧ Below w.heap.size w w' := by
  have hf := @key_fits
  cases hR : splitP s with
  | none =>
    rw [hR] at hE
    obtain ⟨rfl, hB⟩ := hE
    exact ⟨_, none, [], 0, false, rfl, rfl, rfl, rfl, Nat.zero_le _, LbAt.nil _ _, hB⟩
  | some x =>
    rw [hR] at hE
    obtain ⟨n, ls⟩ := x
    obtain ⟨_, h2, h3⟩ := hf hR
    obtain ⟨v, rfl, hO, hB⟩ := hE
    have hO : OwnL w.heap.size v ls w' := hO
    obtain ⟨P, C, rfl⟩ := hO.len
    exact ⟨_, P, ls, C, true, rfl, rfl, rfl, rfl, by unfold maxLab; omega, hO.lies (fits_short h3), hB⟩
theorem keyV_sized (n : List UInt8) (ls : List LabB) : ∃ (k : ByteArray) (m : Int), keyV (keyE n ls) = .tuple #[.string k, .int .i64 m] ∧ k.size ≤ 2048 := by
  cases h : keyE n ls with
  | ok k =>
    obtain ⟨_, _, _, _, _, _, h4⟩ := keyE_ok h
    exact ⟨_, _, rfl, by rw [tx_len]; exact h4⟩
  | error c => exact ⟨_, _, rfl, by show (0 : Nat) ≤ _; omega⟩

set_option maxRecDepth 100000 in
set_option maxHeartbeats 8000000 in
theorem splits_true (hT : TextOk) (p : Option Addr) (l : List ItemV) (c : Nat) (hl : l.length ≤ maxLen) (pw : Option Addr) (ws : List Nat) (cw : Nat) (hw : ws.length ≤ maxLen) (s : ByteArray) (hs : s.size ≤ 4611686018427387904) (own : Bool) (p0 z : Int) (hp0 : -9223372036854775808 ≤ p0) (hp1 : p0 ≤ 9223372036854775807) (z0 : 0 ≤ z) (z1 : z < 256) (w : World) (hR : Rows9 p l w) (hO : Octs pw ws w) :
    Calls Try.prog 4 #[.slice p l.length c, .slice pw ws.length cw, .string s, .bool own, .int .i64 p0, .int .u8 z] w fun e w' => e = .returned (.bool true) ∧ Below w.heap.size w w' := by
  have hex := fun w => examples_of hT w
  have HF := Lib.hid (fun W h1 => few_any p l c hl (.slice none 0 0) W h1)
  have HW := Lib.hid (fun W h => word_any pw ws cw hw W h)
  have HT := Lib.hid hT
  have HR := Lib.hid hR
  have HO := Lib.hid hO
  clear hT hR hO hl hw
  go_enter Try.func4, Try.ntmps4
  go_wp2_with fail
  refine (hex _).mono ?_
  rintro e w1 ⟨rfl, hB⟩
  have HB1 := Lib.hid hB
  clear hB hex
  cases own
  case' true =>
    go_wp2_with fail
    refine (HW.out _ (HO.out.below HB1.out)).mono ?_
    rintro e w2 ⟨rfl, hB⟩
    have HB2 := Lib.hid (HB1.out.trans (hB.mono HB1.out.size))
    clear hB HB1
    go_wp2_with fail
    refine (HF.out _ (HR.out.below HB2.out)).mono ?_
    rintro e w3 ⟨v, rfl, hO3, hB⟩
    have HB3 := Lib.hid (HB2.out.trans (hB.mono HB2.out.size))
    obtain ⟨P, C, rfl⟩ := hO3.len
    have hk := ref_key (wordS ws) (wordS_max ws) P C (fewS l) (by have := fewS_len l; unfold maxLab; omega) w3 (hO3.lies (fewS_short l))
    obtain ⟨k, m, hkv, hk2⟩ := keyV_sized (wordS ws) (fewS l)
    rw [hkv] at hk
    clear hB HB2 hO3 hkv
    go_wp2_with fail
    refine hk.mono ?_
    rintro e w4 ⟨rfl, hB⟩
    have HB4 := Lib.hid (HB3.out.trans (hB.mono HB3.out.size))
    have hb := bend_any k (by omega) p0 z hp0 hp1 z0 z1 w4
    clear hB HB3 hk
    go_wp2_with fail
    refine hb.mono ?_
    rintro e w5 ⟨t, rfl, ht, hB⟩
    have HB5 := Lib.hid (HB4.out.trans (hB.mono HB4.out.size))
    have hts : t.size ≤ 4611686018427387904 := by omega
    clear hB HB4 hb ht
  case' false =>
    have HB5 := HB1
    have hts := hs
    clear HB1
    generalize s = t at *
    generalize w1 = w5 at *
  all_goals
    clear HW HR HO HF
    have hlt : t.data.toList.length ≤ 4611686018427387904 := by rw [size_list]; exact hts
    have hlm : t.data.toList.length ≤ maxLen := by unfold maxLen; omega
    have hs1 := fun w => split_of HT.out t.data.toList hlm w
    have hs2 := fun w => ref_split t.data.toList hlt w
    have ht1 := fun w => text_of t.data.toList hs1 w
    have hm1 := fun w => metric_of t.data.toList hs1 w
    rw [← split_same] at hs2
    have ht2 := fun w => reftext_of t.data.toList hs2 w
    have hm2 := fun w => refmetric_of t.data.toList hs2 w
    rw [tx_list] at hs1 hs2 ht1 ht2 hm1 hm2
    have HT1 := Lib.hid ht1
    have HT2 := Lib.hid ht2
    have HM1 := Lib.hid hm1
    have HM2 := Lib.hid hm2
    have HS2 := Lib.hid hs2
    clear ht1 ht2 hm1 hm2 hs2 hlt hlm hts HT
    go_wp2_with fail
    refine (hs1 _).mono ?_
    intro e w6 hE
    obtain ⟨N1, P1, l1, C1, b1, rfl, hN1, hl1, hb1, hm1, hlb1, hB⟩ := split_ends hE
    have HB6 := Lib.hid (HB5.out.trans (hB.mono HB5.out.size))
    have HLB6 := Lib.hid hlb1
    have HM6 := Lib.hid hm1
    have HX1 := Lib.hid hN1
    have HX2 := Lib.hid hl1
    have HX3 := Lib.hid hb1
    clear hE hB HB5 hlb1 hm1 hN1 hl1 hb1 hs1
    go_wp2_with fail
    refine (HS2.out _).mono ?_
    intro e w7 hE
    obtain ⟨N2, P2, l2, C2, b2, rfl, hN2, hl2, hb2, -, hlb2, hB⟩ := split_ends hE
    rw [← HX1.out] at hN2
    rw [← HX2.out] at hl2
    rw [← HX3.out] at hb2
    subst hN2 hl2 hb2
    have HB7 := Lib.hid (HB6.out.trans (hB.mono HB6.out.size))
    have HLB7 := Lib.hid (HLB6.out.below hB)
    have HLC7 := Lib.hid hlb2
    clear hE hB HB6 HLB6 hlb2 HX1 HX2 HX3 HS2
    go_wp2_with fail
    refine (same_any P1 P2 l2 l2 C1 C2 HM6.out HM6.out _ HLB7.out HLC7.out).mono ?_
    intro e w8 hE
    rw [decide_eq_true rfl] at hE
    obtain ⟨rfl, hB⟩ := hE
    have HB8 := Lib.hid (HB7.out.trans (hB.mono HB7.out.size))
    clear hB HB7 HLB7 HLC7 HM6
    generalize textS t.data.toList = TS at *
    generalize metricS t.data.toList = MS at *
    go_wp2_with fail
    refine (HT1.out _).mono ?_
    rintro e w9 ⟨rfl, hB⟩
    have HB9 := Lib.hid (HB8.out.trans (hB.mono HB8.out.size))
    clear hB HB8 HT1
    go_wp2_with fail
    refine (HT2.out _).mono ?_
    rintro e w10 ⟨rfl, hB⟩
    have HB10 := Lib.hid (HB9.out.trans (hB.mono HB9.out.size))
    clear hB HB9 HT2
    generalize tx TS = TT at *
    go_wp2_with fail
    refine (HM1.out _).mono ?_
    rintro e w11 ⟨rfl, hB⟩
    have HB11 := Lib.hid (HB10.out.trans (hB.mono HB10.out.size))
    clear hB HB10 HM1
    go_wp2_with fail
    refine (HM2.out _).mono ?_
    rintro e w12 ⟨rfl, hB⟩
    have HB12 := Lib.hid (HB11.out.trans (hB.mono HB11.out.size))
    clear hB HB11 HM2
    generalize tx MS = MM at *
    go_wp2
    go_ret
    exact ⟨rfl, HB12.out⟩
end Go.Proofs.Ytlocjhnlemlnmaa.Lx
