/- Two sketches are merged. -/
import Derived.Test.YtdcjfefnkjdchaaDoorHRegs
import Derived.Deep.QuietTactic
import Derived.BigQuiet
namespace Go.Proofs.YtdcjfefnkjdchaaDoor
open Go Go.RowKit

set_option maxRecDepth 100000 in
set_option maxHeartbeats 2000000 in
theorem merge_no (B T : Nat) (x y : Int) (hne : ¬ y = x) (w : World) (hx : w.cell? ⟨B, 0, none⟩ = some (.int .i64 x)) (hy : w.cell? ⟨T, 0, none⟩ = some (.int .i64 y)) :
    Calls Tryd.prog 15 #[.pointer (some ⟨B, 0, none⟩), .pointer (some ⟨T, 0, none⟩)] w fun e w' => e = .returned (.int .i64 1) ∧ ∃ n, w' = w.drewN n := by
  go_enter Tryd.func15, Tryd.ntmps15
  go_wp2
  go_quiet (fail)
  go_wp2
  go_ret
  exact ⟨rfl, _, rfl⟩
/-- The first k registers merged. -/
def mix (k : Nat) (l t : List UInt8) : List UInt8 := (mergeL l t).take k ++ l.drop k
theorem mix_zero (l t : List UInt8) : mix 0 l t = l := by simp [mix]
theorem mix_length {l t : List UInt8} (h : l.length = t.length) (k : Nat) : (mix k l t).length = l.length := by
  simp only [mix, List.length_append, List.length_take, List.length_drop, mergeL_length h]
  omega
theorem mix_all {l t : List UInt8} (h : l.length = t.length) : mix l.length l t = mergeL l t := by
  simp only [mix, List.drop_length, List.append_nil]
  rw [List.take_of_length_le (by rw [mergeL_length h]; exact Nat.le_refl _)]
theorem mix_at {l t : List UInt8} (h : l.length = t.length) (k : Nat) (hk : k < l.length) : (mix k l t)[k]? = some l[k] := by
  unfold mix
  rw [List.getElem?_append_right (by rw [List.length_take, mergeL_length h]; omega), List.length_take, mergeL_length h, List.getElem?_drop, show k + (k - min k l.length) = k by omega]
  simp [hk]
theorem mix_set {l t : List UInt8} (h : l.length = t.length) (k : Nat) (hk : k < l.length) (x : UInt8) (hx : (mergeL l t)[k]? = some x) : (mix k l t).set k x = mix (k + 1) l t := by
  unfold mix
  have hm := mergeL_length h
  rw [List.set_append, if_neg (by rw [List.length_take]; omega), List.length_take, show k - min k (mergeL l t).length = 0 by omega]
  rw [List.drop_eq_getElem_cons hk, List.set_cons_zero, List.take_add_one, hx]
  simp
theorem mergeL_get {l t : List UInt8} (h : l.length = t.length) (k : Nat) (hk : k < l.length) : (mergeL l t)[k]? = some (if l[k].toNat ≤ (t[k]'(by omega)).toNat then t[k]'(by omega) else l[k]) := by
  unfold mergeL
  rw [List.getElem?_zipWith, List.getElem?_eq_getElem hk, List.getElem?_eq_getElem (show k < t.length by omega)]
theorem chg_drewN (B : Nat) (w : World) (n : Nat) : Chg B w (w.drewN n) := ⟨rfl, rfl, rfl, Nat.le_refl _, fun _ _ _ => rfl⟩
theorem Sk.drewN {B b : Nat} {l : List UInt8} {w : World} (h : Sk B b l w) (n : Nat) : Sk B b l (w.drewN n) := ⟨h.lt, h.lo, h.hi, h.len, h.bits, h.cell, h.fro⟩
/-- What holds at the head of a round. -/
def MergeRel (B T b k : Nat) (l t : List UInt8) (w wx : World) : Prop := Chg B w wx ∧ Sk B b (mix k l t) wx ∧ ∀ i (h : i < t.length), k ≤ i → wx.cell? ⟨T, 1 + i, none⟩ = some (.int .u8 (t[i].toNat : Int))
theorem merge_step {B T b k : Nat} {l t : List UInt8} {w wx : World} (h : MergeRel B T b k l t w wx) (hl : l.length = t.length) (hk : k < l.length) (v : Int)
    (hv : v = if l[k].toNat ≤ (t[k]'(by omega)).toNat then ((t[k]'(by omega)).toNat : Int) else (l[k].toNat : Int)) : MergeRel B T b (k + 1) l t w (wx.setCell ⟨B, 1 + k, none⟩ (.int .u8 v)) := by
  obtain ⟨hC, hS, hT⟩ := h
  have hm := mergeL_get hl k hk
  obtain ⟨x, hx⟩ : ∃ x, x = if l[k].toNat ≤ (t[k]'(by omega)).toNat then t[k]'(by omega) else l[k] := ⟨_, rfl⟩
  rw [← hx] at hm
  have hxv : v = (x.toNat : Int) := by rw [hv, hx]; split <;> rfl
  subst hxv
  refine ⟨hC.set _ _, ?_, fun i hi hki => ?_⟩
  · rw [← mix_set hl k hk x hm]
    exact hS.set k x (by rw [mix_length hl]; exact hk)
  · rw [World.cell?_setCell_other (h := by intro e; have := congrArg Addr.off e; simp at this; omega)]
    exact hT i hi (by omega)
set_option maxRecDepth 100000 in
set_option maxHeartbeats 4000000 in
theorem merge_yes {B T b : Nat} {l t : List UInt8} {w : World} (hS : Sk B b l w) (hT : Sk T b t w) :
    Calls Tryd.prog 15 #[.pointer (some ⟨B, 0, none⟩), .pointer (some ⟨T, 0, none⟩)] w fun e w' => e = .returned (.int .i64 0) ∧ Chg B w w' ∧ Sk B b (mergeL l t) w' := by
  have hB0 := hS.bits
  have hT0 := hT.bits
  have huB := fun w h => used_M B b hS.lo hS.hi (2 ^ b) rfl w h
  have huT := fun w h => used_M T b hS.lo hS.hi (2 ^ b) rfl w h
  have hM := pow_hi hS.lo hS.hi
  have hl := hS.len
  have ht := hT.len
  generalize 2 ^ b = M at *
  obtain ⟨hM1, hM2⟩ := hM
  have HS := Lib.hid hS
  have HT := Lib.hid hT
  have HL := Lib.hid hl
  have HTL := Lib.hid ht
  clear hS hT hl ht
  go_enter Tryd.func15, Tryd.ntmps15
  go_wp2
  go_quiet (fail)
  go_wp2_with fail
  refine (huB (w.drewN nq) hB0).mono ?_
  rintro e w1 ⟨rfl, rfl⟩
  go_wp2_with fail
  refine (huT (w.drewN nq) hT0).mono ?_
  rintro e w1 ⟨rfl, rfl⟩
  have hS2 := HS.out.drewN nq
  have hT2 := HT.out.drewN nq
  have hC2 := chg_drewN B w nq
  generalize w.drewN nq = W at *
  have hrel0 : MergeRel B T b 0 l t w W := ⟨hC2, by rw [mix_zero]; exact hS2, fun i hi _ => hT2.cell i hi⟩
  have hlen : l.length = t.length := HL.out.trans HTL.out.symm
  have HLT := Lib.hid hlen
  clear hS2 hT2 hC2 hlen
  go_wp2_with fail
  go_loopw [22] (fun i wx => ∃ k : Nat, k ≤ M ∧ i = .int .i64 k ∧ MergeRel B T b k l t w wx) (fun i _ => M - (intOf i).toNat)
  case atStart => exact ⟨0, Nat.zero_le _, rfl, hrel0⟩
  case round =>
    obtain ⟨k, hk, rfl, hrel⟩ := hrel
    clear hrel0
    by_cases hlt : k < M
    · have hkl : k < l.length := by rw [HL.out]; exact hlt
      have hkt : k < t.length := by rw [HTL.out]; exact hlt
      have hx : wr.cell? ⟨B, 1 + k, none⟩ = some (.int .u8 (l[k].toNat : Int)) := by
        have h1 := hrel.2.1.cell k (by rw [mix_length HLT.out]; exact hkl)
        have h2 := mix_at HLT.out k hkl
        rw [List.getElem?_eq_getElem (by rw [mix_length HLT.out]; exact hkl)] at h2
        rw [h1, Option.some.inj h2]
      have hy := hrel.2.2 k hkt (Nat.le_refl _)
      have hf := hrel.2.1.fro k (by rw [mix_length HLT.out]; exact hkl)
      have hstep := fun v hv => merge_step hrel HLT.out hkl v hv
      have HST := Lib.hid hstep
      clear hstep hrel
      obtain ⟨x, hxe⟩ : ∃ x : Nat, l[k].toNat = x := ⟨_, rfl⟩
      obtain ⟨y, hye⟩ : ∃ y : Nat, t[k].toNat = y := ⟨_, rfl⟩
      rw [hxe] at hx
      rw [hye] at hy
      have HX := Lib.hid hxe
      have HY := Lib.hid hye
      clear hxe hye
      go_wp2
      refine ⟨⟨k + 1, by omega, by go_num, HST.out _ ?_⟩, by simp [intOf]; omega⟩
      rw [HX.out, HY.out]
      split <;> split <;> omega
    · have hkM : k = M := by omega
      subst hkM
      have hend := hrel
      clear hrel
      go_wp2
      go_ret
      exact ⟨rfl, hend.1, by rw [← mix_all HLT.out, HL.out]; exact hend.2.1⟩
end Go.Proofs.YtdcjfefnkjdchaaDoor
