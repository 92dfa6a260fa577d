/- The document's own sum of a text. -/
import Derived.Test.YtccdojoeblaenaaDoorSipE
namespace Go.Proofs.YtccdojoeblaenaaDoor
open Go Go.RowKit

def slastW (sw n : Int) : Int := bits BinOp.or IntKind.u64 sw (IntKind.u64.wrap (n * 72057594037927936))
def strOf : Value → Nat
  | .string u => u.size
  | _ => 0
theorem str_to {P : Program} {t : TypeId} (hu : P.underlying t = some .string) (s : ByteArray) (a : Nat) (h1 : a ≤ s.size) (wx : World) :
    (Instr.slice t (.string s) none (some (.int .i64 (a : Int))) none).run P wx = .ok (.string (s.extract 0 a)) wx := by
  have := run_slice_string_h (P := P) wx t s hu .i64 (a : Int) (by omega) (by omega)
  simpa using this
def RefRel (b : Nat) (x : W4) (w w' : World) : Prop := w.heap.size ≤ b ∧ Below w.heap.size w w' ∧ OwnX b x w'
set_option maxRecDepth 100000 in
set_option maxHeartbeats 400000 in
theorem ref_sum_any (k0 k1 : Int) (s : ByteArray) (w : World) (hs : s.size ≤ maxLen) :
    Calls Tryd.prog 12 #[.int .u64 k0, .int .u64 k1, .string s] w fun e w' => e = .returned (.int .u64 (ssum k0 k1 s.data.toList)) ∧ Below w.heap.size w w' := by
  unfold maxLen at hs
  go_enter Tryd.func12, Tryd.ntmps12
  go_wp2
  have hO : OwnX w.heap.size (sbegin k0 k1) _ := own_alloc (sbegin k0 k1) w 22
  have hB := (Below.refl w.heap.size w).alloc (Nat.le_refl _) (.cells #[.int .u64 (sbegin k0 k1).1, .int .u64 (sbegin k0 k1).2.1, .int .u64 (sbegin k0 k1).2.2.1, .int .u64 (sbegin k0 k1).2.2.2] 22)
  have HR := Lib.hid (show RefRel w.heap.size (sblocks (sbegin k0 k1) s.data.toList 0) w _ from ⟨Nat.le_refl _, hB, hO⟩)
  clear hO hB
  go_loopw [2, 7] (fun t v wr => ∃ (k b : Nat) (u : ByteArray), t = .string u ∧ v = .slice (some ⟨b, 0, none⟩) 4 4 ∧ u.data.toList = s.data.toList.drop (8 * k) ∧ 8 * k ≤ s.size ∧ RefRel b (sblocks (sbegin k0 k1) s.data.toList k) w wr) (fun t _ _ => strOf t)
  case atStart => exact ⟨0, w.heap.size, s, rfl, rfl, rfl, by omega, HR.out⟩
  case round =>
    obtain ⟨k, b, u, rfl, rfl, hu, hk, hR⟩ := hrel
    have hus : u.size = s.size - 8 * k := by
      have := congrArg List.length hu
      simpa using this
    have hus1 : u.size ≤ s.size - 8 * k := by omega
    have hus2 : s.size - 8 * k ≤ u.size := by omega
    have Hu := Lib.hid hu
    clear hu hus HR
    by_cases h8 : (8 : Int) ≤ u.size
    · have hw : (u.extract 0 8).data.toList = (s.data.toList.drop (8 * k)).take 8 := by
        rw [extract_list, ← Hu.out]; rfl
      have hws : (u.extract 0 8).size ≤ 8 := by rw [ByteArray.size_extract]; omega
      have hd : (u.extract 8 u.size).data.toList = s.data.toList.drop (8 * (k + 1)) := by
        rw [extract_list, Hu.out, List.drop_drop, List.take_of_length_le (by simp; omega)]
        congr 1
      have hds : (u.extract 8 u.size).size < u.size := by rw [ByteArray.size_extract]; omega
      have hsl : ∀ wx, (Instr.slice 9 (.string u) (some (.int .i64 8)) none none).run Tryd.prog wx = .ok (.string (u.extract 8 u.size)) wx := fun wx => str_from Tryd.underlying9 u 8 (by omega) wx
      have hsh : ∀ wx, (Instr.slice 9 (.string u) none (some (.int .i64 8)) none).run Tryd.prog wx = .ok (.string (u.extract 0 8)) wx := fun wx => str_to Tryd.underlying9 u 8 (by omega) wx
      generalize u.extract 0 8 = t at *
      generalize u.extract 8 u.size = u2 at *
      have Hw := Lib.hid hw
      have Hd := Lib.hid hd
      clear hw hd
      obtain ⟨hsz, hB, hO⟩ := hR
      obtain ⟨x, hx⟩ : ∃ x, x = sblocks (sbegin k0 k1) s.data.toList k := ⟨_, rfl⟩
      rw [← hx] at hO
      have Hx := Lib.hid hx
      clear hx
      go_wp2_with fail
      refine (ref_word_any t _ hws).mono ?_
      rintro e w3 ⟨rfl, rfl⟩
      rw [Hw.out]
      generalize hm : sword ((s.data.toList.drop (8 * k)).take 8) = m
      have Hm := Lib.hid hm
      clear hm
      obtain ⟨x0, x1, x2, x3⟩ := x
      obtain ⟨c0, c1, c2, c3, f0, f1, f2, f3⟩ := (show Own4 b x0 x1 x2 x3 wr from hO)
      have hB3 := hB.setCell (p := ⟨b, 3, none⟩) hsz (.int .u64 (xor64 x3 m))
      have hO3 : OwnX b (x0, x1, x2, xor64 x3 m) (wr.setCell ⟨b, 3, none⟩ (.int .u64 (xor64 x3 m))) := Own4.set3 hO (xor64 x3 m)
      go_wp2_with fail
      refine (ref_round_any b (x0, x1, x2, xor64 x3 m) _ hO3).mono ?_
      rintro e w4 ⟨b4, rfl, hs4, hB4, hO4⟩
      have hB5 := hB3.trans (hB4.mono hB3.size)
      have hs5 := Nat.le_trans hB3.size hs4
      clear c0 c1 c2 c3 f0 f1 f2 f3 hO hB hO3 hB3 hB4 hs4
      generalize hy : sround (x0, x1, x2, xor64 x3 m) = y at hO4
      have Hy := Lib.hid hy
      clear hy
      go_wp2_with fail
      refine (ref_round_any b4 y _ hO4).mono ?_
      rintro e w6 ⟨b6, rfl, hs6, hB6, hO6⟩
      have hB7 := hB5.trans (hB6.mono hB5.size)
      have hs7 := Nat.le_trans hB5.size hs6
      clear hO4 hB5 hB6 hs6 hs5
      generalize hz : sround y = z at hO6
      have Hz := Lib.hid hz
      clear hz
      obtain ⟨z0, z1, z2, z3⟩ := z
      obtain ⟨c0, c1, c2, c3, f0, f1, f2, f3⟩ := (show Own4 b6 z0 z1 z2 z3 w6 from hO6)
      have hB8 := hB7.setCell (p := ⟨b6, 0, none⟩) hs7 (.int .u64 (xor64 z0 m))
      have hO8 : OwnX b6 (xor64 z0 m, z1, z2, z3) (w6.setCell ⟨b6, 0, none⟩ (.int .u64 (xor64 z0 m))) := Own4.set0 hO6 (xor64 z0 m)
      have hv : sblocks (sbegin k0 k1) s.data.toList (k + 1) = (xor64 z0 m, z1, z2, z3) := by
        show smix _ _ = _
        rw [Hm.out, ← Hx.out]
        unfold smix srounds srounds srounds
        simp only [Hy.out, Hz.out]
      have Hn : Hid (RefRel b6 (sblocks (sbegin k0 k1) s.data.toList (k + 1)) w (w6.setCell ⟨b6, 0, none⟩ (.int .u64 (xor64 z0 m)))) := ⟨hs7, hB8, by rw [hv]; exact hO8⟩
      clear hv hO8 hB8 hO6 hB7
      go_wp2
      go_roundw
      case rel => exact ⟨k + 1, b6, u2, rfl, rfl, Hd.out, by omega, Hn.out⟩
      case measure => simp [strOf]; omega
    · have hk2 : k = s.size / 8 := by omega
      have hws : u.size ≤ 8 := by omega
      have h8' : ¬ (8 : Nat) ≤ u.size := by omega
      obtain ⟨hsz, hB, hO⟩ := hR
      go_wp2_with fail
      refine (ref_word_any u _ hws).mono ?_
      rintro e w3 ⟨rfl, rfl⟩
      have hm : slast (s.data.toList.drop (8 * (s.data.toList.length / 8))) s.data.toList.length = slastW (sword u.data.toList) s.size := by
        have hl : s.data.toList.length = s.size := by simp
        unfold slast slastW
        rw [hl, ← hk2, ← Hu.out, show IntKind.u64.wrap (s.size : Int) = s.size from by rw [IntKind.wrap_u64]; omega]
      have hv : ssum k0 k1 s.data.toList = sfin (smix (sblocks (sbegin k0 k1) s.data.toList k) (slastW (sword u.data.toList) s.size)) := by
        unfold ssum
        rw [hm, show s.data.toList.length = s.size from by simp, ← hk2]
      clear hm hk2
      have Hv := Lib.hid hv
      clear hv
      generalize sblocks (sbegin k0 k1) s.data.toList k = x at hO Hv
      obtain ⟨x0, x1, x2, x3⟩ := x
      generalize sword u.data.toList = sw at *
      obtain ⟨c0, c1, c2, c3, f0, f1, f2, f3⟩ := (show Own4 b x0 x1 x2 x3 wr from hO)
      have hB3 := hB.setCell (p := ⟨b, 3, none⟩) hsz (.int .u64 (xor64 x3 (slastW sw s.size)))
      have hO3 : OwnX b (x0, x1, x2, xor64 x3 (slastW sw s.size)) (wr.setCell ⟨b, 3, none⟩ (.int .u64 (xor64 x3 (slastW sw s.size)))) := Own4.set3 hO (xor64 x3 (slastW sw s.size))
      go_wp2_with fail
      refine (ref_round_any b (x0, x1, x2, xor64 x3 (slastW sw s.size)) _ hO3).mono ?_
      rintro e w4 ⟨b4, rfl, hs4, hB4, hO4⟩
      have hB5 := hB3.trans (hB4.mono hB3.size)
      have hs5 := Nat.le_trans hB3.size hs4
      clear c0 c1 c2 c3 f0 f1 f2 f3 hO hB hO3 hB3 hB4 hs4
      generalize hy : sround (x0, x1, x2, xor64 x3 (slastW sw s.size)) = y at hO4
      have Hy := Lib.hid hy
      clear hy
      go_wp2_with fail
      refine (ref_round_any b4 y _ hO4).mono ?_
      rintro e w6 ⟨b6, rfl, hs6, hB6, hO6⟩
      have hB7 := hB5.trans (hB6.mono hB5.size)
      have hs7 := Nat.le_trans hB5.size hs6
      clear hO4 hB5 hB6 hs6 hs5
      generalize hz : sround y = z at hO6
      have Hz := Lib.hid hz
      clear hz
      obtain ⟨z0, z1, z2, z3⟩ := z
      obtain ⟨c0, c1, c2, c3, f0, f1, f2, f3⟩ := (show Own4 b6 z0 z1 z2 z3 w6 from hO6)
      have hB8 := (hB7.setCell (p := ⟨b6, 0, none⟩) hs7 (.int .u64 (xor64 z0 (slastW sw s.size)))).setCell (p := ⟨b6, 2, none⟩) hs7 (.int .u64 (xor64 z2 255))
      have hO8 : OwnX b6 (xor64 z0 (slastW sw s.size), z1, xor64 z2 255, z3) ((w6.setCell ⟨b6, 0, none⟩ (.int .u64 (xor64 z0 (slastW sw s.size)))).setCell ⟨b6, 2, none⟩ (.int .u64 (xor64 z2 255))) := Own4.set2 (Own4.set0 hO6 (xor64 z0 (slastW sw s.size))) (xor64 z2 255)
      have Hm : Hid (smix (x0, x1, x2, x3) (slastW sw s.size) = (xor64 z0 (slastW sw s.size), z1, z2, z3)) := by
        show smix _ _ = _
        unfold smix srounds srounds srounds
        simp only [Hy.out, Hz.out]
      go_wp2_with fail
      refine (ref_round_any b6 (xor64 z0 (slastW sw s.size), z1, xor64 z2 255, z3) _ hO8).mono ?_
      rintro e w7 ⟨b7, rfl, hs9, hB9, hO9⟩
      have hB10 := hB8.trans (hB9.mono hB8.size)
      have hs10 := Nat.le_trans hB8.size hs9
      clear c0 c1 c2 c3 f0 f1 f2 f3 hO6 hB7 hO8 hB8 hB9 hs9 hs7
      generalize hy2 : sround (xor64 z0 (slastW sw s.size), z1, xor64 z2 255, z3) = y2 at hO9
      have Hy2 := Lib.hid hy2
      clear hy2
      go_wp2_with fail
      refine (ref_round_any b7 y2 _ hO9).mono ?_
      rintro e w8 ⟨b8, rfl, hs11, hB11, hO11⟩
      have hB12 := hB10.trans (hB11.mono hB10.size)
      have hs12 := Nat.le_trans hB10.size hs11
      clear hO9 hB10 hB11 hs11 hs10
      go_wp2_with fail
      refine (ref_round_any b8 _ _ hO11).mono ?_
      rintro e w9 ⟨b9, rfl, hs13, hB13, hO13⟩
      have hB14 := hB12.trans (hB13.mono hB12.size)
      have hs14 := Nat.le_trans hB12.size hs13
      clear hO11 hB12 hB13 hs13 hs12
      go_wp2_with fail
      refine (ref_round_any b9 _ _ hO13).mono ?_
      rintro e w10 ⟨b10, rfl, hs15, hB15, hO15⟩
      have hB16 := hB14.trans (hB15.mono hB14.size)
      clear hO13 hB14 hB15 hs15 hs14
      generalize hq : sround (sround (sround y2)) = q at hO15
      have Hq := Lib.hid hq
      clear hq
      obtain ⟨q0, q1, q2, q3⟩ := q
      obtain ⟨c0, c1, c2, c3, f0, f1, f2, f3⟩ := (show Own4 b10 q0 q1 q2 q3 w10 from hO15)
      have Hr : Hid (ssum k0 k1 s.data.toList = xor64 (xor64 (xor64 q0 q1) q2) q3) := by
        show _ = _
        rw [Hv.out, Hm.out]
        unfold sfin srounds srounds srounds srounds srounds
        simp only [Hy2.out, Hq.out]
      clear hO15
      go_wp2
      go_quiet (fail)
      go_wp2
      go_ret
      refine ⟨by rw [Hr.out]; rfl, hB16.trans ⟨rfl, rfl, rfl, Nat.le_refl _, fun _ _ => rfl⟩⟩
end Go.Proofs.YtccdojoeblaenaaDoor
