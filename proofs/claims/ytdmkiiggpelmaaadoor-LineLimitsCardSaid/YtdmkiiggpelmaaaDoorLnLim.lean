/- LineLimits, walked. -/
import Derived.Test.YtdmkiiggpelmaaaDoorLnMk
namespace Go.Proofs.YtdmkiiggpelmaaaDoor.Lx
open Go Go.RowKit

/-- What is told of a line that is printed, or not. -/
def pS (L : LineV) : Bool → ByteArray
  | true => tx (printF L)
  | false => ⟨#[]⟩
theorem printV_form (L : LineV) (b : Bool) : printV L b = .tuple #[.string (pS L b), .bool b] := by cases b <;> rfl
/-- The line that is made, and its row. -/
structure Lim1 (N : Nat) (nm : ByteArray) (v : Value) (ls : List Lab) (w0 w : World) : Prop where
  hN : w0.heap.size ≤ N
  c : CellsAt N (lineC nm v 0 5) w
  r : OwnL (N + 1) v ls w
  b : Below w0.heap.size w0 w
theorem Lim1.above {N M : Nat} {nm : ByteArray} {v : Value} {ls : List Lab} {w0 w w' : World} (h : Lim1 N nm v ls w0 w) (hB : Below M w w') (hM : w.heap.size ≤ M) : Lim1 N nm v ls w0 w' :=
  ⟨h.hN, h.c.belowAt hB (Nat.lt_of_lt_of_le h.c.lt hM), h.r.mov (Mov.of hB) (fun g hg e => by have := (h.r.lt hg).2; omega), h.b.trans (hB.mono (Nat.le_trans h.b.size hM))⟩
theorem Lim1.above' {N M : Nat} {nm : ByteArray} {v : Value} {ls : List Lab} {w0 w w' : World} (h : Lim1 N nm v ls w0 w) (hB : Below M w w') (hN : N < M) (hr : ∀ g, v.ownBlock = some g → g < M) : Lim1 N nm v ls w0 w' :=
  ⟨h.hN, h.c.belowAt hB hN, h.r.mov (Mov.of hB) (fun g hg e => by have := hr g hg; omega), h.b.trans (hB.mono (Nat.le_of_lt (Nat.lt_of_le_of_lt h.hN hN)))⟩
theorem Lim1.below {N : Nat} {nm : ByteArray} {v : Value} {ls : List Lab} {w0 w w' : World} (h : Lim1 N nm v ls w0 w) (hB : Below w.heap.size w w') : Lim1 N nm v ls w0 w' := h.above hB (Nat.le_refl _)
theorem Lim1.alloc {N : Nat} {nm : ByteArray} {v : Value} {ls : List Lab} {w0 w : World} (h : Lim1 N nm v ls w0 w) (o : Obj) : Lim1 N nm v ls w0 (w.alloc o) := h.below ((Below.refl _ _).alloc (Nat.le_refl _) _)
theorem tx_end (l : List UInt8) : (tx l ++ ⟨#[32, 118, 97, 108, 117, 101, 61, 48, 32, 53]⟩).data.toList = l ++ endL := by
  rw [show (⟨#[32, 118, 97, 108, 117, 101, 61, 48, 32, 53]⟩ : ByteArray) = tx endL from rfl, tx_append, list_tx]

set_option maxRecDepth 100000 in
set_option maxHeartbeats 16000000 in
theorem LineLimits_walk (y0 : Int) (hy0 : (Lit.int .u8 y0).wf = true) (y1 : Int) (hy1 : (Lit.int .u8 y1).wf = true) (y2 : Int) (hy2 : (Lit.int .u16 y2).wf = true) (w : World) (hT : Tens w) :
    Calls Tryd.prog 5 #[.int .u8 y0, .int .u8 y1, .int .u16 y2] w fun e w' => e = .returned (.bool true) ∧ Below w.heap.size w w' := by
  simp [Lit.wf, IntKind.min, IntKind.max, IntKind.signed, IntKind.bits] at hy0 hy1 hy2
  obtain ⟨a, rfl⟩ : ∃ a : Nat, y0 = (a : Int) := ⟨y0.toNat, by omega⟩
  obtain ⟨b, rfl⟩ : ∃ a : Nat, y1 = (a : Int) := ⟨y1.toNat, by omega⟩
  obtain ⟨c, rfl⟩ : ∃ a : Nat, y2 = (a : Int) := ⟨y2.toNat, by omega⟩
  have ha : a ≤ 255 := by omega
  have hb : b ≤ 255 := by omega
  have hc : c ≤ 65535 := by omega
  clear hy0 hy1 hy2
  obtain ⟨n, hn⟩ : ∃ n : Nat, (a : Int) % 20 = (n : Int) := ⟨a % 20, by omega⟩
  obtain ⟨m, hm⟩ : ∃ n : Nat, (b : Int) % 70 = (n : Int) := ⟨b % 70, by omega⟩
  obtain ⟨k, hk⟩ : ∃ n : Nat, (1 : Int) + (m : Int) = (n : Int) := ⟨1 + m, by omega⟩
  obtain ⟨r, hr⟩ : ∃ n : Nat, (c : Int) % 20 = (n : Int) := ⟨c % 20, by omega⟩
  obtain ⟨q, hq⟩ : ∃ n : Nat, (1015 : Int) + (r : Int) = (n : Int) := ⟨1015 + r, by omega⟩
  have hn20 : n < 20 := by omega
  have hm70 : m < 70 := by omega
  have hk1 : 1 ≤ k := by omega
  have hk71 : k < 71 := by omega
  have hr20 : r < 20 := by omega
  have hq1 : 1015 ≤ q := by omega
  have hq2 : q ≤ 1034 := by omega
  have HT := Lib.hid hT
  clear hT
  go_enter Tryd.func5, Tryd.ntmps5
  go_wp2_with fail
  refine (examples_ok _ HT.out).mono ?_
  rintro e w1 ⟨rfl, hB1⟩
  have HB1 := Lib.hid hB1
  clear hB1
  obtain ⟨w2, hmk, hB2, hA2⟩ := make_u8 0 (by omega) w1
  have hcv := bytes_back hA2 (n := 0) rfl 0
  obtain ⟨Z, hZ⟩ : ∃ Z, tx (List.replicate 0 0) = Z := ⟨_, rfl⟩
  rw [hZ] at hcv
  have hZs : Z.size ≤ 0 := by rw [← hZ, tx_len]; exact Nat.le_refl _
  have HZ : Hid (Z ++ ⟨#[109]⟩ = tx [109]) := Lib.hid (by rw [← hZ, show (⟨#[109]⟩ : ByteArray) = tx [109] from rfl, tx_append]; rfl)
  have HB2 := Lib.hid (HB1.out.trans (hB2.mono HB1.out.size))
  clear hB2 hA2 hZ
  replace hmk : (Instr.makeSlice 25 (.int .i64 0) (.int .i64 0)).run Tryd.prog w1 = .ok (.slice (some ⟨w1.heap.size, 0, none⟩) 0 0) w2 := hmk
  have HB3 := Lib.hid (HB2.out.alloc HB2.out.size (.cells (lineC (Z ++ ⟨#[109]⟩) (.slice none 0 0) 0 5) 24))
  have HC3 := Lib.hid (CellsAt.new (lineC (Z ++ ⟨#[109]⟩) (.slice none 0 0) 0 5) 24 w2)
  have hL := HB2.out.size
  have HL3 : Hid (Lim1 w2.heap.size (Z ++ ⟨#[109]⟩) (.slice none 0 0) (labN 0) w (w2.alloc (.cells (lineC (Z ++ ⟨#[109]⟩) (.slice none 0 0) 0 5) 24))) := Lib.hid ⟨hL, HC3.out, OwnL.nil _ _, HB3.out⟩
  obtain ⟨N, hN⟩ : ∃ N, w2.heap.size = N := ⟨_, rfl⟩
  rw [hN] at HL3
  obtain ⟨M1, hM1⟩ : ∃ M, Z ++ ⟨#[109]⟩ = M := ⟨_, rfl⟩
  rw [hM1] at HL3 HZ
  go_wp2
  clear hmk hcv HB2 HB3 HC3 hL hZs hN hM1 hn hm hk
  go_loopg [11, 12] n (fun g s11 s12 wx => ∃ (i : Nat) (v : Value) (S : ByteArray), i + g = n ∧ s12 = .int .i64 (i : Int) ∧ s11 = .string S ∧ S.size ≤ 1 + 4 * i ∧ Hid (S = tx (sL i)) ∧ Hid (Lim1 N M1 v (labN i) w wx))
  case atStart => exact ⟨0, .slice none 0 0, ⟨#[109]⟩, by omega, rfl, rfl, by decide, Lib.hid rfl, HL3⟩
  case round =>
    clear HL3
    obtain ⟨i, v, S, hin, rfl, rfl, hS, HS, HL⟩ := hrel
    obtain ⟨vp, vcap, rfl⟩ := HL.out.r.len
    have hll : (labN i).length ≤ 20 := by rw [show (labN i).length = i from List.length_replicate]; omega
    by_cases hlt : i < n
    · obtain ⟨g, rfl⟩ : ∃ g, gk = g + 1 := ⟨gk - 1, by omega⟩
      have k1 := HL.out.c.cell 1 _ rfl
      obtain ⟨v2, w3, hr3, hG⟩ := append_label 22 HL.out.r ([97], [98]) (by omega) (by have := HL.out.c.lt; omega)
      have hMv : Mov (fun j => (Value.slice vp (labN i).length vcap).ownBlock = some j) wr w3 := hG.2.1
      have hbB := HL.out.b
      have hNN := HL.out.hN
      have hO3 : OwnL (N + 1) v2 (labN (i + 1)) w3 := by rw [← labN_next]; exact hG.1
      have hC3 := cells_mov HL.out.c hMv (fun h => by have := (HL.out.r.lt h).1; omega)
      have hB3 : Below w.heap.size w w3 := hbB.trans (hMv.below (fun j hj => by have := (HL.out.r.lt hj).1; omega) hbB.size)
      obtain ⟨vq, cq, rfl⟩ := hO3.len
      have k2 := hC3.cell 1 _ rfl
      have f2 := hC3.fro 1 _ rfl
      have HL4 : Hid (Lim1 N M1 (.slice vq (labN (i + 1)).length cq) (labN (i + 1)) w (w3.setCell ⟨N, 1, none⟩ (.slice vq (labN (i + 1)).length cq))) := Lib.hid
        ⟨hNN, hC3.set 1 (.slice vq (labN (i + 1)).length cq) (by simp), hO3.mov (Mov.set (S := fun q => q = N) (Mov.refl _ _) rfl 1 _) (fun g hg e => by have := (hO3.lt hg).1; omega), hB3.setCell hNN _⟩
      have HS4 : Hid (S ++ ⟨#[44, 97, 61, 98]⟩ = tx (sL (i + 1))) := Lib.hid (by rw [HS.out, show (⟨#[44, 97, 61, 98]⟩ : ByteArray) = tx [44, 97, 61, 98] from rfl, tx_append, sL_next])
      have hS4 : (S ++ ⟨#[44, 97, 61, 98]⟩ : ByteArray).size ≤ 1 + 4 * (i + 1) := by rw [ByteArray.size_append]; show S.size + 4 ≤ _; omega
      change (Builtin.append_ #[22, 22] 22 #[.slice vp (labN i).length vcap, .slice (some ⟨wr.heap.size, 0, none⟩) 1 1]).run Tryd.prog (wr.alloc (.cells #[.string ⟨#[97]⟩, .string ⟨#[98]⟩] 43)) = _ at hr3
      clear hG hMv hbB hC3 hO3 hB3 HL HS hll
      go_wp2_with (at_builtin; refine Lib.wpList_append_run _ rfl _ _ _ _ rfl _ _ rfl rfl _ _ hr3 ?_)
      go_roundg g
      case measure => omega
      case rel => exact ⟨i + 1, _, _, by omega, by go_num, rfl, hS4, HS4, HL4⟩
    · obtain rfl : i = n := by omega
      obtain ⟨w4, hmk, hB4, hA4⟩ := make_u8 k (by omega) wr
      obtain ⟨Bb, hBb⟩ : ∃ B, wr.heap.size = B := ⟨_, rfl⟩
      rw [hBb] at hmk hB4 hA4
      have HL4 := Lib.hid (HL.out.above hB4 (by omega))
      have hNB : N < Bb := by rw [← hBb]; exact HL.out.c.lt
      have hrB : Hid (∀ g, (Value.slice vp (labN i).length vcap).ownBlock = some g → g < Bb) := Lib.hid (fun g hg => by rw [← hBb]; exact (HL.out.r.lt hg).2)
      have HA4 := Lib.hid hA4
      have hFa := Lib.hid (Fill.start 120 k)
      clear hB4 hA4 HL hBb
      have HS5 := HS
      clear HS
      go_wp2
      go_loopg [14] k (fun g s14 wx => ∃ (i : Nat) (l : List UInt8), i + g = k ∧ s14 = .int .i64 (i : Int) ∧ Hid (Fill 120 k i l) ∧ Hid (BytesAt Bb l wx) ∧ Hid (Below Bb w4 wx))
      case atStart => exact ⟨0, _, by omega, rfl, hFa, HA4, Lib.hid (Below.refl _ _)⟩
      case round =>
        clear hFa HA4 hmk
        obtain ⟨j, l, hjk, rfl, HF, HA, HBb⟩ := hrel
        by_cases hjlt : j < k
        · obtain ⟨g, rfl⟩ : ∃ g, gk = g + 1 := ⟨gk - 1, by omega⟩
          have hjl : j < l.length := by rw [HF.out.1]; exact hjlt
          have k3 := HA.out.cell j hjl
          have f3 := HA.out.fro j hjl
          have HA5 : Hid (BytesAt Bb (l.set j 120) (wr.setCell ⟨Bb, j, none⟩ (.int .u8 120))) := Lib.hid (HA.out.set j 120 hjl)
          have HF5 := Lib.hid (HF.out.next hjlt)
          have HB5 : Hid (Below Bb w4 (wr.setCell ⟨Bb, j, none⟩ (.int .u8 120))) := Lib.hid (HBb.out.setCell (p := ⟨Bb, j, none⟩) (Nat.le_refl _) _)
          clear HA HF HBb
          go_wp2
          go_roundg g
          case measure => omega
          case rel => exact ⟨j + 1, _, by omega, by go_num, HF5, HA5, HB5⟩
        · obtain rfl : j = k := by omega
          obtain rfl := HF.out.done
          have hcv := bytes_back HA.out (n := j) List.length_replicate j
          have HL6 := Lib.hid (HL4.out.above' HBb.out hNB hrB.out)
          obtain ⟨K, hK⟩ : ∃ K, tx (List.replicate j 120) = K := ⟨_, rfl⟩
          rw [hK] at hcv
          have hKs : K.size ≤ 70 := by rw [← hK, tx_len, List.length_replicate]; omega
          have HK := Lib.hid hK
          have HK2 := Lib.hid hK
          have HBx := Lib.hid (HL6.out.b)
          clear hK HL4 HBb hrB hNB hjlt HF
          have HL7 := Lib.hid (HL6.out.alloc (.cells (lineC K (.slice none 0 0) 0 5) 24))
          have HO7 := Lib.hid (CellsAt.new (lineC K (.slice none 0 0) 0 5) 24 wr)
          have HA7 := Lib.hid (HA.out.below ((Below.refl _ _).alloc (Nat.le_refl _) (.cells (lineC K (.slice none 0 0) 0 5) 24)))
          have hpr : ∀ W, Tens W → LbAt vp (labN i) W → Calls Tryd.prog 10 #[.agg (lineC M1 (.slice vp (labN i).length vcap) 0 5)] W fun e w' => e = .returned (.tuple #[.string (pS ⟨[109], labN i, 0, 5⟩ (decide (i ≤ 16))), .bool (decide (i ≤ 16))]) ∧ Below W.heap.size W w' := fun W h1 h2 => by
            rw [HZ.out]
            have := print_any [109] (by decide) vp vcap (labN i) 0 5 (by unfold In64; decide) (by decide) (by unfold maxLen; omega) W h1 h2
            rwa [printV_form, lim_print hn20] at this
          have hpo : ∀ W, Tens W → Calls Tryd.prog 10 #[.agg (lineC K (.slice none 0 0) 0 5)] W fun e w' => e = .returned (.tuple #[.string (pS ⟨List.replicate j 120, [], 0, 5⟩ (decide (j ≤ 64))), .bool (decide (j ≤ 64))]) ∧ Below W.heap.size W w' := fun W h1 => by
            rw [← HK.out]
            have := print_any (List.replicate j 120) (by rw [List.length_replicate]; unfold maxLen; omega) none 0 [] 0 5 (by unfold In64; decide) (by decide) (by decide) W h1 (LbAt.nil _ _)
            rwa [printV_form, lim_print2 hk71 hk1] at this
          have hps : ∀ W, Calls Tryd.prog 15 #[.string (S ++ ⟨#[32, 118, 97, 108, 117, 101, 61, 48, 32, 53]⟩)] W fun e w' => ∃ (n : ByteArray) (p : Option Addr) (m cap : Nat) (a b : Int), e = .returned (.tuple #[.agg #[.string n, .slice p m cap, .int .i64 a, .int .i64 b], .int .i64 (if i ≤ 16 then 0 else 2)]) ∧ Below W.heap.size W w' := fun W => by
            have := parse_err (S ++ ⟨#[32, 118, 97, 108, 117, 101, 61, 48, 32, 53]⟩) (by rw [ByteArray.size_append]; unfold maxLen; show S.size + 10 ≤ _; omega) W
            rw [HS5.out, tx_end, lim_parse i hn20] at this
            rw [HS5.out]
            exact this
          have hpk : ∀ W, Calls Tryd.prog 15 #[.string (K ++ ⟨#[32, 118, 97, 108, 117, 101, 61, 48, 32, 53]⟩)] W fun e w' => ∃ (n : ByteArray) (p : Option Addr) (m cap : Nat) (a b : Int), e = .returned (.tuple #[.agg #[.string n, .slice p m cap, .int .i64 a, .int .i64 b], .int .i64 (if j ≤ 64 then 0 else 2)]) ∧ Below W.heap.size W w' := fun W => by
            have := parse_err (K ++ ⟨#[32, 118, 97, 108, 117, 101, 61, 48, 32, 53]⟩) (by rw [ByteArray.size_append]; unfold maxLen; show K.size + 10 ≤ _; omega) W
            rw [← HK.out, tx_end, lim_name j hk71 hk1] at this
            rw [← HK.out]
            exact this
          have hs1 : S.size ≤ 80 := by omega
          have HP1 := Lib.hid hpr
          have HP2 := Lib.hid hpo
          have HP3 := Lib.hid hps
          have HP4 := Lib.hid hpk
          obtain ⟨P1, hP1⟩ : ∃ P, decide (i ≤ 16) = P := ⟨_, rfl⟩
          obtain ⟨P2, hP2⟩ : ∃ P, decide (j ≤ 64) = P := ⟨_, rfl⟩
          obtain ⟨E1, hE1⟩ : ∃ P : Int, (if i ≤ 16 then 0 else 2 : Int) = P := ⟨_, rfl⟩
          obtain ⟨E2, hE2⟩ : ∃ P : Int, (if j ≤ 64 then 0 else 2 : Int) = P := ⟨_, rfl⟩
          rw [hP1] at HP1
          rw [hP2] at HP2
          rw [hE1] at HP3
          rw [hE2] at HP4
          obtain ⟨S1, hS1⟩ : ∃ P, pS ⟨[109], labN i, 0, 5⟩ P1 = P := ⟨_, rfl⟩
          obtain ⟨S2, hS2⟩ : ∃ P, pS ⟨List.replicate j 120, [], 0, 5⟩ P2 = P := ⟨_, rfl⟩
          rw [hS1] at HP1
          rw [hS2] at HP2
          have HQ1 := Lib.hid hP1
          have HQ2 := Lib.hid hP2
          have HQ3 := Lib.hid hE1
          have HQ4 := Lib.hid hE2
          clear hS1 hS2
          clear hpr hpo hps hpk hP1 hP2 hE1 hE2 HL6 HA hS HS5 HK HZ HB1
          have k1 := HL7.out.c.cell 0 _ rfl
          have k2 := HL7.out.c.cell 1 _ rfl
          have k3 := HL7.out.c.cell 2 _ rfl
          have k4 := HL7.out.c.cell 3 _ rfl
          go_wp2_with fail
          refine (HP1.out _ (Go.Proofs.YtdmkiiggpelmaaaDoor.Tens.below HT.out HL7.out.b) (HL7.out.r.lies (by intro x hx; obtain ⟨_, rfl⟩ := List.mem_replicate.1 hx; exact ⟨by decide, by decide⟩))).mono ?_
          rintro e w5 ⟨rfl, hB5⟩
          have HL8 := Lib.hid (HL7.out.below hB5)
          have HO8 := Lib.hid (HO7.out.below hB5)
          have HA8 := Lib.hid (HA7.out.below hB5)
          clear hB5 k1 k2 k3 k4 HL7 HO7 HA7 HP1 hcv
          go_wp2_with fail
          refine (HP3.out _).mono ?_
          rintro e w6 ⟨nx, px, mx, cx, ax, bx, rfl, hB6⟩
          have hB6' := hB6.alloc hB6.size (.cells (lineC nx (.slice px mx cx) ax bx) 24)
          have HL9 := Lib.hid (HL8.out.below hB6')
          have HO9 := Lib.hid (HO8.out.below hB6')
          have HA9 := Lib.hid (HA8.out.below hB6')
          clear hB6 hB6' HL8 HO8 HA8 HP3
          have k1 := HO9.out.cell 0 _ rfl
          have k2 := HO9.out.cell 1 _ rfl
          have k3 := HO9.out.cell 2 _ rfl
          have k4 := HO9.out.cell 3 _ rfl
          go_wp2_with fail
          refine (HP2.out _ (Go.Proofs.YtdmkiiggpelmaaaDoor.Tens.below HT.out HL9.out.b)).mono ?_
          rintro e w7 ⟨rfl, hB7⟩
          have HB7 := Lib.hid (HL9.out.b.trans (hB7.mono HL9.out.b.size))
          have hA10 := HA9.out.below hB7
          have hcv := bytes_back hA10 (n := j) List.length_replicate j
          rw [HK2.out] at hcv
          clear hB7 k1 k2 k3 k4 hA10 HL9 HO9 HA9 HP2
          go_wp2_with fail
          refine (HP4.out _).mono ?_
          rintro e w8 ⟨ny, py, my, cy, ay, by_, rfl, hB8⟩
          have HB8 := Lib.hid ((HB7.out.trans (hB8.mono HB7.out.size)).alloc (Nat.le_trans HB7.out.size hB8.size) (.cells (lineC ny (.slice py my cy) ay by_) 24))
          clear hB8 HB7 HP4 hcv
          obtain ⟨w9, hmk, hB9, hA9⟩ := make_u8 q (by omega) (w8.alloc (.cells (lineC ny (.slice py my cy) ay by_) 24))
          obtain ⟨Bp, hBp⟩ : ∃ B, (w8.alloc (.cells (lineC ny (.slice py my cy) ay by_) 24)).heap.size = B := ⟨_, rfl⟩
          rw [hBp] at hmk hB9 hA9
          have HB9 := Lib.hid (HB8.out.trans (hB9.mono (by rw [← hBp]; exact HB8.out.size)))
          have HBp : Hid (w.heap.size ≤ Bp) := Lib.hid (by rw [← hBp]; exact HB8.out.size)
          have HA10 := Lib.hid hA9
          have hFb := Lib.hid (Fill.start 48 q)
          clear hB9 hA9 HB8 hBp
          go_wp2
          clear hmk hr hq
          go_loopg [25] q (fun g s25 wx => ∃ (t : Nat) (l : List UInt8), t + g = q ∧ s25 = .int .i64 (t : Int) ∧ Hid (Fill 48 q t l) ∧ Hid (BytesAt Bp l wx) ∧ Hid (Below Bp w9 wx))
          case atStart => exact ⟨0, _, by omega, rfl, hFb, HA10, Lib.hid (Below.refl _ _)⟩
          case round =>
            clear hFb HA10
            obtain ⟨t, l, htk, rfl, HF, HA, HBb⟩ := hrel
            by_cases htlt : t < q
            · obtain ⟨g, rfl⟩ : ∃ g, gk = g + 1 := ⟨gk - 1, by omega⟩
              have htl : t < l.length := by rw [HF.out.1]; exact htlt
              have k3 := HA.out.cell t htl
              have f3 := HA.out.fro t htl
              have HA5 : Hid (BytesAt Bp (l.set t 48) (wr.setCell ⟨Bp, t, none⟩ (.int .u8 48))) := Lib.hid (HA.out.set t 48 htl)
              have HF5 := Lib.hid (HF.out.next htlt)
              have HB5 : Hid (Below Bp w9 (wr.setCell ⟨Bp, t, none⟩ (.int .u8 48))) := Lib.hid (HBb.out.setCell (p := ⟨Bp, t, none⟩) (Nat.le_refl _) _)
              clear HA HF HBb
              go_wp2
              go_roundg g
              case measure => omega
              case rel => exact ⟨t + 1, _, by omega, by go_num, HF5, HA5, HB5⟩
            · obtain rfl : t = q := by omega
              obtain rfl := HF.out.done
              have hcv := bytes_back HA.out (n := t) List.length_replicate t
              have HB10 := Lib.hid (HB9.out.trans (HBb.out.mono HBp.out))
              obtain ⟨D, hD⟩ : ∃ D, tx (List.replicate t 48) = D := ⟨_, rfl⟩
              rw [hD] at hcv
              have hDs : D.size ≤ 1034 := by rw [← hD, tx_len, List.length_replicate]; omega
              have hpd : ∀ W, Calls Tryd.prog 15 #[.string (⟨#[109, 32, 118, 97, 108, 117, 101, 61]⟩ ++ D ++ ⟨#[32, 53]⟩)] W fun e w' => ∃ (n : ByteArray) (p : Option Addr) (m cap : Nat) (a b : Int), e = .returned (.tuple #[.agg #[.string n, .slice p m cap, .int .i64 a, .int .i64 b], .int .i64 3]) ∧ Below W.heap.size W w' := fun W => by
                have := parse_err (⟨#[109, 32, 118, 97, 108, 117, 101, 61]⟩ ++ D ++ ⟨#[32, 53]⟩) (by rw [ByteArray.size_append, ByteArray.size_append]; unfold maxLen; show 8 + D.size + 2 ≤ _; omega) W
                have hl : errP (parseP (⟨#[109, 32, 118, 97, 108, 117, 101, 61]⟩ ++ D ++ ⟨#[32, 53]⟩ : ByteArray).data.toList) = 3 := by
                  rw [← hD, show (⟨#[109, 32, 118, 97, 108, 117, 101, 61]⟩ : ByteArray) = tx [109, 32, 118, 97, 108, 117, 101, 61] from rfl, show (⟨#[32, 53]⟩ : ByteArray) = tx [32, 53] from rfl, tx_append, tx_append, list_tx]
                  exact lim_long _ _ (by rw [List.length_append, List.length_replicate]; simp; omega)
                rwa [hl] at this
              have HPD := Lib.hid hpd
              clear hpd hD HB9 HBb HBp HF HA htlt
              go_wp2_with fail
              refine (HPD.out _).mono ?_
              rintro e w10 ⟨nz, pz, mz, cz, az, bz, rfl, hB10⟩
              have HB11 := Lib.hid ((HB10.out.trans (hB10.mono HB10.out.size)).alloc (Nat.le_trans HB10.out.size hB10.size) (.cells (lineC nz (.slice pz mz cz) az bz) 24))
              clear hB10 HB10 HPD hcv
              have h1 := HQ1.out
              have h2 := HQ2.out
              have h3 := HQ3.out
              have h4 := HQ4.out
              clear HQ1 HQ2 HQ3 HQ4
              by_cases hi16 : i ≤ 16
              · rw [decide_eq_true hi16] at h1
                rw [if_pos hi16] at h3
                subst h1 h3
                by_cases hj64 : j ≤ 64
                · rw [decide_eq_true hj64] at h2
                  rw [if_pos hj64] at h4
                  subst h2 h4
                  go_wp2
                  go_ret
                  exact ⟨rfl, HB11.out⟩
                · rw [decide_eq_false hj64] at h2
                  rw [if_neg hj64] at h4
                  subst h2 h4
                  have hj64 : 64 < j := by omega
                  have hj64b : decide ((j : Int) ≤ 64) = false := decide_eq_false (by omega)
                  go_wp2
                  go_ret
                  exact ⟨rfl, HB11.out⟩
              · rw [decide_eq_false hi16] at h1
                rw [if_neg hi16] at h3
                subst h1 h3
                have hi16 : 16 < i := by omega
                have hi16b : decide ((i : Int) ≤ 16) = false := decide_eq_false (by omega)
                by_cases hj64 : j ≤ 64
                · rw [decide_eq_true hj64] at h2
                  rw [if_pos hj64] at h4
                  subst h2 h4
                  go_wp2
                  go_ret
                  exact ⟨rfl, HB11.out⟩
                · rw [decide_eq_false hj64] at h2
                  rw [if_neg hj64] at h4
                  subst h2 h4
                  have hj64 : 64 < j := by omega
                  have hj64b : decide ((j : Int) ≤ 64) = false := decide_eq_false (by omega)
                  go_wp2
                  go_ret
                  exact ⟨rfl, HB11.out⟩
end Go.Proofs.YtdmkiiggpelmaaaDoor.Lx
