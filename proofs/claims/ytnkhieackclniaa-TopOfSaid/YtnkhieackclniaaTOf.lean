/- Items are made a top again, or refused. -/
import Derived.Test.YtnkhieackclniaaTSrt
import Derived.RegionTactic
import Derived.ChangeAlike
import Derived.BigRegion
namespace Go.Proofs.Ytnkhieackclniaa
open Go Go.RowKit

/-- What comes of items that are to be a top of a room that may be. -/
def OfRes (r sn : Nat) (l : List Itm) (w : World) (e : Ending) (w' : World) : Prop :=
  Below w.heap.size w w' ∧ ((¬ OkOf r sn l ∧ e = .returned (.tuple #[.pointer none, .int .i64 2])) ∨ (OkOf r sn l ∧ ∃ B v, e = .returned (.tuple #[.pointer (some ⟨B, 0, none⟩), .int .i64 0]) ∧ Tp w.heap.size B r v l w'))
/-- Items as they may come in. -/
def Fit (l : List Itm) : Prop := ∀ x ∈ l, x.name.size ≤ maxLen ∧ x.many < 18446744073709551616 ∧ x.over < 18446744073709551616
theorem of_room (x : Int) (h : x < 1 ∨ 16 < x) (sn : Nat) (p : Option Addr) (n cap : Nat) (w : World) :
    Calls Try.prog 24 #[.int .i64 x, .int .u64 sn, .slice p n cap] w fun e w' => e = .returned (.tuple #[.pointer none, .int .i64 1]) ∧ w = w' := by
  have hn := new_out x h
  clear h
  go_enter Try.func24, Try.ntmps24
  go_wp2_with fail
  refine (hn _).mono ?_
  rintro e w1 ⟨rfl, rfl⟩
  go_wp2
  go_ret2
  exact ⟨rfl, rfl⟩
theorem ok_adds {r sn : Nat} {l : List Itm} (h : OkOf r sn l) : addsL r [] l = some (l.map zo) := by
  obtain ⟨a, _, c, d, e, _⟩ := h
  have := adds_ok (room := r) l [] (by simpa using a) (by simpa using d) c (by simpa [seen] using e)
  simpa using this
theorem drop_at {l : List Itm} {i : Nat} (h : i < l.length) : l.drop i = l[i]! :: l.drop (i + 1) := by rw [getE l i h]; exact List.drop_eq_getElem_cons h
theorem addsL_cons (room : Nat) (acc : List Itm) (x : Itm) (r : List Itm) : addsL room acc (x :: r) = if addC x.name x.many acc = 0 then addsL room (addL room x.name x.many acc) r else none := rfl
set_option maxRecDepth 100000 in
set_option maxHeartbeats 16000000 in
theorem of_any (r : Nat) (h1 : 1 ≤ r) (h16 : r ≤ 16) (sn : Nat) (p : Option Addr) (l : List Itm) (cap : Nat) (hmax : l.length ≤ 9223372036854775807) (hf : Fit l) (w : World) (h : Rd p l w) :
    Calls Try.prog 24 #[.int .i64 r, .int .u64 sn, .slice p l.length cap] w (OfRes r sn l w) := by
  have HR := Lib.hid h
  have HF := Lib.hid hf
  obtain ⟨N, hN⟩ : ∃ N, w.heap.size = N := ⟨_, rfl⟩
  have HN := Lib.hid hN
  have hnw := new_any r h1 h16 w
  rw [hN] at hnw
  have hso := fun (hl : l.length ≤ 16) (W : World) (hW : Rd p l W) => issorted_any p l cap hl W hW
  have HS := Lib.hid (sortB_iff l)
  obtain ⟨n, hn⟩ : ∃ n, l.length = n := ⟨_, rfl⟩
  have HLN := Lib.hid hn
  rw [hn] at hmax hso ⊢
  have HOUT : Hid (∀ (e : Ending) (w' : World), Below N w w' → ¬ OkOf r sn l → e = .returned (.tuple #[.pointer none, .int .i64 2]) → OfRes r sn l w e w') := Lib.hid fun e w' hB hno he => ⟨by rw [hN]; exact hB, .inl ⟨hno, he⟩⟩
  clear h hf hn hN
  go_enter Try.func24, Try.ntmps24
  go_wp2_with fail
  refine hnw.mono ?_
  rintro e W1 ⟨rfl, hB1, hT1⟩
  have HT1 := Lib.hid hT1
  have HB1 := Lib.hid hB1
  clear hnw hT1 hB1
  by_cases hlen : r < n
  · have hno : Hid (¬ OkOf r sn l) := Lib.hid fun h => by have := h.1; rw [HLN.out] at this; omega
    clear hso
    go_wp2
    go_ret2
    exact HOUT.out _ _ HB1.out hno.out rfl
  have hrd1 : Rd p l W1 := HR.out.below (by rw [HN.out]; exact HB1.out)
  have hs1 := hso (by omega) W1 hrd1
  obtain ⟨sb, hsb⟩ : ∃ sb, sortB l = sb := ⟨_, rfl⟩
  rw [hsb] at hs1
  have HSB := Lib.hid hsb
  clear hso hrd1 hsb
  go_wp2_with fail
  refine hs1.mono ?_
  rintro e W2 ⟨rfl, hB2⟩
  have HT2 := Lib.hid (HT1.out.below hB2)
  have HB2 := Lib.hid (below_on HB1.out hB2 (Nat.le_of_eq HN.out.symm))
  clear hs1 hB2
  cases sb with
  | false =>
    have hno : Hid (¬ OkOf r sn l) := Lib.hid fun h => by
      have := HS.out.2 h.2.1
      rw [HSB.out] at this
      cases this
    go_wp2
    go_ret2
    exact HOUT.out _ _ HB2.out hno.out rfl
  | true =>
    have HSA : Hid (SortA l) := Lib.hid (HS.out.1 HSB.out)
    go_wp2
    go_loopg [34] n (fun g i wx => ∃ (i2 : Nat) (acc : List Itm) (v : Value), i2 + g = n ∧ i = .int .i64 i2 ∧ Hid (addsL r [] l = addsL r acc (l.drop i2)) ∧ acc.length ≤ i2 ∧ Tp N N r v acc wx ∧ Below N w wx)
    case atStart => exact ⟨0, [], _, by omega, rfl, Lib.hid rfl, Nat.le_refl _, HT2.out, HB2.out⟩
    case round =>
      obtain ⟨i, acc, v, hig, rfl, HAD, hacc, hT, hB⟩ := hrel
      cases gk with
      | succ g =>
        have hin : i < n := by omega
        have hil : i < l.length := by rw [HLN.out]; exact hin
        obtain ⟨C, off, rfl, hC, d0, d1, d2⟩ := HR.out i hil
        rw [HN.out] at hC
        have k0 := (hB.cell (p := ⟨C, off + i * 3, none⟩) hC).trans d0
        have k1 := (hB.cell (p := ⟨C, off + i * 3 + 1, none⟩) hC).trans d1
        have k2 := (hB.cell (p := ⟨C, off + i * 3 + 2, none⟩) hC).trans d2
        obtain ⟨f0, f1, f2⟩ := HF.out _ (mem_at hil)
        have hdr := HAD.out
        rw [drop_at hil, addsL_cons] at hdr
        have HDR := Lib.hid hdr
        have HT := Lib.hid hT
        have HB := Lib.hid hB
        clear d0 d1 d2 hdr hT hB
        have hBX := (Below.refl wr.heap.size wr).alloc (Nat.le_refl _) (.cells #[.string l[i]!.name, .int .u64 l[i]!.many, .int .u64 l[i]!.over] 51)
        have hTX := HT.out.below hBX
        have HBX := Lib.hid hBX
        have had := add_any hTX l[i]!.name l[i]!.many f0 f1
        have HTX := Lib.hid hTX
        clear hBX hTX
        obtain ⟨y, hy⟩ : ∃ y, addC l[i]!.name l[i]!.many acc = y := ⟨_, rfl⟩
        obtain ⟨a2, ha2⟩ : ∃ a2, addS r l[i]!.name l[i]!.many acc = a2 := ⟨_, rfl⟩
        rw [hy, ha2] at had
        have HY := Lib.hid hy
        have HA2 := Lib.hid ha2
        clear hy ha2
        generalize hnm : l[i]!.name = nm at k0 had HTX HBX f0
        generalize hmm : l[i]!.many = m at k1 had HTX HBX f1
        generalize hoo : l[i]!.over = ov at k2 had HTX HBX f2
        have HNM := Lib.hid hnm
        have HMM := Lib.hid hmm
        have HOO := Lib.hid hoo
        clear hnm hmm hoo
        go_wp2_with fail
        refine had.mono ?_
        intro e W5 hA
        obtain ⟨rfl, v5, hT5, _, hB5, _⟩ := hA.below ⟨_, HTX.out⟩
        have HB5 := Lib.hid ((below_on HB.out HBX.out (Nat.le_of_eq HN.out.symm)).trans hB5)
        have HT5 := Lib.hid hT5
        clear hA hT5 hB5 had k0 k1 k2
        by_cases hy0 : y = 0
        · subst hy0
          have hdr := HDR.out
          rw [if_pos HY.out, HNM.out, HMM.out] at hdr
          have he : addL r nm m acc = a2 := by have := HA2.out; unfold addS at this; rw [HY.out, if_pos rfl, HNM.out, HMM.out] at this; exact this
          rw [he] at hdr
          have hal := (addL_length (room := r) (name := nm) (b := m) (l := acc) HT.out.inv.len).1
          have hal2 : a2.length ≤ i + 1 := by
            rw [← he]
            cases hp : plc nm acc with
            | some q => rw [addL_some hp]; simp; omega
            | none =>
              rw [addL_room hp (by omega)]
              simp; exact hacc
          have HDR2 := Lib.hid hdr
          clear hdr he hal
          go_wp2
          go_roundg g
          case measure => omega
          case rel => exact ⟨i + 1, a2, v5, by omega, by go_num, HDR2, hal2, HT5.out, HB5.out⟩
        · have hy1 : (y == 0) = false := by simp [hy0]
          have hno : Hid (¬ OkOf r sn l) := Lib.hid fun h => by
            have h2 := ok_adds h
            rw [HDR.out, HY.out, if_neg hy0] at h2
            cases h2
          go_wp2
          go_ret2
          exact HOUT.out _ _ HB5.out hno.out rfl
      | zero =>
        obtain rfl : i = n := by omega
        have hadd : addsL r [] l = some acc := by
          have := HAD.out
          rw [List.drop_of_length_le (by rw [HLN.out]; exact Nat.le_refl _)] at this
          exact this
        obtain ⟨q1, q2, q3⟩ := adds_some h1 l [] acc (by rw [HLN.out]; simp; omega) hadd
        simp only [List.length_nil, Nat.zero_add, List.nil_append, seen_nil] at q1 q2 q3
        rw [HLN.out] at q1 q3
        obtain ⟨pv, capv, hv, hcv, hmv⟩ := hT.row.cap
        obtain ⟨m, hm⟩ : ∃ m, acc.length = m := ⟨_, rfl⟩
        rw [hm] at q1 q3 hv hcv
        subst hv
        have k1 := hT.c1
        have HT := Lib.hid hT
        have HB := Lib.hid hB
        have HM := Lib.hid hm
        have HADD := Lib.hid hadd
        have Q2 := Lib.hid q2
        have Q3 := Lib.hid q3
        have hse := seen_walk hT
        clear hT hB hm hadd q2 q3 hacc
        unfold maxLen at hmv
        by_cases hmn : m = i
        · subst hmn
          obtain ⟨r1, r2, r3, r4⟩ := Q3.out rfl
          have hsum : Hid (seen l ≤ 4611686018427387904) := Lib.hid (by
            by_cases hl0 : l = []
            · subst hl0; simp [seen]
            · exact (Nat.zero_add (seen l)) ▸ r3 hl0)
          have hnd := r4 (by simp)
          rw [Q2.out] at hse
          have R1 := Lib.hid r1
          have R2 := Lib.hid r2
          have RN := Lib.hid hnd
          clear r1 r2 r3 r4 hnd
          obtain ⟨sl, hsl⟩ : ∃ sl, seen l = sl := ⟨_, rfl⟩
          rw [hsl] at hse
          have HSL := Lib.hid hsl
          clear hsl
          go_wp2_with fail
          refine hse.mono ?_
          rintro e W5 ⟨rfl, hB5⟩
          have HT5 := Lib.hid (HT.out.below hB5)
          have HB5 := Lib.hid (below_on HB.out hB5 (Nat.le_of_eq HN.out.symm))
          clear hse hB5 k1
          by_cases hss : sl = sn
          · subst hss
            have hle := least_any HT5.out
            rw [R1.out, least_zo r h1] at hle
            obtain ⟨lv, hlv⟩ : ∃ lv, leastL r l = lv := ⟨_, rfl⟩
            rw [hlv] at hle
            have HLV := Lib.hid hlv
            clear hlv
            go_wp2_with fail
            refine hle.mono ?_
            rintro e W6 ⟨rfl, hB6⟩
            have HT6 := Lib.hid (HT5.out.below hB6)
            have HB6 := Lib.hid (below_on HB5.out hB6 (Nat.le_of_eq HN.out.symm))
            clear hle hB6
            have hmix0 : acc = mixO 0 l := by rw [mixO_zero]; exact R1.out
            have hT6 := HT6.out
            rw [hmix0] at hT6
            have HT6 := Lib.hid hT6
            clear hmix0 hT6
            go_wp2
            go_loopg [64] m (fun g i wx => ∃ i2 : Nat, i2 + g = m ∧ i = .int .i64 i2 ∧ (∀ j, j < i2 → j < l.length → l[j]!.over < l[j]!.many ∧ l[j]!.over ≤ lv) ∧ Tp N N r (.slice pv m capv) (mixO i2 l) wx ∧ Below N w wx)
            case atStart => exact ⟨0, by omega, rfl, (fun j hj => absurd hj (Nat.not_lt_zero _)), HT6.out, HB6.out⟩
            case round =>
              obtain ⟨i2, hig2, rfl, hall, hT7, hB7⟩ := hrel
              have HALL := Lib.hid hall
              have HT7 := Lib.hid hT7
              have HB7 := Lib.hid hB7
              clear hall hT7 hB7
              cases gk with
              | zero =>
                obtain rfl : i2 = m := by omega
                have hok : OkOf r sl l := by
                  refine ⟨by rw [HLN.out]; omega, HSA.out, R2.out, RN.out, hsum.out, HSL.out, fun x hx => ?_⟩
                  obtain ⟨j, hj, rfl⟩ := at_mem hx
                  rw [HLV.out]
                  exact HALL.out j (by rw [← HLN.out]; exact hj) hj
                have hTE := HT7.out
                rw [show mixO i2 l = l by rw [← HLN.out]; exact mixO_all l] at hTE
                have HE : Hid (OfRes r sl l w (.returned (.tuple #[.pointer (some ⟨N, 0, none⟩), .int .i64 0])) wr) := Lib.hid ⟨by rw [HN.out]; exact HB7.out, .inr ⟨hok, N, _, rfl, by rw [HN.out]; exact hTE⟩⟩
                clear hok hTE
                go_wp2
                go_ret2
                exact HE.out
              | succ g2 =>
                have hin : i2 < m := by omega
                have hil : i2 < l.length := by rw [HLN.out]; exact hin
                obtain ⟨C, off, rfl, hC, d0, d1, d2⟩ := HR.out i2 hil
                rw [HN.out] at hC
                have k0 := (HB7.out.cell (p := ⟨C, off + i2 * 3, none⟩) hC).trans d0
                have k1 := (HB7.out.cell (p := ⟨C, off + i2 * 3 + 1, none⟩) hC).trans d1
                have k2 := (HB7.out.cell (p := ⟨C, off + i2 * 3 + 2, none⟩) hC).trans d2
                have hi3 : (i2 : Int) < (m : Int) := by omega
                clear d0 d1 d2 hC
                obtain ⟨nm, hnm⟩ : ∃ nm, nm = l[i2]!.name := ⟨_, rfl⟩
                obtain ⟨mm, hmm⟩ : ∃ mm, mm = l[i2]!.many := ⟨_, rfl⟩
                obtain ⟨ov, hov⟩ : ∃ ov, ov = l[i2]!.over := ⟨_, rfl⟩
                rw [← hnm] at k0
                rw [← hmm] at k1
                rw [← hov] at k2
                have HNM := Lib.hid hnm
                have HMM := Lib.hid hmm
                have HOV := Lib.hid hov
                clear hnm hmm hov
                by_cases hbad : mm ≤ ov ∨ lv < ov
                · have hno : Hid (¬ OkOf r sl l) := Lib.hid fun h => by
                    have h2 := h.2.2.2.2.2.2 _ (mem_at hil)
                    rw [HLV.out, ← HMM.out, ← HOV.out] at h2
                    omega
                  have HB8 := Lib.hid (below_on HB7.out ((Below.refl wr.heap.size wr).alloc (Nat.le_refl _) (.cells #[.string nm, .int .u64 mm, .int .u64 ov] 51)) (Nat.le_of_eq HN.out.symm))
                  by_cases hb1 : mm ≤ ov
                  · have t1 : (mm : Int) ≤ (ov : Int) := by omega
                    clear hbad
                    go_wp2
                    go_ret2
                    exact HOUT.out _ _ HB8.out hno.out rfl
                  · have t1 : ¬ (mm : Int) ≤ (ov : Int) := by omega
                    have t2 : (lv : Int) < (ov : Int) := by omega
                    clear hbad
                    go_wp2
                    go_ret2
                    exact HOUT.out _ _ HB8.out hno.out rfl
                · have hb1 : ¬ (mm ≤ ov) := fun h => hbad (.inl h)
                  have hb2 : ¬ (lv < ov) := fun h => hbad (.inr h)
                  have t1 : ¬ (mm : Int) ≤ (ov : Int) := by omega
                  have t2 : ¬ (lv : Int) < (ov : Int) := by omega
                  have hX := CellsAt.new #[.string nm, .int .u64 mm, .int .u64 ov] 51 wr
                  have hBX := (Below.refl wr.heap.size wr).alloc (Nat.le_refl _) (.cells #[.string nm, .int .u64 mm, .int .u64 ov] 51)
                  have hT8 := HT7.out.below hBX
                  have HB8 := Lib.hid (below_on HB7.out hBX (Nat.le_of_eq HN.out.symm))
                  have x2 := hX.cell 2 (.int .u64 ov) rfl
                  have b1 := hT8.c1
                  obtain ⟨gB, capB, hvB, _, hgB, _, _, hcB, hfB⟩ := hT8.row.form_pos (by rw [mixO_length]; omega)
                  simp only [Value.slice.injEq] at hvB
                  obtain ⟨rfl, hmB, rfl⟩ := hvB
                  obtain ⟨_, _, e2⟩ := hcB i2 (by rw [mixO_length]; exact hil)
                  have f2 := hfB (i2 * 3 + 2)
                  rw [mixO_at i2 l hil] at e2
                  have hall2 : ∀ j, j < i2 + 1 → j < l.length → l[j]!.over < l[j]!.many ∧ l[j]!.over ≤ lv := fun j hj hjl => by
                    by_cases e : j = i2
                    · subst e
                      rw [← HMM.out, ← HOV.out]
                      omega
                    · exact HALL.out j (by omega) hjl
                  have hinv : Inv r (mixO (i2 + 1) l) := inv_mix h1 h16 (by rw [HLN.out]; omega) R2.out RN.out hsum.out (by rw [HLV.out]; exact hall2)
                  have hfo := flat_set_over (mixO i2 l) i2 ov (by rw [mixO_length]; exact hil)
                  have hset : (mixO i2 l).set i2 ⟨(mixO i2 l)[i2]!.name, (mixO i2 l)[i2]!.many, ov⟩ = mixO (i2 + 1) l := by
                    rw [mixO_at i2 l hil, HOV.out]
                    exact mixO_step i2 l hil
                  rw [hset] at hfo
                  have hrow := (hT8.row.drew).store (by rw [mixO_length]; exact HLN.out.symm) (i2 * 3 + 2) (.int .u64 ov) (by rw [mixO_length, mixO_length]) hfo
                  have HALL2 := Lib.hid hall2
                  have HINV := Lib.hid hinv
                  have HROW := Lib.hid hrow
                  have HT8 := Lib.hid hT8
                  have hgN := (hT8.row.lt (g := gB) rfl).1
                  clear hbad hX hBX hT8 hcB hfB hmB hall2 hinv hfo hset hrow
                  go_wp2
                  generalize wr.heap.size = X at *
                  generalize wr.alloc (.cells #[.string nm, .int .u64 mm, .int .u64 ov] 51) = W8 at *
                  go_region
                  all_goals
                    have hS : Mov (fun b => (Value.slice (some ⟨gB, 0, none⟩) m capv).ownBlock = some b) W8 (W8.setCell ⟨gB, i2 * 3 + 2, none⟩ (.int .u64 ov)) := (Mov.refl (fun b => (Value.slice (some ⟨gB, 0, none⟩) m capv).ownBlock = some b) W8).set rfl _ _
                    have hT9 := (HT8.out.rebuild hS HINV.out HROW.out).drew
                    have hB9 := (HB8.out.setCell (p := ⟨gB, i2 * 3 + 2, none⟩) hgN (.int .u64 ov)).drew
                    have HT9 := Lib.hid hT9
                    have HB9 := Lib.hid hB9
                    clear hS hT9 hB9 k0 k1 k2 x2 b1 e2 f2
                    go_wp2
                    go_roundg g2
                    case measure => omega
                    case rel => exact ⟨i2 + 1, by omega, by go_num, HALL2.out, HT9.out, HB9.out⟩
          · have hno : Hid (¬ OkOf r sn l) := Lib.hid fun h => hss (HSL.out.symm.trans h.2.2.2.2.2.1)
            have hss2 : ((sl : Int) == (sn : Int)) = false := by simp; omega
            go_wp2
            go_ret2
            exact HOUT.out _ _ HB5.out hno.out rfl
        · have hno : Hid (¬ OkOf r sn l) := Lib.hid fun h => by
            have h2 := ok_adds h
            rw [HADD.out] at h2
            have h3 := congrArg List.length (Option.some.inj h2)
            rw [List.length_map, HM.out, HLN.out] at h3
            exact hmn h3
          have hmn2 : ((m : Int) == (i : Int)) = false := by simp; omega
          clear hse
          go_wp2
          go_ret2
          exact HOUT.out _ _ HB.out hno.out rfl
end Go.Proofs.Ytnkhieackclniaa
