/- The chapter's own top: a name comes that is not there. -/
import Derived.Test.YtnkhieackclniaaTRfB
namespace Go.Proofs.Ytnkhieackclniaa
open Go Go.RowKit

set_option maxRecDepth 100000 in
set_option maxHeartbeats 4000000 in
theorem radd_room {base P room : Nat} {v : Value} {l : List Itm} {w : World} (h : RTp base P room v l w) (name : ByteArray) (b : Nat) (hn : name.size ≤ 64) (hb : 0 < b) (hok : seen l + b ≤ 4611686018427387904) (hp : plc name l = none) (hr : l.length < room) :
    Calls Try.prog 14 #[.pointer (some ⟨P, 0, none⟩), .string name, .int .u64 b] w (RAdded base P room v (addL room name b l) 0 w) := by
  have hinv := inv_add h.inv hn hb hok
  have hse := seen_addL (name := name) (b := b) (l := l) h.inv.lo
  rw [addL_room hp hr] at hinv hse ⊢
  have hne := plc_none hp
  have hl16 : l.length ≤ 16 := Nat.le_trans h.inv.len h.inv.hi
  have hr16 := h.inv.hi
  obtain ⟨i0, hi0, hz⟩ := Option.map_eq_some_iff.1 info_ritem
  simp only [Prod.mk.injEq] at hz
  obtain ⟨hz0, hz1, hz2⟩ := hz
  have HZ0 := Lib.hid hz0
  have HZ1 := Lib.hid hz1
  have HZ2 := Lib.hid hz2
  have HI0 := Lib.hid hi0
  have c2 := h.c2
  have f2 := h.f2
  obtain ⟨t, ht⟩ : ∃ t, seen l + b = t := ⟨_, rfl⟩
  have hti : (seen l : Int) + (b : Int) = (t : Int) := by omega
  have HS := Lib.hid (h.asS.saw t)
  have HSE := Lib.hid (hse.trans ht)
  have HI := Lib.hid hinv
  have HM : Hid (Mov (OwnT P v) w (w.setCell ⟨P, 2, none⟩ (.int .u64 t))) := Lib.hid ((Mov.refl _ _).set (.inl rfl) _ _)
  have HBS : Hid (base ≤ w.heap.size) := Lib.hid (Nat.le_trans h.lo (Nat.le_of_lt h.lt))
  have h0 : ((b : Int) == 0) = false := by simp; omega
  have hd : decide (64 < (name.size : Int)) = false := by simp; omega
  have h1 : ¬ 4611686018427387904 < b := by omega
  have h2 : ¬ 4611686018427387904 < t := by omega
  have hb2 : b < 18446744073709551616 := by omega
  have HNE := Lib.hid hne
  clear h hinv hse hp ht hne hz0 hz1 hz2 hi0
  generalize seen l = s at *
  have t9 : decide (l.length < room) = true := decide_eq_true hr
  go_enter Try.func14, Try.ntmps14
  go_wp2
  generalize w.setCell ⟨P, 2, none⟩ (.int .u64 t) = W1 at *
  go_loopg [7] l.length (fun gg x wx => ∃ i, i + gg = l.length ∧ x = .int .i64 i ∧ wx = W1)
  case atStart => exact ⟨0, by omega, rfl, rfl⟩
  case round =>
    obtain ⟨i, hig, rfl, rfl⟩ := hrel
    have k0 := HS.out.c0
    have k1 := HS.out.c1
    clear c2 f2
    cases gk with
    | zero =>
      obtain rfl : i = l.length := by omega
      obtain ⟨p, cap, rfl, hcap, hmax⟩ := HS.out.row.cap
      unfold maxLen at hmax
      go_wp2
      go_quiet (fail)
      have HSq := Lib.hid (HS.out.drewN nq)
      have HMq := Lib.hid (HM.out.drewN nq)
      have k0q := HSq.out.c0
      have hsz : Hid (wr.heap.size = (wr.drewN nq).heap.size) := Lib.hid rfl
      clear k0 k1
      generalize wr.drewN nq = W2 at *
      have hMw : w.heap.size ≤ W2.heap.size := HMq.out.size
      go_wp2_with (at_builtin; refine wpList_append_at _ rfl (.tmp 86) (.tmp 90) 38 rfl base 50 i0 _ 3 32 Try.underlying38 HI0.out HZ0.out HZ1.out HZ2.out rfl (by decide) (.slice p l.length cap) l.length (flat l) rfl (World.ownsRow.alloc HSq.out.row _) ⟨W2.heap.size, 0, none⟩ 1 1 [.string name, .int .u64 b, .int .u64 0] rfl rfl (new_row [.string name, .int .u64 b, .int .u64 0] 50 W2) (one_cells ⟨name, b, 0⟩) (by unfold maxLen; omega) (by omega) (by have := HBS.out; simp; omega) ?_)
      intro v' w1 ho hg hat
      obtain ⟨gn, capn, rfl⟩ := own_shape ho
      have h' := (HSq.out.below ((Below.refl W2.heap.size W2).alloc (Nat.le_refl _) (.cells #[.string name, .int .u64 b, .int .u64 0] 50)))
      have hs1 := h'.stored (Mov.grown hg) (its_append (x := ⟨name, b, 0⟩) ho) (fun g hg => (hat g hg).imp id fun h => by simpa using h)
      have y1 := ((Mov.grown hg).cell (i := 0) h'.lt h'.ne).trans h'.c0
      have y2 := ((Mov.grown hg).frozen (i := 0) h'.lt h'.ne).trans h'.f0
      have HAT := Lib.hid hat
      have HS1 := Lib.hid hs1
      clear hs1 hg hat ho h'
      go_wp2
      go_ret
      refine ⟨rfl, _, HS1.out.1.top HSE.out HI.out, (HMq.out.trans (Mov.ofB ((Below.refl W2.heap.size W2).alloc (Nat.le_refl _) _)) (fun _ _ hk => hk)).trans HS1.out.2 (fun _ _ hk => hk), fun g hg => (HAT.out g hg).imp id fun hle => by omega⟩
    | succ gg =>
      obtain ⟨g, cap, rfl, _, _, hcap, hmax, hcell, hfro⟩ := HS.out.row.form_pos (by omega)
      unfold maxLen at hmax
      obtain ⟨d0, _, _⟩ := hcell i (by omega)
      have hil : (i : Int) < (l.length : Int) := by omega
      have hq : (l[i]!.name.toList == name.toList) = false := by rw [eqN]; exact decide_eq_false (HNE.out _ (mem_at (by omega)))
      clear hcell hfro
      generalize l[i]!.name = xn at *
      go_wp2
      go_roundg gg
      case measure => omega
      case rel => exact ⟨i + 1, by omega, by go_num, rfl⟩
set_option maxRecDepth 100000 in
set_option maxHeartbeats 8000000 in
theorem radd_full {base P room : Nat} {v : Value} {l : List Itm} {w : World} (h : RTp base P room v l w) (name : ByteArray) (b : Nat) (hn : name.size ≤ 64) (hb : 0 < b) (hok : seen l + b ≤ 4611686018427387904) (hp : plc name l = none) (hr : ¬ l.length < room) :
    Calls Try.prog 14 #[.pointer (some ⟨P, 0, none⟩), .string name, .int .u64 b] w (RAdded base P room v (addL room name b l) 0 w) := by
  have hinv := inv_add h.inv hn hb hok
  have hse := seen_addL (name := name) (b := b) (l := l) h.inv.lo
  rw [addL_full hp hr] at hinv hse ⊢
  have hne := plc_none hp
  have hl16 : l.length ≤ 16 := Nat.le_trans h.inv.len h.inv.hi
  have hr16 := h.inv.hi
  have hpos : 0 < l.length := by have := h.inv.lo; omega
  have hwl := worst_lt hpos
  have hms := many_le_seen (mem_at hwl)
  obtain ⟨g, cap, rfl, hbg, hg, hcap, hmax, _, _⟩ := h.row.form_pos hpos
  unfold maxLen at hmax
  have c2 := h.c2
  have f2 := h.f2
  obtain ⟨t, ht⟩ : ∃ t, seen l + b = t := ⟨_, rfl⟩
  have hti : (seen l : Int) + (b : Int) = (t : Int) := by omega
  have HS := Lib.hid (h.asS.saw t)
  have HSE := Lib.hid (hse.trans ht)
  have HI := Lib.hid hinv
  have HM : Hid (Mov (OwnT P (.slice (some ⟨g, 0, none⟩) l.length cap)) w (w.setCell ⟨P, 2, none⟩ (.int .u64 t))) := Lib.hid ((Mov.refl _ _).set (.inl rfl) _ _)
  have h0 : ((b : Int) == 0) = false := by simp; omega
  have hd : decide (64 < (name.size : Int)) = false := by simp; omega
  have h1 : ¬ 4611686018427387904 < b := by omega
  have h2 : ¬ 4611686018427387904 < t := by omega
  have hb2 : b < 18446744073709551616 := by omega
  have HNE := Lib.hid hne
  have HV := Lib.hid h.inv
  clear h hinv hse hp ht hne
  generalize seen l = s at *
  have t9 : decide (l.length < room) = false := decide_eq_false hr
  go_enter Try.func14, Try.ntmps14
  go_wp2
  generalize w.setCell ⟨P, 2, none⟩ (.int .u64 t) = W1 at *
  go_loopg [7] l.length (fun gg x wx => ∃ i, i + gg = l.length ∧ x = .int .i64 i ∧ wx = W1)
  case atStart => exact ⟨0, by omega, rfl, rfl⟩
  case round =>
    obtain ⟨i, hig, rfl, rfl⟩ := hrel
    have k0 := HS.out.c0
    have k1 := HS.out.c1
    clear c2 f2
    cases gk with
    | zero =>
      obtain rfl : i = l.length := by omega
      go_wp2
      go_quiet (fail)
      have HSq := Lib.hid (HS.out.drewN nq)
      have HMq := Lib.hid (HM.out.drewN nq)
      have hPq := HSq.out.lt
      have k0q := HSq.out.c0
      clear k0 k1
      generalize wr.drewN nq = W2 at *
      have hwo := ref_worst_s HSq.out.lt HSq.out.c0 HSq.out.row hl16 hpos
      go_wp2_with fail
      refine hwo.mono ?_
      rintro e W3 ⟨rfl, hB3⟩
      have hS3 := HSq.out.below hB3
      have HM3 := Lib.hid (HMq.out.trans (Mov.ofB hB3) (fun _ _ hk => hk))
      obtain ⟨g', cap', hv, _, hgl, _, _, hcell, hfro⟩ := hS3.row.form_pos hpos
      simp only [Value.slice.injEq, Option.some.injEq, Addr.mk.injEq, and_true, true_and] at hv
      obtain ⟨rfl, rfl⟩ := hv
      obtain ⟨d0, d1, d2⟩ := hcell (worst l) hwl
      have f0 := hfro (worst l * 3)
      have f1 := hfro (worst l * 3 + 1)
      have f2 := hfro (worst l * 3 + 2)
      have k0 := hS3.c0
      have HS3 := Lib.hid hS3
      have hst := hS3.row.store3 rfl (worst l) hwl ⟨name, l[worst l]!.many + b, l[worst l]!.many⟩
      have HST := Lib.hid hst
      have hi2 : (worst l : Int) < (l.length : Int) := by omega
      obtain ⟨m, hm⟩ : ∃ m, m = worst l := ⟨_, rfl⟩
      obtain ⟨y, hy⟩ : ∃ y, y = l[worst l]!.many := ⟨_, rfl⟩
      rw [← hy] at d1 hms
      rw [← hm] at d0 d1 d2 f0 f1 f2 hi2 hwl ⊢
      have HM1 := Lib.hid hm
      have HY := Lib.hid hy
      have hyb : (y : Int) + b ≤ 4611686018427387904 := by omega
      clear hm hy hst hcell hfro hwo hB3 hS3 k0q
      go_wp2
      go_region
      all_goals
        go_wp2
        go_ret
        have hm := HM1.out
        have hy := HY.out
        subst hm hy
        have hS := (((Mov.refl (fun k => (Value.slice (some ⟨g, 0, none⟩) l.length cap).ownBlock = some k) W3).set rfl (worst l * 3) (.string name)).set rfl (worst l * 3 + 1) (.int .u64 (l[worst l]!.many + b : Nat))).set rfl (worst l * 3 + 2) (.int .u64 (l[worst l]!.many : Nat))
        exact ⟨rfl, _, ((HS3.out.rebuild hS HST.out).drew).top HSE.out HI.out, (HM3.out.trans hS fun _ _ hk => .inr hk).drew, fun _ hg => .inl hg⟩
    | succ gg =>
      obtain ⟨g', cap', hv, _, _, _, _, hcell, hfro⟩ := HS.out.row.form_pos (by omega)
      simp only [Value.slice.injEq, Option.some.injEq, Addr.mk.injEq, and_true, true_and] at hv
      obtain ⟨rfl, rfl⟩ := hv
      obtain ⟨d0, _, _⟩ := hcell i (by omega)
      have hil : (i : Int) < (l.length : Int) := by omega
      have hq : (l[i]!.name.toList == name.toList) = false := by rw [eqN]; exact decide_eq_false (HNE.out _ (mem_at (by omega)))
      clear hcell hfro
      generalize l[i]!.name = xn at *
      go_wp2
      go_roundg gg
      case measure => omega
      case rel => exact ⟨i + 1, by omega, by go_num, rfl⟩
/-- A name comes to the chapter's top, whichever way. -/
theorem radd_any {base P room : Nat} {v : Value} {l : List Itm} {w : World} (h : RTp base P room v l w) (name : ByteArray) (b : Nat) (hn : name.size ≤ maxLen) (hb : b < 18446744073709551616) :
    Calls Try.prog 14 #[.pointer (some ⟨P, 0, none⟩), .string name, .int .u64 b] w (RAdded base P room v (addS room name b l) (addC name b l) w) := by
  by_cases h1 : 64 < name.size ∨ b = 0
  · have hc : addC name b l = 1 := by unfold addC; rw [if_pos h1]
    have hs : addS room name b l = l := by unfold addS; rw [hc]; rfl
    rw [hs, hc]
    exact radd_arg h name b hn h1
  · by_cases h2 : 4611686018427387904 < seen l + b
    · have hc : addC name b l = 7 := by unfold addC; rw [if_neg h1, if_pos h2]
      have hs : addS room name b l = l := by unfold addS; rw [hc]; rfl
      rw [hs, hc]
      exact radd_range h name b (by omega) (by omega) hb h2
    · rw [addS_ok (by omega) (by omega) (by omega), addC_ok (by omega) (by omega) (by omega)]
      cases hp : plc name l with
      | some i => exact radd_found h name b (by omega) (by omega) (by omega) hp
      | none =>
        by_cases hr : l.length < room
        · exact radd_room h name b (by omega) (by omega) (by omega) hp hr
        · exact radd_full h name b (by omega) (by omega) (by omega) hp hr
theorem RAdded.below {base P room : Nat} {v : Value} {l' : List Itm} {code : Int} {w w' : World} {e : Ending} (h : RAdded base P room v l' code w e w') (hT : ∃ l, RTp base P room v l w) : e = .returned (.int .i64 code) ∧ ∃ v', RTp base P room v' l' w' ∧ Mov (OwnT P v) w w' ∧ Below base w w' ∧ ∀ g, v'.ownBlock = some g → v.ownBlock = some g ∨ w.heap.size ≤ g := by
  obtain ⟨he, v', hT', hM, hat⟩ := h
  obtain ⟨l, hT⟩ := hT
  refine ⟨he, v', hT', hM, hM.below ?_ (Nat.le_trans hT.lo (Nat.le_of_lt hT.lt)), hat⟩
  rintro k (rfl | hk)
  · exact hT.lo
  · exact (hT.row.lt hk).1
end Go.Proofs.Ytnkhieackclniaa
