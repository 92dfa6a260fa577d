/- The chapter's own top: a name comes. -/
import Derived.Test.YtnkhieackclniaaTRfA
import Derived.BigRegion
namespace Go.Proofs.Ytnkhieackclniaa
open Go Go.RowKit

/-- As RTp, whatever is counted. -/
structure RTs (base P room : Nat) (v : Value) (l : List Itm) (s : Nat) (w : World) : Prop where
  lt : P < w.heap.size
  lo : base ≤ P
  c0 : w.cell? ⟨P, 0, none⟩ = some v
  c1 : w.cell? ⟨P, 1, none⟩ = some (.int .i64 room)
  c2 : w.cell? ⟨P, 2, none⟩ = some (.int .u64 s)
  f0 : w.frozen? ⟨P, 0, none⟩ = false
  f2 : w.frozen? ⟨P, 2, none⟩ = false
  row : Its base 50 v l w
  ne : v.ownBlock ≠ some P
section
variable {base P room s : Nat} {v : Value} {l : List Itm} {w w' : World} {S : Nat → Prop}
theorem RTs.mov (h : RTs base P room v l s w) (hM : Mov S w w') (hB : ¬ S P) (hn : ∀ g, v.ownBlock = some g → ¬ S g) : RTs base P room v l s w' :=
  ⟨Nat.lt_of_lt_of_le h.lt hM.size, h.lo, (hM.cell h.lt hB).trans h.c0, (hM.cell h.lt hB).trans h.c1, (hM.cell h.lt hB).trans h.c2, (hM.frozen h.lt hB).trans h.f0, (hM.frozen h.lt hB).trans h.f2, h.row.mov hM hn, h.ne⟩
theorem RTs.below (h : RTs base P room v l s w) (hB : Below w.heap.size w w') : RTs base P room v l s w' :=
  h.mov (Mov.of hB) (by have := h.lt; omega) fun g hg => by have := (h.row.lt hg).2; omega
theorem RTs.drew (h : RTs base P room v l s w) : RTs base P room v l s w.drew := ⟨h.lt, h.lo, h.c0, h.c1, h.c2, h.f0, h.f2, h.row, h.ne⟩
theorem RTs.drewN (h : RTs base P room v l s w) (n : Nat) : RTs base P room v l s (w.drewN n) := ⟨h.lt, h.lo, h.c0, h.c1, h.c2, h.f0, h.f2, h.row, h.ne⟩
theorem RTs.top (h : RTs base P room v l s w) (hs : seen l = s) (hI : Inv room l) : RTp base P room v l w := ⟨h.lt, h.lo, hI, h.c0, h.c1, by rw [hs]; exact h.c2, h.f0, h.f2, h.row, h.ne⟩
theorem RTp.asS (h : RTp base P room v l w) : RTs base P room v l (seen l) w := ⟨h.lt, h.lo, h.c0, h.c1, h.c2, h.f0, h.f2, h.row, h.ne⟩
theorem RTs.saw (h : RTs base P room v l s w) (s' : Nat) : RTs base P room v l s' (w.setCell ⟨P, 2, none⟩ (.int .u64 s')) := by
  have hS : Mov (fun k => k = P) w (w.setCell ⟨P, 2, none⟩ (.int .u64 s')) := (Mov.refl (fun k => k = P) w).set rfl _ _
  refine ⟨by have := h.lt; simpa using this, h.lo, ?_, ?_, World.cell?_setCell_same w ⟨P, 2, none⟩ _ h.c2, ?_, ?_, h.row.mov hS (fun g hg e => h.ne (e ▸ hg)), h.ne⟩
  · rw [World.cell?_setCell_other (h := by simp)]; exact h.c0
  · rw [World.cell?_setCell_other (h := by simp)]; exact h.c1
  · rw [World.frozen?_setCell]; exact h.f0
  · rw [World.frozen?_setCell]; exact h.f2
theorem RTs.rebuild {l' : List Itm} (h : RTs base P room v l s w) (hM : Mov (fun k => v.ownBlock = some k) w w') (hr : Its base 50 v l' w') : RTs base P room v l' s w' :=
  ⟨Nat.lt_of_lt_of_le h.lt hM.size, h.lo, (hM.cell h.lt h.ne).trans h.c0, (hM.cell h.lt h.ne).trans h.c1, (hM.cell h.lt h.ne).trans h.c2, (hM.frozen h.lt h.ne).trans h.f0, (hM.frozen h.lt h.ne).trans h.f2, hr, h.ne⟩
theorem RTs.stored {v' : Value} {l' : List Itm} {w1 : World} (h : RTs base P room v l s w) (hM : Mov (fun k => v.ownBlock = some k) w w1) (hr : Its base 50 v' l' w1)
    (hat : ∀ g, v'.ownBlock = some g → v.ownBlock = some g ∨ w.heap.size ≤ g) : RTs base P room v' l' s (w1.setCell ⟨P, 0, none⟩ v') ∧ Mov (OwnT P v) w (w1.setCell ⟨P, 0, none⟩ v') := by
  have hne : v'.ownBlock ≠ some P := fun e => by
    rcases hat P e with e | e
    · exact h.ne e
    · have := h.lt; omega
  have hS : Mov (fun k => k = P) w1 (w1.setCell ⟨P, 0, none⟩ v') := (Mov.refl (fun k => k = P) w1).set rfl 0 v'
  refine ⟨⟨by have := Nat.lt_of_lt_of_le h.lt hM.size; simpa using this, h.lo, ?_, ?_, ?_, ?_, ?_, hr.mov hS (fun g hg e => hne (e ▸ hg)), hne⟩, Mov.trans (S := OwnT P v) (T := OwnT P v) ⟨hM.os, hM.tape, hM.output, hM.size, fun k hk hn => hM.block k hk (fun e => hn (.inr e))⟩ ⟨hS.os, hS.tape, hS.output, hS.size, fun k hk hn => hS.block k hk (fun e => hn (.inl e))⟩ fun _ _ hk => hk⟩
  · exact World.cell?_setCell_same w1 ⟨P, 0, none⟩ _ ((hM.cell h.lt h.ne).trans h.c0)
  · rw [World.cell?_setCell_other (h := by simp)]; exact (hM.cell h.lt h.ne).trans h.c1
  · rw [World.cell?_setCell_other (h := by simp)]; exact (hM.cell h.lt h.ne).trans h.c2
  · rw [World.frozen?_setCell]; exact (hM.frozen h.lt h.ne).trans h.f0
  · rw [World.frozen?_setCell]; exact (hM.frozen h.lt h.ne).trans h.f2
end
/-- What a coming leaves. -/
def RAdded (base P room : Nat) (v : Value) (l' : List Itm) (code : Int) (w : World) (e : Ending) (w' : World) : Prop :=
  e = .returned (.int .i64 code) ∧ ∃ v', RTp base P room v' l' w' ∧ Mov (OwnT P v) w w' ∧ ∀ g, v'.ownBlock = some g → v.ownBlock = some g ∨ w.heap.size ≤ g
set_option maxRecDepth 100000 in
set_option maxHeartbeats 4000000 in
theorem radd_arg {base P room : Nat} {v : Value} {l : List Itm} {w : World} (h : RTp base P room v l w) (name : ByteArray) (b : Nat) (hn : name.size ≤ maxLen) (hbad : 64 < name.size ∨ b = 0) :
    Calls Try.prog 14 #[.pointer (some ⟨P, 0, none⟩), .string name, .int .u64 b] w (RAdded base P room v l 1 w) := by
  unfold maxLen at hn
  have H := Lib.hid h
  clear h
  by_cases h64 : 64 < name.size
  · clear hbad
    go_enter Try.func14, Try.ntmps14
    go_wp2
    go_ret
    exact ⟨rfl, v, H.out, Mov.refl _ _, fun _ hg => .inl hg⟩
  · have hb0 : b = 0 := hbad.resolve_left h64
    subst hb0
    clear hbad
    go_enter Try.func14, Try.ntmps14
    go_wp2
    go_ret
    exact ⟨rfl, v, H.out, Mov.refl _ _, fun _ hg => .inl hg⟩
set_option maxRecDepth 100000 in
set_option maxHeartbeats 4000000 in
theorem radd_range {base P room : Nat} {v : Value} {l : List Itm} {w : World} (h : RTp base P room v l w) (name : ByteArray) (b : Nat) (hn : name.size ≤ 64) (hb : 0 < b) (hb2 : b < 18446744073709551616) (hbad : 4611686018427387904 < seen l + b) :
    Calls Try.prog 14 #[.pointer (some ⟨P, 0, none⟩), .string name, .int .u64 b] w (RAdded base P room v l 7 w) := by
  have hsum := h.inv.sum
  have c2 := h.c2
  have H := Lib.hid h
  clear h
  generalize seen l = s at *
  have h0 : ((b : Int) == 0) = false := by simp; omega
  have hd : decide (64 < (name.size : Int)) = false := by simp; omega
  by_cases h1 : 4611686018427387904 < b
  · clear hbad
    go_enter Try.func14, Try.ntmps14
    go_wp2
    go_ret
    exact ⟨rfl, v, H.out, Mov.refl _ _, fun _ hg => .inl hg⟩
  · obtain ⟨t, ht⟩ : ∃ t, s + b = t := ⟨_, rfl⟩
    have hti : (s : Int) + (b : Int) = (t : Int) := by omega
    have htb : 4611686018427387904 < t := by omega
    have htc : t ≤ 9223372036854775808 := by omega
    go_enter Try.func14, Try.ntmps14
    go_wp2
    go_ret
    exact ⟨rfl, v, H.out, Mov.refl _ _, fun _ hg => .inl hg⟩
theorem info_ritem : (Try.prog.info? 50).map (fun i => (i.zero, i.size, i.bytes)) = some (some (.agg #[.string ⟨#[]⟩, .int .u64 0, .int .u64 0]), 3, 32) := by
  kernel_rfl
set_option maxRecDepth 100000 in
set_option maxHeartbeats 4000000 in
theorem radd_found {base P room : Nat} {v : Value} {l : List Itm} {w : World} (h : RTp base P room v l w) (name : ByteArray) (b : Nat) (hn : name.size ≤ 64) (hb : 0 < b) (hok : seen l + b ≤ 4611686018427387904) {i0 : Nat} (hp : plc name l = some i0) :
    Calls Try.prog 14 #[.pointer (some ⟨P, 0, none⟩), .string name, .int .u64 b] w (RAdded base P room v (addL room name b l) 0 w) := by
  have hinv := inv_add h.inv hn hb hok
  have hse := seen_addL (name := name) (b := b) (l := l) h.inv.lo
  rw [addL_some hp] at hinv hse ⊢
  obtain ⟨hi, hnm, hne⟩ := plc_some hp
  have hms := many_le_seen (mem_at hi)
  have hl16 : l.length ≤ 16 := Nat.le_trans h.inv.len h.inv.hi
  obtain ⟨g, cap, rfl, hbg, hg, hcap, hmax, _, _⟩ := h.row.form_pos (by omega)
  have c2 := h.c2
  have f2 := h.f2
  obtain ⟨t, ht⟩ : ∃ t, seen l + b = t := ⟨_, rfl⟩
  have hti : (seen l : Int) + (b : Int) = (t : Int) := by omega
  have HS := Lib.hid (h.asS.saw t)
  have HSE := Lib.hid (hse.trans ht)
  have HI := Lib.hid hinv
  have HM : Hid (Mov (OwnT P (.slice (some ⟨g, 0, none⟩) l.length cap)) w (w.setCell ⟨P, 2, none⟩ (.int .u64 t))) := Lib.hid ((Mov.refl _ _).set (.inl rfl) _ _)
  have h0 : ((b : Int) == 0) = false := by simp; omega
  have hd : decide (64 < (name.size : Int)) = false := by simp; omega
  have h1 : ¬ 4611686018427387904 < b := by omega
  have h2 : ¬ 4611686018427387904 < t := by omega
  have HNE := Lib.hid hne
  have HNM := Lib.hid hnm
  clear h hinv hse hp ht hne hnm
  generalize seen l = s at *
  go_enter Try.func14, Try.ntmps14
  go_wp2
  generalize w.setCell ⟨P, 2, none⟩ (.int .u64 t) = W1 at *
  go_loopg [7] i0 (fun gg x wx => ∃ i, i + gg = i0 ∧ x = .int .i64 i ∧ wx = W1)
  case atStart => exact ⟨0, by omega, rfl, rfl⟩
  case round =>
    obtain ⟨i, hig, rfl, rfl⟩ := hrel
    have k0 := HS.out.c0
    obtain ⟨g', cap', hv, _, _, _, _, hcell, hfro⟩ := HS.out.row.form_pos (by omega)
    simp only [Value.slice.injEq, Option.some.injEq, Addr.mk.injEq, and_true, true_and] at hv
    obtain ⟨rfl, rfl⟩ := hv
    obtain ⟨d0, d1, _⟩ := hcell i (by omega)
    have f1 := hfro (i * 3 + 1)
    have hil : (i : Int) < (l.length : Int) := by omega
    clear hcell hfro c2 f2
    cases gk with
    | zero =>
      obtain rfl : i = i0 := by omega
      have hq : (l[i]!.name.toList == name.toList) = true := by rw [eqN, HNM.out]; simp
      have hst := HS.out.row.store rfl (i * 3 + 1) (.int .u64 (l[i]!.many + b : Nat)) (by simp) (flat_set_many l i (l[i]!.many + b) hi)
      have HST := Lib.hid hst
      obtain ⟨m, hm⟩ : ∃ m, m = l[i]!.many := ⟨_, rfl⟩
      obtain ⟨xn, hxn⟩ : ∃ xn, xn = l[i]!.name := ⟨_, rfl⟩
      rw [← hm] at d1 hms
      rw [← hxn] at d0 hq
      have HM2 := Lib.hid hm
      have hm2 : (m : Int) + b ≤ 4611686018427387904 := by omega
      clear hm hst hxn
      go_wp2
      go_region
      all_goals
        go_wp2
        go_ret
        have hm := HM2.out
        subst hm
        exact ⟨rfl, _, ((HS.out.rebuild ((Mov.refl (fun k => (Value.slice (some ⟨g, 0, none⟩) l.length cap).ownBlock = some k) _).set rfl _ _) HST.out).drew).top HSE.out HI.out, (HM.out.trans ((Mov.refl (OwnT P (.slice (some ⟨g, 0, none⟩) l.length cap)) _).set (.inr rfl) _ _) fun _ _ hk => hk).drew, fun _ hg => .inl hg⟩
    | succ gg =>
      have hq : (l[i]!.name.toList == name.toList) = false := by rw [eqN]; exact decide_eq_false (HNE.out i (by omega))
      generalize l[i]!.name = xn at *
      clear d1
      go_wp2
      go_roundg gg
      case measure => omega
      case rel => exact ⟨i + 1, by omega, by go_num, rfl⟩
end Go.Proofs.Ytnkhieackclniaa
