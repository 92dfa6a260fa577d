/- The place of the one that goes first; how often one that is not there may have come. -/
import Derived.Test.YtnkhieackclniaaTGo
import Derived.Test.YtnkhieackclniaaTGet
import Derived.WalkMore
namespace Go.Proofs.Ytnkhieackclniaa
open Go Go.RowKit

/-- What holds while it is searched: the top's address, and the place found so far, in their boxes. -/
structure LRel (B T L m : Nat) (w wx : World) : Prop where
  below : Below w.heap.size w wx
  ht : w.heap.size ≤ T
  hl : w.heap.size ≤ L
  hne : T ≠ L
  lt : T < wx.heap.size
  ll : L < wx.heap.size
  c0 : wx.cell? ⟨T, 0, none⟩ = some (.pointer (some ⟨B, 0, none⟩))
  c2 : wx.cell? ⟨L, 0, none⟩ = some (.int .i64 m)
  f2 : wx.frozen? ⟨L, 0, none⟩ = false
theorem LRel.on {B T L m : Nat} {w wx wy : World} (h : LRel B T L m w wx) (hB : Below wx.heap.size wx wy) : LRel B T L m w wy :=
  ⟨h.below.trans (hB.mono h.below.size), h.ht, h.hl, h.hne, Nat.lt_of_lt_of_le h.lt hB.size, Nat.lt_of_lt_of_le h.ll hB.size, (hB.cell (p := ⟨T, 0, none⟩) h.lt).trans h.c0, (hB.cell (p := ⟨L, 0, none⟩) h.ll).trans h.c2, (hB.frozen (p := ⟨L, 0, none⟩) h.ll).trans h.f2⟩
theorem LRel.set {B T L m : Nat} {w wx : World} (h : LRel B T L m w wx) (k : Nat) : LRel B T L k w (wx.setCell ⟨L, 0, none⟩ (.int .i64 k)) :=
  ⟨h.below.setCell h.hl _, h.ht, h.hl, h.hne, by have := h.lt; simpa using this, by have := h.ll; simpa using this,
    by rw [World.cell?_setCell_other (h := by simp [h.hne.symm])]; exact h.c0, World.cell?_setCell_same wx ⟨L, 0, none⟩ _ h.c2, by rw [World.frozen?_setCell]; exact h.f2⟩
set_option maxRecDepth 100000 in
set_option maxHeartbeats 4000000 in
theorem least_place {base B room : Nat} {v : Value} {l : List Itm} {w : World} (h : Tp base B room v l w) (hpos : 0 < l.length) :
    Calls Try.prog 31 #[.pointer (some ⟨B, 0, none⟩)] w fun e w' => e = .returned (.int .i64 (worst l)) ∧ Below w.heap.size w w' := by
  obtain ⟨g, cap, rfl, hbg, hg, hcap, hmax, hcell, _⟩ := h.row.form_pos hpos
  have hl := h.inv.len
  have hh := h.inv.hi
  have c1 := h.c1
  have hB := h.lt
  have HC := Lib.hid hcell
  have hs0 : worst l = scanW l (l.length - 1) 0 1 := rfl
  clear h hcell hbg
  obtain ⟨n, hn⟩ : ∃ n, l.length = n := ⟨_, rfl⟩
  have HN := Lib.hid hn
  rw [hn] at hl hcap c1 hs0 hpos
  clear hn
  have HS0 := Lib.hid hs0
  clear hs0
  have hr0 : LRel B w.heap.size (w.heap.size + 1) 0 w ((w.alloc (.cells #[.pointer (some ⟨B, 0, none⟩)] 25)).alloc (.cells #[.int .i64 0] 3)) :=
    have hX := (CellsAt.new #[.pointer (some ⟨B, 0, none⟩)] 25 w).past (.cells #[.int .i64 0] 3)
    have hY := CellsAt.newAt #[.int .i64 0] 3 (w.alloc (.cells #[.pointer (some ⟨B, 0, none⟩)] 25)) (w.heap.size + 1) (by simp)
    ⟨((Below.refl _ _).alloc (Nat.le_refl _) _).alloc (by simp) _, Nat.le_refl _, by omega, by omega, hX.lt, hY.lt, hX.cell 0 _ rfl, hY.cell 0 _ rfl, hY.fro 0 _ rfl⟩
  go_enter Try.func31, Try.ntmps31
  go_wp2
  go_step3
  go_wp2
  generalize hWW : (w.alloc (.cells #[.pointer (some ⟨B, 0, none⟩)] 25)).alloc (.cells #[.int .i64 0] 3) = W at *
  clear hWW
  generalize w.heap.size + 1 = L at *
  obtain ⟨T, hT⟩ : ∃ T, w.heap.size = T := ⟨_, rfl⟩
  have HT := Lib.hid hT
  rw [hT]
  clear hT
  go_step3
  go_wp2
  go_loopg [5] (n) (fun g5 _ wx => ∃ m : Nat, m + g5 = n ∧ m < n ∧ scanW l (n - (m + 1)) m (m + 1) = worst l ∧ LRel B T L m w wx)
  case atStart => exact ⟨0, by omega, hpos, HS0.out.symm, HT.out ▸ hr0⟩
  case round =>
    obtain ⟨m, hmg, hmn, hsc, hR⟩ := hrel
    clear hr0
    have HSC := Lib.hid hsc
    clear hsc
    have c2 := hR.c2
    go_wp2
    go_loopg [5] (n - (m + 1)) (fun gi i5 wx => ∃ i : Nat, i + gi = n ∧ m < i ∧ i5 = .int .i64 i ∧ Hid (scanW l (n - i) m i = worst l) ∧ LRel B T L m w wx)
    case atStart => exact ⟨m + 1, by omega, by omega, by go_num, HSC, hR⟩
    case round =>
      obtain ⟨i, hig, hmi, rfl, HS, hRi⟩ := hrel
      clear hR c2
      have k0 := hRi.c0
      have k1 := (hRi.below.cell (p := ⟨B, 1, none⟩) hB).trans c1
      have k2 := hRi.c2
      cases gk with
      | zero =>
        obtain rfl : i = n := by omega
        have HE : Hid (m = worst l) := Lib.hid (by have := HS.out; rw [show i - i = 0 by omega] at this; exact this)
        go_wp2
        rw [Exit.noGoto_ret]
        go_ret
        exact ⟨by rw [← HE.out]; rfl, hRi.below⟩
      | succ gi =>
        have hin : i < n := by omega
        obtain ⟨e0, e1, e2⟩ := HC.out i (by rw [HN.out]; exact hin)
        obtain ⟨d0, d1, d2⟩ := HC.out m (by rw [HN.out]; exact hmn)
        have hst := scanW_step l m i (by rw [HN.out]; exact hin)
        rw [HN.out, HS.out] at hst
        have HST := Lib.hid hst
        clear hst
        have hlook : ∀ (j : Nat) (u : Value), w.cell? ⟨g, j, none⟩ = some u → wr.cell? ⟨g, j, none⟩ = some u := fun j u hu => (hRi.below.cell (p := ⟨g, j, none⟩) hg).trans hu
        have a0 := hlook _ _ e0
        have a1 := hlook _ _ e1
        have a2 := hlook _ _ e2
        have hga := goes_ahead l[i]!.name l[m]!.name l[i]!.many l[i]!.over l[m]!.many l[m]!.over m n cap T L B g hmn (by omega) wr hRi.lt hRi.ll (Nat.lt_of_lt_of_le hB hRi.below.size) (Nat.lt_of_lt_of_le hg hRi.below.size) k0 k1 k2 (hlook _ _ d0) (hlook _ _ d1) (hlook _ _ d2)
        clear hlook e0 e1 e2 d0 d1 d2 k2
        cases hq : goes ⟨l[i]!.name, l[i]!.many, l[i]!.over⟩ ⟨l[m]!.name, l[m]!.many, l[m]!.over⟩ with
        | true =>
          rw [hq] at hga
          have HQ := Lib.hid hq
          clear hq
          generalize l[i]!.name = xn at a0 hga
          generalize l[i]!.many = xm at a1 hga
          generalize l[i]!.over = xo at a2 hga
          go_wp2_with fail
          refine hga.mono ?_
          rintro e w2 ⟨rfl, hB2⟩
          have hR2 := (hRi.on hB2)
          have f2 := hR2.f2
          have HR3 := Lib.hid (hR2.set i)
          have z2 := hR2.c2
          have z0 := hR2.c0
          clear hga hB2 hR2 a0 a1 a2 k0 k1
          go_wp2
          go_roundg (n - i)
          case measure => omega
          case rel =>
            refine ⟨i, by omega, hin, ?_, HR3.out⟩
            have := HST.out
            rw [if_pos (show goes l[i]! l[m]! = true from HQ.out)] at this
            exact this.symm
        | false =>
          rw [hq] at hga
          have HQ := Lib.hid hq
          clear hq
          generalize l[i]!.name = xn at a0 hga
          generalize l[i]!.many = xm at a1 hga
          generalize l[i]!.over = xo at a2 hga
          go_wp2_with fail
          refine hga.mono ?_
          rintro e w2 ⟨rfl, hB2⟩
          have hR2 := (hRi.on hB2)
          clear hga hB2 a0 a1 a2 k0 k1
          go_wp2
          go_roundg gi
          case measure => omega
          case rel =>
            refine ⟨i + 1, by omega, by omega, by go_num, Lib.hid ?_, hR2⟩
            have := HST.out
            rw [if_neg (show ¬ goes l[i]! l[m]! = true by rw [show goes l[i]! l[m]! = false from HQ.out]; decide)] at this
            exact this.symm
end Go.Proofs.Ytnkhieackclniaa
