/- The chapter's own top: in memory; a new one; which one goes; cleared. -/
import Derived.Test.YtnkhieackclniaaTBak
namespace Go.Proofs.Ytnkhieackclniaa
open Go Go.RowKit

/-- Block P is the chapter's own top of that room, with those items in row v. -/
structure RTp (base P room : Nat) (v : Value) (l : List Itm) (w : World) : Prop where
  lt : P < w.heap.size
  lo : base ≤ P
  inv : Inv room l
  c0 : w.cell? ⟨P, 0, none⟩ = some v
  c1 : w.cell? ⟨P, 1, none⟩ = some (.int .i64 room)
  c2 : w.cell? ⟨P, 2, none⟩ = some (.int .u64 (seen l : Nat))
  f0 : w.frozen? ⟨P, 0, none⟩ = false
  f2 : w.frozen? ⟨P, 2, none⟩ = false
  row : Its base 50 v l w
  ne : v.ownBlock ≠ some P
section
variable {base P room : Nat} {v : Value} {l : List Itm} {w w' : World} {S : Nat → Prop}
theorem RTp.mov (h : RTp base P room v l w) (hM : Mov S w w') (hB : ¬ S P) (hn : ∀ g, v.ownBlock = some g → ¬ S g) : RTp base P room v l w' :=
  ⟨Nat.lt_of_lt_of_le h.lt hM.size, h.lo, h.inv, (hM.cell h.lt hB).trans h.c0, (hM.cell h.lt hB).trans h.c1, (hM.cell h.lt hB).trans h.c2, (hM.frozen h.lt hB).trans h.f0, (hM.frozen h.lt hB).trans h.f2, h.row.mov hM hn, h.ne⟩
theorem RTp.below (h : RTp base P room v l w) (hB : Below w.heap.size w w') : RTp base P room v l w' :=
  h.mov (Mov.of hB) (by have := h.lt; omega) fun g hg => by have := (h.row.lt hg).2; omega
theorem RTp.drew (h : RTp base P room v l w) : RTp base P room v l w.drew := ⟨h.lt, h.lo, h.inv, h.c0, h.c1, h.c2, h.f0, h.f2, h.row, h.ne⟩
theorem RTp.drewN (h : RTp base P room v l w) (n : Nat) : RTp base P room v l (w.drewN n) := ⟨h.lt, h.lo, h.inv, h.c0, h.c1, h.c2, h.f0, h.f2, h.row, h.ne⟩
theorem RTp.mono (h : RTp base P room v l w) {base' : Nat} (hb : base' ≤ base) : RTp base' P room v l w := ⟨h.lt, Nat.le_trans hb h.lo, h.inv, h.c0, h.c1, h.c2, h.f0, h.f2, h.row.mono hb, h.ne⟩
end
theorem ref_new_out (x : Int) (h : x < 1 ∨ 16 < x) (w : World) :
    Calls Try.prog 11 #[.int .i64 x] w fun e w' => e = .returned (.pointer none) ∧ w = w' := by
  by_cases h4 : x < 1
  · clear h
    go_enter Try.func11, Try.ntmps11
    go_wp2
    go_ret
    exact ⟨rfl, rfl⟩
  · have h10 : 16 < x := by omega
    clear h
    go_enter Try.func11, Try.ntmps11
    go_wp2
    go_ret
    exact ⟨rfl, rfl⟩
theorem ref_new_in (x : Int) (h1 : 1 ≤ x) (h16 : x ≤ 16) (w : World) :
    Calls Try.prog 11 #[.int .i64 x] w fun e w' => e = .returned (.pointer (some ⟨w.heap.size, 0, none⟩)) ∧ w.alloc (.cells #[.slice none 0 0, .int .i64 x, .int .u64 0] 40) = w' := by
  go_enter Try.func11, Try.ntmps11
  go_wp2
  go_ret
  exact ⟨rfl, rfl⟩
theorem ref_new_any (room : Nat) (h1 : 1 ≤ room) (h16 : room ≤ 16) (w : World) :
    Calls Try.prog 11 #[.int .i64 room] w fun e w' => e = .returned (.pointer (some ⟨w.heap.size, 0, none⟩)) ∧ Below w.heap.size w w' ∧ RTp w.heap.size w.heap.size room (.slice none 0 0) [] w' := by
  refine (ref_new_in room (by omega) (by omega) w).mono ?_
  rintro e w' ⟨rfl, rfl⟩
  have hC := CellsAt.new #[.slice none 0 0, .int .i64 room, .int .u64 0] 40 w
  exact ⟨rfl, (Below.refl _ _).alloc (Nat.le_refl _) _, ⟨hC.lt, Nat.le_refl _, inv_nil h1 h16, hC.cell 0 _ rfl, hC.cell 1 _ rfl, hC.cell 2 _ rfl, hC.fro 0 _ rfl, hC.fro 2 _ rfl, Its.nil _ _ _, by simp [Value.ownBlock]⟩⟩
theorem ref_clear_any {base P room : Nat} {v : Value} {l : List Itm} {w : World} (h : RTp base P room v l w) :
    Calls Try.prog 19 #[.pointer (some ⟨P, 0, none⟩)] w fun e w' => e = .returned (.tuple #[]) ∧ Mov (OwnT P v) w w' ∧ RTp base P room (.slice none 0 0) [] w' := by
  have c0 := h.c0
  have c2 := h.c2
  have f0 := h.f0
  have f2 := h.f2
  have H := Lib.hid h
  clear h
  go_enter Try.func19, Try.ntmps19
  go_wp2
  go_end0
  have h := H.out
  refine ⟨rfl, ((Mov.refl _ _).set (.inl rfl) _ _).set (.inl rfl) _ _, ⟨by have := h.lt; simpa using this, h.lo, inv_nil h.inv.lo h.inv.hi, ?_, ?_, ?_, ?_, ?_, Its.nil _ _ _, by simp [Value.ownBlock]⟩⟩
  · rw [World.cell?_setCell_other (h := by simp)]; exact World.cell?_setCell_same w ⟨P, 0, none⟩ _ h.c0
  · rw [World.cell?_setCell_other (h := by simp), World.cell?_setCell_other (h := by simp)]; exact h.c1
  · exact World.cell?_setCell_same _ ⟨P, 2, none⟩ _ (show (w.setCell ⟨P, 0, none⟩ (.slice none 0 0)).cell? ⟨P, 2, none⟩ = some (.int .u64 (seen l : Nat)) by
      rw [World.cell?_setCell_other (h := by simp)]
      exact h.c2)
  · rw [World.frozen?_setCell, World.frozen?_setCell]; exact h.f0
  · rw [World.frozen?_setCell, World.frozen?_setCell]; exact h.f2
set_option maxRecDepth 100000 in
set_option maxHeartbeats 8000000 in
theorem ref_worst_s {base P : Nat} {v : Value} {l : List Itm} {w : World} (hP : P < w.heap.size) (c0 : w.cell? ⟨P, 0, none⟩ = some v) (hrow : Its base 50 v l w) (hl : l.length ≤ 16) (hpos : 0 < l.length) :
    Calls Try.prog 32 #[.pointer (some ⟨P, 0, none⟩)] w fun e w' => e = .returned (.int .i64 (worst l)) ∧ Below w.heap.size w w' := by
  obtain ⟨g, cap, rfl, hbg, hg, hcap, hmax, hcell, _⟩ := hrow.form_pos hpos
  have HC := Lib.hid hcell
  have HS0 := Lib.hid (worst_zero l)
  clear hrow hcell hbg
  obtain ⟨n, hn⟩ : ∃ n, l.length = n := ⟨_, rfl⟩
  have HN := Lib.hid hn
  rw [hn] at hl hcap c0 hpos HS0
  clear hn
  go_enter Try.func32, Try.ntmps32
  go_wp2
  go_loopg [3, 4] n (fun gg m' i' wx => ∃ m i : Nat, i + gg = n ∧ m' = .int .i64 m ∧ i' = .int .i64 i ∧ m < n ∧ Hid (scanW l (n - i) m i = worst l) ∧ Below w.heap.size w wx)
  case atStart => exact ⟨0, 0, by omega, rfl, rfl, hpos, Lib.hid HS0.out, Below.refl _ _⟩
  case round =>
    obtain ⟨m, i, hig, rfl, rfl, hmn, HS, hB⟩ := hrel
    have k0 := (hB.cell (p := ⟨P, 0, none⟩) hP).trans c0
    cases gk with
    | zero =>
      obtain rfl : i = n := by omega
      have HE : Hid (m = worst l) := Lib.hid (by have := HS.out; rw [show i - i = 0 by omega] at this; exact this)
      go_wp2
      go_ret
      exact ⟨by rw [← HE.out]; rfl, hB⟩
    | succ gg =>
      have hin : i < n := by omega
      have hin2 : (i : Int) < (n : Int) := by omega
      have hmn2 : (m : Int) < (n : Int) := by omega
      obtain ⟨d0, d1, d2⟩ := HC.out i (by rw [HN.out]; exact hin)
      obtain ⟨e0, e1, e2⟩ := HC.out m (by rw [HN.out]; exact hmn)
      have hst := scanW_step l m i (by rw [HN.out]; exact hin)
      rw [HN.out, HS.out] at hst
      have HST := Lib.hid hst
      have a0 := (hB.cell (p := ⟨g, i * 3, none⟩) hg).trans d0
      have a1 := (hB.cell (p := ⟨g, i * 3 + 1, none⟩) hg).trans d1
      have b0 := (hB.cell (p := ⟨g, m * 3, none⟩) hg).trans e0
      have b1 := (hB.cell (p := ⟨g, m * 3 + 1, none⟩) hg).trans e1
      have hgo : goes l[i]! l[m]! = goes ⟨l[i]!.name, l[i]!.many, 0⟩ ⟨l[m]!.name, l[m]!.many, 0⟩ := rfl
      obtain ⟨q, hq⟩ : ∃ q, goes l[i]! l[m]! = q := ⟨_, rfl⟩
      rw [hq] at hst hgo
      have HQ := Lib.hid hq
      have HST := Lib.hid hst
      clear d0 d1 d2 e0 e1 e2 hst hq
      generalize l[i]!.name = xn at a0 hgo
      generalize l[i]!.many = xm at a1 hgo
      generalize l[m]!.name = yn at b0 hgo
      generalize l[m]!.many = ym at b1 hgo
      have HGO := Lib.hid hgo
      clear hgo
      have HEND : Hid (∀ (m2 : Nat), m2 = (if q = true then i else m) → scanW l (n - (i + 1)) m2 (i + 1) = worst l) := Lib.hid fun m2 h2 => by subst h2; exact HST.out.symm
      by_cases h1 : xm < ym
      · have hqt : q = true := HGO.out.trans (goes_iff.2 (.inl h1))
        have HQT := Lib.hid hqt
        have t1 : decide (xm < ym) = true := by simp [h1]
        clear h1 hqt
        go_wp2
        go_quiet (fail)
        go_wp2
        go_roundg gg
        case measure => omega
        case rel => exact ⟨i, i + 1, by omega, rfl, by go_num, hin, Lib.hid (HEND.out _ (by rw [HQT.out]; rfl)), below_drewN hB _⟩
      · have t1 : decide (xm < ym) = false := by simp; omega
        by_cases h2 : xm = ym
        · have hqt : q = Op.bytesLess xn.toList yn.toList := HGO.out.trans (by unfold goes lessN; simp [h2])
          subst h2
          have t2 : ((xm : Int) == (xm : Int)) = true := by simp
          cases hb : Op.bytesLess xn.toList yn.toList with
          | true =>
            rw [hb] at hqt
            have HQT := Lib.hid hqt
            clear h1 hqt
            go_wp2
            go_quiet (fail)
            go_wp2
            go_roundg gg
            case measure => omega
            case rel => exact ⟨i, i + 1, by omega, rfl, by go_num, hin, Lib.hid (HEND.out _ (by rw [HQT.out]; rfl)), below_drewN hB _⟩
          | false =>
            rw [hb] at hqt
            have HQT := Lib.hid hqt
            clear h1 hqt
            go_wp2
            go_quiet (fail)
            go_wp2
            go_roundg gg
            case measure => omega
            case rel => exact ⟨m, i + 1, by omega, rfl, by go_num, hmn, Lib.hid (HEND.out _ (by rw [HQT.out]; rfl)), below_drewN hB _⟩
        · have hqt : q = false := HGO.out.trans (goes_not.2 (.inl (by show ym < xm; omega)))
          have HQT := Lib.hid hqt
          have t2 : ((xm : Int) == (ym : Int)) = false := by simp; omega
          clear h1 h2 hqt
          go_wp2
          go_quiet (fail)
          go_wp2
          go_roundg gg
          case measure => omega
          case rel => exact ⟨m, i + 1, by omega, rfl, by go_num, hmn, Lib.hid (HEND.out _ (by rw [HQT.out]; rfl)), below_drewN hB _⟩
theorem ref_worst {base P room : Nat} {v : Value} {l : List Itm} {w : World} (h : RTp base P room v l w) (hpos : 0 < l.length) :
    Calls Try.prog 32 #[.pointer (some ⟨P, 0, none⟩)] w fun e w' => e = .returned (.int .i64 (worst l)) ∧ Below w.heap.size w w' :=
  ref_worst_s h.lt h.c0 h.row (Nat.le_trans h.inv.len h.inv.hi) hpos
end Go.Proofs.Ytnkhieackclniaa
