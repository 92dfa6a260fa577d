/- Lines that are right. -/
import Derived.Test.YtdmkiiggpelmaaaGreatDoorLnE
import Derived.BigQuiet
namespace Go.Proofs.YtdmkiiggpelmaaaGreatDoor.Lx
open Go Go.RowKit

theorem named_empty : namedL [] = false := rfl
theorem named_long {l : List UInt8} (h : 64 < l.length) : namedL l = false := by
  unfold namedL shortL
  rw [decide_eq_false (by omega)]
  simp
theorem named_mid {l : List UInt8} (h0 : l ≠ []) (h : l.length ≤ 64) : namedL l = plainL l := by
  unfold namedL shortL
  rw [decide_eq_true h]
  cases l with
  | nil => exact absurd rfl h0
  | cons => simp
set_option maxHeartbeats 2000000 in
theorem isname_any (l : List UInt8) (hl : l.length ≤ maxLen) (w : World) :
    Calls Tryz.prog 27 #[.string (tx l)] w fun e w' => e = .returned (.bool (namedL l)) ∧ w' = w := by
  have hs : (tx l).size = l.length := tx_len l
  have hp := fun w => plains_ok (tx l) (by rw [tx_len]; exact hl) w
  rw [list_tx] at hp
  unfold maxLen at hl
  by_cases h0 : l = []
  · subst h0
    have he := txt_empty
    rw [named_empty]
    clear hp hl
    have hs0 : (tx []).size ≤ 0 := by rw [tx_len]; exact Nat.le_refl _
    clear hs
    generalize tx [] = T at he hs0 ⊢
    go_enter Tryz.func27, Tryz.ntmps27
    go_wp2
    go_ret
    exact ⟨rfl, rfl⟩
  · have he1 := txt_no h0
    have he2 := txt_ne h0
    by_cases h : 64 < l.length
    · rw [named_long h]
      rw [← hs] at h hl
      clear hp hs
      generalize tx l = T at he1 he2 h hl ⊢
      go_enter Tryz.func27, Tryz.ntmps27
      go_wp2
      go_ret
      exact ⟨rfl, rfl⟩
    · rw [named_mid h0 (by omega)]
      have h : l.length ≤ 64 := by omega
      rw [← hs] at h
      clear hs hl
      generalize plainL l = q at hp ⊢
      generalize tx l = T at he1 he2 h hp ⊢
      go_enter Tryz.func27, Tryz.ntmps27
      go_wp2_with fail
      refine (hp _).mono ?_
      rintro e w1 ⟨rfl, rfl⟩
      go_wp2
      go_ret
      exact ⟨rfl, rfl⟩

/-- Labels that lie somewhere. -/
def LbAt (p : Option Addr) (ls : List Lab) (w : World) : Prop :=
  ∀ k (hk : k < ls.length), ∃ C off, p = some ⟨C, off, none⟩ ∧ C < w.heap.size ∧ w.cell? ⟨C, off + k * 2, none⟩ = some (.string (tx ls[k].1)) ∧ w.cell? ⟨C, off + k * 2 + 1, none⟩ = some (.string (tx ls[k].2)) ∧ ls[k].1.length ≤ maxLen ∧ ls[k].2.length ≤ maxLen
theorem LbAt.below {p : Option Addr} {ls : List Lab} {w w' : World} (h : LbAt p ls w) (hB : Below w.heap.size w w') : LbAt p ls w' := fun k hk => by
  obtain ⟨C, off, h1, h2, h3, h4, h5, h6⟩ := h k hk
  exact ⟨C, off, h1, Nat.lt_of_lt_of_le h2 hB.size, (hB.cell (p := ⟨C, off + k * 2, none⟩) h2).trans h3, (hB.cell (p := ⟨C, off + k * 2 + 1, none⟩) h2).trans h4, h5, h6⟩
theorem LbAt.nil (p : Option Addr) (w : World) : LbAt p [] w := fun k hk => by simp at hk
theorem OwnL.lies {B : Nat} {p : Option Addr} {n cap : Nat} {ls : List Lab} {w : World} (h : OwnL B (.slice p n cap) ls w) (hb : ∀ x ∈ ls, x.1.length ≤ maxLen ∧ x.2.length ≤ maxLen) : LbAt p ls w := fun k hk => by
  rcases h.form with ⟨_, rfl⟩ | ⟨g, cap', hv, _, hg, _, hc⟩
  · simp at hk
  · simp only [Value.slice.injEq] at hv
    obtain ⟨rfl, _, _⟩ := hv
    obtain ⟨c1, c2⟩ := hc k hk
    obtain ⟨b1, b2⟩ := hb _ (List.getElem_mem hk)
    exact ⟨g, 0, rfl, hg, by rw [Nat.zero_add]; exact c1, by rw [Nat.zero_add]; exact c2, b1, b2⟩
def okL (x : Lab) : Bool := namedL x.1 && namedL x.2
theorem rightF_eq (n : List UInt8) (ls : List Lab) (a b : Int) : rightF ⟨n, ls, a, b⟩ = (decide (0 ≤ b) && (decide (ls.length ≤ 16) && (namedL n && ls.all okL))) := by
  unfold rightF okL
  simp only
  cases namedL n <;> cases decide (0 ≤ b) <;> cases decide (ls.length ≤ 16) <;> simp

set_option maxRecDepth 100000 in
set_option maxHeartbeats 4000000 in
theorem right_any (n : List UInt8) (hn : n.length ≤ maxLen) (p : Option Addr) (cap : Nat) (ls : List Lab) (a b : Int) (hlm : ls.length ≤ maxLen) (w : World) (hL : LbAt p ls w) :
    Calls Tryz.prog 13 #[.agg (lineC (tx n) (.slice p ls.length cap) a b)] w fun e w' => e = .returned (.bool (rightF ⟨n, ls, a, b⟩)) ∧ Below w.heap.size w w' := by
  rw [rightF_eq]
  have hnm := fun w => isname_any n hn w
  have HL0 := Lib.hid (hL.below ((Below.refl _ _).alloc (Nat.le_refl _) (.cells (lineC (tx n) (.slice p ls.length cap) a b) 24)))
  have HB0 : Hid (Below w.heap.size w (w.alloc (.cells (lineC (tx n) (.slice p ls.length cap) a b) 24))) := Lib.hid ((Below.refl _ _).alloc (Nat.le_refl _) _)
  have HC0 := Lib.hid (CellsAt.new (lineC (tx n) (.slice p ls.length cap) a b) 24 w)
  unfold maxLen at hlm
  clear hL hn
  by_cases hb : 0 ≤ b
  rotate_left
  · rw [decide_eq_false hb]
    have hb : b < 0 := by omega
    clear hnm
    go_enter Tryz.func13, Tryz.ntmps13
    go_wp2
    go_ret
    exact ⟨rfl, HB0.out⟩
  rw [decide_eq_true hb]
  by_cases hm : ls.length ≤ 16
  rotate_left
  · rw [decide_eq_false hm]
    have hm : 16 < ls.length := by omega
    clear hnm
    go_enter Tryz.func13, Tryz.ntmps13
    go_wp2
    go_ret
    exact ⟨rfl, HB0.out⟩
  rw [decide_eq_true hm]
  by_cases hn : namedL n = true
  rotate_left
  · have hn : namedL n = false := by simpa using hn
    rw [hn] at hnm ⊢
    clear hn
    go_enter Tryz.func13, Tryz.ntmps13
    go_wp2_with fail
    refine (hnm _).mono ?_
    rintro e w1 ⟨rfl, rfl⟩
    go_wp2
    go_ret
    exact ⟨rfl, HB0.out⟩
  rw [hn] at hnm ⊢
  obtain ⟨V, hV⟩ : ∃ V, ls.all okL = V := ⟨_, rfl⟩
  rw [hV]
  have HV := Lib.hid hV
  clear hn hV
  go_enter Tryz.func13, Tryz.ntmps13
  go_wp2_with fail
  refine (hnm _).mono ?_
  rintro e w1 ⟨rfl, rfl⟩
  clear hnm
  go_wp2
  go_loopg [23] ls.length (fun g s23 wx => ∃ k : Nat, s23 = .int .i64 (k : Int) ∧ g + k = ls.length ∧ Hid (V = (ls.drop k).all okL) ∧ Hid (LbAt p ls wx) ∧ Hid (Below w.heap.size w wx))
  case atStart => exact ⟨0, rfl, rfl, Lib.hid HV.out.symm, HL0, HB0⟩
  case round =>
    clear HL0 HB0 HV
    obtain ⟨k, rfl, hgk, HV, HL, HB⟩ := hrel
    cases gk with
    | zero =>
      have hk : k = ls.length := by omega
      subst hk
      have hr := HV.out
      rw [List.drop_length, List.all_nil] at hr
      obtain rfl : V = true := hr
      clear HV HL
      go_wp2
      go_ret
      exact ⟨rfl, HB.out⟩
    | succ g =>
      have hlt : k < ls.length := by omega
      obtain ⟨C, off, rfl, hC, c0, c1, b0, b1⟩ := HL.out k hlt
      have hr := HV.out
      rw [List.drop_eq_getElem_cons hlt, List.all_cons] at hr
      have HR := Lib.hid hr
      clear hr HV
      generalize ls[k] = x at c0 c1 b0 b1 HR
      obtain ⟨x1, x2⟩ := x
      have hn1 := fun w => isname_any x1 b0 w
      have hn2 := fun w => isname_any x2 b1 w
      have HB1 := Lib.hid (HB.out.alloc HB.out.size (.cells #[.string (tx x1), .string (tx x2)] 46))
      have HL1 := Lib.hid (HL.out.below ((Below.refl _ _).alloc (Nat.le_refl _) (.cells #[.string (tx x1), .string (tx x2)] 46)))
      clear HB HL b0 b1
      by_cases h1 : namedL x1 = true
      · rw [h1] at hn1
        by_cases h2 : namedL x2 = true
        · rw [h2] at hn2
          have HR2 : Hid (V = (ls.drop (k + 1)).all okL) := Lib.hid (by rw [HR.out]; unfold okL; rw [h1, h2]; rfl)
          clear h1 h2 HR
          generalize tx x1 = y1 at *
          generalize tx x2 = y2 at *
          go_wp2_with fail
          refine (hn1 _).mono ?_
          rintro e w1 ⟨rfl, rfl⟩
          go_wp2_with fail
          refine (hn2 _).mono ?_
          rintro e w1 ⟨rfl, rfl⟩
          go_wp2
          go_roundg g
          case measure => omega
          case rel => exact ⟨k + 1, by go_num, by omega, HR2, HL1, HB1⟩
        · have h2 : namedL x2 = false := by simpa using h2
          rw [h2] at hn2
          obtain rfl : V = false := by rw [HR.out]; unfold okL; rw [h1, h2]; rfl
          clear h1 h2 HR
          generalize tx x1 = y1 at *
          generalize tx x2 = y2 at *
          go_wp2_with fail
          refine (hn1 _).mono ?_
          rintro e w1 ⟨rfl, rfl⟩
          go_wp2_with fail
          refine (hn2 _).mono ?_
          rintro e w1 ⟨rfl, rfl⟩
          go_wp2
          go_ret
          exact ⟨rfl, HB1.out⟩
      · have h1 : namedL x1 = false := by simpa using h1
        rw [h1] at hn1
        obtain rfl : V = false := by rw [HR.out]; unfold okL; rw [h1]; rfl
        clear h1 HR hn2
        generalize tx x1 = y1 at *
        generalize tx x2 = y2 at *
        go_wp2_with fail
        refine (hn1 _).mono ?_
        rintro e w1 ⟨rfl, rfl⟩
        go_wp2
        go_ret
        exact ⟨rfl, HB1.out⟩
end Go.Proofs.YtdmkiiggpelmaaaGreatDoor.Lx
