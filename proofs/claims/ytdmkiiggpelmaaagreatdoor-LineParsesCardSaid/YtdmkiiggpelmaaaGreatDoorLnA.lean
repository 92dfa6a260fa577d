/- Readers of lines: the next word; a name; what is sure. -/
import Derived.Test.YtdmkiiggpelmaaaGreatDoorLxC
import Derived.Test.YtdmkiiggpelmaaaGreatDoorFxK
import Derived.Test.YtdmkiiggpelmaaaGreatDoorLnMath
namespace Go.Proofs.YtdmkiiggpelmaaaGreatDoor.Lx
open Go Go.RowKit

/-- What a reader of lines holds: what is left, what ended the word ahead. -/
abbrev LrAt (B : Nat) (l : List UInt8) (y : Int) (w : World) : Prop := CellsAt B #[.string (tx l), .int .u8 y] w
theorem cutV_some (a r : List UInt8) (z : Option UInt8) : cutV (some (a, r, z)) = .tuple #[.string (tx a), .string (tx r), .int .u8 (stopI z), .int .i64 0] := by cases z <;> rfl
theorem cells_mov {b : Nat} {vs : Array Value} {w w' : World} {S : Nat → Prop} (h : CellsAt b vs w) (hM : Mov S w w') (hb : ¬ S b) : CellsAt b vs w' :=
  ⟨Nat.lt_of_lt_of_le h.lt hM.size, fun i v hi => (hM.cell h.lt hb).trans (h.cell i v hi), fun i v hi => (hM.frozen h.lt hb).trans (h.fro i v hi)⟩
theorem txt_empty : (tx []).toList = [] := by rw [Lib.toList_data, list_tx]
theorem txt_no {l : List UInt8} (h : l ≠ []) : (tx l).toList.isEmpty = false := by
  rw [Lib.toList_data, list_tx]
  cases l with
  | nil => exact absurd rfl h
  | cons => rfl
theorem txt_ne {l : List UInt8} (h : l ≠ []) : (!(tx l).toList.isEmpty) = true := by rw [txt_no h]; rfl
theorem stopI_lo (z : Option UInt8) : 0 ≤ stopI z ∧ stopI z ≤ 255 := by
  cases z with
  | none => exact ⟨by decide, by decide⟩
  | some b => have := b.toNat_lt; show 0 ≤ (b.toNat : Int) ∧ (b.toNat : Int) ≤ 255; omega

section
variable (B : Nat) (l : List UInt8) (y : Int) (st : ByteArray)
theorem cut_of (hst : (92 : UInt8) ∉ st.data.toList) (hl : l.length ≤ 1024) (w : World) :
    Calls Tryz.prog 46 #[.string (tx l), .string st] w fun e w' => e = .returned (cutV (cutL st.data.toList l)) ∧ Below w.heap.size w w' := by
  have h := cut_ok (tx l) st (by rw [tx_len]; omega) hst (Nat.le_trans (goneL_le _ _) (by rw [list_tx]; omega)) w
  rwa [list_tx] at h

set_option maxHeartbeats 2000000 in
theorem word_no (hst : (92 : UInt8) ∉ st.data.toList) (hl : l.length ≤ 1024) (h : wordP st.data.toList l = none) (w : World) (hR : LrAt B l y w) :
    Calls Tryz.prog 32 #[.pointer (some ⟨B, 0, none⟩), .string st] w fun e w' => e = PE 2 ∧ Below w.heap.size w w' := by
  have hcut := cut_of l st hst hl
  have c0 := hR.cell 0 _ rfl
  clear hR
  rcases word_none h with hc | ⟨p, r, z, hc, hz0, hs0⟩
  · rw [hc] at hcut
    change ∀ w, Calls _ _ _ w fun e w' => e = .returned (.tuple #[.string ⟨#[]⟩, .string ⟨#[]⟩, .int .u8 0, .int .i64 2]) ∧ Below w.heap.size w w' at hcut
    clear hc h hst hl
    generalize tx l = s at c0 hcut
    go_enter Tryz.func32, Tryz.ntmps32
    go_wp2_with fail
    refine (hcut _).mono ?_
    rintro e w1 ⟨rfl, hB⟩
    go_wp2
    exact ⟨rfl, rfl, hB⟩
  · rw [hc, cutV_some, hz0] at hcut
    have hst2 : st.toList.isEmpty = false := by
      rw [Lib.toList_data]
      simpa using hs0
    have hst3 : (!st.toList.isEmpty) = true := by rw [hst2]; rfl
    clear hc h hst hl hz0 hs0
    generalize tx l = s at c0 hcut
    generalize tx r = q at hcut
    generalize tx p = p at hcut
    go_enter Tryz.func32, Tryz.ntmps32
    go_wp2_with fail
    refine (hcut _).mono ?_
    rintro e w1 ⟨rfl, hB⟩
    go_wp2
    exact ⟨rfl, rfl, hB⟩
set_option maxHeartbeats 2000000 in
theorem word_yes (hst : (92 : UInt8) ∉ st.data.toList) (hl : l.length ≤ 1024) {x t : List UInt8} {k : Int} (h : wordP st.data.toList l = some (x, t, k)) (w : World) (hR : LrAt B l y w) :
    Calls Tryz.prog 32 #[.pointer (some ⟨B, 0, none⟩), .string st] w fun e w' => e = .returned (.string (tx x)) ∧ LrAt B t k w' ∧ Mov (fun j => j = B) w w' := by
  have hcut := cut_of l st hst hl
  have c0 := hR.cell 0 _ rfl
  obtain ⟨z, hc, hz, hx⟩ := word_spec h
  rw [hc, cutV_some, hz] at hcut
  have HR := Lib.hid hR
  have hx2 : (k == 0) = false ∨ (k == 0) = true ∧ st = ⟨#[]⟩ := by
    by_cases hk : k = 0
    · refine .inr ⟨by rw [hk]; rfl, ?_⟩
      obtain ⟨⟨d⟩⟩ := st
      rcases hx with h | h
      · exact absurd hk h
      · exact congrArg (fun d => ByteArray.mk ⟨d⟩) h
    · exact .inl (by simpa using hk)
  clear hc h hst hl hz hR hx
  generalize tx l = s at c0 hcut HR
  generalize tx x = p at hcut ⊢
  generalize hq : tx t = q at hcut
  have HQ := Lib.hid hq
  clear hq
  rcases hx2 with hx | ⟨hx, rfl⟩
  all_goals
    go_enter Tryz.func32, Tryz.ntmps32
    go_wp2_with fail
    refine (hcut _).mono ?_
    rintro e w1 ⟨rfl, hB⟩
    have hR1 := HR.out.below hB
    have c1 := hR1.cell 0 _ rfl
    have c2 := hR1.cell 1 _ rfl
    have f1 := hR1.fro 0 _ rfl
    have f2 := hR1.fro 1 _ rfl
    have HR1 := Lib.hid hR1
    clear hR1 c0
    go_wp2
    go_ret
    refine ⟨rfl, ?_, Mov.set (S := fun j => j = B) (Mov.set (S := fun j => j = B) (Mov.ofB hB) rfl 0 _) rfl 1 _⟩
    show CellsAt B #[.string (tx t), .int .u8 k] _
    rw [HQ.out]
    exact (HR1.out.set 0 (.string q) (by simp)).set 1 (.int .u8 k) (by simp)
end
end Go.Proofs.YtdmkiiggpelmaaaGreatDoor.Lx
