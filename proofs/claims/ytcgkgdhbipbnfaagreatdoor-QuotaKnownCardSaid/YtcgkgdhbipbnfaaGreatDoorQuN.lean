/- A new quota. -/
import Derived.Test.YtcgkgdhbipbnfaaGreatDoorQuD
import Derived.Test.YtcgkgdhbipbnfaaGreatDoorReg2
namespace Go.Proofs.YtcgkgdhbipbnfaaGreatDoor.Qu
open Go Go.RowKit

theorem ok_made2 {P : Program} {Ψ : Array Bool → World → Prop} {l : List Oper} {Q : Exit → Act → World → Prop} {Φ : Nat → Value → World → Prop} {k : Nat} {o : Oper} {a : Act} {w w2 : World} {v : Value} {listed : Array Bool} (hw : Region.wanted o (yielded l.toArray a.tmps) = true)
    (hrun : (execOp a.eval o).run P w = .ok (.value v) w2) (hΨ : Ψ (listed.setIfInBounds k true) w2) (hv : Φ k v w2) :
    if Region.wanted o (yielded l.toArray a.tmps) then o.wp P a w (fun a' w' => ∃ v, a' = a.put o.dst v ∧ Ψ (listed.setIfInBounds k true) w' ∧ Φ k v w') Q else Ψ (listed.setIfInBounds k true) w ∧ Φ k undef w := by
  rw [if_pos hw]
  unfold Oper.wp
  rw [hrun]
  exact ⟨v, rfl, hΨ, hv⟩
/-- The stages of the making: what lies behind each. -/
structure Nw (S0 b r : Nat) (C : Array Value) (w0 : World) (i : Nat) (w : World) : Prop where
  below : Below S0 w0 w
  size : w.heap.size = S0 + [0, 4, 5, 6, 7, 8].getD i 0
  now : 2 ≤ i → Hl.Sk (S0 + 4) b (zl b) w
  old : 3 ≤ i → Hl.Sk (S0 + 5) b (zl b) w
  top : 4 ≤ i → Tq.Tp (S0 + 6) (S0 + 6) r (.slice none 0 0) [] w
  box : 5 ≤ i → CellsAt (S0 + 7) C w
section
variable {S0 b r : Nat} {C : Array Value} {w0 w w' : World}
theorem Nw.next1 (h : Nw S0 b r C w0 0 w) (hB : Below w.heap.size w w') (hz : w'.heap.size = w.heap.size + 4) : Nw S0 b r C w0 1 w' :=
  ⟨h.below.trans (hB.mono (by rw [h.size]; exact Nat.le_add_right _ _)), by rw [hz, h.size]; rfl, by omega, by omega, by omega, by omega⟩
theorem Nw.next2 (h : Nw S0 b r C w0 1 w) (hB : Below (S0 + [0, 4, 5, 6, 7, 8].getD 1 0) w w') (hT : Hl.Sk (S0 + [0, 4, 5, 6, 7, 8].getD 1 0) b (zl b) w') (hz : w'.heap.size = S0 + [0, 4, 5, 6, 7, 8].getD 1 0 + 1) : Nw S0 b r C w0 2 w' :=
  ⟨h.below.trans (hB.mono (Nat.le_add_right _ _)), by rw [hz]; rfl, fun _ => hT, by omega, by omega, by omega⟩
theorem Nw.next3 (h : Nw S0 b r C w0 2 w) (hB : Below (S0 + [0, 4, 5, 6, 7, 8].getD 2 0) w w') (hT : Hl.Sk (S0 + [0, 4, 5, 6, 7, 8].getD 2 0) b (zl b) w') (hz : w'.heap.size = S0 + [0, 4, 5, 6, 7, 8].getD 2 0 + 1) : Nw S0 b r C w0 3 w' :=
  ⟨h.below.trans (hB.mono (Nat.le_add_right _ _)), by rw [hz]; rfl, fun _ => (h.now (by omega)).below (by rw [h.size]; exact hB), fun _ => hT, by omega, by omega⟩
theorem Nw.next4 (h : Nw S0 b r C w0 3 w) (hB : Below (S0 + [0, 4, 5, 6, 7, 8].getD 3 0) w w') (hT : Tq.Tp (S0 + [0, 4, 5, 6, 7, 8].getD 3 0) (S0 + [0, 4, 5, 6, 7, 8].getD 3 0) r (.slice none 0 0) [] w') (hz : w'.heap.size = S0 + [0, 4, 5, 6, 7, 8].getD 3 0 + 1) : Nw S0 b r C w0 4 w' :=
  ⟨h.below.trans (hB.mono (Nat.le_add_right _ _)), by rw [hz]; rfl, fun _ => (h.now (by omega)).below (by rw [h.size]; exact hB), fun _ => (h.old (by omega)).below (by rw [h.size]; exact hB), fun _ => hT, by omega⟩
theorem Nw.next5 (h : Nw S0 b r C w0 4 w) : Nw S0 b r C w0 5 (w.alloc (.cells C 92)) := by
  have hB : Below w.heap.size w (w.alloc (.cells C 92)) := (Below.refl _ _).alloc (Nat.le_refl _) _
  exact ⟨h.below.trans (hB.mono (by rw [h.size]; exact Nat.le_add_right _ _)), by rw [World.size_alloc, h.size]; rfl, fun _ => (h.now (by omega)).below hB, fun _ => (h.old (by omega)).below hB, fun _ => (h.top (by omega)).below hB,
    fun _ => CellsAt.newAt C _ _ _ (by rw [h.size]; rfl)⟩
end
/-- What the world is, by what is done. -/
def NwPsi (S0 b r : Nat) (C : Array Value) (w0 : World) (ls : Array Bool) (w : World) : Prop :=
  Nw S0 b r C w0 (if ls[13]? = some true then 5 else if ls[11]? = some true then 4 else if ls[8]? = some true then 3 else if ls[5]? = some true then 2 else if ls[2]? = some true then 1 else 0) w
section
variable {S0 b r : Nat} {C : Array Value} {w0 w w' : World} {ls : Array Bool}
theorem nof {o : Option Bool} (h : o = some false) : ¬ o = some true := by rw [h]; simp
theorem NwPsi.bel (h : NwPsi S0 b r C w0 ls w) : Below S0 w0 w := h.below
theorem NwPsi.stay (h : NwPsi S0 b r C w0 ls w) (k : Nat) (hk : k ≠ 2 ∧ k ≠ 5 ∧ k ≠ 8 ∧ k ≠ 11 ∧ k ≠ 13) : NwPsi S0 b r C w0 (ls.setIfInBounds k true) w := by
  unfold NwPsi at h ⊢
  rw [Array.getElem?_setIfInBounds_ne hk.1, Array.getElem?_setIfInBounds_ne hk.2.1, Array.getElem?_setIfInBounds_ne hk.2.2.1, Array.getElem?_setIfInBounds_ne hk.2.2.2.1, Array.getElem?_setIfInBounds_ne hk.2.2.2.2]
  exact h
theorem NwPsi.zero (m : Nat) (h : Nw S0 b r C w0 0 w) : NwPsi S0 b r C w0 (Array.replicate m false) w := by
  have e : ∀ j, ¬ (Array.replicate m false)[j]? = some true := fun j => by rw [Array.getElem?_replicate]; split <;> simp
  unfold NwPsi
  rw [if_neg (e _), if_neg (e _), if_neg (e _), if_neg (e _), if_neg (e _)]
  exact h
theorem NwPsi.at0 (h : NwPsi S0 b r C w0 ls w) (h2 : ls[2]? = some false) (h5 : ls[5]? = some false) (h8 : ls[8]? = some false) (h11 : ls[11]? = some false) (h13 : ls[13]? = some false) : Nw S0 b r C w0 0 w := by
  unfold NwPsi at h; rwa [if_neg (nof h13), if_neg (nof h11), if_neg (nof h8), if_neg (nof h5), if_neg (nof h2)] at h
theorem NwPsi.at1 (h : NwPsi S0 b r C w0 ls w) (h2 : ls[2]? = some true) (h5 : ls[5]? = some false) (h8 : ls[8]? = some false) (h11 : ls[11]? = some false) (h13 : ls[13]? = some false) : Nw S0 b r C w0 1 w := by
  unfold NwPsi at h; rwa [if_neg (nof h13), if_neg (nof h11), if_neg (nof h8), if_neg (nof h5), if_pos h2] at h
theorem NwPsi.at2 (h : NwPsi S0 b r C w0 ls w) (h5 : ls[5]? = some true) (h8 : ls[8]? = some false) (h11 : ls[11]? = some false) (h13 : ls[13]? = some false) : Nw S0 b r C w0 2 w := by
  unfold NwPsi at h; rwa [if_neg (nof h13), if_neg (nof h11), if_neg (nof h8), if_pos h5] at h
theorem NwPsi.at3 (h : NwPsi S0 b r C w0 ls w) (h8 : ls[8]? = some true) (h11 : ls[11]? = some false) (h13 : ls[13]? = some false) : Nw S0 b r C w0 3 w := by
  unfold NwPsi at h; rwa [if_neg (nof h13), if_neg (nof h11), if_pos h8] at h
theorem NwPsi.at4 (h : NwPsi S0 b r C w0 ls w) (h11 : ls[11]? = some true) (h13 : ls[13]? = some false) : Nw S0 b r C w0 4 w := by
  unfold NwPsi at h; rwa [if_neg (nof h13), if_pos h11] at h
theorem NwPsi.at5 (h : NwPsi S0 b r C w0 ls w) (h13 : ls[13]? = some true) : Nw S0 b r C w0 5 w := by
  unfold NwPsi at h; rwa [if_pos h13] at h
theorem NwPsi.to1 (hs : ls.size = 16) (h5 : ls[5]? = some false) (h8 : ls[8]? = some false) (h11 : ls[11]? = some false) (h13 : ls[13]? = some false) (h : Nw S0 b r C w0 1 w) : NwPsi S0 b r C w0 (ls.setIfInBounds 2 true) w := by
  unfold NwPsi
  rwa [Array.getElem?_setIfInBounds_ne (by decide), Array.getElem?_setIfInBounds_ne (by decide), Array.getElem?_setIfInBounds_ne (by decide), Array.getElem?_setIfInBounds_ne (by decide), if_neg (nof h13), if_neg (nof h11), if_neg (nof h8), if_neg (nof h5), if_pos (by simp [hs])]
theorem NwPsi.to2 (hs : ls.size = 16) (h8 : ls[8]? = some false) (h11 : ls[11]? = some false) (h13 : ls[13]? = some false) (h : Nw S0 b r C w0 2 w) : NwPsi S0 b r C w0 (ls.setIfInBounds 5 true) w := by
  unfold NwPsi
  rwa [Array.getElem?_setIfInBounds_ne (by decide), Array.getElem?_setIfInBounds_ne (by decide), Array.getElem?_setIfInBounds_ne (by decide), if_neg (nof h13), if_neg (nof h11), if_neg (nof h8), if_pos (by simp [hs])]
theorem NwPsi.to3 (hs : ls.size = 16) (h11 : ls[11]? = some false) (h13 : ls[13]? = some false) (h : Nw S0 b r C w0 3 w) : NwPsi S0 b r C w0 (ls.setIfInBounds 8 true) w := by
  unfold NwPsi
  rwa [Array.getElem?_setIfInBounds_ne (by decide), Array.getElem?_setIfInBounds_ne (by decide), if_neg (nof h13), if_neg (nof h11), if_pos (by simp [hs])]
theorem NwPsi.to4 (hs : ls.size = 16) (h13 : ls[13]? = some false) (h : Nw S0 b r C w0 4 w) : NwPsi S0 b r C w0 (ls.setIfInBounds 11 true) w := by
  unfold NwPsi
  rwa [Array.getElem?_setIfInBounds_ne (by decide), if_neg (nof h13), if_pos (by simp [hs])]
theorem NwPsi.to5 (hs : ls.size = 16) (h : Nw S0 b r C w0 5 w) : NwPsi S0 b r C w0 (ls.setIfInBounds 13 true) w := by
  unfold NwPsi
  rwa [if_pos (by simp [hs])]
end
def NwPhi (S0 X b r : Nat) (win x0 x1 x2 x5 x6 x7 x8 x9 : Int) (q : Option Addr) (l d : Nat) : Nat → Value → World → Prop
  | i, v, _ => v = ([.int .i64 win, .agg #[.int .i64 x0, .int .i64 x1, .int .i64 x2, .int .i64 (r : Int), .int .i64 (b : Int), .int .i64 x5, .int .i64 x6, .int .i64 x7, .int .i64 x8, .int .i64 x9, .slice q l d], .agg #[.bool false, .int .u64 (min x1 x2), .int .u64 x2], .pointer (some ⟨X, 4, none⟩), .int .i64 ((b : Int)), .pointer (some ⟨S0 + 4, 0, none⟩), .pointer (some ⟨X, 4, none⟩), .int .i64 ((b : Int)), .pointer (some ⟨S0 + 5, 0, none⟩), .pointer (some ⟨X, 3, none⟩), .int .i64 ((r : Int)), .pointer (some ⟨S0 + 6, 0, none⟩), .agg #[.int .i64 win, .bool false, .int .u64 (min x1 x2), .int .u64 x2, .pointer (some ⟨S0 + 4, 0, none⟩), .pointer (some ⟨S0 + 5, 0, none⟩), .pointer (some ⟨S0 + 6, 0, none⟩)], .pointer (some ⟨S0 + 7, 0, none⟩), .pointer (some ⟨S0 + 7, 0, none⟩), .int .i64 0] : List Value).getD i undef
theorem NwPhi.stays {S0 X b r : Nat} {win x0 x1 x2 x5 x6 x7 x8 x9 : Int} {q : Option Addr} {l d : Nat} : ∀ i v wx wy, NwPhi S0 X b r win x0 x1 x2 x5 x6 x7 x8 x9 q l d i v wx → NwPhi S0 X b r win x0 x1 x2 x5 x6 x7 x8 x9 q l d i v wy := fun _ _ _ _ h => h
theorem five_get (i : Nat) : [0, 4, 5, 6, 7, 8].getD i 0 = [0, 4, 5, 6, 7, 8].getD i 0 := rfl
set_option maxRecDepth 100000 in
set_option maxHeartbeats 16000000 in
theorem new_in (x0 x1 x2 x5 x6 x7 x8 x9 win : Int) (r b : Nat) (q : Option Addr) (l d : Nat) (t : List Int) (hr : Po.rightZ [x0, x1, x2, (r : Int), (b : Int), x5, x6, x7, x8, x9] t = true) (hw0 : 0 ≤ win) (hw1 : win ≤ 9223372036854775807) (w : World) (hT : Po.Tr (fun _ => False) (.slice q l d) t w) :
    Calls Tryz.prog 11 #[.agg #[.int .i64 x0, .int .i64 x1, .int .i64 x2, .int .i64 (r : Int), .int .i64 (b : Int), .int .i64 x5, .int .i64 x6, .int .i64 x7, .int .i64 x8, .int .i64 x9, .slice q l d], .int .i64 win] w fun e w' => ∃ a : Ad, e = .returned (.tuple #[.pointer (some ⟨a.B, 0, none⟩), .int .i64 0]) ∧ Qo w.heap.size a ⟨win, false, min x1 x2, x2, b, zl b, zl b, r, []⟩ w' ∧ Below w.heap.size w w' := by
  obtain ⟨hn1, hn2, hn3, hn4, hbd⟩ := Po.right_in hr
  have hin : ∀ x ∈ [x0, x1, x2, (r : Int), (b : Int), x5, x6, x7, x8, x9], In64 x := fun x hx => Po.in64_of (hn1 x hx)
  have hx1 := hn1 x1 (by simp)
  have hx2 := hn1 x2 (by simp)
  have HX1 := Lib.hid hx1
  have HX2 := Lib.hid hx2
  obtain ⟨hb1, hb2, hr1, hr2⟩ : 4 ≤ b ∧ b ≤ 10 ∧ 1 ≤ r ∧ r ≤ 16 := by
    have h := hbd
    simp [Po.boundZ, Po.inZ] at h
    omega
  have HB1 := Lib.hid hb1
  have HB2 := Lib.hid hb2
  have HR1 := Lib.hid hr1
  have HR2 := Lib.hid hr2
  have hBx : Below w.heap.size w (w.alloc (.cells #[.int .i64 x0, .int .i64 x1, .int .i64 x2, .int .i64 (r : Int), .int .i64 (b : Int), .int .i64 x5, .int .i64 x6, .int .i64 x7, .int .i64 x8, .int .i64 x9, .slice q l d] 24)) := (Below.refl _ _).alloc (Nat.le_refl _) _
  have HX0 := Lib.hid (CellsAt.new #[.int .i64 x0, .int .i64 x1, .int .i64 x2, .int .i64 (r : Int), .int .i64 (b : Int), .int .i64 x5, .int .i64 x6, .int .i64 x7, .int .i64 x8, .int .i64 x9, .slice q l d] 24 w)
  have hri := Po.right_any (fun _ => False) [x0, x1, x2, (r : Int), (b : Int), x5, x6, x7, x8, x9] t (.slice q l d) (w.alloc (.cells #[.int .i64 x0, .int .i64 x1, .int .i64 x2, .int .i64 (r : Int), .int .i64 (b : Int), .int .i64 x5, .int .i64 x6, .int .i64 x7, .int .i64 x8, .int .i64 x9, .slice q l d] 24)) rfl hin (hT.below hBx)
  rw [Po.right_same _ _ rfl, hr] at hri
  have HBX := Lib.hid hBx
  have HW := Lib.hid (And.intro hw0 hw1)
  have hwn : ¬ win < 0 := by omega
  clear hn1 hn2 hn3 hn4 hbd hin hx1 hx2 hb1 hb2 hr1 hr2 hBx hT hr hw0 hw1
  go_enter Tryz.func11, Tryz.ntmps11
  go_wp2_with fail
  refine hri.mono ?_
  rintro e w1 ⟨rfl, hB1⟩
  have HB := Lib.hid (HBX.out.trans (hB1.mono HBX.out.size))
  have HX := Lib.hid (HX0.out.below hB1)
  have hXs : w.heap.size < w1.heap.size := HX.out.lt
  obtain ⟨X, hXe⟩ : ∃ X, w.heap.size = X := ⟨_, rfl⟩
  obtain ⟨S0, hS0⟩ : ∃ S, w1.heap.size = S := ⟨_, rfl⟩
  rw [hXe] at HX
  rw [hXe, hS0] at hXs
  have HXS := Lib.hid hXs
  have HXE := Lib.hid hXe
  have HS0 := Lib.hid hS0
  clear hB1 hri HBX HX0 hXs hS0
  go_wp2_with fail
  clear hXe
  refine Reg2.wp_region_inv2 (n := 27) (NwPsi S0 b r #[.int .i64 win, .bool false, .int .u64 (min x1 x2), .int .u64 x2, .pointer (some ⟨S0 + 4, 0, none⟩), .pointer (some ⟨S0 + 5, 0, none⟩), .pointer (some ⟨S0 + 6, 0, none⟩)] w1.drew) (NwPhi S0 X b r win x0 x1 x2 x5 x6 x7 x8 x9 q l d) (by kernel_rfl) (by kernel_rfl) rfl NwPhi.stays (NwPsi.zero _ ⟨Below.refl _ _, by rw [World.size_drew, HS0.out]; rfl, by omega, by omega, by omega, by omega⟩) ?_ ?_
  · refine ⟨?_, ?_, ?_, ?_, ?_, ?_, ?_, ?_, ?_, ?_, ?_, ?_, ?_, ?_, ?_, ?_, trivial⟩
    · intro ls cx wc hΨ hls hun hcl hpr hp hs
      have g1 : cx.tmps[1]? = some (.int .i64 win) := (hs 1 (by kernel_rfl)).trans rfl
      refine Reg2.ok_value (v := .int .i64 win) (Reg.wanted_none rfl) ?_ (hΨ.stay 0 (by decide)) rfl
      go_simp
    · intro ls cx wc hΨ hls hun hcl hpr hp hs
      have g2 : cx.tmps[2]? = some (.pointer (some ⟨X, 0, none⟩)) := (hs 2 (by kernel_rfl)).trans rfl
      have hc := CellsAt.belowAt HX.out.drew hΨ.bel HXS.out
      have k0 := hc.cell 0 _ rfl
      have k1 := hc.cell 1 _ rfl
      have k2 := hc.cell 2 _ rfl
      have k3 := hc.cell 3 _ rfl
      have k4 := hc.cell 4 _ rfl
      have k5 := hc.cell 5 _ rfl
      have k6 := hc.cell 6 _ rfl
      have k7 := hc.cell 7 _ rfl
      have k8 := hc.cell 8 _ rfl
      have k9 := hc.cell 9 _ rfl
      have k10 := hc.cell 10 _ rfl
      simp only [List.getElem_toArray, List.getElem_cons_zero, List.getElem_cons_succ] at k0 k1 k2 k3 k4 k5 k6 k7 k8 k9 k10
      refine Reg2.ok_value (v := .agg #[.int .i64 x0, .int .i64 x1, .int .i64 x2, .int .i64 (r : Int), .int .i64 (b : Int), .int .i64 x5, .int .i64 x6, .int .i64 x7, .int .i64 x8, .int .i64 x9, .slice q l d]) (Reg.wanted_none rfl) ?_ (hΨ.stay 1 (by decide)) rfl
      go_simp
    · intro ls cx wc hΨ hls hun hcl hpr hp hs
      have g14 : cx.tmps[14]? = some (.agg #[.int .i64 x0, .int .i64 x1, .int .i64 x2, .int .i64 (r : Int), .int .i64 (b : Int), .int .i64 x5, .int .i64 x6, .int .i64 x7, .int .i64 x8, .int .i64 x9, .slice q l d]) := by obtain ⟨_, g, hv⟩ := Reg.pred hp 1 14 (by kernel_rfl) rfl rfl; exact g.trans (congrArg some hv)
      have n5 := Reg2.not_done hcl hls 9 5 2 _ rfl (by kernel_rfl) hun
      have n8 := Reg2.not_done hcl hls 9 8 2 _ rfl (by kernel_rfl) hun
      have n11 := Reg2.not_done hcl hls 9 11 2 _ rfl (by kernel_rfl) hun
      have n13 := Reg2.not_done hcl hls 9 13 2 _ rfl (by kernel_rfl) hun
      have hst := hΨ.at0 hun n5 n8 n11 n13
      have hcc := opengate_any x0 x1 x2 (r : Int) (b : Int) x5 x6 x7 x8 x9 q l d HX1.out HX2.out wc
      refine Reg2.ok_call (f := 33) (args := #[.agg #[.int .i64 x0, .int .i64 x1, .int .i64 x2, .int .i64 (r : Int), .int .i64 (b : Int), .int .i64 x5, .int .i64 x6, .int .i64 x7, .int .i64 x8, .int .i64 x9, .slice q l d]]) (Reg.wanted_none rfl) (by go_simp) (hcc.mono ?_)
      rintro e w' ⟨rfl, hB2, hz⟩
      exact ⟨_, rfl, NwPsi.to1 hls n5 n8 n11 n13 (hst.next1 hB2 hz), rfl⟩
    · intro ls cx wc hΨ hls hun hcl hpr hp hs
      have g2 : cx.tmps[2]? = some (.pointer (some ⟨X, 0, none⟩)) := (hs 2 (by kernel_rfl)).trans rfl
      refine Reg2.ok_value (v := .pointer (some ⟨X, 4, none⟩)) (Reg.wanted_none rfl) ?_ (hΨ.stay 3 (by decide)) rfl
      go_simp
    · intro ls cx wc hΨ hls hun hcl hpr hp hs
      have g16 : cx.tmps[16]? = some (.pointer (some ⟨X, 4, none⟩)) := by obtain ⟨_, g, hv⟩ := Reg.pred hp 3 16 (by kernel_rfl) rfl rfl; exact g.trans (congrArg some hv)
      have hc := CellsAt.belowAt HX.out.drew hΨ.bel HXS.out
      have k4 := hc.cell 4 _ rfl
      simp only [List.getElem_toArray, List.getElem_cons_zero, List.getElem_cons_succ] at k4
      refine Reg2.ok_value (v := .int .i64 ((b : Int))) (Reg.wanted_none rfl) ?_ (hΨ.stay 4 (by decide)) rfl
      go_simp
    · intro ls cx wc hΨ hls hun hcl hpr hp hs
      have g17 : cx.tmps[17]? = some (.int .i64 ((b : Int))) := by obtain ⟨_, g, hv⟩ := Reg.pred hp 4 17 (by kernel_rfl) rfl rfl; exact g.trans (congrArg some hv)
      have h2 := Reg2.reach_done hcl 9 5 2 _ rfl hpr (by kernel_rfl)
      have n8 := Reg2.not_done hcl hls 9 8 5 _ rfl (by kernel_rfl) hun
      have n11 := Reg2.not_done hcl hls 9 11 5 _ rfl (by kernel_rfl) hun
      have n13 := Reg2.not_done hcl hls 9 13 5 _ rfl (by kernel_rfl) hun
      have hst := hΨ.at1 h2 hun n8 n11 n13
      have hcc := nothing_any b HB1.out HB2.out wc
      rw [hst.size] at hcc
      refine Reg2.ok_call (f := 34) (args := #[.int .i64 ((b : Int))]) (Reg.wanted_none rfl) (by go_simp) (hcc.mono ?_)
      rintro e w' ⟨rfl, hB2, hT, hz⟩
      exact ⟨_, rfl, NwPsi.to2 hls n8 n11 n13 (hst.next2 hB2 hT hz), rfl⟩
    · intro ls cx wc hΨ hls hun hcl hpr hp hs
      have g2 : cx.tmps[2]? = some (.pointer (some ⟨X, 0, none⟩)) := (hs 2 (by kernel_rfl)).trans rfl
      refine Reg2.ok_value (v := .pointer (some ⟨X, 4, none⟩)) (Reg.wanted_none rfl) ?_ (hΨ.stay 6 (by decide)) rfl
      go_simp
    · intro ls cx wc hΨ hls hun hcl hpr hp hs
      have g19 : cx.tmps[19]? = some (.pointer (some ⟨X, 4, none⟩)) := by obtain ⟨_, g, hv⟩ := Reg.pred hp 6 19 (by kernel_rfl) rfl rfl; exact g.trans (congrArg some hv)
      have hc := CellsAt.belowAt HX.out.drew hΨ.bel HXS.out
      have k4 := hc.cell 4 _ rfl
      simp only [List.getElem_toArray, List.getElem_cons_zero, List.getElem_cons_succ] at k4
      refine Reg2.ok_value (v := .int .i64 ((b : Int))) (Reg.wanted_none rfl) ?_ (hΨ.stay 7 (by decide)) rfl
      go_simp
    · intro ls cx wc hΨ hls hun hcl hpr hp hs
      have g20 : cx.tmps[20]? = some (.int .i64 ((b : Int))) := by obtain ⟨_, g, hv⟩ := Reg.pred hp 7 20 (by kernel_rfl) rfl rfl; exact g.trans (congrArg some hv)
      have h5 := Reg2.reach_done hcl 9 8 5 _ rfl hpr (by kernel_rfl)
      have n11 := Reg2.not_done hcl hls 9 11 8 _ rfl (by kernel_rfl) hun
      have n13 := Reg2.not_done hcl hls 9 13 8 _ rfl (by kernel_rfl) hun
      have hst := hΨ.at2 h5 hun n11 n13
      have hcc := nothing_any b HB1.out HB2.out wc
      rw [hst.size] at hcc
      refine Reg2.ok_call (f := 34) (args := #[.int .i64 ((b : Int))]) (Reg.wanted_none rfl) (by go_simp) (hcc.mono ?_)
      rintro e w' ⟨rfl, hB2, hT, hz⟩
      exact ⟨_, rfl, NwPsi.to3 hls n11 n13 (hst.next3 hB2 hT hz), rfl⟩
    · intro ls cx wc hΨ hls hun hcl hpr hp hs
      have g2 : cx.tmps[2]? = some (.pointer (some ⟨X, 0, none⟩)) := (hs 2 (by kernel_rfl)).trans rfl
      refine Reg2.ok_value (v := .pointer (some ⟨X, 3, none⟩)) (Reg.wanted_none rfl) ?_ (hΨ.stay 9 (by decide)) rfl
      go_simp
    · intro ls cx wc hΨ hls hun hcl hpr hp hs
      have g22 : cx.tmps[22]? = some (.pointer (some ⟨X, 3, none⟩)) := by obtain ⟨_, g, hv⟩ := Reg.pred hp 9 22 (by kernel_rfl) rfl rfl; exact g.trans (congrArg some hv)
      have hc := CellsAt.belowAt HX.out.drew hΨ.bel HXS.out
      have k3 := hc.cell 3 _ rfl
      simp only [List.getElem_toArray, List.getElem_cons_zero, List.getElem_cons_succ] at k3
      refine Reg2.ok_value (v := .int .i64 ((r : Int))) (Reg.wanted_none rfl) ?_ (hΨ.stay 10 (by decide)) rfl
      go_simp
    · intro ls cx wc hΨ hls hun hcl hpr hp hs
      have g23 : cx.tmps[23]? = some (.int .i64 ((r : Int))) := by obtain ⟨_, g, hv⟩ := Reg.pred hp 10 23 (by kernel_rfl) rfl rfl; exact g.trans (congrArg some hv)
      have h8 := Reg2.reach_done hcl 9 11 8 _ rfl hpr (by kernel_rfl)
      have n13 := Reg2.not_done hcl hls 9 13 11 _ rfl (by kernel_rfl) hun
      have hst := hΨ.at3 h8 hun n13
      have hcc := nobody_any r HR1.out HR2.out wc
      rw [hst.size] at hcc
      refine Reg2.ok_call (f := 35) (args := #[.int .i64 ((r : Int))]) (Reg.wanted_none rfl) (by go_simp) (hcc.mono ?_)
      rintro e w' ⟨rfl, hB2, hT, hz⟩
      exact ⟨_, rfl, NwPsi.to4 hls n13 (hst.next4 hB2 hT hz), rfl⟩
    · intro ls cx wc hΨ hls hun hcl hpr hp hs
      have g13 : cx.tmps[13]? = some (.int .i64 win) := by obtain ⟨_, g, hv⟩ := Reg.pred hp 0 13 (by kernel_rfl) rfl rfl; exact g.trans (congrArg some hv)
      have g15 : cx.tmps[15]? = some (.agg #[.bool false, .int .u64 (min x1 x2), .int .u64 x2]) := by obtain ⟨_, g, hv⟩ := Reg.pred hp 2 15 (by kernel_rfl) rfl rfl; exact g.trans (congrArg some hv)
      have g18 : cx.tmps[18]? = some (.pointer (some ⟨S0 + 4, 0, none⟩)) := by obtain ⟨_, g, hv⟩ := Reg.pred hp 5 18 (by kernel_rfl) rfl rfl; exact g.trans (congrArg some hv)
      have g21 : cx.tmps[21]? = some (.pointer (some ⟨S0 + 5, 0, none⟩)) := by obtain ⟨_, g, hv⟩ := Reg.pred hp 8 21 (by kernel_rfl) rfl rfl; exact g.trans (congrArg some hv)
      have g24 : cx.tmps[24]? = some (.pointer (some ⟨S0 + 6, 0, none⟩)) := by obtain ⟨_, g, hv⟩ := Reg.pred hp 11 24 (by kernel_rfl) rfl rfl; exact g.trans (congrArg some hv)
      refine Reg2.ok_value (v := .agg #[.int .i64 win, .bool false, .int .u64 (min x1 x2), .int .u64 x2, .pointer (some ⟨S0 + 4, 0, none⟩), .pointer (some ⟨S0 + 5, 0, none⟩), .pointer (some ⟨S0 + 6, 0, none⟩)]) (Reg.wanted_none rfl) ?_ (hΨ.stay 12 (by decide)) rfl
      go_simp
    · intro ls cx wc hΨ hls hun hcl hpr hp hs
      have g25 : cx.tmps[25]? = some (.agg #[.int .i64 win, .bool false, .int .u64 (min x1 x2), .int .u64 x2, .pointer (some ⟨S0 + 4, 0, none⟩), .pointer (some ⟨S0 + 5, 0, none⟩), .pointer (some ⟨S0 + 6, 0, none⟩)]) := by obtain ⟨_, g, hv⟩ := Reg.pred hp 12 25 (by kernel_rfl) rfl rfl; exact g.trans (congrArg some hv)
      have h11 := Reg2.reach_done hcl 9 13 11 _ rfl hpr (by kernel_rfl)
      have hst := hΨ.at4 h11 hun
      refine ok_made2 (v := .pointer (some ⟨S0 + 7, 0, none⟩)) (w2 := wc.alloc (.cells #[.int .i64 win, .bool false, .int .u64 (min x1 x2), .int .u64 x2, .pointer (some ⟨S0 + 4, 0, none⟩), .pointer (some ⟨S0 + 5, 0, none⟩), .pointer (some ⟨S0 + 6, 0, none⟩)] 92)) (Reg.wanted_none rfl) ?_ (NwPsi.to5 hls  hst.next5) rfl
      go_simp
      exact hst.size
    · intro ls cx wc hΨ hls hun hcl hpr hp hs
      have g26 : cx.tmps[26]? = some (.pointer (some ⟨S0 + 7, 0, none⟩)) := by obtain ⟨_, g, hv⟩ := Reg.pred hp 13 26 (by kernel_rfl) rfl rfl; exact g.trans (congrArg some hv)
      refine Reg2.ok_value (v := .pointer (some ⟨S0 + 7, 0, none⟩)) (Reg.wanted_none rfl) ?_ (hΨ.stay 14 (by decide)) rfl
      go_simp
    · intro ls cx wc hΨ hls hun hcl hpr hp hs
      refine Reg2.ok_value (v := .int .i64 0) (Reg.wanted_none rfl) ?_ (hΨ.stay 15 (by decide)) rfl
      go_simp
  · intro ls c9 wc hΨ hls hall hsz hdf hv ho
    have hfr := Reg.frame_eq [_, _, _, _, .pointer (some ⟨S0 + 7, 0, none⟩), .int .i64 0, _, _, _, _, _, _, _, .int .i64 win, .agg #[.int .i64 x0, .int .i64 x1, .int .i64 x2, .int .i64 (r : Int), .int .i64 (b : Int), .int .i64 x5, .int .i64 x6, .int .i64 x7, .int .i64 x8, .int .i64 x9, .slice q l d], .agg #[.bool false, .int .u64 (min x1 x2), .int .u64 x2], .pointer (some ⟨X, 4, none⟩), .int .i64 ((b : Int)), .pointer (some ⟨S0 + 4, 0, none⟩), .pointer (some ⟨X, 4, none⟩), .int .i64 ((b : Int)), .pointer (some ⟨S0 + 5, 0, none⟩), .pointer (some ⟨X, 3, none⟩), .int .i64 ((r : Int)), .pointer (some ⟨S0 + 6, 0, none⟩), .agg #[.int .i64 win, .bool false, .int .u64 (min x1 x2), .int .u64 x2, .pointer (some ⟨S0 + 4, 0, none⟩), .pointer (some ⟨S0 + 5, 0, none⟩), .pointer (some ⟨S0 + 6, 0, none⟩)], .pointer (some ⟨S0 + 7, 0, none⟩)] (by simpa using hsz) hdf ⟨((Reg.kept ho 0 (by kernel_rfl)).trans rfl), ((Reg.kept ho 1 (by kernel_rfl)).trans rfl), ((Reg.kept ho 2 (by kernel_rfl)).trans rfl), ((Reg.kept ho 3 (by kernel_rfl)).trans rfl), (by obtain ⟨_, g, hx⟩ := hv 14 _ 4 rfl rfl; exact g.trans (congrArg some hx)), (by obtain ⟨_, g, hx⟩ := hv 15 _ 5 rfl rfl; exact g.trans (congrArg some hx)), ((Reg.kept ho 6 (by kernel_rfl)).trans rfl), ((Reg.kept ho 7 (by kernel_rfl)).trans rfl), ((Reg.kept ho 8 (by kernel_rfl)).trans rfl), ((Reg.kept ho 9 (by kernel_rfl)).trans rfl), ((Reg.kept ho 10 (by kernel_rfl)).trans rfl), ((Reg.kept ho 11 (by kernel_rfl)).trans rfl), ((Reg.kept ho 12 (by kernel_rfl)).trans rfl), (by obtain ⟨_, g, hx⟩ := hv 0 _ 13 rfl rfl; exact g.trans (congrArg some hx)), (by obtain ⟨_, g, hx⟩ := hv 1 _ 14 rfl rfl; exact g.trans (congrArg some hx)), (by obtain ⟨_, g, hx⟩ := hv 2 _ 15 rfl rfl; exact g.trans (congrArg some hx)), (by obtain ⟨_, g, hx⟩ := hv 3 _ 16 rfl rfl; exact g.trans (congrArg some hx)), (by obtain ⟨_, g, hx⟩ := hv 4 _ 17 rfl rfl; exact g.trans (congrArg some hx)), (by obtain ⟨_, g, hx⟩ := hv 5 _ 18 rfl rfl; exact g.trans (congrArg some hx)), (by obtain ⟨_, g, hx⟩ := hv 6 _ 19 rfl rfl; exact g.trans (congrArg some hx)), (by obtain ⟨_, g, hx⟩ := hv 7 _ 20 rfl rfl; exact g.trans (congrArg some hx)), (by obtain ⟨_, g, hx⟩ := hv 8 _ 21 rfl rfl; exact g.trans (congrArg some hx)), (by obtain ⟨_, g, hx⟩ := hv 9 _ 22 rfl rfl; exact g.trans (congrArg some hx)), (by obtain ⟨_, g, hx⟩ := hv 10 _ 23 rfl rfl; exact g.trans (congrArg some hx)), (by obtain ⟨_, g, hx⟩ := hv 11 _ 24 rfl rfl; exact g.trans (congrArg some hx)), (by obtain ⟨_, g, hx⟩ := hv 12 _ 25 rfl rfl; exact g.trans (congrArg some hx)), (by obtain ⟨_, g, hx⟩ := hv 13 _ 26 rfl rfl; exact g.trans (congrArg some hx)), trivial⟩
    subst hfr
    have h5 := hΨ.at5 (hall 13 (by decide))
    have H5 := Lib.hid h5
    clear hΨ hls hall hsz hdf hv ho h5
    go_wp2
    go_ret2
    have hle : w.heap.size ≤ S0 := by rw [HXE.out]; exact Nat.le_of_lt HXS.out
    have hb := H5.out
    refine ⟨⟨S0 + 7, S0 + 4, S0 + 5, S0 + 6, .slice none 0 0⟩, rfl, ⟨Nat.le_trans hle (Nat.le_add_right _ _), Nat.le_trans hle (Nat.le_add_right _ _), Nat.le_trans hle (Nat.le_add_right _ _), ?_, hb.box (by decide), hb.now (by decide), hb.old (by decide), Hl.Low.zero _, Hl.Low.zero _, (hb.top (by decide)).mono (Nat.le_trans hle (Nat.le_add_right _ _)), HW.out, ?_, ?_⟩, (HB.out.drew).trans (hb.below.mono hle)⟩
    · exact ⟨by show S0 + 7 ≠ S0 + 4; omega, by show S0 + 7 ≠ S0 + 5; omega, by show S0 + 7 ≠ S0 + 6; omega, by show S0 + 4 ≠ S0 + 5; omega, by show S0 + 4 ≠ S0 + 6; omega, by show S0 + 5 ≠ S0 + 6; omega, by simp [Value.ownBlock], by simp [Value.ownBlock], by simp [Value.ownBlock]⟩
    · have h1 := HX1.out
      have h2 := HX2.out
      show 0 ≤ min x1 x2 ∧ min x1 x2 < 18446744073709551616
      omega
    · have h2 := HX2.out
      show 0 ≤ x2 ∧ x2 < 18446744073709551616
      omega
end Go.Proofs.YtcgkgdhbipbnfaaGreatDoor.Qu

