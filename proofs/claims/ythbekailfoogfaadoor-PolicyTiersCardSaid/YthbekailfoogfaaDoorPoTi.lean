/- PolicyTiers walked. -/
import Derived.Test.YthbekailfoogfaaDoorPoBe
import Derived.Test.YthbekailfoogfaaDoorPoWr
namespace Go.Proofs.YthbekailfoogfaaDoor.Po
open Go Go.RowKit

def okJ (l : List Int) (j : Nat) : Bool := decide (1 ≤ l.getD j 0) && (decide (j = 0) || (decide (0 < l.getD (j - 1) 0) && (decide (l.getD (j - 1) 0 < l.getD j 0) && decide (l.getD j 0 % l.getD (j - 1) 0 = 0))))
def wantF (l : List Int) (k i : Nat) : Bool := (decide (1 ≤ k) && decide (k ≤ 3)) && (List.range i).all (okJ l)
theorem wantF_succ (l : List Int) (k i : Nat) : wantF l k (i + 1) = (wantF l k i && okJ l i) := by
  unfold wantF
  rw [List.range_succ, List.all_append, List.all_cons, List.all_nil, Bool.and_true]
  exact (Bool.and_assoc _ _ _).symm
theorem ints_at (l : List Int) (k : Nat) (hk : k < l.length) : ((l.map fun x => Value.int .i64 x).toArray)[k]? = some (.int .i64 (l.getD k 0)) := by
  rw [List.getElem?_toArray, List.getElem?_map, List.getElem?_eq_getElem hk, List.getD_eq_getElem?_getD, List.getElem?_eq_getElem hk]
  rfl
theorem list_in (x y z : Nat) (hx : x < 256) (hy : y < 256) (hz : z < 256) (i j : Nat) : (0 ≤ ([(x : Int), (y : Int), (z : Int), (z : Int) * 2] : List Int).getD i 0 ∧ ([(x : Int), (y : Int), (z : Int), (z : Int) * 2] : List Int).getD i 0 ≤ 510) ∧ (0 ≤ ([(x : Int), (y : Int), (z : Int), (z : Int) * 2] : List Int).getD j 0 ∧ ([(x : Int), (y : Int), (z : Int), (z : Int) * 2] : List Int).getD j 0 ≤ 510) := by
  have h : ∀ k, 0 ≤ ([(x : Int), (y : Int), (z : Int), (z : Int) * 2] : List Int).getD k 0 ∧ ([(x : Int), (y : Int), (z : Int), (z : Int) * 2] : List Int).getD k 0 ≤ 510 := fun k => by
    match k with
    | 0 => simp; omega
    | 1 => simp; omega
    | 2 => simp; omega
    | 3 => simp; omega
    | n + 4 => simp
  exact ⟨h i, h j⟩
theorem want_right (x y z : Nat) (hx : x < 256) (hy : y < 256) (hz : z < 256) (k : Nat) (hk : k < 5) : wantF [(x : Int), (y : Int), (z : Int), (z : Int) * 2] k k = rightZ baseZ.n (([(x : Int), (y : Int), (z : Int), (z : Int) * 2] : List Int).take k) := by
  have h : k = 0 ∨ k = 1 ∨ k = 2 ∨ k = 3 ∨ k = 4 := by omega
  rcases h with rfl | rfl | rfl | rfl | rfl
  · rw [show (([(x : Int), (y : Int), (z : Int), (z : Int) * 2] : List Int).take 0) = [] from rfl, tiers_none]; rfl
  · rw [show (([(x : Int), (y : Int), (z : Int), (z : Int) * 2] : List Int).take 1) = [(x : Int)] from rfl, tiers_one (by omega), Bool.eq_iff_iff]
    simp [wantF, okJ]
  · rw [show (([(x : Int), (y : Int), (z : Int), (z : Int) * 2] : List Int).take 2) = [(x : Int), (y : Int)] from rfl, tiers_two (by omega) (by omega), Bool.eq_iff_iff]
    simp [wantF, okJ, List.range_succ]
    omega
  · rw [show (([(x : Int), (y : Int), (z : Int), (z : Int) * 2] : List Int).take 3) = [(x : Int), (y : Int), (z : Int)] from rfl, tiers_three (by omega) (by omega) (by omega), Bool.eq_iff_iff]
    simp [wantF, okJ, List.range_succ]
    omega
  · rw [show (([(x : Int), (y : Int), (z : Int), (z : Int) * 2] : List Int).take 4) = [(x : Int), (y : Int), (z : Int), (z : Int) * 2] from rfl, tiers_four]; rfl
theorem want_out (l : List Int) (k : Nat) (hk : k = 0 ∨ k = 4) (i : Nat) : wantF l k i = false := by
  unfold wantF
  rcases hk with rfl | rfl <;> rfl
theorem right_want (x y z : Nat) (hx : x < 256) (hy : y < 256) (hz : z < 256) (k : Nat) (hk : k < 5) (b : Bool) (hb : wantF [(x : Int), (y : Int), (z : Int), (z : Int) * 2] k k = b) (W : World) (R : Nat) (h : CellsAt R #[.int .i64 (x : Int), .int .i64 (y : Int), .int .i64 (z : Int), .int .i64 ((z : Int) * 2)] W) :
    Calls Tryd.prog 15 #[.agg #[.int .i64 64, .int .i64 32, .int .i64 64, .int .i64 8, .int .i64 6, .int .i64 2, .int .i64 2, .int .i64 60, .int .i64 30, .int .i64 5, .slice (some ⟨R, 0, none⟩) k 4]] W fun e w' => e = .returned (.bool b) ∧ Below W.heap.size W w' := by
  have hl : (([(x : Int), (y : Int), (z : Int), (z : Int) * 2] : List Int).take k).length = k := by rw [List.length_take]; simp; omega
  have hT : Tr (fun _ => False) (.slice (some ⟨R, 0, none⟩) k 4) (([(x : Int), (y : Int), (z : Int), (z : Int) * 2] : List Int).take k) W := by
    refine ⟨some ⟨R, 0, none⟩, 4, by rw [hl], by rw [hl]; omega, by unfold maxLen; omega, fun e => (by cases e), fun v hv => ?_, fun j hj => ⟨R, 0, rfl, h.lt, fun h => h, ?_⟩⟩
    · have := List.mem_of_mem_take hv
      simp only [List.mem_cons, List.not_mem_nil, or_false] at this
      unfold In64
      omega
    · rw [hl] at hj
      rw [Nat.zero_add, List.getElem_take]
      have := h.cell j _ (ints_at [(x : Int), (y : Int), (z : Int), (z : Int) * 2] j (by simp; omega))
      rw [this, List.getD_eq_getElem?_getD, List.getElem?_eq_getElem (by simp; omega)]
      rfl
  have := right_any _ baseZ.n _ _ W rfl (by decide) hT
  rwa [right_same baseZ.n _ rfl, ← want_right x y z hx hy hz k hk, hb] at this
set_option maxRecDepth 100000 in
set_option maxHeartbeats 16000000 in
theorem PolicyTiers_walk (a : Int) (ha : (Lit.int .u8 a).wf = true) (b : Int) (hb : (Lit.int .u8 b).wf = true) (c : Int) (hc : (Lit.int .u8 c).wf = true) (d : Int) (hd : (Lit.int .u8 d).wf = true) (w : World) (hX : Tens w) :
    Calls Tryd.prog 7 #[.int .u8 a, .int .u8 b, .int .u8 c, .int .u8 d] w fun e w' => e = .returned (.bool true) ∧ Below w.heap.size w w' := by
  have ga : 0 ≤ a ∧ a ≤ 255 := by simpa [Lit.wf, IntKind.min, IntKind.max, IntKind.signed, IntKind.bits] using ha
  have gb : 0 ≤ b ∧ b ≤ 255 := by simpa [Lit.wf, IntKind.min, IntKind.max, IntKind.signed, IntKind.bits] using hb
  have gc : 0 ≤ c ∧ c ≤ 255 := by simpa [Lit.wf, IntKind.min, IntKind.max, IntKind.signed, IntKind.bits] using hc
  have gd : 0 ≤ d ∧ d ≤ 255 := by simpa [Lit.wf, IntKind.min, IntKind.max, IntKind.signed, IntKind.bits] using hd
  obtain ⟨x, rfl⟩ : ∃ x : Nat, a = x := ⟨a.toNat, by omega⟩
  obtain ⟨y, rfl⟩ : ∃ y : Nat, b = y := ⟨b.toNat, by omega⟩
  obtain ⟨z, rfl⟩ : ∃ z : Nat, c = z := ⟨c.toNat, by omega⟩
  obtain ⟨n, rfl⟩ : ∃ n : Nat, d = n := ⟨d.toNat, by omega⟩
  have hx : x < 256 := by omega
  have hy : y < 256 := by omega
  have hz4 : z < 256 := by omega
  have hn : n < 256 := by omega
  obtain ⟨k, hk, hk5⟩ : ∃ k, n % 5 = k ∧ k < 5 := ⟨_, rfl, by omega⟩
  have hki : (n : Int) % 5 = (k : Int) := by omega
  have hzz : 0 ≤ (z : Int) * 2 ∧ (z : Int) * 2 < 9223372036854775807 := by omega
  have hex := examples_any w hX
  have HRT : Hid (∀ b, wantF [(x : Int), (y : Int), (z : Int), (z : Int) * 2] k k = b → ∀ (W : World) (R : Nat), CellsAt R #[.int .i64 (x : Int), .int .i64 (y : Int), .int .i64 (z : Int), .int .i64 ((z : Int) * 2)] W → Calls Tryd.prog 15 #[.agg #[.int .i64 64, .int .i64 32, .int .i64 64, .int .i64 8, .int .i64 6, .int .i64 2, .int .i64 2, .int .i64 60, .int .i64 30, .int .i64 5, .slice (some ⟨R, 0, none⟩) k 4]] W fun e w' => e = .returned (.bool b) ∧ Below W.heap.size W w') := Lib.hid (fun b hb W R h => right_want x y z hx hy hz4 k hk5 b hb W R h)
  clear ha hb hc hd ga gb gc gd hX hk
  go_enter Tryd.func7, Tryd.ntmps7
  go_wp2_with fail
  refine hex.mono ?_
  rintro e w1 ⟨rfl, hB1⟩
  have HB1 := Lib.hid hB1
  clear hB1
  go_wp2_with fail
  refine (base_lit _).mono ?_
  rintro e w2 ⟨p, c, rfl, hT2, hB2⟩
  have HB2 := Lib.hid (HB1.out.trans (hB2.mono HB1.out.size))
  have HT2 := Lib.hid hT2
  clear HB1 hB2 hT2
  have hk : k = 0 ∨ k = 4 ∨ (1 ≤ k ∧ k ≤ 3) := by omega
  rcases hk with hk | hk | hk
  · have HWF : Hid (∀ i, wantF [(x : Int), (y : Int), (z : Int), (z : Int) * 2] 0 i = false) := Lib.hid (want_out _ 0 (.inl rfl))
    subst hk
    have HW0 : Hid (wantF [(x : Int), (y : Int), (z : Int), (z : Int) * 2] 0 0 = false) := Lib.hid rfl
    have hki : (n : Int) % 5 = 0 := hki
    clear hex
    go_wp2
    have hA0 : CellsAt w2.heap.size #[.int .i64 64, .int .i64 32, .int .i64 64, .int .i64 8, .int .i64 6, .int .i64 2, .int .i64 2, .int .i64 60, .int .i64 30, .int .i64 5, .slice (some ⟨w2.heap.size + 1, 0, none⟩) 0 4] ((w2.alloc (.cells #[.int .i64 64, .int .i64 32, .int .i64 64, .int .i64 8, .int .i64 6, .int .i64 2, .int .i64 2, .int .i64 60, .int .i64 30, .int .i64 5, .slice (some ⟨w2.heap.size + 1, 0, none⟩) 0 4] 24)).alloc (.cells #[.int .i64 (x : Int), .int .i64 (y : Int), .int .i64 (z : Int), .int .i64 ((z : Int) * 2)] 2)) := (CellsAt.new #[.int .i64 64, .int .i64 32, .int .i64 64, .int .i64 8, .int .i64 6, .int .i64 2, .int .i64 2, .int .i64 60, .int .i64 30, .int .i64 5, .slice (some ⟨w2.heap.size + 1, 0, none⟩) 0 4] 24 w2).past _
    have hR0 : CellsAt (w2.heap.size + 1) #[.int .i64 (x : Int), .int .i64 (y : Int), .int .i64 (z : Int), .int .i64 ((z : Int) * 2)] ((w2.alloc (.cells #[.int .i64 64, .int .i64 32, .int .i64 64, .int .i64 8, .int .i64 6, .int .i64 2, .int .i64 2, .int .i64 60, .int .i64 30, .int .i64 5, .slice (some ⟨w2.heap.size + 1, 0, none⟩) 0 4] 24)).alloc (.cells #[.int .i64 (x : Int), .int .i64 (y : Int), .int .i64 (z : Int), .int .i64 ((z : Int) * 2)] 2)) := CellsAt.newAt #[.int .i64 (x : Int), .int .i64 (y : Int), .int .i64 (z : Int), .int .i64 ((z : Int) * 2)] 2 _ _ (by simp)
    have hB0 : Below w2.heap.size w2 ((w2.alloc (.cells #[.int .i64 64, .int .i64 32, .int .i64 64, .int .i64 8, .int .i64 6, .int .i64 2, .int .i64 2, .int .i64 60, .int .i64 30, .int .i64 5, .slice (some ⟨w2.heap.size + 1, 0, none⟩) 0 4] 24)).alloc (.cells #[.int .i64 (x : Int), .int .i64 (y : Int), .int .i64 (z : Int), .int .i64 ((z : Int) * 2)] 2)) := ((Below.refl _ _).alloc (Nat.le_refl _) _).alloc (by simp) _
    have HB0 := Lib.hid (HB2.out.trans (hB0.mono HB2.out.size))
    have HA0 := Lib.hid hA0
    have HR0 := Lib.hid hR0
    clear hA0 hR0 hB0 HT2 HB2
    generalize ((w2.alloc (.cells #[.int .i64 64, .int .i64 32, .int .i64 64, .int .i64 8, .int .i64 6, .int .i64 2, .int .i64 2, .int .i64 60, .int .i64 30, .int .i64 5, .slice (some ⟨w2.heap.size + 1, 0, none⟩) 0 4] 24)).alloc (.cells #[.int .i64 (x : Int), .int .i64 (y : Int), .int .i64 (z : Int), .int .i64 ((z : Int) * 2)] 2)) = W0 at *
    obtain ⟨A, hA⟩ : ∃ A, w2.heap.size = A := ⟨_, rfl⟩
    obtain ⟨R, hR⟩ : ∃ R, w2.heap.size + 1 = R := ⟨_, rfl⟩
    rw [hR] at HA0 HR0 ⊢
    rw [hA] at HA0 ⊢
    clear hA hR
    rw [hki]
    clear hki
    go_loopg [13, 14] 0 (fun g s13 s14 wx => ∃ (i : Nat) (b : Bool), s14 = .int .i64 (i : Int) ∧ s13 = .bool b ∧ g + i = 0 ∧ Hid (wantF [(x : Int), (y : Int), (z : Int), (z : Int) * 2] 0 i = b) ∧ Hid (CellsAt A #[.int .i64 64, .int .i64 32, .int .i64 64, .int .i64 8, .int .i64 6, .int .i64 2, .int .i64 2, .int .i64 60, .int .i64 30, .int .i64 5, .slice (some ⟨R, 0, none⟩) 0 4] wx) ∧ Hid (CellsAt R #[.int .i64 (x : Int), .int .i64 (y : Int), .int .i64 (z : Int), .int .i64 ((z : Int) * 2)] wx) ∧ Hid (Below w.heap.size w wx))
    case atStart => exact ⟨0, false, rfl, rfl, by omega, HW0, HA0, HR0, HB0⟩
    case round =>
      clear HA0 HR0 HB0 HW0
      obtain ⟨i, b, rfl, rfl, hgk, HW, HA, HR, HB⟩ := hrel
      cases gk with
      | zero =>
        obtain rfl : i = 0 := by omega
        have HRt := HRT.out b HW.out
        have hcA := HA.out
        have k0 : wr.cell? ⟨A, 0, none⟩ = some (.int .i64 64) := hcA.cell 0 _ rfl
        have k1 : wr.cell? ⟨A, 1, none⟩ = some (.int .i64 32) := hcA.cell 1 _ rfl
        have k2 : wr.cell? ⟨A, 2, none⟩ = some (.int .i64 64) := hcA.cell 2 _ rfl
        have k3 : wr.cell? ⟨A, 3, none⟩ = some (.int .i64 8) := hcA.cell 3 _ rfl
        have k4 : wr.cell? ⟨A, 4, none⟩ = some (.int .i64 6) := hcA.cell 4 _ rfl
        have k5 : wr.cell? ⟨A, 5, none⟩ = some (.int .i64 2) := hcA.cell 5 _ rfl
        have k6 : wr.cell? ⟨A, 6, none⟩ = some (.int .i64 2) := hcA.cell 6 _ rfl
        have k7 : wr.cell? ⟨A, 7, none⟩ = some (.int .i64 60) := hcA.cell 7 _ rfl
        have k8 : wr.cell? ⟨A, 8, none⟩ = some (.int .i64 30) := hcA.cell 8 _ rfl
        have k9 : wr.cell? ⟨A, 9, none⟩ = some (.int .i64 5) := hcA.cell 9 _ rfl
        have k10 : wr.cell? ⟨A, 10, none⟩ = some (.slice (some ⟨R, 0, none⟩) 0 4) := hcA.cell 10 _ rfl
        have hl := hcA.lt
        have hcall := HRt wr R HR.out
        have HB1 := Lib.hid HB.out
        clear hcA HA HR HB HW HRt HRT
        cases b
        all_goals go_wp2_with fail
        all_goals refine hcall.mono ?_
        all_goals rintro e w5 ⟨rfl, hB5⟩
        all_goals have HB5 := Lib.hid (HB1.out.trans (hB5.mono HB1.out.size))
        all_goals clear HB1 hB5 hcall
        all_goals go_wp2
        all_goals go_ret
        all_goals exact ⟨rfl, HB5.out⟩
      | succ g =>
        have hik : i < 0 := by omega
        have i0 : (i : Int) < 0 := by omega
        have hi4 : i < 4 := by omega
        have hS := wantF_succ [(x : Int), (y : Int), (z : Int), (z : Int) * 2] 0 i
        have hS0 := HW.out
        rw [HW.out] at hS
        have hci : wr.cell? ⟨R, i, none⟩ = some (.int .i64 (([(x : Int), (y : Int), (z : Int), (z : Int) * 2] : List Int).getD i 0)) := HR.out.cell i _ (ints_at [(x : Int), (y : Int), (z : Int), (z : Int) * 2] i (by simpa using hi4))
        have hRl := HR.out.lt
        have hdr : ∀ q, Below wr.heap.size wr (wr.drewN q) := fun q => ⟨rfl, rfl, rfl, Nat.le_refl _, fun _ _ => rfl⟩
        have HA2 := Lib.hid (fun q => HA.out.below (hdr q))
        have HR2 := Lib.hid (fun q => HR.out.below (hdr q))
        have HB2 := Lib.hid (fun q => HB.out.trans ((hdr q).mono HB.out.size))
        clear hdr HA HB HW HRT
        cases b with
        | true => exact absurd hS0 (by rw [HWF.out i]; simp)
        | false =>
          clear hS0
          have HW2 : Hid (wantF [(x : Int), (y : Int), (z : Int), (z : Int) * 2] 0 (i + 1) = false) := Lib.hid (by rw [hS]; rfl)
          clear hS HR
          go_wp2
          go_quiet (fail)
          go_wp2
          go_roundg g
          case measure => omega
          case rel => exact ⟨i + 1, false, by go_num, rfl, by omega, HW2, Lib.hid (HA2.out _), Lib.hid (HR2.out _), Lib.hid (HB2.out _)⟩
  · have HWF : Hid (∀ i, wantF [(x : Int), (y : Int), (z : Int), (z : Int) * 2] 4 i = false) := Lib.hid (want_out _ 4 (.inr rfl))
    subst hk
    have HW0 : Hid (wantF [(x : Int), (y : Int), (z : Int), (z : Int) * 2] 4 0 = false) := Lib.hid rfl
    have hki : (n : Int) % 5 = 4 := hki
    clear hex
    go_wp2
    have hA0 : CellsAt w2.heap.size #[.int .i64 64, .int .i64 32, .int .i64 64, .int .i64 8, .int .i64 6, .int .i64 2, .int .i64 2, .int .i64 60, .int .i64 30, .int .i64 5, .slice (some ⟨w2.heap.size + 1, 0, none⟩) 4 4] ((w2.alloc (.cells #[.int .i64 64, .int .i64 32, .int .i64 64, .int .i64 8, .int .i64 6, .int .i64 2, .int .i64 2, .int .i64 60, .int .i64 30, .int .i64 5, .slice (some ⟨w2.heap.size + 1, 0, none⟩) 4 4] 24)).alloc (.cells #[.int .i64 (x : Int), .int .i64 (y : Int), .int .i64 (z : Int), .int .i64 ((z : Int) * 2)] 2)) := (CellsAt.new #[.int .i64 64, .int .i64 32, .int .i64 64, .int .i64 8, .int .i64 6, .int .i64 2, .int .i64 2, .int .i64 60, .int .i64 30, .int .i64 5, .slice (some ⟨w2.heap.size + 1, 0, none⟩) 4 4] 24 w2).past _
    have hR0 : CellsAt (w2.heap.size + 1) #[.int .i64 (x : Int), .int .i64 (y : Int), .int .i64 (z : Int), .int .i64 ((z : Int) * 2)] ((w2.alloc (.cells #[.int .i64 64, .int .i64 32, .int .i64 64, .int .i64 8, .int .i64 6, .int .i64 2, .int .i64 2, .int .i64 60, .int .i64 30, .int .i64 5, .slice (some ⟨w2.heap.size + 1, 0, none⟩) 4 4] 24)).alloc (.cells #[.int .i64 (x : Int), .int .i64 (y : Int), .int .i64 (z : Int), .int .i64 ((z : Int) * 2)] 2)) := CellsAt.newAt #[.int .i64 (x : Int), .int .i64 (y : Int), .int .i64 (z : Int), .int .i64 ((z : Int) * 2)] 2 _ _ (by simp)
    have hB0 : Below w2.heap.size w2 ((w2.alloc (.cells #[.int .i64 64, .int .i64 32, .int .i64 64, .int .i64 8, .int .i64 6, .int .i64 2, .int .i64 2, .int .i64 60, .int .i64 30, .int .i64 5, .slice (some ⟨w2.heap.size + 1, 0, none⟩) 4 4] 24)).alloc (.cells #[.int .i64 (x : Int), .int .i64 (y : Int), .int .i64 (z : Int), .int .i64 ((z : Int) * 2)] 2)) := ((Below.refl _ _).alloc (Nat.le_refl _) _).alloc (by simp) _
    have HB0 := Lib.hid (HB2.out.trans (hB0.mono HB2.out.size))
    have HA0 := Lib.hid hA0
    have HR0 := Lib.hid hR0
    clear hA0 hR0 hB0 HT2 HB2
    generalize ((w2.alloc (.cells #[.int .i64 64, .int .i64 32, .int .i64 64, .int .i64 8, .int .i64 6, .int .i64 2, .int .i64 2, .int .i64 60, .int .i64 30, .int .i64 5, .slice (some ⟨w2.heap.size + 1, 0, none⟩) 4 4] 24)).alloc (.cells #[.int .i64 (x : Int), .int .i64 (y : Int), .int .i64 (z : Int), .int .i64 ((z : Int) * 2)] 2)) = W0 at *
    obtain ⟨A, hA⟩ : ∃ A, w2.heap.size = A := ⟨_, rfl⟩
    obtain ⟨R, hR⟩ : ∃ R, w2.heap.size + 1 = R := ⟨_, rfl⟩
    rw [hR] at HA0 HR0 ⊢
    rw [hA] at HA0 ⊢
    clear hA hR
    rw [hki]
    clear hki
    go_loopg [13, 14] 4 (fun g s13 s14 wx => ∃ (i : Nat) (b : Bool), s14 = .int .i64 (i : Int) ∧ s13 = .bool b ∧ g + i = 4 ∧ Hid (wantF [(x : Int), (y : Int), (z : Int), (z : Int) * 2] 4 i = b) ∧ Hid (CellsAt A #[.int .i64 64, .int .i64 32, .int .i64 64, .int .i64 8, .int .i64 6, .int .i64 2, .int .i64 2, .int .i64 60, .int .i64 30, .int .i64 5, .slice (some ⟨R, 0, none⟩) 4 4] wx) ∧ Hid (CellsAt R #[.int .i64 (x : Int), .int .i64 (y : Int), .int .i64 (z : Int), .int .i64 ((z : Int) * 2)] wx) ∧ Hid (Below w.heap.size w wx))
    case atStart => exact ⟨0, false, rfl, rfl, by omega, HW0, HA0, HR0, HB0⟩
    case round =>
      clear HA0 HR0 HB0 HW0
      obtain ⟨i, b, rfl, rfl, hgk, HW, HA, HR, HB⟩ := hrel
      cases gk with
      | zero =>
        obtain rfl : i = 4 := by omega
        have HRt := HRT.out b HW.out
        have hcA := HA.out
        have k0 : wr.cell? ⟨A, 0, none⟩ = some (.int .i64 64) := hcA.cell 0 _ rfl
        have k1 : wr.cell? ⟨A, 1, none⟩ = some (.int .i64 32) := hcA.cell 1 _ rfl
        have k2 : wr.cell? ⟨A, 2, none⟩ = some (.int .i64 64) := hcA.cell 2 _ rfl
        have k3 : wr.cell? ⟨A, 3, none⟩ = some (.int .i64 8) := hcA.cell 3 _ rfl
        have k4 : wr.cell? ⟨A, 4, none⟩ = some (.int .i64 6) := hcA.cell 4 _ rfl
        have k5 : wr.cell? ⟨A, 5, none⟩ = some (.int .i64 2) := hcA.cell 5 _ rfl
        have k6 : wr.cell? ⟨A, 6, none⟩ = some (.int .i64 2) := hcA.cell 6 _ rfl
        have k7 : wr.cell? ⟨A, 7, none⟩ = some (.int .i64 60) := hcA.cell 7 _ rfl
        have k8 : wr.cell? ⟨A, 8, none⟩ = some (.int .i64 30) := hcA.cell 8 _ rfl
        have k9 : wr.cell? ⟨A, 9, none⟩ = some (.int .i64 5) := hcA.cell 9 _ rfl
        have k10 : wr.cell? ⟨A, 10, none⟩ = some (.slice (some ⟨R, 0, none⟩) 4 4) := hcA.cell 10 _ rfl
        have hl := hcA.lt
        have hcall := HRt wr R HR.out
        have HB1 := Lib.hid HB.out
        clear hcA HA HR HB HW HRt HRT
        cases b
        all_goals go_wp2_with fail
        all_goals refine hcall.mono ?_
        all_goals rintro e w5 ⟨rfl, hB5⟩
        all_goals have HB5 := Lib.hid (HB1.out.trans (hB5.mono HB1.out.size))
        all_goals clear HB1 hB5 hcall
        all_goals go_wp2
        all_goals go_ret
        all_goals exact ⟨rfl, HB5.out⟩
      | succ g =>
        have hik : i < 4 := by omega
        have i0 : (i : Int) < 4 := by omega
        have hi4 : i < 4 := by omega
        have hS := wantF_succ [(x : Int), (y : Int), (z : Int), (z : Int) * 2] 4 i
        have hS0 := HW.out
        rw [HW.out] at hS
        have hci : wr.cell? ⟨R, i, none⟩ = some (.int .i64 (([(x : Int), (y : Int), (z : Int), (z : Int) * 2] : List Int).getD i 0)) := HR.out.cell i _ (ints_at [(x : Int), (y : Int), (z : Int), (z : Int) * 2] i (by simpa using hi4))
        have hRl := HR.out.lt
        have hdr : ∀ q, Below wr.heap.size wr (wr.drewN q) := fun q => ⟨rfl, rfl, rfl, Nat.le_refl _, fun _ _ => rfl⟩
        have HA2 := Lib.hid (fun q => HA.out.below (hdr q))
        have HR2 := Lib.hid (fun q => HR.out.below (hdr q))
        have HB2 := Lib.hid (fun q => HB.out.trans ((hdr q).mono HB.out.size))
        clear hdr HA HB HW HRT
        cases b with
        | true => exact absurd hS0 (by rw [HWF.out i]; simp)
        | false =>
          clear hS0
          have HW2 : Hid (wantF [(x : Int), (y : Int), (z : Int), (z : Int) * 2] 4 (i + 1) = false) := Lib.hid (by rw [hS]; rfl)
          clear hS HR
          go_wp2
          go_quiet (fail)
          go_wp2
          go_roundg g
          case measure => omega
          case rel => exact ⟨i + 1, false, by go_num, rfl, by omega, HW2, Lib.hid (HA2.out _), Lib.hid (HR2.out _), Lib.hid (HB2.out _)⟩
  · obtain ⟨hk1, hk3⟩ := hk
    have HW0 : Hid (wantF [(x : Int), (y : Int), (z : Int), (z : Int) * 2] k 0 = true) := Lib.hid (by unfold wantF; rw [decide_eq_true hk1, decide_eq_true hk3]; rfl)
    have j1 : 1 ≤ (k : Int) := by omega
    have j2 : (k : Int) ≤ 3 := by omega
    have j3 : 0 ≤ (k : Int) := by omega
    clear hex
    go_wp2
    have hA0 : CellsAt w2.heap.size #[.int .i64 64, .int .i64 32, .int .i64 64, .int .i64 8, .int .i64 6, .int .i64 2, .int .i64 2, .int .i64 60, .int .i64 30, .int .i64 5, .slice (some ⟨w2.heap.size + 1, 0, none⟩) k 4] ((w2.alloc (.cells #[.int .i64 64, .int .i64 32, .int .i64 64, .int .i64 8, .int .i64 6, .int .i64 2, .int .i64 2, .int .i64 60, .int .i64 30, .int .i64 5, .slice (some ⟨w2.heap.size + 1, 0, none⟩) k 4] 24)).alloc (.cells #[.int .i64 (x : Int), .int .i64 (y : Int), .int .i64 (z : Int), .int .i64 ((z : Int) * 2)] 2)) := (CellsAt.new #[.int .i64 64, .int .i64 32, .int .i64 64, .int .i64 8, .int .i64 6, .int .i64 2, .int .i64 2, .int .i64 60, .int .i64 30, .int .i64 5, .slice (some ⟨w2.heap.size + 1, 0, none⟩) k 4] 24 w2).past _
    have hR0 : CellsAt (w2.heap.size + 1) #[.int .i64 (x : Int), .int .i64 (y : Int), .int .i64 (z : Int), .int .i64 ((z : Int) * 2)] ((w2.alloc (.cells #[.int .i64 64, .int .i64 32, .int .i64 64, .int .i64 8, .int .i64 6, .int .i64 2, .int .i64 2, .int .i64 60, .int .i64 30, .int .i64 5, .slice (some ⟨w2.heap.size + 1, 0, none⟩) k 4] 24)).alloc (.cells #[.int .i64 (x : Int), .int .i64 (y : Int), .int .i64 (z : Int), .int .i64 ((z : Int) * 2)] 2)) := CellsAt.newAt #[.int .i64 (x : Int), .int .i64 (y : Int), .int .i64 (z : Int), .int .i64 ((z : Int) * 2)] 2 _ _ (by simp)
    have hB0 : Below w2.heap.size w2 ((w2.alloc (.cells #[.int .i64 64, .int .i64 32, .int .i64 64, .int .i64 8, .int .i64 6, .int .i64 2, .int .i64 2, .int .i64 60, .int .i64 30, .int .i64 5, .slice (some ⟨w2.heap.size + 1, 0, none⟩) k 4] 24)).alloc (.cells #[.int .i64 (x : Int), .int .i64 (y : Int), .int .i64 (z : Int), .int .i64 ((z : Int) * 2)] 2)) := ((Below.refl _ _).alloc (Nat.le_refl _) _).alloc (by simp) _
    have HB0 := Lib.hid (HB2.out.trans (hB0.mono HB2.out.size))
    have HA0 := Lib.hid hA0
    have HR0 := Lib.hid hR0
    clear hA0 hR0 hB0 HT2 HB2
    generalize ((w2.alloc (.cells #[.int .i64 64, .int .i64 32, .int .i64 64, .int .i64 8, .int .i64 6, .int .i64 2, .int .i64 2, .int .i64 60, .int .i64 30, .int .i64 5, .slice (some ⟨w2.heap.size + 1, 0, none⟩) k 4] 24)).alloc (.cells #[.int .i64 (x : Int), .int .i64 (y : Int), .int .i64 (z : Int), .int .i64 ((z : Int) * 2)] 2)) = W0 at *
    obtain ⟨A, hA⟩ : ∃ A, w2.heap.size = A := ⟨_, rfl⟩
    obtain ⟨R, hR⟩ : ∃ R, w2.heap.size + 1 = R := ⟨_, rfl⟩
    rw [hR] at HA0 HR0 ⊢
    rw [hA] at HA0 ⊢
    clear hA hR
    rw [hki]
    clear hki
    go_loopg [13, 14] k (fun g s13 s14 wx => ∃ (i : Nat) (b : Bool), s14 = .int .i64 (i : Int) ∧ s13 = .bool b ∧ g + i = k ∧ Hid (wantF [(x : Int), (y : Int), (z : Int), (z : Int) * 2] k i = b) ∧ Hid (CellsAt A #[.int .i64 64, .int .i64 32, .int .i64 64, .int .i64 8, .int .i64 6, .int .i64 2, .int .i64 2, .int .i64 60, .int .i64 30, .int .i64 5, .slice (some ⟨R, 0, none⟩) k 4] wx) ∧ Hid (CellsAt R #[.int .i64 (x : Int), .int .i64 (y : Int), .int .i64 (z : Int), .int .i64 ((z : Int) * 2)] wx) ∧ Hid (Below w.heap.size w wx))
    case atStart => exact ⟨0, true, rfl, rfl, by omega, HW0, HA0, HR0, HB0⟩
    case round =>
      clear HA0 HR0 HB0 HW0
      obtain ⟨i, b, rfl, rfl, hgk, HW, HA, HR, HB⟩ := hrel
      cases gk with
      | zero =>
        obtain rfl : i = k := by omega
        have HRt := HRT.out b HW.out
        have hcA := HA.out
        have k0 : wr.cell? ⟨A, 0, none⟩ = some (.int .i64 64) := hcA.cell 0 _ rfl
        have k1 : wr.cell? ⟨A, 1, none⟩ = some (.int .i64 32) := hcA.cell 1 _ rfl
        have k2 : wr.cell? ⟨A, 2, none⟩ = some (.int .i64 64) := hcA.cell 2 _ rfl
        have k3 : wr.cell? ⟨A, 3, none⟩ = some (.int .i64 8) := hcA.cell 3 _ rfl
        have k4 : wr.cell? ⟨A, 4, none⟩ = some (.int .i64 6) := hcA.cell 4 _ rfl
        have k5 : wr.cell? ⟨A, 5, none⟩ = some (.int .i64 2) := hcA.cell 5 _ rfl
        have k6 : wr.cell? ⟨A, 6, none⟩ = some (.int .i64 2) := hcA.cell 6 _ rfl
        have k7 : wr.cell? ⟨A, 7, none⟩ = some (.int .i64 60) := hcA.cell 7 _ rfl
        have k8 : wr.cell? ⟨A, 8, none⟩ = some (.int .i64 30) := hcA.cell 8 _ rfl
        have k9 : wr.cell? ⟨A, 9, none⟩ = some (.int .i64 5) := hcA.cell 9 _ rfl
        have k10 : wr.cell? ⟨A, 10, none⟩ = some (.slice (some ⟨R, 0, none⟩) i 4) := hcA.cell 10 _ rfl
        have hl := hcA.lt
        have hcall := HRt wr R HR.out
        have HB1 := Lib.hid HB.out
        clear hcA HA HR HB HW HRt HRT
        cases b
        all_goals go_wp2_with fail
        all_goals refine hcall.mono ?_
        all_goals rintro e w5 ⟨rfl, hB5⟩
        all_goals have HB5 := Lib.hid (HB1.out.trans (hB5.mono HB1.out.size))
        all_goals clear HB1 hB5 hcall
        all_goals go_wp2
        all_goals go_ret
        all_goals exact ⟨rfl, HB5.out⟩
      | succ g =>
        have hik : i < k := by omega
        have i0 : (i : Int) < (k : Int) := by omega
        have hi4 : i < 4 := by omega
        have hS := wantF_succ [(x : Int), (y : Int), (z : Int), (z : Int) * 2] k i
        rw [HW.out] at hS
        have hci : wr.cell? ⟨R, i, none⟩ = some (.int .i64 (([(x : Int), (y : Int), (z : Int), (z : Int) * 2] : List Int).getD i 0)) := HR.out.cell i _ (ints_at [(x : Int), (y : Int), (z : Int), (z : Int) * 2] i (by simpa using hi4))
        have hRl := HR.out.lt
        have hdr : ∀ q, Below wr.heap.size wr (wr.drewN q) := fun q => ⟨rfl, rfl, rfl, Nat.le_refl _, fun _ _ => rfl⟩
        have HA2 := Lib.hid (fun q => HA.out.below (hdr q))
        have HR2 := Lib.hid (fun q => HR.out.below (hdr q))
        have HB2 := Lib.hid (fun q => HB.out.trans ((hdr q).mono HB.out.size))
        clear hdr HA HB HW HRT
        cases b with
        | false =>
          have HW2 : Hid (wantF [(x : Int), (y : Int), (z : Int), (z : Int) * 2] k (i + 1) = false) := Lib.hid (by rw [hS]; rfl)
          clear hS HR
          go_wp2
          go_quiet (fail)
          go_wp2
          go_roundg g
          case measure => omega
          case rel => exact ⟨i + 1, false, by go_num, rfl, by omega, HW2, Lib.hid (HA2.out _), Lib.hid (HR2.out _), Lib.hid (HB2.out _)⟩
        | true =>
          by_cases h1 : 1 ≤ ([(x : Int), (y : Int), (z : Int), (z : Int) * 2] : List Int).getD i 0
          · cases i with
            | zero =>
              have hW : okJ [(x : Int), (y : Int), (z : Int), (z : Int) * 2] 0 = true := by unfold okJ; rw [decide_eq_true h1]; rfl
              generalize ([(x : Int), (y : Int), (z : Int), (z : Int) * 2] : List Int).getD 0 0 = li at hci h1
              have HW2 : Hid (wantF [(x : Int), (y : Int), (z : Int), (z : Int) * 2] k (0 + 1) = true) := Lib.hid (by rw [hS]; exact hW)
              clear hS HR
              go_wp2
              go_quiet (fail)
              go_wp2
              go_roundg g
              case measure => omega
              case rel => exact ⟨0 + 1, true, by go_num, rfl, by omega, HW2, Lib.hid (HA2.out _), Lib.hid (HR2.out _), Lib.hid (HB2.out _)⟩
            | succ j =>
              have hcj : wr.cell? ⟨R, j, none⟩ = some (.int .i64 (([(x : Int), (y : Int), (z : Int), (z : Int) * 2] : List Int).getD j 0)) := HR.out.cell j _ (ints_at [(x : Int), (y : Int), (z : Int), (z : Int) * 2] j (by simp; omega))
              have hok : okJ [(x : Int), (y : Int), (z : Int), (z : Int) * 2] (j + 1) = (decide (1 ≤ ([(x : Int), (y : Int), (z : Int), (z : Int) * 2] : List Int).getD (j + 1) 0) && (decide (0 < ([(x : Int), (y : Int), (z : Int), (z : Int) * 2] : List Int).getD j 0) && (decide (([(x : Int), (y : Int), (z : Int), (z : Int) * 2] : List Int).getD j 0 < ([(x : Int), (y : Int), (z : Int), (z : Int) * 2] : List Int).getD (j + 1) 0) && decide (([(x : Int), (y : Int), (z : Int), (z : Int) * 2] : List Int).getD (j + 1) 0 % ([(x : Int), (y : Int), (z : Int), (z : Int) * 2] : List Int).getD j 0 = 0)))) := by simp [okJ]
              have hz : decide ((j : Int) + 1 = 0) = false := by rw [decide_eq_false_iff_not]; omega
              have i5 : (j : Int) + 1 < (k : Int) := by omega
              have i6 : (j : Int) + 1 < 4 := by omega
              have i7 : ((j : Int) + 1).toNat = j + 1 := by omega
              have i8 : (j : Int) < 4 := by omega
              have i9 : 0 ≤ (j : Int) + 1 := by omega
              have i10 : (j : Int) < 3 := by omega
              have i11 : j < 3 := by omega
              have i12 : j < 4 := by omega
              have i13 : (j : Int) + 1 - 1 = (j : Int) := by omega
              have i14 : IntKind.i64.wrap (j : Int) = (j : Int) := by simp [IntKind.wrap, IntKind.signed, IntKind.bits]; omega
              have hz2 : ((j : Int) + 1 == 0) = false := by rw [beq_eq_false_iff_ne]; omega
              have i15 : 0 ≤ (j : Int) := by omega
              have hcast : ((j + 1 : Nat) : Int) = (j : Int) + 1 := by omega
              rw [hcast]
              rw [hok] at hS
              have HL := Lib.hid (list_in x y z hx hy hz4 (j + 1) j)
              generalize ([(x : Int), (y : Int), (z : Int), (z : Int) * 2] : List Int).getD (j + 1) 0 = li at hci h1 hS HL
              generalize ([(x : Int), (y : Int), (z : Int), (z : Int) * 2] : List Int).getD j 0 = lp at hcj hS HL
              have hlp := HL.out.2
              have hli := HL.out.1
              clear hok hcast HL
              by_cases h2 : 0 < lp
              · by_cases h3 : lp < li
                · obtain ⟨r, hr⟩ : ∃ r : Int, li % lp = r := ⟨_, rfl⟩
                  have ht1 : li.tmod lp = r := by rw [Int.tmod_eq_emod_of_nonneg (by omega)]; exact hr
                  by_cases h4 : r = 0
                  · subst h4
                    have hW := hr
                    have HW2 : Hid (wantF [(x : Int), (y : Int), (z : Int), (z : Int) * 2] k (j + 1 + 1) = true) := Lib.hid (by rw [hS]; rw [decide_eq_true h1, decide_eq_true h2, decide_eq_true h3, decide_eq_true hW]; rfl)
                    clear hS HR
                    go_wp2
                    go_quiet (fail)
                    go_wp2
                    go_roundg g
                    case measure => omega
                    case rel => exact ⟨j + 1 + 1, true, by go_num, rfl, by omega, HW2, Lib.hid (HA2.out _), Lib.hid (HR2.out _), Lib.hid (HB2.out _)⟩
                  · have h4e : (r == 0) = false := by rw [beq_eq_false_iff_ne]; exact h4
                    have h4d : decide (r = 0) = false := by rw [decide_eq_false_iff_not]; exact h4
                    have HW2 : Hid (wantF [(x : Int), (y : Int), (z : Int), (z : Int) * 2] k (j + 1 + 1) = false) := Lib.hid (by rw [hS]; rw [decide_eq_false (show ¬ li % lp = 0 by rw [hr]; exact h4)]; simp)
                    clear hS HR
                    go_wp2
                    go_quiet (fail)
                    go_wp2
                    go_roundg g
                    case measure => omega
                    case rel => exact ⟨j + 1 + 1, false, by go_num, rfl, by omega, HW2, Lib.hid (HA2.out _), Lib.hid (HR2.out _), Lib.hid (HB2.out _)⟩
                · have h3d : decide (lp < li) = false := by rw [decide_eq_false_iff_not]; exact h3
                  have HW2 : Hid (wantF [(x : Int), (y : Int), (z : Int), (z : Int) * 2] k (j + 1 + 1) = false) := Lib.hid (by rw [hS]; rw [h3d]; simp)
                  clear hS HR
                  go_wp2
                  go_quiet (fail)
                  go_wp2
                  go_roundg g
                  case measure => omega
                  case rel => exact ⟨j + 1 + 1, false, by go_num, rfl, by omega, HW2, Lib.hid (HA2.out _), Lib.hid (HR2.out _), Lib.hid (HB2.out _)⟩
              · have h2d : decide (0 < lp) = false := by rw [decide_eq_false_iff_not]; exact h2
                have HW2 : Hid (wantF [(x : Int), (y : Int), (z : Int), (z : Int) * 2] k (j + 1 + 1) = false) := Lib.hid (by rw [hS]; rw [h2d]; simp)
                clear hS HR
                go_wp2
                go_quiet (fail)
                go_wp2
                go_roundg g
                case measure => omega
                case rel => exact ⟨j + 1 + 1, false, by go_num, rfl, by omega, HW2, Lib.hid (HA2.out _), Lib.hid (HR2.out _), Lib.hid (HB2.out _)⟩
          · have h1d : decide (1 ≤ ([(x : Int), (y : Int), (z : Int), (z : Int) * 2] : List Int).getD i 0) = false := by rw [decide_eq_false_iff_not]; exact h1
            have hW : okJ [(x : Int), (y : Int), (z : Int), (z : Int) * 2] i = false := by unfold okJ; rw [h1d]; rfl
            generalize ([(x : Int), (y : Int), (z : Int), (z : Int) * 2] : List Int).getD i 0 = li at hci h1 h1d
            have HW2 : Hid (wantF [(x : Int), (y : Int), (z : Int), (z : Int) * 2] k (i + 1) = false) := Lib.hid (by rw [hS]; rw [hW]; rfl)
            clear hS HR
            go_wp2
            go_quiet (fail)
            go_wp2
            go_roundg g
            case measure => omega
            case rel => exact ⟨i + 1, false, by go_num, rfl, by omega, HW2, Lib.hid (HA2.out _), Lib.hid (HR2.out _), Lib.hid (HB2.out _)⟩
end Go.Proofs.YthbekailfoogfaaDoor.Po
