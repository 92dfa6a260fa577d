/- A slice of bytes that comes in, opened; a text of bytes that matter. -/
import Derived.Test.YtekpjcdnmidgiaaDoorLxOpen
namespace Go.Proofs.YtekpjcdnmidgiaaDoor
open Go Go.RowKit

/-- A slice of integers that comes in: what its cells hold. -/
theorem ints_of {H : Type} {enc : TypeId × Value → H} {P : Program} {W : World} {spare : Nat → Bool} {held : Bool} {t e : TypeId} {k : IntKind} {v : Value} {d : DataW H} {ps : List MemPlace} (ht : P.underlying t = some (.slice e)) (he : P.underlying e = some (.int k)) (hc : P.cellsOf e = 1)
    (hv : ∃ p len cap, v = .slice p len cap) (h : DataW.Trod enc P W 0 spare held t v d ps) (hlt : ∀ x ∈ ps, x.block < W.heap.size) :
    ∃ (p : Option Addr) (len cap : Nat) (zs : List Int), v = .slice p len cap ∧ len ≤ cap ∧ cap ≤ maxLen ∧ len ≤ zs.length ∧ (p = none → cap = 0) ∧
      ∀ j, j < len → ∃ b off, p = some ⟨b, off, none⟩ ∧ b < W.heap.size ∧ W.cell? ⟨b, off + j, none⟩ = some (.int k (zs.getD j 0)) ∧ (Lit.int k (zs.getD j 0)).wf = true := by
  obtain ⟨p, len, cap, rfl⟩ := hv
  obtain ⟨fuel, hf⟩ := h
  rcases ChangeShapes.open_ints ht he hc hf with ⟨hcs, hx⟩ | ⟨a, len', cap', zs, hcs, _, hl, hm, hz, hx, hcell, hwz⟩
  · simp [Value.cells] at hcs
    obtain ⟨rfl, rfl, rfl⟩ := hcs
    exact ⟨none, 0, 0, [], rfl, Nat.le_refl _, Nat.zero_le _, Nat.zero_le _, fun _ => rfl, fun j hj => by omega⟩
  · simp [Value.cells] at hcs
    obtain ⟨rfl, rfl, rfl⟩ := hcs
    simp only [Prod.mk.injEq] at hx
    obtain ⟨rfl, rfl⟩ := hx
    have hzl : len ≤ zs.length := by rw [hz]; split <;> omega
    refine ⟨some a, len, cap, zs, rfl, hl, hm, hzl, fun h => by (cases h), fun j hj => ?_⟩
    obtain ⟨b, off, spot⟩ := a
    have hspot : spot = none := by simpa [Addr.add] using World.cell?_spot (hcell 0 (by omega))
    subst hspot
    refine ⟨b, off, rfl, ?_, ?_, ?_⟩
    · exact hlt (.cell b off) (MemPlace.mem_row.2 ⟨0, by omega, by simp⟩)
    · have := hcell j (by omega); rwa [Addr.add_lit] at this
    · exact hwz _ (by rw [List.getD_eq_getElem?_getD, List.getElem?_eq_getElem (by omega)]; simp)
def Octs (p : Option Addr) (hs : List Nat) (w : World) : Prop :=
  ∀ k (h : k < hs.length), ∃ B off, p = some ⟨B, off, none⟩ ∧ B < w.heap.size ∧ w.cell? ⟨B, off + k, none⟩ = some (.int .u8 (hs[k] : Nat)) ∧ hs[k] < 256
theorem Octs.below {p : Option Addr} {hs : List Nat} {w w' : World} (h : Octs p hs w) (hB : Below w.heap.size w w') : Octs p hs w' := fun k hk => by
  obtain ⟨B, off, h1, h2, h3, h4⟩ := h k hk
  exact ⟨B, off, h1, Nat.lt_of_lt_of_le h2 hB.size, (hB.cell (p := ⟨B, off + k, none⟩) h2).trans h3, h4⟩
theorem octs_of {H : Type} {enc : TypeId × Value → H} {P : Program} {W : World} {spare : Nat → Bool} {held : Bool} {t e : TypeId} {v : Value} {d : DataW H} {ps : List MemPlace} (ht : P.underlying t = some (.slice e)) (he : P.underlying e = some (.int .u8)) (hc : P.cellsOf e = 1)
    (hv : ∃ p len cap, v = .slice p len cap) (h : DataW.Trod enc P W 0 spare held t v d ps) (hlt : ∀ x ∈ ps, x.block < W.heap.size) :
    ∃ (p : Option Addr) (hs : List Nat) (cap : Nat), v = .slice p hs.length cap ∧ hs.length ≤ cap ∧ cap ≤ maxLen ∧ Octs p hs W ∧ (p = none → cap = 0) := by
  obtain ⟨p, len, cap, zs, rfl, h1, h2, h3, hz, h4⟩ := ints_of ht he hc hv h hlt
  have hl : ((zs.take len).map Int.toNat).length = len := by rw [List.length_map, List.length_take]; omega
  refine ⟨p, (zs.take len).map Int.toNat, cap, by rw [hl], by rw [hl]; exact h1, h2, fun k hk => ?_, hz⟩
  rw [hl] at hk
  obtain ⟨b, off, g1, g2, g3, g4⟩ := h4 k hk
  have hx : 0 ≤ zs.getD k 0 ∧ zs.getD k 0 ≤ 255 := by simpa [Lit.wf, IntKind.min, IntKind.max, IntKind.signed, IntKind.bits] using g4
  have e : (((zs.take len).map Int.toNat)[k]'(by omega) : Nat) = (zs.getD k 0).toNat := by
    rw [List.getElem_map, List.getElem_take, List.getD_eq_getElem?_getD, List.getElem?_eq_getElem (by omega)]; rfl
  exact ⟨b, off, g1, g2, by rw [g3, e]; exact congrArg (fun n => some (Value.int .u8 n)) (by omega), by rw [e]; omega⟩

set_option maxRecDepth 100000 in
set_option maxHeartbeats 4000000 in
theorem near_ok (p : Option Addr) (hs : List Nat) (cap : Nat) (hl : hs.length ≤ cap) (hm : cap ≤ maxLen) (w : World) (hN : Octs p hs w) :
    Calls Tryd.prog 10 #[.slice p hs.length cap] w fun e w' => ∃ l : List UInt8, e = .returned (.string (tx l)) ∧ l.length ≤ 60 ∧ Below w.heap.size w w' := by
  unfold maxLen at hm
  have G0 := Lib.hid (Grew.refl (OwnB.nil w.heap.size w))
  have HO := Lib.hid hN
  obtain ⟨n, hn⟩ : ∃ n, hs.length = n := ⟨_, rfl⟩
  rw [hn] at hl ⊢
  have HN := Lib.hid hn
  clear hN hn
  go_enter Tryd.func10, Tryd.ntmps10
  go_wp2
  go_loopg [3, 4] 60 (fun g s3 s4 wx => ∃ (k : Nat) (A : List UInt8), s4 = .int .i64 (k : Int) ∧ g + k = 60 ∧ k ≤ n ∧ A.length ≤ k ∧ Hid (Grew w.heap.size (.slice none 0 0) A w s3 wx))
  case atStart => exact ⟨0, [], rfl, rfl, Nat.zero_le _, Nat.le_refl _, G0⟩
  case round =>
    clear G0
    obtain ⟨k, A, rfl, hgk, hkn, hAl, HG⟩ := hrel
    have hsz := HG.out.2.1.size
    have hB := HG.out.below (N := w.heap.size) (by intro g hg; cases hg) (Nat.le_refl _)
    by_cases hgo : k < n ∧ k < 60
    · obtain ⟨hk1, hk2⟩ := hgo
      obtain ⟨C, off, rfl, hC, hcell, hx⟩ := HO.out k (by rw [HN.out]; exact hk1)
      have hcell2 := (hB.cell (p := ⟨C, off + k, none⟩) hC).trans hcell
      generalize hs[k]'(by rw [HN.out]; exact hk1) = x at hcell hcell2 hx
      obtain ⟨r, hr, hr12⟩ : ∃ r : Nat, (x : Int) % 12 = (r : Int) ∧ r < 12 := ⟨x % 12, by omega, by omega⟩
      obtain ⟨v2, w2, hr2, hG2⟩ := append_byte 22 HG.out.1 ((⟨#[97, 98, 44, 61, 32, 92, 10, 13, 35, 49, 127, 1]⟩ : ByteArray)[r]'hr12) (by omega) hsz
      have HG' := Lib.hid (HG.out.trans hG2)
      clear HG hG2 hB hcell hC
      go_wp2_with (at_builtin; refine Lib.wpList_append_run _ rfl _ _ _ _ rfl _ _ rfl rfl _ _ hr2 ?_)
      go_roundg (60 - (k + 1))
      case measure => omega
      case rel => exact ⟨k + 1, _, by go_num, by omega, by omega, by rw [List.length_append, List.length_singleton]; omega, HG'⟩
    · have hend : (((k : Int) < (n : Int)) = False) ∨ ((k : Int) < (n : Int) ∧ ((k : Int) < 60) = False) := by
        by_cases h1 : k < n
        · exact .inr ⟨by omega, eq_false (by omega)⟩
        · exact .inl (eq_false (by omega))
      have hcv := own_back HG.out.1
      clear HG hgo
      rcases hend with h1 | ⟨h1, h2⟩
      · go_wp2
        go_ret
        exact ⟨A, rfl, by omega, hB⟩
      · go_wp2
        go_ret
        exact ⟨A, rfl, by omega, hB⟩
theorem Octs.take {p : Option Addr} {hs : List Nat} {w : World} (h : Octs p hs w) (n : Nat) : Octs p (hs.take n) w := fun k hk => by
  rw [List.length_take] at hk
  obtain ⟨B, off, h1, h2, h3, h4⟩ := h k (by omega)
  have e : (hs.take n)[k]'(by rw [List.length_take]; exact hk) = hs[k]'(by omega) := List.getElem_take
  exact ⟨B, off, h1, h2, by rw [e]; exact h3, by rw [e]; exact h4⟩
end Go.Proofs.YtekpjcdnmidgiaaDoor
