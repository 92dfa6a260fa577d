/- A name of the laws: letters, and bytes that are escaped. -/
import Derived.Test.YtlocjhnlemlnmaaLbW
namespace Go.Proofs.Ytlocjhnlemlnmaa.Lx
open Go Go.RowKit

/-- The bytes of names. -/
abbrev tabW : ByteArray := ⟨#[97, 98, 99, 44, 61, 32, 92, 35, 255, 49]⟩
def byteW (x : Nat) : UInt8 := tabW.data.toList.getD (x % 10) 0
def wordS (l : List Nat) : List UInt8 := 119 :: (l.take 12).map byteW
theorem byteW_at {x r : Nat} (h : x % 10 = r) (hr : r < 10) : byteW x = tabW[r]'hr := by
  unfold byteW
  rw [h]
  have : r = 0 ∨ r = 1 ∨ r = 2 ∨ r = 3 ∨ r = 4 ∨ r = 5 ∨ r = 6 ∨ r = 7 ∨ r = 8 ∨ r = 9 := by omega
  rcases this with rfl | rfl | rfl | rfl | rfl | rfl | rfl | rfl | rfl | rfl <;> rfl
theorem byteW_ok (x : Nat) : okB (byteW x) = true := by
  obtain ⟨r, hr⟩ : ∃ r, x % 10 = r := ⟨_, rfl⟩
  unfold byteW
  rw [hr]
  have : r = 0 ∨ r = 1 ∨ r = 2 ∨ r = 3 ∨ r = 4 ∨ r = 5 ∨ r = 6 ∨ r = 7 ∨ r = 8 ∨ r = 9 := by omega
  rcases this with rfl | rfl | rfl | rfl | rfl | rfl | rfl | rfl | rfl | rfl <;> decide
theorem wordS_plain (l : List Nat) : plainL (wordS l) = true := by
  simp only [plainL, wordS, List.all_cons, List.all_map, Bool.and_eq_true, List.all_eq_true]
  exact ⟨by decide, fun x _ => byteW_ok x⟩
theorem wordS_len (l : List Nat) : (wordS l).length ≤ 13 := by
  unfold wordS
  rw [List.length_cons, List.length_map, List.length_take]
  omega
theorem wordS_named (l : List Nat) : namedL (wordS l) = true := by
  rw [named_mid (by simp [wordS]) (by have := wordS_len l; omega)]
  exact wordS_plain l
/-- A slice of bytes that lies somewhere. -/
def Octs (p : Option Addr) (hs : List Nat) (w : World) : Prop :=
  ∀ k (h : k < hs.length), ∃ B off, p = some ⟨B, off, none⟩ ∧ B < w.heap.size ∧ w.cell? ⟨B, off + k, none⟩ = some (.int .u8 (hs[k] : Nat)) ∧ hs[k] < 256
theorem Octs.below {p : Option Addr} {hs : List Nat} {w w' : World} (h : Octs p hs w) (hB : Below w.heap.size w w') : Octs p hs w' := fun k hk => by
  obtain ⟨B, off, h1, h2, h3, h4⟩ := h k hk
  exact ⟨B, off, h1, Nat.lt_of_lt_of_le h2 hB.size, (hB.cell (p := ⟨B, off + k, none⟩) h2).trans h3, h4⟩

set_option maxRecDepth 100000 in
set_option maxHeartbeats 4000000 in
theorem word_any (p : Option Addr) (hs : List Nat) (cap : Nat) (hl : hs.length ≤ maxLen) (w : World) (hO : Octs p hs w) :
    Calls Try.prog 11 #[.slice p hs.length cap] w fun e w' => e = .returned (.string (tx (wordS hs))) ∧ Below w.heap.size w w' := by
  unfold maxLen at hl
  obtain ⟨i0, hi0, hz0, hz1, hz2⟩ := info_parts info_u8
  have G0 : Hid (Grew w.heap.size (.slice (some ⟨w.heap.size, 0, none⟩) 1 1) [119] (w.alloc (.cells #[.int .u8 119] 5)) (.slice (some ⟨w.heap.size, 0, none⟩) 1 1) (w.alloc (.cells #[.int .u8 119] 5))) :=
    Lib.hid (Grew.refl (World.ownsRow_lit (base := w.heap.size) (size := 1) w #[.int .u8 119] 1 (Nat.le_refl _) (by decide) rfl))
  have HO := Lib.hid hO
  have HW0 : Hid (Below w.heap.size w (w.alloc (.cells #[.int .u8 119] 5))) := Lib.hid ((Below.refl _ _).alloc (Nat.le_refl _) _)
  obtain ⟨n, hn⟩ : ∃ n, hs.length = n := ⟨_, rfl⟩
  rw [hn] at hl ⊢
  have HN := Lib.hid hn
  clear hO hn
  go_enter Try.func11, Try.ntmps11
  go_wp2
  go_loopg [3, 4] 12 (fun g s3 s4 wx => ∃ (k : Nat) (A : List UInt8), s4 = .int .i64 (k : Int) ∧ g + k = 12 ∧ k ≤ n ∧ A.length = k + 1 ∧ Hid (A = 119 :: (hs.take k).map byteW) ∧ Hid (Grew w.heap.size (.slice (some ⟨w.heap.size, 0, none⟩) 1 1) A (w.alloc (.cells #[.int .u8 119] 5)) s3 wx))
  case atStart => exact ⟨0, [119], rfl, rfl, Nat.zero_le _, rfl, Lib.hid rfl, G0⟩
  case round =>
    clear G0
    obtain ⟨k, A, rfl, hgk, hkn, hAl, HA, HG⟩ := hrel
    have hsz : w.heap.size ≤ wr.heap.size := Nat.le_trans HW0.out.size HG.out.2.1.size
    have hB := Lib.hid (HW0.out.trans (HG.out.below (N := w.heap.size) (by intro g hg; cases hg; exact Nat.le_refl _) HW0.out.size))
    by_cases hgo : k < n ∧ k < 12
    · obtain ⟨hk1, hk2⟩ := hgo
      have hkl : k < hs.length := by rw [HN.out]; exact hk1
      obtain ⟨C, off, rfl, hC, hcell, hx⟩ := HO.out k hkl
      have hcell2 := (hB.out.cell (p := ⟨C, off + k, none⟩) hC).trans hcell
      have htk : (hs.take (k + 1)).map byteW = (hs.take k).map byteW ++ [byteW hs[k]] := by
        rw [List.take_succ_eq_append_getElem hkl, List.map_append]; rfl
      have HTK := Lib.hid htk
      clear htk
      generalize hs[k]'hkl = x at hcell hcell2 hx HTK
      obtain ⟨r, hr, hr10⟩ : ∃ r : Nat, x % 10 = r ∧ r < 10 := ⟨x % 10, rfl, by omega⟩
      have hri : (x : Int) % 10 = (r : Int) := by omega
      have hbw := byteW_at hr hr10
      have HA2 : Hid (A ++ [tabW[r]'hr10] = 119 :: (hs.take (k + 1)).map byteW) := Lib.hid (by rw [HA.out, HTK.out, hbw]; rfl)
      obtain ⟨v2, w2, hr2, hG2⟩ := append_byte 24 HG.out.1 (tabW[r]'hr10) (by omega) hsz
      have HG' := Lib.hid (HG.out.trans hG2)
      clear HG hG2 hB hcell hC hbw hr HTK HA
      go_wp2_with (at_builtin; refine Lib.wpList_append_run _ rfl _ _ _ _ rfl _ _ rfl rfl _ _ hr2 ?_)
      go_roundg (12 - (k + 1))
      case measure => omega
      case rel => exact ⟨k + 1, _, by go_num, by omega, by omega, by rw [List.length_append, List.length_singleton]; omega, HA2, HG'⟩
    · have hend : (((k : Int) < (n : Int)) = False) ∨ ((k : Int) < (n : Int) ∧ ((k : Int) < 12) = False) := by
        by_cases h1 : k < n
        · exact .inr ⟨by omega, eq_false (by omega)⟩
        · exact .inl (eq_false (by omega))
      have hcv := own_back HG.out.1
      have hfin : A = wordS hs := by
        rw [HA.out]
        unfold wordS
        rcases Nat.lt_or_ge k 12 with h | h
        · rw [List.take_of_length_le (i := k) (by rw [HN.out]; omega), List.take_of_length_le (i := 12) (by rw [HN.out]; omega)]
        · rw [show k = 12 by omega]
      rw [hfin] at hcv
      clear HG hgo HA hfin
      rcases hend with h1 | ⟨h1, h2⟩
      · go_wp2
        go_ret
        exact ⟨rfl, hB.out⟩
      · go_wp2
        go_ret
        exact ⟨rfl, hB.out⟩
end Go.Proofs.Ytlocjhnlemlnmaa.Lx
