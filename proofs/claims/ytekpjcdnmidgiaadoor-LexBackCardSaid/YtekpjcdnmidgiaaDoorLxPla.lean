/- LexPlain: a text is plain just if each of its parts is; escaped it is plain just if it was. -/
import Derived.Test.YtekpjcdnmidgiaaDoorLxW
namespace Go.Proofs.YtekpjcdnmidgiaaDoor
open Go Go.RowKit

theorem one_byte (c : UInt8) (w : World) : (convert 22 9 (.slice (some ⟨w.heap.size, 0, none⟩) 1 1)).run Tryd.prog (w.alloc (.cells #[.int .u8 (c.toNat : Int)] 5)) = .ok (.string (tx [c])) (w.alloc (.cells #[.int .u8 (c.toNat : Int)] 5)) := by
  have h := run_convert_bytes_back (P := Tryd.prog) (w.alloc (.cells #[.int .u8 (c.toNat : Int)] 5)) 22 9 5 ⟨w.heap.size, 0, none⟩ 1 [c] Tryd.underlying22 Tryd.underlying5 Tryd.underlying9 (fun j hj => by
    rw [Addr.add_lit, Nat.zero_add, World.cell?_alloc_new]
    have : j = 0 := by simp at hj; omega
    subst this
    rfl)
  exact h
theorem cat_list (a b : ByteArray) : (a ++ b).data.toList = a.data.toList ++ b.data.toList := by simp
theorem plain_one (c : UInt8) : plainL [c] = okB c := by simp [plainL]
theorem u8_byte {a : Int} (h : (Lit.int .u8 a).wf = true) : ∃ c : UInt8, a = (c.toNat : Int) := by
  have hx : 0 ≤ a ∧ a ≤ 255 := by simpa [Lit.wf, IntKind.min, IntKind.max, IntKind.signed, IntKind.bits] using h
  refine ⟨UInt8.ofNat a.toNat, ?_⟩
  rw [UInt8.toNat_ofNat']
  omega
/-- A byte: too small, 127, or one that is read. -/
theorem byte_cases (c : UInt8) : (okB c = false ∧ ((32 : Int) ≤ (c.toNat : Int)) = False) ∨ (okB c = false ∧ (32 : Int) ≤ (c.toNat : Int) ∧ ((c.toNat : Int) != 127) = false) ∨ (okB c = true ∧ (32 : Int) ≤ (c.toNat : Int) ∧ ((c.toNat : Int) != 127) = true) := by
  have hn := okB_nat c
  by_cases h1 : 32 ≤ c.toNat
  · by_cases h2 : c.toNat = 127
    · exact .inr (.inl ⟨by rw [hn]; simp [h2], by omega, by rw [h2]; rfl⟩)
    · exact .inr (.inr ⟨by rw [hn]; simp [h1, h2], by omega, by rw [bne_iff_ne]; omega⟩)
  · exact .inl ⟨by rw [hn]; simp [h1], eq_false (by omega)⟩

set_option maxRecDepth 100000 in
set_option maxHeartbeats 8000000 in
theorem LexPlain_walk (s : ByteArray) (hs : s.size ≤ 1048576) (t : ByteArray) (ht : t.size ≤ 1048576) (b : Int) (hb : (Lit.int .u8 b).wf = true) (w : World) :
    Calls Tryd.prog 8 #[.string s, .string t, .int .u8 b] w fun e w' => e = .returned (.bool true) ∧ Below w.heap.size w w' := by
  obtain ⟨c, rfl⟩ := u8_byte hb
  clear hb
  have hcat : (9223372036854775807 < s.size + t.size) = False := eq_false (by omega)
  have p0 := fun w => plains_ok (s ++ t) (by rw [ByteArray.size_append]; unfold maxLen; omega) w
  have p1 := fun w => plains_ok s (by unfold maxLen; omega) w
  have p2 := fun w => plains_ok t (by unfold maxLen; omega) w
  have p3 := fun w => plains_ok (tx (escL s.data.toList)) (by rw [tx_len]; have := escL_le s.data.toList; rw [size_list] at this; unfold maxLen; omega) w
  have p4 := fun w => plains_ok ⟨#[]⟩ (by decide) w
  have p5 := fun w => plains_ok (tx [c]) (by rw [tx_len]; exact Nat.le_trans (show [c].length ≤ 1 by simp) (by decide)) w
  have he := fun w => escape_ok s (by omega) w
  rw [cat_list, plainL_append] at p0
  rw [list_tx, plainL_esc] at p3
  rw [list_tx, plain_one] at p5
  rw [show plainL (⟨#[]⟩ : ByteArray).data.toList = true from rfl] at p4
  generalize tx (escL s.data.toList) = E at p3 he
  generalize plainL s.data.toList = A at p0 p1 p3
  generalize plainL t.data.toList = T at p0 p2
  have hbc := byte_cases c
  have one := fun w => one_byte c w
  generalize tx [c] = M at p5 one
  generalize okB c = K at p5 hbc
  generalize (c.toNat : Int) = n at hbc one ⊢
  have hex := fun w => ex_ok w
  rcases hbc with ⟨rfl, hn⟩ | ⟨rfl, hn, hm⟩ | ⟨rfl, hn, hm⟩
  · cases A
    · cases T
      · skip
        go_enter Tryd.func8, Tryd.ntmps8
        go_wp2_with fail
        refine (hex _).mono ?_
        rintro e w1 ⟨rfl, hB1⟩
        have hs1 := hB1.size
        have hcv := one w1
        have hB2 := hB1.trans (((Below.refl w1.heap.size w1).alloc (Nat.le_refl _) (.cells #[.int .u8 n] 5)).mono hs1)
        clear hB1
        go_wp2_with fail
        refine (p5 _).mono ?_
        rintro e w2 ⟨rfl, rfl⟩
        go_wp2_with fail
        refine (p0 _).mono ?_
        rintro e w3 ⟨rfl, rfl⟩
        go_wp2_with fail
        refine (p1 _).mono ?_
        rintro e w4 ⟨rfl, rfl⟩
        go_wp2_with fail
        refine (he _).mono ?_
        rintro e w6 ⟨rfl, hB6⟩
        have hB7 := hB2.trans (hB6.mono hB2.size)
        clear hB2 hB6
        go_wp2_with fail
        refine (p3 _).mono ?_
        rintro e w7 ⟨rfl, rfl⟩
        go_wp2_with fail
        refine (p1 _).mono ?_
        rintro e w8 ⟨rfl, rfl⟩
        go_wp2_with fail
        refine (p4 _).mono ?_
        rintro e w9 ⟨rfl, rfl⟩
        go_wp2
        go_ret
        exact ⟨rfl, hB7⟩
      · skip
        go_enter Tryd.func8, Tryd.ntmps8
        go_wp2_with fail
        refine (hex _).mono ?_
        rintro e w1 ⟨rfl, hB1⟩
        have hs1 := hB1.size
        have hcv := one w1
        have hB2 := hB1.trans (((Below.refl w1.heap.size w1).alloc (Nat.le_refl _) (.cells #[.int .u8 n] 5)).mono hs1)
        clear hB1
        go_wp2_with fail
        refine (p5 _).mono ?_
        rintro e w2 ⟨rfl, rfl⟩
        go_wp2_with fail
        refine (p0 _).mono ?_
        rintro e w3 ⟨rfl, rfl⟩
        go_wp2_with fail
        refine (p1 _).mono ?_
        rintro e w4 ⟨rfl, rfl⟩
        go_wp2_with fail
        refine (he _).mono ?_
        rintro e w6 ⟨rfl, hB6⟩
        have hB7 := hB2.trans (hB6.mono hB2.size)
        clear hB2 hB6
        go_wp2_with fail
        refine (p3 _).mono ?_
        rintro e w7 ⟨rfl, rfl⟩
        go_wp2_with fail
        refine (p1 _).mono ?_
        rintro e w8 ⟨rfl, rfl⟩
        go_wp2_with fail
        refine (p4 _).mono ?_
        rintro e w9 ⟨rfl, rfl⟩
        go_wp2
        go_ret
        exact ⟨rfl, hB7⟩
    · cases T
      · skip
        go_enter Tryd.func8, Tryd.ntmps8
        go_wp2_with fail
        refine (hex _).mono ?_
        rintro e w1 ⟨rfl, hB1⟩
        have hs1 := hB1.size
        have hcv := one w1
        have hB2 := hB1.trans (((Below.refl w1.heap.size w1).alloc (Nat.le_refl _) (.cells #[.int .u8 n] 5)).mono hs1)
        clear hB1
        go_wp2_with fail
        refine (p5 _).mono ?_
        rintro e w2 ⟨rfl, rfl⟩
        go_wp2_with fail
        refine (p0 _).mono ?_
        rintro e w3 ⟨rfl, rfl⟩
        go_wp2_with fail
        refine (p1 _).mono ?_
        rintro e w4 ⟨rfl, rfl⟩
        go_wp2_with fail
        refine (p2 _).mono ?_
        rintro e w5 ⟨rfl, rfl⟩
        go_wp2_with fail
        refine (he _).mono ?_
        rintro e w6 ⟨rfl, hB6⟩
        have hB7 := hB2.trans (hB6.mono hB2.size)
        clear hB2 hB6
        go_wp2_with fail
        refine (p3 _).mono ?_
        rintro e w7 ⟨rfl, rfl⟩
        go_wp2_with fail
        refine (p1 _).mono ?_
        rintro e w8 ⟨rfl, rfl⟩
        go_wp2_with fail
        refine (p4 _).mono ?_
        rintro e w9 ⟨rfl, rfl⟩
        go_wp2
        go_ret
        exact ⟨rfl, hB7⟩
      · skip
        go_enter Tryd.func8, Tryd.ntmps8
        go_wp2_with fail
        refine (hex _).mono ?_
        rintro e w1 ⟨rfl, hB1⟩
        have hs1 := hB1.size
        have hcv := one w1
        have hB2 := hB1.trans (((Below.refl w1.heap.size w1).alloc (Nat.le_refl _) (.cells #[.int .u8 n] 5)).mono hs1)
        clear hB1
        go_wp2_with fail
        refine (p5 _).mono ?_
        rintro e w2 ⟨rfl, rfl⟩
        go_wp2_with fail
        refine (p0 _).mono ?_
        rintro e w3 ⟨rfl, rfl⟩
        go_wp2_with fail
        refine (p1 _).mono ?_
        rintro e w4 ⟨rfl, rfl⟩
        go_wp2_with fail
        refine (p2 _).mono ?_
        rintro e w5 ⟨rfl, rfl⟩
        go_wp2_with fail
        refine (he _).mono ?_
        rintro e w6 ⟨rfl, hB6⟩
        have hB7 := hB2.trans (hB6.mono hB2.size)
        clear hB2 hB6
        go_wp2_with fail
        refine (p3 _).mono ?_
        rintro e w7 ⟨rfl, rfl⟩
        go_wp2_with fail
        refine (p1 _).mono ?_
        rintro e w8 ⟨rfl, rfl⟩
        go_wp2_with fail
        refine (p4 _).mono ?_
        rintro e w9 ⟨rfl, rfl⟩
        go_wp2
        go_ret
        exact ⟨rfl, hB7⟩
  · cases A
    · cases T
      · skip
        go_enter Tryd.func8, Tryd.ntmps8
        go_wp2_with fail
        refine (hex _).mono ?_
        rintro e w1 ⟨rfl, hB1⟩
        have hs1 := hB1.size
        have hcv := one w1
        have hB2 := hB1.trans (((Below.refl w1.heap.size w1).alloc (Nat.le_refl _) (.cells #[.int .u8 n] 5)).mono hs1)
        clear hB1
        go_wp2_with fail
        refine (p5 _).mono ?_
        rintro e w2 ⟨rfl, rfl⟩
        go_wp2_with fail
        refine (p0 _).mono ?_
        rintro e w3 ⟨rfl, rfl⟩
        go_wp2_with fail
        refine (p1 _).mono ?_
        rintro e w4 ⟨rfl, rfl⟩
        go_wp2_with fail
        refine (he _).mono ?_
        rintro e w6 ⟨rfl, hB6⟩
        have hB7 := hB2.trans (hB6.mono hB2.size)
        clear hB2 hB6
        go_wp2_with fail
        refine (p3 _).mono ?_
        rintro e w7 ⟨rfl, rfl⟩
        go_wp2_with fail
        refine (p1 _).mono ?_
        rintro e w8 ⟨rfl, rfl⟩
        go_wp2_with fail
        refine (p4 _).mono ?_
        rintro e w9 ⟨rfl, rfl⟩
        go_wp2
        go_ret
        exact ⟨rfl, hB7⟩
      · skip
        go_enter Tryd.func8, Tryd.ntmps8
        go_wp2_with fail
        refine (hex _).mono ?_
        rintro e w1 ⟨rfl, hB1⟩
        have hs1 := hB1.size
        have hcv := one w1
        have hB2 := hB1.trans (((Below.refl w1.heap.size w1).alloc (Nat.le_refl _) (.cells #[.int .u8 n] 5)).mono hs1)
        clear hB1
        go_wp2_with fail
        refine (p5 _).mono ?_
        rintro e w2 ⟨rfl, rfl⟩
        go_wp2_with fail
        refine (p0 _).mono ?_
        rintro e w3 ⟨rfl, rfl⟩
        go_wp2_with fail
        refine (p1 _).mono ?_
        rintro e w4 ⟨rfl, rfl⟩
        go_wp2_with fail
        refine (he _).mono ?_
        rintro e w6 ⟨rfl, hB6⟩
        have hB7 := hB2.trans (hB6.mono hB2.size)
        clear hB2 hB6
        go_wp2_with fail
        refine (p3 _).mono ?_
        rintro e w7 ⟨rfl, rfl⟩
        go_wp2_with fail
        refine (p1 _).mono ?_
        rintro e w8 ⟨rfl, rfl⟩
        go_wp2_with fail
        refine (p4 _).mono ?_
        rintro e w9 ⟨rfl, rfl⟩
        go_wp2
        go_ret
        exact ⟨rfl, hB7⟩
    · cases T
      · skip
        go_enter Tryd.func8, Tryd.ntmps8
        go_wp2_with fail
        refine (hex _).mono ?_
        rintro e w1 ⟨rfl, hB1⟩
        have hs1 := hB1.size
        have hcv := one w1
        have hB2 := hB1.trans (((Below.refl w1.heap.size w1).alloc (Nat.le_refl _) (.cells #[.int .u8 n] 5)).mono hs1)
        clear hB1
        go_wp2_with fail
        refine (p5 _).mono ?_
        rintro e w2 ⟨rfl, rfl⟩
        go_wp2_with fail
        refine (p0 _).mono ?_
        rintro e w3 ⟨rfl, rfl⟩
        go_wp2_with fail
        refine (p1 _).mono ?_
        rintro e w4 ⟨rfl, rfl⟩
        go_wp2_with fail
        refine (p2 _).mono ?_
        rintro e w5 ⟨rfl, rfl⟩
        go_wp2_with fail
        refine (he _).mono ?_
        rintro e w6 ⟨rfl, hB6⟩
        have hB7 := hB2.trans (hB6.mono hB2.size)
        clear hB2 hB6
        go_wp2_with fail
        refine (p3 _).mono ?_
        rintro e w7 ⟨rfl, rfl⟩
        go_wp2_with fail
        refine (p1 _).mono ?_
        rintro e w8 ⟨rfl, rfl⟩
        go_wp2_with fail
        refine (p4 _).mono ?_
        rintro e w9 ⟨rfl, rfl⟩
        go_wp2
        go_ret
        exact ⟨rfl, hB7⟩
      · skip
        go_enter Tryd.func8, Tryd.ntmps8
        go_wp2_with fail
        refine (hex _).mono ?_
        rintro e w1 ⟨rfl, hB1⟩
        have hs1 := hB1.size
        have hcv := one w1
        have hB2 := hB1.trans (((Below.refl w1.heap.size w1).alloc (Nat.le_refl _) (.cells #[.int .u8 n] 5)).mono hs1)
        clear hB1
        go_wp2_with fail
        refine (p5 _).mono ?_
        rintro e w2 ⟨rfl, rfl⟩
        go_wp2_with fail
        refine (p0 _).mono ?_
        rintro e w3 ⟨rfl, rfl⟩
        go_wp2_with fail
        refine (p1 _).mono ?_
        rintro e w4 ⟨rfl, rfl⟩
        go_wp2_with fail
        refine (p2 _).mono ?_
        rintro e w5 ⟨rfl, rfl⟩
        go_wp2_with fail
        refine (he _).mono ?_
        rintro e w6 ⟨rfl, hB6⟩
        have hB7 := hB2.trans (hB6.mono hB2.size)
        clear hB2 hB6
        go_wp2_with fail
        refine (p3 _).mono ?_
        rintro e w7 ⟨rfl, rfl⟩
        go_wp2_with fail
        refine (p1 _).mono ?_
        rintro e w8 ⟨rfl, rfl⟩
        go_wp2_with fail
        refine (p4 _).mono ?_
        rintro e w9 ⟨rfl, rfl⟩
        go_wp2
        go_ret
        exact ⟨rfl, hB7⟩
  · cases A
    · cases T
      · skip
        go_enter Tryd.func8, Tryd.ntmps8
        go_wp2_with fail
        refine (hex _).mono ?_
        rintro e w1 ⟨rfl, hB1⟩
        have hs1 := hB1.size
        have hcv := one w1
        have hB2 := hB1.trans (((Below.refl w1.heap.size w1).alloc (Nat.le_refl _) (.cells #[.int .u8 n] 5)).mono hs1)
        clear hB1
        go_wp2_with fail
        refine (p5 _).mono ?_
        rintro e w2 ⟨rfl, rfl⟩
        go_wp2_with fail
        refine (p0 _).mono ?_
        rintro e w3 ⟨rfl, rfl⟩
        go_wp2_with fail
        refine (p1 _).mono ?_
        rintro e w4 ⟨rfl, rfl⟩
        go_wp2_with fail
        refine (he _).mono ?_
        rintro e w6 ⟨rfl, hB6⟩
        have hB7 := hB2.trans (hB6.mono hB2.size)
        clear hB2 hB6
        go_wp2_with fail
        refine (p3 _).mono ?_
        rintro e w7 ⟨rfl, rfl⟩
        go_wp2_with fail
        refine (p1 _).mono ?_
        rintro e w8 ⟨rfl, rfl⟩
        go_wp2_with fail
        refine (p4 _).mono ?_
        rintro e w9 ⟨rfl, rfl⟩
        go_wp2
        go_ret
        exact ⟨rfl, hB7⟩
      · skip
        go_enter Tryd.func8, Tryd.ntmps8
        go_wp2_with fail
        refine (hex _).mono ?_
        rintro e w1 ⟨rfl, hB1⟩
        have hs1 := hB1.size
        have hcv := one w1
        have hB2 := hB1.trans (((Below.refl w1.heap.size w1).alloc (Nat.le_refl _) (.cells #[.int .u8 n] 5)).mono hs1)
        clear hB1
        go_wp2_with fail
        refine (p5 _).mono ?_
        rintro e w2 ⟨rfl, rfl⟩
        go_wp2_with fail
        refine (p0 _).mono ?_
        rintro e w3 ⟨rfl, rfl⟩
        go_wp2_with fail
        refine (p1 _).mono ?_
        rintro e w4 ⟨rfl, rfl⟩
        go_wp2_with fail
        refine (he _).mono ?_
        rintro e w6 ⟨rfl, hB6⟩
        have hB7 := hB2.trans (hB6.mono hB2.size)
        clear hB2 hB6
        go_wp2_with fail
        refine (p3 _).mono ?_
        rintro e w7 ⟨rfl, rfl⟩
        go_wp2_with fail
        refine (p1 _).mono ?_
        rintro e w8 ⟨rfl, rfl⟩
        go_wp2_with fail
        refine (p4 _).mono ?_
        rintro e w9 ⟨rfl, rfl⟩
        go_wp2
        go_ret
        exact ⟨rfl, hB7⟩
    · cases T
      · skip
        go_enter Tryd.func8, Tryd.ntmps8
        go_wp2_with fail
        refine (hex _).mono ?_
        rintro e w1 ⟨rfl, hB1⟩
        have hs1 := hB1.size
        have hcv := one w1
        have hB2 := hB1.trans (((Below.refl w1.heap.size w1).alloc (Nat.le_refl _) (.cells #[.int .u8 n] 5)).mono hs1)
        clear hB1
        go_wp2_with fail
        refine (p5 _).mono ?_
        rintro e w2 ⟨rfl, rfl⟩
        go_wp2_with fail
        refine (p0 _).mono ?_
        rintro e w3 ⟨rfl, rfl⟩
        go_wp2_with fail
        refine (p1 _).mono ?_
        rintro e w4 ⟨rfl, rfl⟩
        go_wp2_with fail
        refine (p2 _).mono ?_
        rintro e w5 ⟨rfl, rfl⟩
        go_wp2_with fail
        refine (he _).mono ?_
        rintro e w6 ⟨rfl, hB6⟩
        have hB7 := hB2.trans (hB6.mono hB2.size)
        clear hB2 hB6
        go_wp2_with fail
        refine (p3 _).mono ?_
        rintro e w7 ⟨rfl, rfl⟩
        go_wp2_with fail
        refine (p1 _).mono ?_
        rintro e w8 ⟨rfl, rfl⟩
        go_wp2_with fail
        refine (p4 _).mono ?_
        rintro e w9 ⟨rfl, rfl⟩
        go_wp2
        go_ret
        exact ⟨rfl, hB7⟩
      · skip
        go_enter Tryd.func8, Tryd.ntmps8
        go_wp2_with fail
        refine (hex _).mono ?_
        rintro e w1 ⟨rfl, hB1⟩
        have hs1 := hB1.size
        have hcv := one w1
        have hB2 := hB1.trans (((Below.refl w1.heap.size w1).alloc (Nat.le_refl _) (.cells #[.int .u8 n] 5)).mono hs1)
        clear hB1
        go_wp2_with fail
        refine (p5 _).mono ?_
        rintro e w2 ⟨rfl, rfl⟩
        go_wp2_with fail
        refine (p0 _).mono ?_
        rintro e w3 ⟨rfl, rfl⟩
        go_wp2_with fail
        refine (p1 _).mono ?_
        rintro e w4 ⟨rfl, rfl⟩
        go_wp2_with fail
        refine (p2 _).mono ?_
        rintro e w5 ⟨rfl, rfl⟩
        go_wp2_with fail
        refine (he _).mono ?_
        rintro e w6 ⟨rfl, hB6⟩
        have hB7 := hB2.trans (hB6.mono hB2.size)
        clear hB2 hB6
        go_wp2_with fail
        refine (p3 _).mono ?_
        rintro e w7 ⟨rfl, rfl⟩
        go_wp2_with fail
        refine (p1 _).mono ?_
        rintro e w8 ⟨rfl, rfl⟩
        go_wp2_with fail
        refine (p4 _).mono ?_
        rintro e w9 ⟨rfl, rfl⟩
        go_wp2
        go_ret
        exact ⟨rfl, hB7⟩
end Go.Proofs.YtekpjcdnmidgiaaDoor
