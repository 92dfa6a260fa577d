/- The document's own answers of the chapter: a round, a sum, a rank. -/
import Derived.Test.YtccdojoeblaenaaDoorSipC
import Derived.Test.YtccdojoeblaenaaDoorSipD
namespace Go.Proofs.YtccdojoeblaenaaDoor
open Go Go.RowKit

theorem turn13_any (x : Int) (w : World) :
    Calls Tryd.prog 24 #[.int .u64 x, .int .i64 13] w fun e w' => e = .returned (.int .u64 (rot13 x)) ∧ ∃ n, w' = w.drewN n := by
  go_enter Tryd.func24, Tryd.ntmps24
  go_wp2
  go_quiet (fail)
  go_wp2
  go_ret
  exact ⟨rfl, _, rfl⟩
theorem turn16_any (x : Int) (w : World) :
    Calls Tryd.prog 24 #[.int .u64 x, .int .i64 16] w fun e w' => e = .returned (.int .u64 (rot16 x)) ∧ ∃ n, w' = w.drewN n := by
  go_enter Tryd.func24, Tryd.ntmps24
  go_wp2
  go_quiet (fail)
  go_wp2
  go_ret
  exact ⟨rfl, _, rfl⟩
theorem turn17_any (x : Int) (w : World) :
    Calls Tryd.prog 24 #[.int .u64 x, .int .i64 17] w fun e w' => e = .returned (.int .u64 (rot17 x)) ∧ ∃ n, w' = w.drewN n := by
  go_enter Tryd.func24, Tryd.ntmps24
  go_wp2
  go_quiet (fail)
  go_wp2
  go_ret
  exact ⟨rfl, _, rfl⟩
theorem turn21_any (x : Int) (w : World) :
    Calls Tryd.prog 24 #[.int .u64 x, .int .i64 21] w fun e w' => e = .returned (.int .u64 (rot21 x)) ∧ ∃ n, w' = w.drewN n := by
  go_enter Tryd.func24, Tryd.ntmps24
  go_wp2
  go_quiet (fail)
  go_wp2
  go_ret
  exact ⟨rfl, _, rfl⟩
theorem turn32_any (x : Int) (w : World) :
    Calls Tryd.prog 24 #[.int .u64 x, .int .i64 32] w fun e w' => e = .returned (.int .u64 (rot32 x)) ∧ ∃ n, w' = w.drewN n := by
  go_enter Tryd.func24, Tryd.ntmps24
  go_wp2
  go_quiet (fail)
  go_wp2
  go_ret
  exact ⟨rfl, _, rfl⟩

/- A list of four words in memory: a slice of block b. -/
set_option maxRecDepth 100000 in
set_option maxHeartbeats 1000000 in
theorem ref_round_any (b : Nat) (x : W4) (w : World) (hO : OwnX b x w) :
    Calls Tryd.prog 21 #[.slice (some ⟨b, 0, none⟩) 4 4] w fun e w' => ∃ b', e = .returned (.slice (some ⟨b', 0, none⟩) 4 4) ∧ w.heap.size ≤ b' ∧ Below w.heap.size w w' ∧ OwnX b' (sround x) w' := by
  obtain ⟨x0, x1, x2, x3⟩ := x
  obtain ⟨c0, c1, c2, c3, f0, f1, f2, f3⟩ := (show Own4 b x0 x1 x2 x3 w from hO)
  go_enter Tryd.func21, Tryd.ntmps21
  go_wp2
  go_quiet (fail)
  go_wp2
  go_quiet (fail)
  go_wp2_with fail
  refine (turn13_any _ _).mono ?_
  rintro e w0 ⟨rfl, n0, rfl⟩
  go_wp2_with fail
  refine (turn16_any _ _).mono ?_
  rintro e w1 ⟨rfl, n1, rfl⟩
  go_wp2_with fail
  refine (turn32_any _ _).mono ?_
  rintro e w2 ⟨rfl, n2, rfl⟩
  go_wp2_with fail
  refine (turn17_any _ _).mono ?_
  rintro e w3 ⟨rfl, n3, rfl⟩
  go_wp2_with fail
  refine (turn21_any _ _).mono ?_
  rintro e w4 ⟨rfl, n4, rfl⟩
  go_wp2_with fail
  refine (turn32_any _ _).mono ?_
  rintro e w5 ⟨rfl, n5, rfl⟩
  go_wp2
  go_ret
  refine ⟨w.heap.size, rfl, Nat.le_refl _, ?_, (own_alloc (sround (x0, x1, x2, x3)) (w.drewN _) _ : OwnX (w.drewN _).heap.size _ _)⟩
  exact (show Below w.heap.size w (w.drewN _) from ⟨rfl, rfl, rfl, Nat.le_refl _, fun _ _ => rfl⟩).alloc (Nat.le_refl _) _

def wordStep (n : Int) (c : UInt8) : Int := bits BinOp.or IntKind.u64 (IntKind.u64.wrap (n * 256)) (IntKind.u64.wrap (c.toNat : Int))
theorem wordStep_eq (l : List UInt8) (c : UInt8) (h : l.length < 8) : wordStep (sword l) c = sword (c :: l) := by
  have hl := leval_lt l
  have hc := c.toNat_lt
  have hp : (256 : Nat) ^ l.length ≤ 256 ^ 7 := Nat.pow_le_pow_right (by decide) (by omega)
  unfold wordStep sword
  have ew : IntKind.u64.wrap ((leval l : Nat) * 256 : Int) = ((leval l * 256 : Nat) : Int) := by
    rw [IntKind.wrap_u64]; omega
  have ec : IntKind.u64.wrap (c.toNat : Int) = (c.toNat : Nat) := by rw [IntKind.wrap_u64]; omega
  rw [ew, ec, bits_or_u64_nat _ _ (by omega) (by omega)]
  congr 1
  have := Nat.two_pow_add_eq_or_of_lt (i := 8) (b := c.toNat) (by omega) (leval l)
  rw [show leval l * 256 = 2 ^ 8 * leval l from by omega, ← this]
  simp [leval]
  omega
set_option maxHeartbeats 1000000 in
theorem ref_word_any (s : ByteArray) (w : World) (hs : s.size ≤ 8) :
    Calls Tryd.prog 20 #[.string s] w fun e w' => e = .returned (.int .u64 (sword s.data.toList)) ∧ w = w' := by
  go_enter Tryd.func20, Tryd.ntmps20
  go_wp2
  go_loop [3, 4] (fun n i => ∃ k : Nat, k ≤ s.size ∧ i = .int .i64 ((k : Int) - 1) ∧ n = .int .u64 (sword (s.data.toList.drop k))) (fun _ i => (intOf i + 1).toNat)
  case atStart => exact ⟨s.size, Nat.le_refl _, rfl, by rw [List.drop_of_length_le (by simp)]; rfl⟩
  case round =>
    obtain ⟨k, hk, rfl, rfl⟩ := hrel
    rcases k with _ | k
    · go_wp2
      go_ret
      exact ⟨rfl, rfl⟩
    · have hlt : k < s.size := by omega
      have hstep : wordStep (sword (s.data.toList.drop (k + 1))) s[k] = sword (s.data.toList.drop k) := by
        rw [wordStep_eq _ _ (by simp; omega)]
        congr 1
        rw [List.drop_eq_getElem_cons (i := k) (by simpa using hlt)]
        rfl
      have Hs := Lib.hid hstep
      clear hstep
      rw [show ((k + 1 : Nat) : Int) - 1 = (k : Int) from by omega]
      go_wp2
      go_round
      case rel => exact ⟨k, by omega, rfl, by rw [← Hs.out]; rfl⟩
      case measure => simp [intOf]
end Go.Proofs.YtccdojoeblaenaaDoor
