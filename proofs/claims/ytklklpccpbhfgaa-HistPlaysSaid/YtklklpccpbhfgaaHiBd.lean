/- Buckets' bounds rise with the buckets. -/
import Derived.Test.YtklklpccpbhfgaaBInt
namespace Go.Proofs.Ytklklpccpbhfgaa

theorem bounds_step (k : Nat) (hk : k ≤ 4) (a : Int) (ha : Fits k a) (hb : Fits k (a + 1)) : lowI k a ≤ lowI k (a + 1) ∧ highI k a ≤ highI k (a + 1) := by
  have h1 := next_low k hk a ha hb
  have h2 := (low_in k hk a ha).2.2
  have h3 := (low_in k hk (a + 1) hb).2.2
  omega
theorem bounds_mono (k : Nat) (hk : k ≤ 4) : ∀ (n : Nat) (a : Int), Fits k a → Fits k (a + n) → lowI k a ≤ lowI k (a + n) ∧ highI k a ≤ highI k (a + n)
  | 0, a, _, _ => by simp
  | n + 1, a, ha, hb => by
    have hm : Fits k (a + n) := by unfold Fits at *; omega
    obtain ⟨h1, h2⟩ := bounds_mono k hk n a ha hm
    have e : a + ((n + 1 : Nat) : Int) = a + n + 1 := by omega
    rw [e] at hb ⊢
    obtain ⟨h3, h4⟩ := bounds_step k hk (a + n) hm hb
    omega
theorem bounds_le (k : Nat) (hk : k ≤ 4) {a b : Int} (ha : Fits k a) (hb : Fits k b) (h : a ≤ b) : lowI k a ≤ lowI k b ∧ highI k a ≤ highI k b := by
  obtain ⟨n, rfl⟩ : ∃ n : Nat, b = a + n := ⟨(b - a).toNat, by omega⟩
  exact bounds_mono k hk n a ha hb
end Go.Proofs.Ytklklpccpbhfgaa
