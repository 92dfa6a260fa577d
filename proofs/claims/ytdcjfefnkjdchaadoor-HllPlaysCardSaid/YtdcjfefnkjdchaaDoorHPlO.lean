/- HllPlays, whatever the bits. -/
import Derived.Test.YtdcjfefnkjdchaaDoorHPlN
namespace Go.Proofs.YtdcjfefnkjdchaaDoor
open Go Go.RowKit

theorem plays_out (x : Int) (hx : x < 4 ∨ 10 < x) (p : Option Addr) (n cap : Nat) (w : World) (hT : Tab w) :
    Calls Tryd.prog 3 #[.int .i64 x, .bool false, .slice p n cap] w fun e w' => e = .returned (.bool true) ∧ Below w.heap.size w w' := by
  have HT := Lib.hid hT
  have hnw := new_out x hx
  have hrn := ref_new_out x hx
  clear hT hx
  go_enter Tryd.func3, Tryd.ntmps3
  go_wp2_with fail
  refine (examples_any _ HT.out).mono ?_
  rintro e W1 ⟨rfl, hB⟩
  go_wp2_with fail
  refine (hnw _).mono ?_
  rintro e W2 ⟨rfl, rfl⟩
  go_wp2_with fail
  refine (hrn _).mono ?_
  rintro e W3 ⟨rfl, rfl⟩
  go_wp2
  go_ret
  exact ⟨rfl, hB⟩
theorem HllPlays_walk (x : Int) (_hx : (Lit.int .i64 x).wf = true) (near : Bool) (p : Option Addr) (n cap : Nat) (hn : n ≤ 9223372036854775807) (w : World) (hT : Tab w) (hD : Deeds p n w) :
    Calls Tryd.prog 3 #[.int .i64 x, .bool near, .slice p n cap] w fun e w' => e = .returned (.bool true) ∧ Below w.heap.size w w' := by
  cases near with
  | true => exact plays_near x p n cap hn w hT hD
  | false =>
    by_cases h : 4 ≤ x ∧ x ≤ 10
    · obtain ⟨b, rfl⟩ := Int.eq_ofNat_of_zero_le (show 0 ≤ x by omega)
      exact plays_in b (by omega) (by omega) p n cap hn w hT hD
    · exact plays_out x (by omega) p n cap w hT
end Go.Proofs.YtdcjfefnkjdchaaDoor
