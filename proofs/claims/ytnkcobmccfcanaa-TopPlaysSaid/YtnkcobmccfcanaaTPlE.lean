/- TopPlays, for every argument. -/
import Derived.Test.YtnkcobmccfcanaaTPlW
import Derived.Test.YtnkcobmccfcanaaTDd
namespace Go.Proofs.Ytnkcobmccfcanaa
open Go Go.RowKit

theorem TopPlays_walk (a0 : Int) (h0 : (Lit.int .i64 a0).wf = true) (a1 : Bool) (p : Option Addr) (n cap : Nat) (hn : n ≤ 9223372036854775807) (a3 : Int) (h3 : (Lit.int .u8 a3).wf = true) (w : World) (hD : Deeds p n w) :
    Calls Try.prog 3 #[.int .i64 a0, .bool a1, .slice p n cap, .int .u8 a3] w fun e w' => e = .returned (.bool true) ∧ Below w.heap.size w w' := by
  obtain ⟨c, rfl, hc⟩ := wf_u8 h3
  exact plays_in a0 (wf_i64 h0) a1 p n cap c hn hc w hD
end Go.Proofs.Ytnkcobmccfcanaa
