/-
  No cell of these rows narrows 'for every input' (looked for: loops, veiled, ifaces, maps, wideKeys, modest, calm, conditions, laid).
  DERIVED. THE GIVEN ROWS OF THIS SEAT. 7 by the template 'for every input the law returns true; each argument reads behind the call as it read before'; 0 by the template 'total and deterministic' (their statements: YtklklpccpbhfgaaTotals.lean).
  GIVEN WITH THE SEED: the statements are not yours to turn. If you find one false, say at which input.
  Laid BY PROGRAM, IN A SANDBOX (cutbox-rows.mjs): the forced cells as the released guide's own fill.sh prints them over the translation f9cc4f7b343c8512… (all of the seat's roots in one cut). By AI agents, Wed Nov 11 2026. No macro, syntax, notation, axiom, sorry.
-/
import Derived.Test.YtklklpccpbhfgaaChecked
import GoSem.Claim
import GoSem.ClaimJoined
import GoSem.ClaimMapViews
import Derived.JoinedTies
import Derived.KernelRfl
namespace Go.Proofs.Ytklklpccpbhfgaa
/- THE CELL 'sum', in the pinned program and in every row, IS THE sha256 OF THE DUMP (.gsa) THAT YtklklpccpbhfgaaProg.lean LOADS. Nothing in Lean hashes anything: it is a label: what it is worth is what the hold of that sum in a sandbox is worth. -/
noncomputable def Try.pinned : Pinned := { name := "ytklklpccpbhfgaa", sum := "f9cc4f7b343c85123fe5efaf7dfe68698c3301f574f1ea2e9931ab19f65f831d", checked := Try.checked }
namespace Rows
def none {H : Type} : Left H := { results := [], args := [] }

/-- 'scantlinglaw06.HistPlays': WHATEVER THE INPUT: true; the input reads as it did. -/
def histPlaysSpec : ChangeSpec := { name := "histPlays", fn := fun _ => fun
  | [d1, d2, d3, d4, d5, d6] => { results := [.lit (.bool true)], args := [d1, d2, d3, d4, d5, d6] }
  | _ => none }
def histPlaysRow : OpenClaim := { program := "ytklklpccpbhfgaa", sum := "f9cc4f7b343c85123fe5efaf7dfe68698c3301f574f1ea2e9931ab19f65f831d", func := "scantling/scantlinglaw06.HistPlays", spec := "histPlays", inPlace := ["slices.overlaps[scantling/hist.Item]"], unfollowed := true, recurses := true, apart := false }
def HistPlaysSaid : Prop := histPlaysRow.holds Try.pinned (OpenSpec.ofChange histPlaysSpec)

/-- ITS FALSE NEIGHBOUR: 'it returns false'. Refute it at one input. -/
def histPlaysWrong : ChangeSpec := { name := "histPlays", fn := fun _ => fun
  | [d1, d2, d3, d4, d5, d6] => { results := [.lit (.bool false)], args := [d1, d2, d3, d4, d5, d6] }
  | _ => none }
def HistPlaysWrongFalsely : Prop := histPlaysRow.holds Try.pinned (OpenSpec.ofChange histPlaysWrong)

/-- 'scantlinglaw06.HistGets': WHATEVER THE INPUT: true; the input reads as it did. -/
def histGetsSpec : ChangeSpec := { name := "histGets", fn := fun _ => fun
  | [d1, d2, d3, d4, d5, d6] => { results := [.lit (.bool true)], args := [d1, d2, d3, d4, d5, d6] }
  | _ => none }
def histGetsRow : OpenClaim := { program := "ytklklpccpbhfgaa", sum := "f9cc4f7b343c85123fe5efaf7dfe68698c3301f574f1ea2e9931ab19f65f831d", func := "scantling/scantlinglaw06.HistGets", spec := "histGets", inPlace := ["slices.overlaps[scantling/hist.Item]"], unfollowed := true, recurses := true, apart := false }
def HistGetsSaid : Prop := histGetsRow.holds Try.pinned (OpenSpec.ofChange histGetsSpec)

/-- ITS FALSE NEIGHBOUR: 'it returns false'. Refute it at one input. -/
def histGetsWrong : ChangeSpec := { name := "histGets", fn := fun _ => fun
  | [d1, d2, d3, d4, d5, d6] => { results := [.lit (.bool false)], args := [d1, d2, d3, d4, d5, d6] }
  | _ => none }
def HistGetsWrongFalsely : Prop := histGetsRow.holds Try.pinned (OpenSpec.ofChange histGetsWrong)

/-- 'scantlinglaw06.HistRank': WHATEVER THE INPUT: true; the input reads as it did. -/
def histRankSpec : ChangeSpec := { name := "histRank", fn := fun _ => fun
  | [d1, d2, d3, d4] => { results := [.lit (.bool true)], args := [d1, d2, d3, d4] }
  | _ => none }
def histRankRow : OpenClaim := { program := "ytklklpccpbhfgaa", sum := "f9cc4f7b343c85123fe5efaf7dfe68698c3301f574f1ea2e9931ab19f65f831d", func := "scantling/scantlinglaw06.HistRank", spec := "histRank", inPlace := ["slices.overlaps[scantling/hist.Item]"], unfollowed := true, recurses := true, apart := false }
def HistRankSaid : Prop := histRankRow.holds Try.pinned (OpenSpec.ofChange histRankSpec)

/-- ITS FALSE NEIGHBOUR: 'it returns false'. Refute it at one input. -/
def histRankWrong : ChangeSpec := { name := "histRank", fn := fun _ => fun
  | [d1, d2, d3, d4] => { results := [.lit (.bool false)], args := [d1, d2, d3, d4] }
  | _ => none }
def HistRankWrongFalsely : Prop := histRankRow.holds Try.pinned (OpenSpec.ofChange histRankWrong)

/-- 'scantlinglaw06.HistOrder': WHATEVER THE INPUT: true; the input reads as it did. -/
def histOrderSpec : ChangeSpec := { name := "histOrder", fn := fun _ => fun
  | [d1, d2, d3] => { results := [.lit (.bool true)], args := [d1, d2, d3] }
  | _ => none }
def histOrderRow : OpenClaim := { program := "ytklklpccpbhfgaa", sum := "f9cc4f7b343c85123fe5efaf7dfe68698c3301f574f1ea2e9931ab19f65f831d", func := "scantling/scantlinglaw06.HistOrder", spec := "histOrder", inPlace := ["slices.overlaps[scantling/hist.Item]"], unfollowed := true, recurses := true, apart := false }
def HistOrderSaid : Prop := histOrderRow.holds Try.pinned (OpenSpec.ofChange histOrderSpec)

/-- ITS FALSE NEIGHBOUR: 'it returns false'. Refute it at one input. -/
def histOrderWrong : ChangeSpec := { name := "histOrder", fn := fun _ => fun
  | [d1, d2, d3] => { results := [.lit (.bool false)], args := [d1, d2, d3] }
  | _ => none }
def HistOrderWrongFalsely : Prop := histOrderRow.holds Try.pinned (OpenSpec.ofChange histOrderWrong)

/-- 'scantlinglaw06.HistBack': WHATEVER THE INPUT: true; the input reads as it did. -/
def histBackSpec : ChangeSpec := { name := "histBack", fn := fun _ => fun
  | [d1, d2, d3, d4] => { results := [.lit (.bool true)], args := [d1, d2, d3, d4] }
  | _ => none }
def histBackRow : OpenClaim := { program := "ytklklpccpbhfgaa", sum := "f9cc4f7b343c85123fe5efaf7dfe68698c3301f574f1ea2e9931ab19f65f831d", func := "scantling/scantlinglaw06.HistBack", spec := "histBack", inPlace := ["slices.overlaps[scantling/hist.Item]"], unfollowed := true, recurses := true, apart := false }
def HistBackSaid : Prop := histBackRow.holds Try.pinned (OpenSpec.ofChange histBackSpec)

/-- ITS FALSE NEIGHBOUR: 'it returns false'. Refute it at one input. -/
def histBackWrong : ChangeSpec := { name := "histBack", fn := fun _ => fun
  | [d1, d2, d3, d4] => { results := [.lit (.bool false)], args := [d1, d2, d3, d4] }
  | _ => none }
def HistBackWrongFalsely : Prop := histBackRow.holds Try.pinned (OpenSpec.ofChange histBackWrong)

/-- 'scantlinglaw06.HistParts': WHATEVER THE INPUT: true; the input reads as it did. -/
def histPartsSpec : ChangeSpec := { name := "histParts", fn := fun _ => fun
  | [d1, d2, d3, d4, d5] => { results := [.lit (.bool true)], args := [d1, d2, d3, d4, d5] }
  | _ => none }
def histPartsRow : OpenClaim := { program := "ytklklpccpbhfgaa", sum := "f9cc4f7b343c85123fe5efaf7dfe68698c3301f574f1ea2e9931ab19f65f831d", func := "scantling/scantlinglaw06.HistParts", spec := "histParts", inPlace := ["slices.overlaps[scantling/hist.Item]"], unfollowed := true, recurses := true, apart := false }
def HistPartsSaid : Prop := histPartsRow.holds Try.pinned (OpenSpec.ofChange histPartsSpec)

/-- ITS FALSE NEIGHBOUR: 'it returns false'. Refute it at one input. -/
def histPartsWrong : ChangeSpec := { name := "histParts", fn := fun _ => fun
  | [d1, d2, d3, d4, d5] => { results := [.lit (.bool false)], args := [d1, d2, d3, d4, d5] }
  | _ => none }
def HistPartsWrongFalsely : Prop := histPartsRow.holds Try.pinned (OpenSpec.ofChange histPartsWrong)

/-- 'scantlinglaw06.HistCount': WHATEVER THE INPUT: true; the input reads as it did. -/
def histCountSpec : ChangeSpec := { name := "histCount", fn := fun _ => fun
  | [d1, d2, d3] => { results := [.lit (.bool true)], args := [d1, d2, d3] }
  | _ => none }
def histCountRow : OpenClaim := { program := "ytklklpccpbhfgaa", sum := "f9cc4f7b343c85123fe5efaf7dfe68698c3301f574f1ea2e9931ab19f65f831d", func := "scantling/scantlinglaw06.HistCount", spec := "histCount", inPlace := ["slices.overlaps[scantling/hist.Item]"], unfollowed := true, recurses := true, apart := false }
def HistCountSaid : Prop := histCountRow.holds Try.pinned (OpenSpec.ofChange histCountSpec)

/-- ITS FALSE NEIGHBOUR: 'it returns false'. Refute it at one input. -/
def histCountWrong : ChangeSpec := { name := "histCount", fn := fun _ => fun
  | [d1, d2, d3] => { results := [.lit (.bool false)], args := [d1, d2, d3] }
  | _ => none }
def HistCountWrongFalsely : Prop := histCountRow.holds Try.pinned (OpenSpec.ofChange histCountWrong)

/- THE SECOND FORM. 'bulk': how many values and letters a reading holds, each counted each time it is reached (what is shared counts as often as it is met; a slice's spare places count too). A statement '..UptoSaid' is the law's where the arguments, and the package variables that the reading takes, are together of bulk at most 1048576: NARROWER than '..Said'. Prove '..Said' where nothing that the law and all that it calls make is longer than what came in: it says more and counts as full. Else prove '..UptoSaid'. A law counts once. -/
mutual
def uptoBulk {H : Type} : DataW H → Nat
  | .lit (.string bytes) => bytes.length + 1
  | .lit _ => 1
  | .nil => 1
  | .ptr d => uptoBulk d + 1
  | .slice elems spare => uptoBulkAll elems + uptoBulkAll spare + 1
  | .agg parts => uptoBulkAll parts + 1
  | .iface _ d => uptoBulk d + 1
  | .map entries => uptoBulkEntries entries + 1
  | .held _ => 1
def uptoBulkAll {H : Type} : List (DataW H) → Nat
  | [] => 0
  | d :: r => uptoBulk d + uptoBulkAll r
def uptoBulkEntries {H : Type} : List (Lit × DataW H) → Nat
  | [] => 0
  | x :: r => uptoBulkEntry x + uptoBulkEntries r
def uptoBulkEntry {H : Type} : Lit × DataW H → Nat
  | (.string bytes, d) => bytes.length + uptoBulk d + 1
  | (_, d) => uptoBulk d + 1
 end
def uptoSmall : (H : Type) → List (DataW H) → Bool := fun _ ds => decide (uptoBulkAll ds ≤ 1048576)
def OpenSpec.upto (s : _root_.Go.ChangeSpec) : _root_.Go.OpenSpec := { _root_.Go.OpenSpec.ofChange s with cond := some uptoSmall }

/-- 'scantlinglaw06.HistPlays', WHERE WHAT IT READS IS OF BULK AT MOST 1048576: true; the input reads as it did. -/
def histPlaysUptoRow : OpenClaim := { program := "ytklklpccpbhfgaa", sum := "f9cc4f7b343c85123fe5efaf7dfe68698c3301f574f1ea2e9931ab19f65f831d", func := "scantling/scantlinglaw06.HistPlays", spec := "histPlays", inPlace := ["slices.overlaps[scantling/hist.Item]"], unfollowed := true, recurses := true, apart := false, narrowed := true }
def HistPlaysUptoSaid : Prop := histPlaysUptoRow.holds Try.pinned (OpenSpec.upto histPlaysSpec)

/-- 'scantlinglaw06.HistGets', WHERE WHAT IT READS IS OF BULK AT MOST 1048576: true; the input reads as it did. -/
def histGetsUptoRow : OpenClaim := { program := "ytklklpccpbhfgaa", sum := "f9cc4f7b343c85123fe5efaf7dfe68698c3301f574f1ea2e9931ab19f65f831d", func := "scantling/scantlinglaw06.HistGets", spec := "histGets", inPlace := ["slices.overlaps[scantling/hist.Item]"], unfollowed := true, recurses := true, apart := false, narrowed := true }
def HistGetsUptoSaid : Prop := histGetsUptoRow.holds Try.pinned (OpenSpec.upto histGetsSpec)

/-- 'scantlinglaw06.HistRank', WHERE WHAT IT READS IS OF BULK AT MOST 1048576: true; the input reads as it did. -/
def histRankUptoRow : OpenClaim := { program := "ytklklpccpbhfgaa", sum := "f9cc4f7b343c85123fe5efaf7dfe68698c3301f574f1ea2e9931ab19f65f831d", func := "scantling/scantlinglaw06.HistRank", spec := "histRank", inPlace := ["slices.overlaps[scantling/hist.Item]"], unfollowed := true, recurses := true, apart := false, narrowed := true }
def HistRankUptoSaid : Prop := histRankUptoRow.holds Try.pinned (OpenSpec.upto histRankSpec)

/-- 'scantlinglaw06.HistOrder', WHERE WHAT IT READS IS OF BULK AT MOST 1048576: true; the input reads as it did. -/
def histOrderUptoRow : OpenClaim := { program := "ytklklpccpbhfgaa", sum := "f9cc4f7b343c85123fe5efaf7dfe68698c3301f574f1ea2e9931ab19f65f831d", func := "scantling/scantlinglaw06.HistOrder", spec := "histOrder", inPlace := ["slices.overlaps[scantling/hist.Item]"], unfollowed := true, recurses := true, apart := false, narrowed := true }
def HistOrderUptoSaid : Prop := histOrderUptoRow.holds Try.pinned (OpenSpec.upto histOrderSpec)

/-- 'scantlinglaw06.HistBack', WHERE WHAT IT READS IS OF BULK AT MOST 1048576: true; the input reads as it did. -/
def histBackUptoRow : OpenClaim := { program := "ytklklpccpbhfgaa", sum := "f9cc4f7b343c85123fe5efaf7dfe68698c3301f574f1ea2e9931ab19f65f831d", func := "scantling/scantlinglaw06.HistBack", spec := "histBack", inPlace := ["slices.overlaps[scantling/hist.Item]"], unfollowed := true, recurses := true, apart := false, narrowed := true }
def HistBackUptoSaid : Prop := histBackUptoRow.holds Try.pinned (OpenSpec.upto histBackSpec)

/-- 'scantlinglaw06.HistParts', WHERE WHAT IT READS IS OF BULK AT MOST 1048576: true; the input reads as it did. -/
def histPartsUptoRow : OpenClaim := { program := "ytklklpccpbhfgaa", sum := "f9cc4f7b343c85123fe5efaf7dfe68698c3301f574f1ea2e9931ab19f65f831d", func := "scantling/scantlinglaw06.HistParts", spec := "histParts", inPlace := ["slices.overlaps[scantling/hist.Item]"], unfollowed := true, recurses := true, apart := false, narrowed := true }
def HistPartsUptoSaid : Prop := histPartsUptoRow.holds Try.pinned (OpenSpec.upto histPartsSpec)

/-- 'scantlinglaw06.HistCount', WHERE WHAT IT READS IS OF BULK AT MOST 1048576: true; the input reads as it did. -/
def histCountUptoRow : OpenClaim := { program := "ytklklpccpbhfgaa", sum := "f9cc4f7b343c85123fe5efaf7dfe68698c3301f574f1ea2e9931ab19f65f831d", func := "scantling/scantlinglaw06.HistCount", spec := "histCount", inPlace := ["slices.overlaps[scantling/hist.Item]"], unfollowed := true, recurses := true, apart := false, narrowed := true }
def HistCountUptoSaid : Prop := histCountUptoRow.holds Try.pinned (OpenSpec.upto histCountSpec)

end Rows
end Go.Proofs.Ytklklpccpbhfgaa
