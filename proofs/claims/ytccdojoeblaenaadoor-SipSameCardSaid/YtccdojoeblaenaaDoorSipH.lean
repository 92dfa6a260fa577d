/- The chapter's statements, walked: SipKeys, SipSums, SipRanks. -/
import Derived.Test.YtccdojoeblaenaaDoorSipG
import Derived.Test.YtccdojoeblaenaaDoorLaw
namespace Go.Proofs.YtccdojoeblaenaaDoor
open Go Go.RowKit

theorem gTab : Tryd.prog.globalNamed "math/bits.deBruijn64tab" = some 0 := by kernel_rfl
theorem gTabType : (Tryd.prog.globals[0]?).map (·.type) = some 49 := by kernel_rfl
theorem cellsTab : Tryd.prog.cellsOf 49 = 64 := by kernel_rfl
theorem cellsU8 : Tryd.prog.cellsOf 5 = 1 := by kernel_rfl
theorem laid_of {W : World} {rest : List (String × DataW Unit)} (h : laidMet Tryd.prog (("math/bits.deBruijn64tab", Rows.laid_math_bits_deBruijn64tab) :: rest) W) : Tab W := fun j hj => by
  have ht : Lib.TabIs Tryd.prog W "math/bits.deBruijn64tab" .u8 (Lib.deBruijn64tab.map fun (n : Nat) => (n : Int)) :=
    Lib.tabIs_of_head (rest := rest) gTab gTabType Tryd.underlying49 Tryd.underlying5 cellsU8 cellsTab h
  have h2 := ht.cell gTab j (by simpa [Lib.deBruijn64tab] using hj)
  rw [h2]
  simp [List.getD, List.getElem?_map]
  cases Lib.deBruijn64tab[j]? <;> rfl
/-- A world for the witness: the settled one, the table holding what its initialiser lays. -/
noncomputable def laidWorld (os : Os) : World :=
  { World.holding Tryd.prog os ⟨#[], #[], []⟩ with heap := (World.holding Tryd.prog os ⟨#[], #[], []⟩).heap.modify 0 fun
      | .cells _ t frozen => .cells (Lib.deBruijn64tab.map fun (n : Nat) => Value.int .u8 n).toArray t frozen
      | o => o }

set_option maxHeartbeats 1000000 in
theorem SipKeys_walk (s : ByteArray) (hs : s.size ≤ maxLen) (w : World) (hT : Tab w) :
    Calls Tryd.prog 8 #[.string s] w fun e w' => e = .returned (.bool true) ∧ Below w.heap.size w w' := by
  have HT := Lib.hid hT
  have HS := Lib.hid hs
  clear hT hs
  go_enter Tryd.func8, Tryd.ntmps8
  go_wp2_with fail
  refine (examples_any _ HT.out).mono ?_
  rintro e w1 ⟨rfl, hB1⟩
  go_wp2_with fail
  refine (key_any s _ HS.out).mono ?_
  rintro e w2 ⟨rfl, hB2⟩
  go_wp2_with fail
  refine (sum_any 0 0 s _ HS.out).mono ?_
  rintro e w3 ⟨rfl, hB3⟩
  go_wp2_with fail
  refine (sum_any 1 0 s _ HS.out).mono ?_
  rintro e w4 ⟨rfl, hB4⟩
  have hB5 := (hB1.trans (hB2.mono hB1.size))
  have hB6 := (hB5.trans (hB3.mono hB5.size))
  have hB7 := (hB6.trans (hB4.mono hB6.size))
  clear hB1 hB2 hB3 hB4 hB5 hB6
  go_wp2
  go_ret
  exact ⟨rfl, hB7⟩

set_option maxHeartbeats 1000000 in
theorem SipSums_walk (a : Int) (_ha : (Lit.int .u64 a).wf = true) (b : Int) (_hb : (Lit.int .u64 b).wf = true) (s : ByteArray) (hs : s.size ≤ maxLen) (w : World) (hT : Tab w) :
    Calls Tryd.prog 3 #[.int .u64 a, .int .u64 b, .string s] w fun e w' => e = .returned (.bool true) ∧ Below w.heap.size w w' := by
  have HT := Lib.hid hT
  have HS := Lib.hid hs
  clear hT hs
  go_enter Tryd.func3, Tryd.ntmps3
  go_wp2_with fail
  refine (examples_any _ HT.out).mono ?_
  rintro e w1 ⟨rfl, hB1⟩
  go_wp2_with fail
  refine (key_any s _ HS.out).mono ?_
  rintro e w2 ⟨rfl, hB2⟩
  go_wp2_with fail
  refine (sum_any a b s _ HS.out).mono ?_
  rintro e w3 ⟨rfl, hB3⟩
  go_wp2_with fail
  refine (ref_sum_any a b s _ HS.out).mono ?_
  rintro e w4 ⟨rfl, hB4⟩
  go_wp2_with fail
  refine (ref_sum_any 0 0 s _ HS.out).mono ?_
  rintro e w5 ⟨rfl, hB5⟩
  go_wp2_with fail
  refine (ref_sum_any 1 0 s _ HS.out).mono ?_
  rintro e w6 ⟨rfl, hB6⟩
  have hC2 := (hB1.trans (hB2.mono hB1.size))
  have hC3 := (hC2.trans (hB3.mono hC2.size))
  have hC4 := (hC3.trans (hB4.mono hC3.size))
  have hC5 := (hC4.trans (hB5.mono hC4.size))
  have hC6 := (hC5.trans (hB6.mono hC5.size))
  clear hB1 hB2 hB3 hB4 hB5 hB6 hC2 hC3 hC4 hC5
  go_wp2
  go_ret
  exact ⟨rfl, hC6⟩

theorem u64_nat {a : Int} (h : (Lit.int .u64 a).wf = true) : ∃ n : Nat, a = n ∧ n < 18446744073709551616 := by
  have hx : 0 ≤ a ∧ a ≤ 18446744073709551615 := by simpa [Lit.wf, IntKind.min, IntKind.max, IntKind.signed, IntKind.bits] using h
  exact ⟨a.toNat, by omega, by omega⟩
/-- Any rank. -/
theorem rank_any (h : Nat) (hh : h < 18446744073709551616) (f : Int) (w : World) (hT : Tab w) :
    Calls Tryd.prog 13 #[.int .u64 h, .int .i64 f] w fun e w' => e = .returned (.int .i64 (srank h f)) ∧ w = w' := by
  by_cases hf : 0 ≤ f ∧ f < 64
  · obtain ⟨n, rfl⟩ := Int.eq_ofNat_of_zero_le hf.1
    exact rank_in h hh n (by omega) w hT
  · have : srank h f = 0 := by unfold srank; rw [if_neg hf]
    rw [this]
    exact rank_out _ f (by omega) w
theorem ref_rank_any (h : Nat) (hh : h < 18446744073709551616) (f : Int) (w : World) :
    Calls Tryd.prog 14 #[.int .u64 h, .int .i64 f] w fun e w' => e = .returned (.int .i64 (srank h f)) ∧ w = w' := by
  by_cases hf : 0 ≤ f ∧ f < 64
  · obtain ⟨n, rfl⟩ := Int.eq_ofNat_of_zero_le hf.1
    exact ref_rank_in h hh n (by omega) w
  · have : srank h f = 0 := by unfold srank; rw [if_neg hf]
    rw [this]
    exact ref_rank_out _ f (by omega) w
set_option maxHeartbeats 1000000 in
theorem SipRanks_walk (a : Int) (ha : (Lit.int .u64 a).wf = true) (f : Int) (_hf : (Lit.int .i64 f).wf = true) (near : Bool) (w : World) (hT : Tab w) :
    Calls Tryd.prog 4 #[.int .u64 a, .int .i64 f, .bool near] w fun e w' => e = .returned (.bool true) ∧ Below w.heap.size w w' := by
  obtain ⟨h, rfl, hh⟩ := u64_nat ha
  have HT := Lib.hid hT
  clear hT ha
  cases near
  all_goals
    go_enter Tryd.func4, Tryd.ntmps4
    go_wp2_with fail
    refine (examples_any _ HT.out).mono ?_
    rintro e w1 ⟨rfl, hB1⟩
    go_wp2_with fail
    refine (rank_any h hh _ _ (HT.out.below hB1)).mono ?_
    rintro e w2 ⟨rfl, rfl⟩
    go_wp2_with fail
    refine (ref_rank_any h hh _ _).mono ?_
    rintro e w3 ⟨rfl, rfl⟩
    go_wp2
    go_ret
    exact ⟨rfl, hB1⟩
end Go.Proofs.YtccdojoeblaenaaDoor
