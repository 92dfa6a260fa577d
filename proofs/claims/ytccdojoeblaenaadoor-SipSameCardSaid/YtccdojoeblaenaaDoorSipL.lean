/- The chapter's statements, walked: SipSame. -/
import Derived.Test.YtccdojoeblaenaaDoorSipK
import Derived.Test.YtccdojoeblaenaaDoorReg
namespace Go.Proofs.YtccdojoeblaenaaDoor
open Go Go.RowKit

/-- What each operation of the last statement yields. -/
def SamePhi (a b : Int) (s : ByteArray) (h n z r : Nat) (m k : Int) : Nat → Value → World → Prop
  | 9, v, w => ∃ bb cap, v = .slice (some ⟨bb, 0, none⟩) s.size cap ∧ BytesIn s bb w
  | i, v, _ => v = ([.bool true, .bool true, .int .u64 a, .int .u64 b, .string s, .int .u64 (ssum a b s.data.toList), .int .u64 a, .int .u64 b, .string s, undef, .string s, .int .u64 (ssum a b s.data.toList), .bool true, .bool true, .bool true, .int .i64 (m), .int .i64 (m), .bool true, .bool true, .bool true, .int .u64 (h : Nat), .int .i64 ((n : Nat)), .int .u64 (z : Nat), .int .i64 ((n : Nat)), .int .i64 (k), .int .i64 ((r : Nat)), .int .i64 ((n : Nat)), .int .i64 (65 - (n : Nat)), .int .i64 (k), .bool true, .bool true, .bool true] : List Value).getD i undef
theorem SamePhi.stays {a b : Int} {s : ByteArray} {h n z r : Nat} {m k : Int} : ∀ i v w w', SamePhi a b s h n z r m k i v w → Below w.heap.size w w' → SamePhi a b s h n z r m k i v w' := by
  intro i v w w' hv hB
  unfold SamePhi at *
  split at hv
  · obtain ⟨bb, cap, rfl, hb⟩ := hv
    exact ⟨bb, cap, rfl, hb.below hB⟩
  · exact hv

set_option maxRecDepth 100000 in
set_option maxHeartbeats 2000000 in
theorem SipSame_walk (a : Int) (_ha : (Lit.int .u64 a).wf = true) (b : Int) (_hb : (Lit.int .u64 b).wf = true) (s : ByteArray) (hs : s.size ≤ maxLen) (x : Int) (hx : (Lit.int .u64 x).wf = true) (y : Int) (hy : (Lit.int .u8 y).wf = true) (w : World) (hT : Tab w) :
    Calls Tryd.prog 5 #[.int .u64 a, .int .u64 b, .string s, .int .u64 x, .int .u8 y] w fun e w' => e = .returned (.bool true) ∧ Below w.heap.size w w' := by
  obtain ⟨h, rfl, hh⟩ := u64_nat hx
  obtain ⟨y, rfl, hy'⟩ := u8_nat hy
  have hy64 : y % 64 < 64 := Nat.mod_lt _ (by decide)
  have hym : (y : Int) % 64 = ((y % 64 : Nat) : Int) := by omega
  obtain ⟨r, hr1, hr2, hr, hm, hk⟩ := same_rank h hh (y % 64) hy64
  generalize y % 64 = n at *
  have hlt : h * 2 ^ n % 18446744073709551616 < 18446744073709551616 := Nat.mod_lt _ (by decide)
  have hw : IntKind.u64.wrap ((h : Int) * 2 ^ n) = ((h * 2 ^ n % 18446744073709551616 : Nat) : Int) := by
    rw [IntKind.wrap_u64, show ((h : Int) * 2 ^ n) = ((h * 2 ^ n : Nat) : Int) from by push_cast; rfl]; omega
  generalize h * 2 ^ n % 18446744073709551616 = z at *
  have HT := Lib.hid hT
  have HS := Lib.hid hs
  have HR := Lib.hid hr
  have HM := Lib.hid hm
  have HK := Lib.hid hk
  have HH := Lib.hid hh
  have HL := Lib.hid hlt
  clear hT hs hr hm hk hx hy hh hlt
  go_enter Tryd.func5, Tryd.ntmps5
  go_wp2_with fail
  refine (examples_any _ HT.out).mono ?_
  rintro e w1 ⟨rfl, hB1⟩
  go_wp2_with fail
  refine (rank_any h HH.out 0 _ (HT.out.below hB1)).mono ?_
  rintro e w2 ⟨rfl, rfl⟩
  rw [HR.out]
  go_wp2_with fail
  refine (rank_any z HL.out 0 _ (HT.out.below hB1)).mono ?_
  rintro e w2 ⟨rfl, rfl⟩
  obtain ⟨m, hm⟩ : ∃ m : Int, srank z 0 = m ∧ (min ((r : Int) + n) 65 = m) := ⟨_, rfl, HM.out.symm⟩
  obtain ⟨k, hk⟩ : ∃ k : Int, srank z n = k ∧ (min (r : Int) (65 - n) = k) := ⟨_, rfl, HK.out.symm⟩
  rw [hm.1]
  clear HK
  have HK := Lib.hid hk.1
  have HM2 := Lib.hid hm.2
  have HK2 := Lib.hid hk.2
  clear hm hk
  by_cases hc : (r : Int) + n ≤ 65
  · have hm : m = (r : Int) + n := by rw [← HM2.out]; omega
    have hk : k = r := by rw [← HK2.out]; omega
    subst hm hk
    have hc2 : (r : Int) ≤ 65 - n := by omega
    clear HM2 HK2
    go_wp2_with fail
    refine Reg.wp_region_inv (n := 63) (SamePhi a b s h n z r ((r : Nat) + (n : Nat)) ((r : Nat))) (by kernel_rfl) (by kernel_rfl) rfl SamePhi.stays ?_ ?_
    · refine ⟨?_, ?_, ?_, ?_, ?_, ?_, ?_, ?_, ?_, ?_, ?_, ?_, ?_, ?_, ?_, ?_, ?_, ?_, ?_, ?_, ?_, ?_, ?_, ?_, ?_, ?_, ?_, ?_, ?_, ?_, ?_, ?_, trivial⟩
      · intro c wc hB hp hs
        have g11 : c.tmps[11]? = some (.bool true) := (hs 11 (by kernel_rfl)).trans rfl
        refine Reg.ok_value (v := .bool true) (Reg.wanted_none rfl) ?_ rfl
        go_simp
      · intro c wc hB hp hs
        have g32 : c.tmps[32]? = some (.bool true) := by obtain ⟨_, g, hv⟩ := Reg.pred hp 0 32 (by kernel_rfl) rfl rfl; exact g.trans (congrArg some hv)
        refine Reg.ok_value (v := .bool true) (Reg.wanted_none rfl) ?_ rfl
        go_simp
      · intro c wc hB hp hs
        have g0 : c.tmps[0]? = some (.int .u64 a) := (hs 0 (by kernel_rfl)).trans rfl
        have g33 : c.tmps[33]? = some (.bool true) := by obtain ⟨_, g, hv⟩ := Reg.pred hp 1 33 (by kernel_rfl) rfl rfl; exact g.trans (congrArg some hv)
        refine Reg.ok_value (v := .int .u64 a) (Reg.wanted_at (j := 1) (d := 33) rfl rfl rfl g33) ?_ rfl
        go_simp
      · intro c wc hB hp hs
        have g1 : c.tmps[1]? = some (.int .u64 b) := (hs 1 (by kernel_rfl)).trans rfl
        have g33 : c.tmps[33]? = some (.bool true) := by obtain ⟨_, g, hv⟩ := Reg.pred hp 1 33 (by kernel_rfl) rfl rfl; exact g.trans (congrArg some hv)
        refine Reg.ok_value (v := .int .u64 b) (Reg.wanted_at (j := 1) (d := 33) rfl rfl rfl g33) ?_ rfl
        go_simp
      · intro c wc hB hp hs
        have g2 : c.tmps[2]? = some (.string s) := (hs 2 (by kernel_rfl)).trans rfl
        have g33 : c.tmps[33]? = some (.bool true) := by obtain ⟨_, g, hv⟩ := Reg.pred hp 1 33 (by kernel_rfl) rfl rfl; exact g.trans (congrArg some hv)
        refine Reg.ok_value (v := .string s) (Reg.wanted_at (j := 1) (d := 33) rfl rfl rfl g33) ?_ rfl
        go_simp
      · intro c wc hB hp hs
        have g34 : c.tmps[34]? = some (.int .u64 a) := by obtain ⟨_, g, hv⟩ := Reg.pred hp 2 34 (by kernel_rfl) rfl rfl; exact g.trans (congrArg some hv)
        have g35 : c.tmps[35]? = some (.int .u64 b) := by obtain ⟨_, g, hv⟩ := Reg.pred hp 3 35 (by kernel_rfl) rfl rfl; exact g.trans (congrArg some hv)
        have g36 : c.tmps[36]? = some (.string s) := by obtain ⟨_, g, hv⟩ := Reg.pred hp 4 36 (by kernel_rfl) rfl rfl; exact g.trans (congrArg some hv)
        have g33 : c.tmps[33]? = some (.bool true) := by obtain ⟨_, g, hv⟩ := Reg.pred hp 1 33 (by kernel_rfl) rfl rfl; exact g.trans (congrArg some hv)
        refine Reg.ok_call (f := 11) (args := #[.int .u64 a, .int .u64 b, .string s]) (Reg.wanted_at (j := 1) (d := 33) rfl rfl rfl g33) (by go_simp) ((sum_any a b s wc HS.out).mono ?_)
        rintro e w' ⟨rfl, hB2⟩
        exact ⟨_, rfl, hB2, rfl⟩
      · intro c wc hB hp hs
        have g0 : c.tmps[0]? = some (.int .u64 a) := (hs 0 (by kernel_rfl)).trans rfl
        have g33 : c.tmps[33]? = some (.bool true) := by obtain ⟨_, g, hv⟩ := Reg.pred hp 1 33 (by kernel_rfl) rfl rfl; exact g.trans (congrArg some hv)
        refine Reg.ok_value (v := .int .u64 a) (Reg.wanted_at (j := 1) (d := 33) rfl rfl rfl g33) ?_ rfl
        go_simp
      · intro c wc hB hp hs
        have g1 : c.tmps[1]? = some (.int .u64 b) := (hs 1 (by kernel_rfl)).trans rfl
        have g33 : c.tmps[33]? = some (.bool true) := by obtain ⟨_, g, hv⟩ := Reg.pred hp 1 33 (by kernel_rfl) rfl rfl; exact g.trans (congrArg some hv)
        refine Reg.ok_value (v := .int .u64 b) (Reg.wanted_at (j := 1) (d := 33) rfl rfl rfl g33) ?_ rfl
        go_simp
      · intro c wc hB hp hs
        have g2 : c.tmps[2]? = some (.string s) := (hs 2 (by kernel_rfl)).trans rfl
        have g33 : c.tmps[33]? = some (.bool true) := by obtain ⟨_, g, hv⟩ := Reg.pred hp 1 33 (by kernel_rfl) rfl rfl; exact g.trans (congrArg some hv)
        refine Reg.ok_value (v := .string s) (Reg.wanted_at (j := 1) (d := 33) rfl rfl rfl g33) ?_ rfl
        go_simp
      · intro c wc hB hp hs
        have g40 : c.tmps[40]? = some (.string s) := by obtain ⟨_, g, hv⟩ := Reg.pred hp 8 40 (by kernel_rfl) rfl rfl; exact g.trans (congrArg some hv)
        have g33 : c.tmps[33]? = some (.bool true) := by obtain ⟨_, g, hv⟩ := Reg.pred hp 1 33 (by kernel_rfl) rfl rfl; exact g.trans (congrArg some hv)
        exact Reg.ok_made (Reg.wanted_at (j := 1) (d := 33) rfl rfl rfl g33) (by go_simp; simp only [bytes_run]; rfl) (bytesW_below s wc) ⟨wc.heap.size, _, rfl, bytesW_in s wc⟩
      · intro c wc hB hp hs
        obtain ⟨_, g41, bb, cap, rfl, hbi⟩ := Reg.pred hp 9 41 (by kernel_rfl) rfl rfl
        have g33 : c.tmps[33]? = some (.bool true) := by obtain ⟨_, g, hv⟩ := Reg.pred hp 1 33 (by kernel_rfl) rfl rfl; exact g.trans (congrArg some hv)
        exact Reg.ok_value (Reg.wanted_at (j := 1) (d := 33) rfl rfl rfl g33) (by go_simp; simp only [hbi.back]; rfl) rfl
      · intro c wc hB hp hs
        have g38 : c.tmps[38]? = some (.int .u64 a) := by obtain ⟨_, g, hv⟩ := Reg.pred hp 6 38 (by kernel_rfl) rfl rfl; exact g.trans (congrArg some hv)
        have g39 : c.tmps[39]? = some (.int .u64 b) := by obtain ⟨_, g, hv⟩ := Reg.pred hp 7 39 (by kernel_rfl) rfl rfl; exact g.trans (congrArg some hv)
        have g42 : c.tmps[42]? = some (.string s) := by obtain ⟨_, g, hv⟩ := Reg.pred hp 10 42 (by kernel_rfl) rfl rfl; exact g.trans (congrArg some hv)
        have g33 : c.tmps[33]? = some (.bool true) := by obtain ⟨_, g, hv⟩ := Reg.pred hp 1 33 (by kernel_rfl) rfl rfl; exact g.trans (congrArg some hv)
        refine Reg.ok_call (f := 11) (args := #[.int .u64 a, .int .u64 b, .string s]) (Reg.wanted_at (j := 1) (d := 33) rfl rfl rfl g33) (by go_simp) ((sum_any a b s wc HS.out).mono ?_)
        rintro e w' ⟨rfl, hB2⟩
        exact ⟨_, rfl, hB2, rfl⟩
      · intro c wc hB hp hs
        have g37 : c.tmps[37]? = some (.int .u64 (ssum a b s.data.toList)) := by obtain ⟨_, g, hv⟩ := Reg.pred hp 5 37 (by kernel_rfl) rfl rfl; exact g.trans (congrArg some hv)
        have g43 : c.tmps[43]? = some (.int .u64 (ssum a b s.data.toList)) := by obtain ⟨_, g, hv⟩ := Reg.pred hp 11 43 (by kernel_rfl) rfl rfl; exact g.trans (congrArg some hv)
        have g33 : c.tmps[33]? = some (.bool true) := by obtain ⟨_, g, hv⟩ := Reg.pred hp 1 33 (by kernel_rfl) rfl rfl; exact g.trans (congrArg some hv)
        refine Reg.ok_value (v := .bool true) (Reg.wanted_at (j := 1) (d := 33) rfl rfl rfl g33) ?_ rfl
        go_simp
      · intro c wc hB hp hs
        have g33 : c.tmps[33]? = some (.bool true) := by obtain ⟨_, g, hv⟩ := Reg.pred hp 1 33 (by kernel_rfl) rfl rfl; exact g.trans (congrArg some hv)
        have g44 : c.tmps[44]? = some (.bool true) := by obtain ⟨_, g, hv⟩ := Reg.pred hp 12 44 (by kernel_rfl) rfl rfl; exact g.trans (congrArg some hv)
        refine Reg.ok_value (v := .bool true) (Reg.wanted_none rfl) ?_ rfl
        go_simp
      · intro c wc hB hp hs
        have g45 : c.tmps[45]? = some (.bool true) := by obtain ⟨_, g, hv⟩ := Reg.pred hp 13 45 (by kernel_rfl) rfl rfl; exact g.trans (congrArg some hv)
        refine Reg.ok_value (v := .bool true) (Reg.wanted_none rfl) ?_ rfl
        go_simp
      · intro c wc hB hp hs
        have g14 : c.tmps[14]? = some (.int .i64 ((r : Nat) + (n : Nat))) := (hs 14 (by kernel_rfl)).trans rfl
        have g46 : c.tmps[46]? = some (.bool true) := by obtain ⟨_, g, hv⟩ := Reg.pred hp 14 46 (by kernel_rfl) rfl rfl; exact g.trans (congrArg some hv)
        refine Reg.ok_value (v := .int .i64 ((r : Nat) + (n : Nat))) (Reg.wanted_at (j := 14) (d := 46) rfl rfl rfl g46) ?_ rfl
        go_simp
      · intro c wc hB hp hs
        have g15 : c.tmps[15]? = some (.int .i64 ((r : Nat) + (n : Nat))) := (hs 15 (by kernel_rfl)).trans rfl
        have g46 : c.tmps[46]? = some (.bool true) := by obtain ⟨_, g, hv⟩ := Reg.pred hp 14 46 (by kernel_rfl) rfl rfl; exact g.trans (congrArg some hv)
        refine Reg.ok_value (v := .int .i64 ((r : Nat) + (n : Nat))) (Reg.wanted_at (j := 14) (d := 46) rfl rfl rfl g46) ?_ rfl
        go_simp
      · intro c wc hB hp hs
        have g47 : c.tmps[47]? = some (.int .i64 ((r : Nat) + (n : Nat))) := by obtain ⟨_, g, hv⟩ := Reg.pred hp 15 47 (by kernel_rfl) rfl rfl; exact g.trans (congrArg some hv)
        have g48 : c.tmps[48]? = some (.int .i64 ((r : Nat) + (n : Nat))) := by obtain ⟨_, g, hv⟩ := Reg.pred hp 16 48 (by kernel_rfl) rfl rfl; exact g.trans (congrArg some hv)
        have g46 : c.tmps[46]? = some (.bool true) := by obtain ⟨_, g, hv⟩ := Reg.pred hp 14 46 (by kernel_rfl) rfl rfl; exact g.trans (congrArg some hv)
        refine Reg.ok_value (v := .bool true) (Reg.wanted_at (j := 14) (d := 46) rfl rfl rfl g46) ?_ rfl
        go_simp
      · intro c wc hB hp hs
        have g46 : c.tmps[46]? = some (.bool true) := by obtain ⟨_, g, hv⟩ := Reg.pred hp 14 46 (by kernel_rfl) rfl rfl; exact g.trans (congrArg some hv)
        have g49 : c.tmps[49]? = some (.bool true) := by obtain ⟨_, g, hv⟩ := Reg.pred hp 17 49 (by kernel_rfl) rfl rfl; exact g.trans (congrArg some hv)
        refine Reg.ok_value (v := .bool true) (Reg.wanted_none rfl) ?_ rfl
        go_simp
      · intro c wc hB hp hs
        have g50 : c.tmps[50]? = some (.bool true) := by obtain ⟨_, g, hv⟩ := Reg.pred hp 18 50 (by kernel_rfl) rfl rfl; exact g.trans (congrArg some hv)
        refine Reg.ok_value (v := .bool true) (Reg.wanted_none rfl) ?_ rfl
        go_simp
      · intro c wc hB hp hs
        have g3 : c.tmps[3]? = some (.int .u64 (h : Nat)) := (hs 3 (by kernel_rfl)).trans rfl
        have g51 : c.tmps[51]? = some (.bool true) := by obtain ⟨_, g, hv⟩ := Reg.pred hp 19 51 (by kernel_rfl) rfl rfl; exact g.trans (congrArg some hv)
        refine Reg.ok_value (v := .int .u64 (h : Nat)) (Reg.wanted_at (j := 19) (d := 51) rfl rfl rfl g51) ?_ rfl
        go_simp
      · intro c wc hB hp hs
        have g12 : c.tmps[12]? = some (.int .i64 ((n : Nat))) := (hs 12 (by kernel_rfl)).trans rfl
        have g51 : c.tmps[51]? = some (.bool true) := by obtain ⟨_, g, hv⟩ := Reg.pred hp 19 51 (by kernel_rfl) rfl rfl; exact g.trans (congrArg some hv)
        refine Reg.ok_value (v := .int .i64 ((n : Nat))) (Reg.wanted_at (j := 19) (d := 51) rfl rfl rfl g51) ?_ rfl
        go_simp
      · intro c wc hB hp hs
        have g52 : c.tmps[52]? = some (.int .u64 (h : Nat)) := by obtain ⟨_, g, hv⟩ := Reg.pred hp 20 52 (by kernel_rfl) rfl rfl; exact g.trans (congrArg some hv)
        have g53 : c.tmps[53]? = some (.int .i64 ((n : Nat))) := by obtain ⟨_, g, hv⟩ := Reg.pred hp 21 53 (by kernel_rfl) rfl rfl; exact g.trans (congrArg some hv)
        have g51 : c.tmps[51]? = some (.bool true) := by obtain ⟨_, g, hv⟩ := Reg.pred hp 19 51 (by kernel_rfl) rfl rfl; exact g.trans (congrArg some hv)
        refine Reg.ok_value (v := .int .u64 (z : Nat)) (Reg.wanted_at (j := 19) (d := 51) rfl rfl rfl g51) ?_ rfl
        go_simp
      · intro c wc hB hp hs
        have g12 : c.tmps[12]? = some (.int .i64 ((n : Nat))) := (hs 12 (by kernel_rfl)).trans rfl
        have g51 : c.tmps[51]? = some (.bool true) := by obtain ⟨_, g, hv⟩ := Reg.pred hp 19 51 (by kernel_rfl) rfl rfl; exact g.trans (congrArg some hv)
        refine Reg.ok_value (v := .int .i64 ((n : Nat))) (Reg.wanted_at (j := 19) (d := 51) rfl rfl rfl g51) ?_ rfl
        go_simp
      · intro c wc hB hp hs
        have g54 : c.tmps[54]? = some (.int .u64 (z : Nat)) := by obtain ⟨_, g, hv⟩ := Reg.pred hp 22 54 (by kernel_rfl) rfl rfl; exact g.trans (congrArg some hv)
        have g55 : c.tmps[55]? = some (.int .i64 ((n : Nat))) := by obtain ⟨_, g, hv⟩ := Reg.pred hp 23 55 (by kernel_rfl) rfl rfl; exact g.trans (congrArg some hv)
        have g51 : c.tmps[51]? = some (.bool true) := by obtain ⟨_, g, hv⟩ := Reg.pred hp 19 51 (by kernel_rfl) rfl rfl; exact g.trans (congrArg some hv)
        refine Reg.ok_call (f := 13) (args := #[.int .u64 (z : Nat), .int .i64 (n : Nat)]) (Reg.wanted_at (j := 19) (d := 51) rfl rfl rfl g51) (by go_simp) ((rank_any z HL.out n wc ((HT.out.below hB1.drew).below hB)).mono ?_)
        rintro e w' ⟨rfl, rfl⟩
        exact ⟨_, rfl, Below.refl _ _, congrArg (fun x => Value.int .i64 x) HK.out⟩
      · intro c wc hB hp hs
        have g13 : c.tmps[13]? = some (.int .i64 ((r : Nat))) := (hs 13 (by kernel_rfl)).trans rfl
        have g51 : c.tmps[51]? = some (.bool true) := by obtain ⟨_, g, hv⟩ := Reg.pred hp 19 51 (by kernel_rfl) rfl rfl; exact g.trans (congrArg some hv)
        refine Reg.ok_value (v := .int .i64 ((r : Nat))) (Reg.wanted_at (j := 19) (d := 51) rfl rfl rfl g51) ?_ rfl
        go_simp
      · intro c wc hB hp hs
        have g12 : c.tmps[12]? = some (.int .i64 ((n : Nat))) := (hs 12 (by kernel_rfl)).trans rfl
        have g51 : c.tmps[51]? = some (.bool true) := by obtain ⟨_, g, hv⟩ := Reg.pred hp 19 51 (by kernel_rfl) rfl rfl; exact g.trans (congrArg some hv)
        refine Reg.ok_value (v := .int .i64 ((n : Nat))) (Reg.wanted_at (j := 19) (d := 51) rfl rfl rfl g51) ?_ rfl
        go_simp
      · intro c wc hB hp hs
        have g58 : c.tmps[58]? = some (.int .i64 ((n : Nat))) := by obtain ⟨_, g, hv⟩ := Reg.pred hp 26 58 (by kernel_rfl) rfl rfl; exact g.trans (congrArg some hv)
        have g51 : c.tmps[51]? = some (.bool true) := by obtain ⟨_, g, hv⟩ := Reg.pred hp 19 51 (by kernel_rfl) rfl rfl; exact g.trans (congrArg some hv)
        refine Reg.ok_value (v := .int .i64 (65 - (n : Nat))) (Reg.wanted_at (j := 19) (d := 51) rfl rfl rfl g51) ?_ rfl
        go_simp
        exact IntWalk.i64_in _ (by omega)
      · intro c wc hB hp hs
        have g57 : c.tmps[57]? = some (.int .i64 ((r : Nat))) := by obtain ⟨_, g, hv⟩ := Reg.pred hp 25 57 (by kernel_rfl) rfl rfl; exact g.trans (congrArg some hv)
        have g59 : c.tmps[59]? = some (.int .i64 (65 - (n : Nat))) := by obtain ⟨_, g, hv⟩ := Reg.pred hp 27 59 (by kernel_rfl) rfl rfl; exact g.trans (congrArg some hv)
        have g51 : c.tmps[51]? = some (.bool true) := by obtain ⟨_, g, hv⟩ := Reg.pred hp 19 51 (by kernel_rfl) rfl rfl; exact g.trans (congrArg some hv)
        refine Reg.ok_value (v := .int .i64 ((r : Nat))) (Reg.wanted_at (j := 19) (d := 51) rfl rfl rfl g51) ?_ rfl
        go_simp
        intro hh; omega
      · intro c wc hB hp hs
        have g56 : c.tmps[56]? = some (.int .i64 ((r : Nat))) := by obtain ⟨_, g, hv⟩ := Reg.pred hp 24 56 (by kernel_rfl) rfl rfl; exact g.trans (congrArg some hv)
        have g60 : c.tmps[60]? = some (.int .i64 ((r : Nat))) := by obtain ⟨_, g, hv⟩ := Reg.pred hp 28 60 (by kernel_rfl) rfl rfl; exact g.trans (congrArg some hv)
        have g51 : c.tmps[51]? = some (.bool true) := by obtain ⟨_, g, hv⟩ := Reg.pred hp 19 51 (by kernel_rfl) rfl rfl; exact g.trans (congrArg some hv)
        refine Reg.ok_value (v := .bool true) (Reg.wanted_at (j := 19) (d := 51) rfl rfl rfl g51) ?_ rfl
        go_simp
      · intro c wc hB hp hs
        have g51 : c.tmps[51]? = some (.bool true) := by obtain ⟨_, g, hv⟩ := Reg.pred hp 19 51 (by kernel_rfl) rfl rfl; exact g.trans (congrArg some hv)
        have g61 : c.tmps[61]? = some (.bool true) := by obtain ⟨_, g, hv⟩ := Reg.pred hp 29 61 (by kernel_rfl) rfl rfl; exact g.trans (congrArg some hv)
        refine Reg.ok_value (v := .bool true) (Reg.wanted_none rfl) ?_ rfl
        go_simp
      · intro c wc hB hp hs
        have g62 : c.tmps[62]? = some (.bool true) := by obtain ⟨_, g, hv⟩ := Reg.pred hp 30 62 (by kernel_rfl) rfl rfl; exact g.trans (congrArg some hv)
        refine Reg.ok_value (v := .bool true) (Reg.wanted_none rfl) ?_ rfl
        go_simp
    · intro c wc hB _ hdf hv _
      obtain ⟨_, g10, hv10⟩ := hv 31 _ 10 rfl rfl
      have g : c.tmps[10]? = some (.bool true) := g10.trans (congrArg some hv10)
      have hE := hB1.trans (hB.mono hB1.size)
      go_wp2
      exact bodyPost_ret (results_tmp rfl _ _ _) hdf ⟨by rw [Reg.getD_tmp g], hE⟩
  · have hm : m = 65 := by rw [← HM2.out]; omega
    have hk : k = 65 - n := by rw [← HK2.out]; omega
    subst hm hk
    have hc2 : ¬ (r : Int) ≤ 65 - n := by omega
    clear HM2 HK2
    go_wp2_with fail
    refine Reg.wp_region_inv (n := 63) (SamePhi a b s h n z r (65) (65 - (n : Nat))) (by kernel_rfl) (by kernel_rfl) rfl SamePhi.stays ?_ ?_
    · refine ⟨?_, ?_, ?_, ?_, ?_, ?_, ?_, ?_, ?_, ?_, ?_, ?_, ?_, ?_, ?_, ?_, ?_, ?_, ?_, ?_, ?_, ?_, ?_, ?_, ?_, ?_, ?_, ?_, ?_, ?_, ?_, ?_, trivial⟩
      · intro c wc hB hp hs
        have g11 : c.tmps[11]? = some (.bool true) := (hs 11 (by kernel_rfl)).trans rfl
        refine Reg.ok_value (v := .bool true) (Reg.wanted_none rfl) ?_ rfl
        go_simp
      · intro c wc hB hp hs
        have g32 : c.tmps[32]? = some (.bool true) := by obtain ⟨_, g, hv⟩ := Reg.pred hp 0 32 (by kernel_rfl) rfl rfl; exact g.trans (congrArg some hv)
        refine Reg.ok_value (v := .bool true) (Reg.wanted_none rfl) ?_ rfl
        go_simp
      · intro c wc hB hp hs
        have g0 : c.tmps[0]? = some (.int .u64 a) := (hs 0 (by kernel_rfl)).trans rfl
        have g33 : c.tmps[33]? = some (.bool true) := by obtain ⟨_, g, hv⟩ := Reg.pred hp 1 33 (by kernel_rfl) rfl rfl; exact g.trans (congrArg some hv)
        refine Reg.ok_value (v := .int .u64 a) (Reg.wanted_at (j := 1) (d := 33) rfl rfl rfl g33) ?_ rfl
        go_simp
      · intro c wc hB hp hs
        have g1 : c.tmps[1]? = some (.int .u64 b) := (hs 1 (by kernel_rfl)).trans rfl
        have g33 : c.tmps[33]? = some (.bool true) := by obtain ⟨_, g, hv⟩ := Reg.pred hp 1 33 (by kernel_rfl) rfl rfl; exact g.trans (congrArg some hv)
        refine Reg.ok_value (v := .int .u64 b) (Reg.wanted_at (j := 1) (d := 33) rfl rfl rfl g33) ?_ rfl
        go_simp
      · intro c wc hB hp hs
        have g2 : c.tmps[2]? = some (.string s) := (hs 2 (by kernel_rfl)).trans rfl
        have g33 : c.tmps[33]? = some (.bool true) := by obtain ⟨_, g, hv⟩ := Reg.pred hp 1 33 (by kernel_rfl) rfl rfl; exact g.trans (congrArg some hv)
        refine Reg.ok_value (v := .string s) (Reg.wanted_at (j := 1) (d := 33) rfl rfl rfl g33) ?_ rfl
        go_simp
      · intro c wc hB hp hs
        have g34 : c.tmps[34]? = some (.int .u64 a) := by obtain ⟨_, g, hv⟩ := Reg.pred hp 2 34 (by kernel_rfl) rfl rfl; exact g.trans (congrArg some hv)
        have g35 : c.tmps[35]? = some (.int .u64 b) := by obtain ⟨_, g, hv⟩ := Reg.pred hp 3 35 (by kernel_rfl) rfl rfl; exact g.trans (congrArg some hv)
        have g36 : c.tmps[36]? = some (.string s) := by obtain ⟨_, g, hv⟩ := Reg.pred hp 4 36 (by kernel_rfl) rfl rfl; exact g.trans (congrArg some hv)
        have g33 : c.tmps[33]? = some (.bool true) := by obtain ⟨_, g, hv⟩ := Reg.pred hp 1 33 (by kernel_rfl) rfl rfl; exact g.trans (congrArg some hv)
        refine Reg.ok_call (f := 11) (args := #[.int .u64 a, .int .u64 b, .string s]) (Reg.wanted_at (j := 1) (d := 33) rfl rfl rfl g33) (by go_simp) ((sum_any a b s wc HS.out).mono ?_)
        rintro e w' ⟨rfl, hB2⟩
        exact ⟨_, rfl, hB2, rfl⟩
      · intro c wc hB hp hs
        have g0 : c.tmps[0]? = some (.int .u64 a) := (hs 0 (by kernel_rfl)).trans rfl
        have g33 : c.tmps[33]? = some (.bool true) := by obtain ⟨_, g, hv⟩ := Reg.pred hp 1 33 (by kernel_rfl) rfl rfl; exact g.trans (congrArg some hv)
        refine Reg.ok_value (v := .int .u64 a) (Reg.wanted_at (j := 1) (d := 33) rfl rfl rfl g33) ?_ rfl
        go_simp
      · intro c wc hB hp hs
        have g1 : c.tmps[1]? = some (.int .u64 b) := (hs 1 (by kernel_rfl)).trans rfl
        have g33 : c.tmps[33]? = some (.bool true) := by obtain ⟨_, g, hv⟩ := Reg.pred hp 1 33 (by kernel_rfl) rfl rfl; exact g.trans (congrArg some hv)
        refine Reg.ok_value (v := .int .u64 b) (Reg.wanted_at (j := 1) (d := 33) rfl rfl rfl g33) ?_ rfl
        go_simp
      · intro c wc hB hp hs
        have g2 : c.tmps[2]? = some (.string s) := (hs 2 (by kernel_rfl)).trans rfl
        have g33 : c.tmps[33]? = some (.bool true) := by obtain ⟨_, g, hv⟩ := Reg.pred hp 1 33 (by kernel_rfl) rfl rfl; exact g.trans (congrArg some hv)
        refine Reg.ok_value (v := .string s) (Reg.wanted_at (j := 1) (d := 33) rfl rfl rfl g33) ?_ rfl
        go_simp
      · intro c wc hB hp hs
        have g40 : c.tmps[40]? = some (.string s) := by obtain ⟨_, g, hv⟩ := Reg.pred hp 8 40 (by kernel_rfl) rfl rfl; exact g.trans (congrArg some hv)
        have g33 : c.tmps[33]? = some (.bool true) := by obtain ⟨_, g, hv⟩ := Reg.pred hp 1 33 (by kernel_rfl) rfl rfl; exact g.trans (congrArg some hv)
        exact Reg.ok_made (Reg.wanted_at (j := 1) (d := 33) rfl rfl rfl g33) (by go_simp; simp only [bytes_run]; rfl) (bytesW_below s wc) ⟨wc.heap.size, _, rfl, bytesW_in s wc⟩
      · intro c wc hB hp hs
        obtain ⟨_, g41, bb, cap, rfl, hbi⟩ := Reg.pred hp 9 41 (by kernel_rfl) rfl rfl
        have g33 : c.tmps[33]? = some (.bool true) := by obtain ⟨_, g, hv⟩ := Reg.pred hp 1 33 (by kernel_rfl) rfl rfl; exact g.trans (congrArg some hv)
        exact Reg.ok_value (Reg.wanted_at (j := 1) (d := 33) rfl rfl rfl g33) (by go_simp; simp only [hbi.back]; rfl) rfl
      · intro c wc hB hp hs
        have g38 : c.tmps[38]? = some (.int .u64 a) := by obtain ⟨_, g, hv⟩ := Reg.pred hp 6 38 (by kernel_rfl) rfl rfl; exact g.trans (congrArg some hv)
        have g39 : c.tmps[39]? = some (.int .u64 b) := by obtain ⟨_, g, hv⟩ := Reg.pred hp 7 39 (by kernel_rfl) rfl rfl; exact g.trans (congrArg some hv)
        have g42 : c.tmps[42]? = some (.string s) := by obtain ⟨_, g, hv⟩ := Reg.pred hp 10 42 (by kernel_rfl) rfl rfl; exact g.trans (congrArg some hv)
        have g33 : c.tmps[33]? = some (.bool true) := by obtain ⟨_, g, hv⟩ := Reg.pred hp 1 33 (by kernel_rfl) rfl rfl; exact g.trans (congrArg some hv)
        refine Reg.ok_call (f := 11) (args := #[.int .u64 a, .int .u64 b, .string s]) (Reg.wanted_at (j := 1) (d := 33) rfl rfl rfl g33) (by go_simp) ((sum_any a b s wc HS.out).mono ?_)
        rintro e w' ⟨rfl, hB2⟩
        exact ⟨_, rfl, hB2, rfl⟩
      · intro c wc hB hp hs
        have g37 : c.tmps[37]? = some (.int .u64 (ssum a b s.data.toList)) := by obtain ⟨_, g, hv⟩ := Reg.pred hp 5 37 (by kernel_rfl) rfl rfl; exact g.trans (congrArg some hv)
        have g43 : c.tmps[43]? = some (.int .u64 (ssum a b s.data.toList)) := by obtain ⟨_, g, hv⟩ := Reg.pred hp 11 43 (by kernel_rfl) rfl rfl; exact g.trans (congrArg some hv)
        have g33 : c.tmps[33]? = some (.bool true) := by obtain ⟨_, g, hv⟩ := Reg.pred hp 1 33 (by kernel_rfl) rfl rfl; exact g.trans (congrArg some hv)
        refine Reg.ok_value (v := .bool true) (Reg.wanted_at (j := 1) (d := 33) rfl rfl rfl g33) ?_ rfl
        go_simp
      · intro c wc hB hp hs
        have g33 : c.tmps[33]? = some (.bool true) := by obtain ⟨_, g, hv⟩ := Reg.pred hp 1 33 (by kernel_rfl) rfl rfl; exact g.trans (congrArg some hv)
        have g44 : c.tmps[44]? = some (.bool true) := by obtain ⟨_, g, hv⟩ := Reg.pred hp 12 44 (by kernel_rfl) rfl rfl; exact g.trans (congrArg some hv)
        refine Reg.ok_value (v := .bool true) (Reg.wanted_none rfl) ?_ rfl
        go_simp
      · intro c wc hB hp hs
        have g45 : c.tmps[45]? = some (.bool true) := by obtain ⟨_, g, hv⟩ := Reg.pred hp 13 45 (by kernel_rfl) rfl rfl; exact g.trans (congrArg some hv)
        refine Reg.ok_value (v := .bool true) (Reg.wanted_none rfl) ?_ rfl
        go_simp
      · intro c wc hB hp hs
        have g14 : c.tmps[14]? = some (.int .i64 (65)) := (hs 14 (by kernel_rfl)).trans rfl
        have g46 : c.tmps[46]? = some (.bool true) := by obtain ⟨_, g, hv⟩ := Reg.pred hp 14 46 (by kernel_rfl) rfl rfl; exact g.trans (congrArg some hv)
        refine Reg.ok_value (v := .int .i64 (65)) (Reg.wanted_at (j := 14) (d := 46) rfl rfl rfl g46) ?_ rfl
        go_simp
      · intro c wc hB hp hs
        have g15 : c.tmps[15]? = some (.int .i64 (65)) := (hs 15 (by kernel_rfl)).trans rfl
        have g46 : c.tmps[46]? = some (.bool true) := by obtain ⟨_, g, hv⟩ := Reg.pred hp 14 46 (by kernel_rfl) rfl rfl; exact g.trans (congrArg some hv)
        refine Reg.ok_value (v := .int .i64 (65)) (Reg.wanted_at (j := 14) (d := 46) rfl rfl rfl g46) ?_ rfl
        go_simp
      · intro c wc hB hp hs
        have g47 : c.tmps[47]? = some (.int .i64 (65)) := by obtain ⟨_, g, hv⟩ := Reg.pred hp 15 47 (by kernel_rfl) rfl rfl; exact g.trans (congrArg some hv)
        have g48 : c.tmps[48]? = some (.int .i64 (65)) := by obtain ⟨_, g, hv⟩ := Reg.pred hp 16 48 (by kernel_rfl) rfl rfl; exact g.trans (congrArg some hv)
        have g46 : c.tmps[46]? = some (.bool true) := by obtain ⟨_, g, hv⟩ := Reg.pred hp 14 46 (by kernel_rfl) rfl rfl; exact g.trans (congrArg some hv)
        refine Reg.ok_value (v := .bool true) (Reg.wanted_at (j := 14) (d := 46) rfl rfl rfl g46) ?_ rfl
        go_simp
      · intro c wc hB hp hs
        have g46 : c.tmps[46]? = some (.bool true) := by obtain ⟨_, g, hv⟩ := Reg.pred hp 14 46 (by kernel_rfl) rfl rfl; exact g.trans (congrArg some hv)
        have g49 : c.tmps[49]? = some (.bool true) := by obtain ⟨_, g, hv⟩ := Reg.pred hp 17 49 (by kernel_rfl) rfl rfl; exact g.trans (congrArg some hv)
        refine Reg.ok_value (v := .bool true) (Reg.wanted_none rfl) ?_ rfl
        go_simp
      · intro c wc hB hp hs
        have g50 : c.tmps[50]? = some (.bool true) := by obtain ⟨_, g, hv⟩ := Reg.pred hp 18 50 (by kernel_rfl) rfl rfl; exact g.trans (congrArg some hv)
        refine Reg.ok_value (v := .bool true) (Reg.wanted_none rfl) ?_ rfl
        go_simp
      · intro c wc hB hp hs
        have g3 : c.tmps[3]? = some (.int .u64 (h : Nat)) := (hs 3 (by kernel_rfl)).trans rfl
        have g51 : c.tmps[51]? = some (.bool true) := by obtain ⟨_, g, hv⟩ := Reg.pred hp 19 51 (by kernel_rfl) rfl rfl; exact g.trans (congrArg some hv)
        refine Reg.ok_value (v := .int .u64 (h : Nat)) (Reg.wanted_at (j := 19) (d := 51) rfl rfl rfl g51) ?_ rfl
        go_simp
      · intro c wc hB hp hs
        have g12 : c.tmps[12]? = some (.int .i64 ((n : Nat))) := (hs 12 (by kernel_rfl)).trans rfl
        have g51 : c.tmps[51]? = some (.bool true) := by obtain ⟨_, g, hv⟩ := Reg.pred hp 19 51 (by kernel_rfl) rfl rfl; exact g.trans (congrArg some hv)
        refine Reg.ok_value (v := .int .i64 ((n : Nat))) (Reg.wanted_at (j := 19) (d := 51) rfl rfl rfl g51) ?_ rfl
        go_simp
      · intro c wc hB hp hs
        have g52 : c.tmps[52]? = some (.int .u64 (h : Nat)) := by obtain ⟨_, g, hv⟩ := Reg.pred hp 20 52 (by kernel_rfl) rfl rfl; exact g.trans (congrArg some hv)
        have g53 : c.tmps[53]? = some (.int .i64 ((n : Nat))) := by obtain ⟨_, g, hv⟩ := Reg.pred hp 21 53 (by kernel_rfl) rfl rfl; exact g.trans (congrArg some hv)
        have g51 : c.tmps[51]? = some (.bool true) := by obtain ⟨_, g, hv⟩ := Reg.pred hp 19 51 (by kernel_rfl) rfl rfl; exact g.trans (congrArg some hv)
        refine Reg.ok_value (v := .int .u64 (z : Nat)) (Reg.wanted_at (j := 19) (d := 51) rfl rfl rfl g51) ?_ rfl
        go_simp
      · intro c wc hB hp hs
        have g12 : c.tmps[12]? = some (.int .i64 ((n : Nat))) := (hs 12 (by kernel_rfl)).trans rfl
        have g51 : c.tmps[51]? = some (.bool true) := by obtain ⟨_, g, hv⟩ := Reg.pred hp 19 51 (by kernel_rfl) rfl rfl; exact g.trans (congrArg some hv)
        refine Reg.ok_value (v := .int .i64 ((n : Nat))) (Reg.wanted_at (j := 19) (d := 51) rfl rfl rfl g51) ?_ rfl
        go_simp
      · intro c wc hB hp hs
        have g54 : c.tmps[54]? = some (.int .u64 (z : Nat)) := by obtain ⟨_, g, hv⟩ := Reg.pred hp 22 54 (by kernel_rfl) rfl rfl; exact g.trans (congrArg some hv)
        have g55 : c.tmps[55]? = some (.int .i64 ((n : Nat))) := by obtain ⟨_, g, hv⟩ := Reg.pred hp 23 55 (by kernel_rfl) rfl rfl; exact g.trans (congrArg some hv)
        have g51 : c.tmps[51]? = some (.bool true) := by obtain ⟨_, g, hv⟩ := Reg.pred hp 19 51 (by kernel_rfl) rfl rfl; exact g.trans (congrArg some hv)
        refine Reg.ok_call (f := 13) (args := #[.int .u64 (z : Nat), .int .i64 (n : Nat)]) (Reg.wanted_at (j := 19) (d := 51) rfl rfl rfl g51) (by go_simp) ((rank_any z HL.out n wc ((HT.out.below hB1.drew).below hB)).mono ?_)
        rintro e w' ⟨rfl, rfl⟩
        exact ⟨_, rfl, Below.refl _ _, congrArg (fun x => Value.int .i64 x) HK.out⟩
      · intro c wc hB hp hs
        have g13 : c.tmps[13]? = some (.int .i64 ((r : Nat))) := (hs 13 (by kernel_rfl)).trans rfl
        have g51 : c.tmps[51]? = some (.bool true) := by obtain ⟨_, g, hv⟩ := Reg.pred hp 19 51 (by kernel_rfl) rfl rfl; exact g.trans (congrArg some hv)
        refine Reg.ok_value (v := .int .i64 ((r : Nat))) (Reg.wanted_at (j := 19) (d := 51) rfl rfl rfl g51) ?_ rfl
        go_simp
      · intro c wc hB hp hs
        have g12 : c.tmps[12]? = some (.int .i64 ((n : Nat))) := (hs 12 (by kernel_rfl)).trans rfl
        have g51 : c.tmps[51]? = some (.bool true) := by obtain ⟨_, g, hv⟩ := Reg.pred hp 19 51 (by kernel_rfl) rfl rfl; exact g.trans (congrArg some hv)
        refine Reg.ok_value (v := .int .i64 ((n : Nat))) (Reg.wanted_at (j := 19) (d := 51) rfl rfl rfl g51) ?_ rfl
        go_simp
      · intro c wc hB hp hs
        have g58 : c.tmps[58]? = some (.int .i64 ((n : Nat))) := by obtain ⟨_, g, hv⟩ := Reg.pred hp 26 58 (by kernel_rfl) rfl rfl; exact g.trans (congrArg some hv)
        have g51 : c.tmps[51]? = some (.bool true) := by obtain ⟨_, g, hv⟩ := Reg.pred hp 19 51 (by kernel_rfl) rfl rfl; exact g.trans (congrArg some hv)
        refine Reg.ok_value (v := .int .i64 (65 - (n : Nat))) (Reg.wanted_at (j := 19) (d := 51) rfl rfl rfl g51) ?_ rfl
        go_simp
        exact IntWalk.i64_in _ (by omega)
      · intro c wc hB hp hs
        have g57 : c.tmps[57]? = some (.int .i64 ((r : Nat))) := by obtain ⟨_, g, hv⟩ := Reg.pred hp 25 57 (by kernel_rfl) rfl rfl; exact g.trans (congrArg some hv)
        have g59 : c.tmps[59]? = some (.int .i64 (65 - (n : Nat))) := by obtain ⟨_, g, hv⟩ := Reg.pred hp 27 59 (by kernel_rfl) rfl rfl; exact g.trans (congrArg some hv)
        have g51 : c.tmps[51]? = some (.bool true) := by obtain ⟨_, g, hv⟩ := Reg.pred hp 19 51 (by kernel_rfl) rfl rfl; exact g.trans (congrArg some hv)
        refine Reg.ok_value (v := .int .i64 (65 - (n : Nat))) (Reg.wanted_at (j := 19) (d := 51) rfl rfl rfl g51) ?_ rfl
        go_simp
      · intro c wc hB hp hs
        have g56 : c.tmps[56]? = some (.int .i64 (65 - (n : Nat))) := by obtain ⟨_, g, hv⟩ := Reg.pred hp 24 56 (by kernel_rfl) rfl rfl; exact g.trans (congrArg some hv)
        have g60 : c.tmps[60]? = some (.int .i64 (65 - (n : Nat))) := by obtain ⟨_, g, hv⟩ := Reg.pred hp 28 60 (by kernel_rfl) rfl rfl; exact g.trans (congrArg some hv)
        have g51 : c.tmps[51]? = some (.bool true) := by obtain ⟨_, g, hv⟩ := Reg.pred hp 19 51 (by kernel_rfl) rfl rfl; exact g.trans (congrArg some hv)
        refine Reg.ok_value (v := .bool true) (Reg.wanted_at (j := 19) (d := 51) rfl rfl rfl g51) ?_ rfl
        go_simp
      · intro c wc hB hp hs
        have g51 : c.tmps[51]? = some (.bool true) := by obtain ⟨_, g, hv⟩ := Reg.pred hp 19 51 (by kernel_rfl) rfl rfl; exact g.trans (congrArg some hv)
        have g61 : c.tmps[61]? = some (.bool true) := by obtain ⟨_, g, hv⟩ := Reg.pred hp 29 61 (by kernel_rfl) rfl rfl; exact g.trans (congrArg some hv)
        refine Reg.ok_value (v := .bool true) (Reg.wanted_none rfl) ?_ rfl
        go_simp
      · intro c wc hB hp hs
        have g62 : c.tmps[62]? = some (.bool true) := by obtain ⟨_, g, hv⟩ := Reg.pred hp 30 62 (by kernel_rfl) rfl rfl; exact g.trans (congrArg some hv)
        refine Reg.ok_value (v := .bool true) (Reg.wanted_none rfl) ?_ rfl
        go_simp
    · intro c wc hB _ hdf hv _
      obtain ⟨_, g10, hv10⟩ := hv 31 _ 10 rfl rfl
      have g : c.tmps[10]? = some (.bool true) := g10.trans (congrArg some hv10)
      have hE := hB1.trans (hB.mono hB1.size)
      go_wp2
      exact bodyPost_ret (results_tmp rfl _ _ _) hdf ⟨by rw [Reg.getD_tmp g], hE⟩
end Go.Proofs.YtccdojoeblaenaaDoor
