/- TopOf, walked. -/
import Derived.Test.YtnkhieackclniaaTOfR
import Derived.Test.YtnkhieackclniaaTOfU
namespace Go.Proofs.Ytnkhieackclniaa
open Go Go.RowKit

set_option maxRecDepth 100000 in
set_option maxHeartbeats 64000000 in
theorem of_in (x : Int) (hx : -9223372036854775808 ≤ x ∧ x ≤ 9223372036854775807) (sn : Nat) (hsn : sn < 18446744073709551616) (p : Option Addr) (l : List Itm) (cap : Nat) (hlc : l.length ≤ cap) (hcm : cap ≤ 9223372036854775807) (hb32 : l.length * 32 ≤ 140737488355328) (hf : Fit l) (q : Option Addr) (nd cap2 : Nat) (hnd : nd ≤ 9223372036854775807) (own : Bool) (how : Nat) (hhow : how < 256) (pos : Int) (hpos : -9223372036854775808 ≤ pos ∧ pos ≤ 9223372036854775807) (w : World) (hr : Rd p l w) (hD : Deeds q nd w) :
    Calls Try.prog 4 #[.int .i64 x, .int .u64 sn, .slice p l.length cap, .slice q nd cap2, .bool own, .int .u8 how, .int .i64 pos] w fun e w' => e = .returned (.bool true) ∧ Below w.heap.size w w' := by
  have HD := Lib.hid hD
  have HR := Lib.hid hr
  have HF := Lib.hid hf
  have HX := Lib.hid hx
  have HPO := Lib.hid hpos
  have HB32 := Lib.hid hb32
  obtain ⟨n, hn⟩ : ∃ n, l.length = n := ⟨_, rfl⟩
  have HN := Lib.hid hn
  rw [hn] at hlc ⊢
  clear hD hr hf hn hx hpos hb32
  go_enter Try.func4, Try.ntmps4
  go_wp2_with fail
  refine (examples_any _).mono ?_
  rintro e W1 ⟨rfl, hB1⟩
  have HB1 := Lib.hid hB1
  clear hB1
  go_upto_if 29 with fail
  go_cut [0, 1, 2, 16, 17, 18, 19, 20] from 29 (fun x0 x1 x2 x16 x17 x18 x19 x20 wx => OfRel w x0 x1 x2 wx)
  case first J K' hJ hK' =>
    cases own with
    | false =>
      go_wp2
      go_meet
      case rel => exact ⟨x, sn, p, l, cap, rfl, rfl, by rw [HN.out], hsn, by rw [HN.out]; exact hlc, hcm, HB32.out, HF.out, HR.out.below HB1.out, HB1.out⟩
    | true =>
      have hy0 : 0 ≤ IntKind.u64.wrap x := by
        unfold IntKind.wrap
        simp [IntKind.signed, IntKind.bits]
        omega
      obtain ⟨y, hy⟩ : ∃ y : Nat, IntKind.u64.wrap x = (y : Int) := ⟨(IntKind.u64.wrap x).toNat, by omega⟩
      obtain ⟨z, hz⟩ : ∃ z : Nat, (y : Int) % 6 = (z : Int) := ⟨y % 6, by omega⟩
      obtain ⟨r, hr⟩ : ∃ r : Nat, (1 : Int) + (z : Int) = (r : Int) := ⟨1 + z, by omega⟩
      have hr1 : 1 ≤ r := by omega
      have hr6 : r ≤ 6 := by omega
      have hz2 : IntKind.i64.wrap (z : Int) = (z : Int) := IntWalk.i64_in _ (by omega)
      have hr2 : IntKind.i64.wrap (r : Int) = (r : Int) := IntWalk.i64_in _ (by omega)
      have hz3 : IntKind.u64.wrap (z : Int) = (z : Int) := IntWalk.u64_in _ (by omega)
      have hrn := ref_new_any r hr1 (by omega)
      clear hy0
      go_wp2_with fail
      refine (hrn _).mono ?_
      rintro e W2 ⟨rfl, hB2, hX2⟩
      have HX2 := Lib.hid (hX2.mono HB1.out.size)
      have HB2 := Lib.hid (below_on HB1.out hB2 (Nat.le_refl _))
      clear hB2 hX2 hrn hy hz hz2 hz3
      generalize W1.heap.size = P at *
      go_upto_block 0 with fail
      go_cut [17] from 37 (fun x17 wx => ∃ (u : Value) (m : List Itm), RTp w.heap.size P r u m wx ∧ Below w.heap.size w wx)
      case' first =>
        go_wp2
        go_loopg [17] (min nd 30) (fun g i1 wx => ∃ (j : Nat) (u : Value) (m : List Itm), j + g = min nd 30 ∧ i1 = .int .i64 j ∧ RTp w.heap.size P r u m wx ∧ Below w.heap.size w wx)
      case atStart => exact ⟨0, _, [], by omega, rfl, HX2.out, HB2.out⟩
      case round =>
        obtain ⟨j, u, m, hjg, rfl, hX, hB⟩ := hrel
        have HX := Lib.hid hX
        have HB := Lib.hid hB
        clear hX hB
        cases gk with
        | zero =>
          have hend : ¬ (j < nd) ∨ (j < nd ∧ ¬ (j < 30)) := by omega
          clear hjg
          rcases hend with hend | ⟨hend1, hend⟩
          all_goals
            go_wp2
            go_meet
            case rel => exact ⟨u, m, HX.out, HB.out⟩
        | succ g =>
          have hj1 : j < nd := by omega
          have hj2 : j < 30 := by omega
          obtain ⟨D, o, d, rfl, hD, d0, d1, d2, hdk, hds, hdb⟩ := HD.out j hj1
          obtain ⟨dk, ds, db⟩ := d
          simp only at d0 d1 d2 hdk hds hdb
          have hji : (j : Int) < (nd : Int) := by omega
          have hDw : D < wr.heap.size := Nat.lt_of_lt_of_le hD HB.out.size
          have e0 := (HB.out.cell (p := ⟨D, o + j * 3, none⟩) hD).trans d0
          have e1 := (HB.out.cell (p := ⟨D, o + j * 3 + 1, none⟩) hD).trans d1
          have e2 := (HB.out.cell (p := ⟨D, o + j * 3 + 2, none⟩) hD).trans d2
          obtain ⟨b5, hb5⟩ : ∃ b5, db % 5 = b5 := ⟨_, rfl⟩
          have hb5i : (db : Int) % 5 = (b5 : Int) := by omega
          obtain ⟨b, hb⟩ : ∃ b, 1 + b5 = b := ⟨_, rfl⟩
          have hbi : (1 : Int) + (b5 : Int) = (b : Int) := by omega
          have hb64 : b < 18446744073709551616 := by omega
          have r1 : IntKind.u64.wrap (b : Int) = (b : Int) := IntWalk.u64_in _ (by omega)
          have r2 : IntKind.u64.wrap (b5 : Int) = (b5 : Int) := IntWalk.u64_in _ (by omega)
          have hname0 := fun W => name_any dk hdk ds db W
          have hdn0 := dName_size dk ds hds
          generalize dName dk ds = dn at hname0 hdn0
          have HB5I := hb5i
          obtain ⟨m', hadd⟩ : ∃ m', addS r dn b m = m' := ⟨_, rfl⟩
          obtain ⟨c, hcode⟩ : ∃ c, addC dn b m = c := ⟨_, rfl⟩
          have hqi : (j : Int) < (nd : Int) := hji
          have hname := hname0
          have hdn := hdn0
          clear e0 e1 e2 hb5 hb hname0 hdn0 hDw
          go_wp2
          refine Reg2.wp_region_inv2 (n := 213) (OfPsi P r u m m' w) (OfPhi D o j nd cap2 P dk db b5 b ds dn c) (by kernel_rfl) (by kernel_rfl) rfl OfPhi.stays (OfPsi.zero _ HX.out.drew HB.out.drew) ?_ ?_
          · refine ⟨?_, ?_, ?_, ?_, ?_, ?_, ?_, ?_, ?_, ?_, ?_, ?_, ?_, ?_, trivial⟩
            · intro ls cx wc hΨ hls hun hcl hpr hp hs
              have g16 : cx.tmps[16]? = some (.pointer (some ⟨P, 0, none⟩)) := (hs 16 (by kernel_rfl)).trans rfl
              refine Reg2.ok_value (v := .pointer (some ⟨P, 0, none⟩)) (Reg.wanted_none rfl) ?_ (hΨ.stay 0 (by decide)) rfl
              go_simp
            · intro ls cx wc hΨ hls hun hcl hpr hp hs
              have g3 : cx.tmps[3]? = some (.slice (some ⟨D, o, none⟩) nd cap2) := (hs 3 (by kernel_rfl)).trans rfl
              refine Reg2.ok_value (v := .slice (some ⟨D, o, none⟩) nd cap2) (Reg.wanted_none rfl) ?_ (hΨ.stay 1 (by decide)) rfl
              go_simp
            · intro ls cx wc hΨ hls hun hcl hpr hp hs
              have g17 : cx.tmps[17]? = some (.int .i64 j) := (hs 17 (by kernel_rfl)).trans rfl
              refine Reg2.ok_value (v := .int .i64 j) (Reg.wanted_none rfl) ?_ (hΨ.stay 2 (by decide)) rfl
              go_simp
            · intro ls cx wc hΨ hls hun hcl hpr hp hs
              have g48 : cx.tmps[48]? = some (.slice (some ⟨D, o, none⟩) nd cap2) := by obtain ⟨_, g, hv⟩ := Reg.pred hp 1 48 (by kernel_rfl) rfl rfl; exact g.trans (congrArg some hv)
              have g49 : cx.tmps[49]? = some (.int .i64 j) := by obtain ⟨_, g, hv⟩ := Reg.pred hp 2 49 (by kernel_rfl) rfl rfl; exact g.trans (congrArg some hv)
              refine Reg2.ok_value (v := .pointer (some ⟨D, o + j * 3, none⟩)) (Reg.wanted_none rfl) ?_ (hΨ.stay 3 (by decide)) rfl
              go_simp
            · intro ls cx wc hΨ hls hun hcl hpr hp hs
              have g50 : cx.tmps[50]? = some (.pointer (some ⟨D, o + j * 3, none⟩)) := by obtain ⟨_, g, hv⟩ := Reg.pred hp 3 50 (by kernel_rfl) rfl rfl; exact g.trans (congrArg some hv)
              have kx0 := (Below.cell (p := ⟨D, o + j * 3, none⟩) hΨ.b hD).trans d0
              have kx1 := (Below.cell (p := ⟨D, o + j * 3 + 1, none⟩) hΨ.b hD).trans d1
              have kx2 := (Below.cell (p := ⟨D, o + j * 3 + 2, none⟩) hΨ.b hD).trans d2
              refine Reg2.ok_value (v := .agg #[.int .u8 dk, .string ds, .int .u64 db]) (Reg.wanted_none rfl) ?_ (hΨ.stay 4 (by decide)) rfl
              go_simp
            · intro ls cx wc hΨ hls hun hcl hpr hp hs
              have g51 : cx.tmps[51]? = some (.agg #[.int .u8 dk, .string ds, .int .u64 db]) := by obtain ⟨_, g, hv⟩ := Reg.pred hp 4 51 (by kernel_rfl) rfl rfl; exact g.trans (congrArg some hv)
              refine Reg2.ok_call (f := 13) (args := #[.agg #[.int .u8 dk, .string ds, .int .u64 db]]) (Reg.wanted_none rfl) (by go_simp) ((hname wc).mono ?_)
              rintro e w' ⟨rfl, hB2⟩
              exact ⟨_, rfl, hΨ.keep hB2 5 (by decide), rfl⟩
            · intro ls cx wc hΨ hls hun hcl hpr hp hs
              have g3 : cx.tmps[3]? = some (.slice (some ⟨D, o, none⟩) nd cap2) := (hs 3 (by kernel_rfl)).trans rfl
              refine Reg2.ok_value (v := .slice (some ⟨D, o, none⟩) nd cap2) (Reg.wanted_none rfl) ?_ (hΨ.stay 6 (by decide)) rfl
              go_simp
            · intro ls cx wc hΨ hls hun hcl hpr hp hs
              have g17 : cx.tmps[17]? = some (.int .i64 j) := (hs 17 (by kernel_rfl)).trans rfl
              refine Reg2.ok_value (v := .int .i64 j) (Reg.wanted_none rfl) ?_ (hΨ.stay 7 (by decide)) rfl
              go_simp
            · intro ls cx wc hΨ hls hun hcl hpr hp hs
              have g53 : cx.tmps[53]? = some (.slice (some ⟨D, o, none⟩) nd cap2) := by obtain ⟨_, g, hv⟩ := Reg.pred hp 6 53 (by kernel_rfl) rfl rfl; exact g.trans (congrArg some hv)
              have g54 : cx.tmps[54]? = some (.int .i64 j) := by obtain ⟨_, g, hv⟩ := Reg.pred hp 7 54 (by kernel_rfl) rfl rfl; exact g.trans (congrArg some hv)
              refine Reg2.ok_value (v := .pointer (some ⟨D, o + j * 3, none⟩)) (Reg.wanted_none rfl) ?_ (hΨ.stay 8 (by decide)) rfl
              go_simp
            · intro ls cx wc hΨ hls hun hcl hpr hp hs
              have g55 : cx.tmps[55]? = some (.pointer (some ⟨D, o + j * 3, none⟩)) := by obtain ⟨_, g, hv⟩ := Reg.pred hp 8 55 (by kernel_rfl) rfl rfl; exact g.trans (congrArg some hv)
              refine Reg2.ok_value (v := .pointer (some ⟨D, o + j * 3 + 2, none⟩)) (Reg.wanted_none rfl) ?_ (hΨ.stay 9 (by decide)) rfl
              go_simp
            · intro ls cx wc hΨ hls hun hcl hpr hp hs
              have g56 : cx.tmps[56]? = some (.pointer (some ⟨D, o + j * 3 + 2, none⟩)) := by obtain ⟨_, g, hv⟩ := Reg.pred hp 9 56 (by kernel_rfl) rfl rfl; exact g.trans (congrArg some hv)
              have kx2 := (Below.cell (p := ⟨D, o + j * 3 + 2, none⟩) hΨ.b hD).trans d2
              refine Reg2.ok_value (v := .int .u64 db) (Reg.wanted_none rfl) ?_ (hΨ.stay 10 (by decide)) rfl
              go_simp
            · intro ls cx wc hΨ hls hun hcl hpr hp hs
              have g57 : cx.tmps[57]? = some (.int .u64 db) := by obtain ⟨_, g, hv⟩ := Reg.pred hp 10 57 (by kernel_rfl) rfl rfl; exact g.trans (congrArg some hv)
              refine Reg2.ok_value (v := .int .u64 b5) (Reg.wanted_none rfl) ?_ (hΨ.stay 11 (by decide)) rfl
              go_simp
              all_goals first | assumption | omega
            · intro ls cx wc hΨ hls hun hcl hpr hp hs
              have g58 : cx.tmps[58]? = some (.int .u64 b5) := by obtain ⟨_, g, hv⟩ := Reg.pred hp 11 58 (by kernel_rfl) rfl rfl; exact g.trans (congrArg some hv)
              refine Reg2.ok_value (v := .int .u64 b) (Reg.wanted_none rfl) ?_ (hΨ.stay 12 (by decide)) rfl
              go_simp
              all_goals first | assumption | omega
            · intro ls cx wc hΨ hls hun hcl hpr hp hs
              have g47 : cx.tmps[47]? = some (.pointer (some ⟨P, 0, none⟩)) := by obtain ⟨_, g, hv⟩ := Reg.pred hp 0 47 (by kernel_rfl) rfl rfl; exact g.trans (congrArg some hv)
              have g52 : cx.tmps[52]? = some (.string dn) := by obtain ⟨_, g, hv⟩ := Reg.pred hp 5 52 (by kernel_rfl) rfl rfl; exact g.trans (congrArg some hv)
              have g59 : cx.tmps[59]? = some (.int .u64 b) := by obtain ⟨_, g, hv⟩ := Reg.pred hp 12 59 (by kernel_rfl) rfl rfl; exact g.trans (congrArg some hv)
              have h0 := hΨ.at0 hun
              refine Reg2.ok_call (f := 14) (args := #[.pointer (some ⟨P, 0, none⟩), .string dn, .int .u64 b]) (Reg.wanted_none rfl) (by go_simp) ((radd_is h0.1 dn b hdn hb64 hadd hcode).mono ?_)
              intro e w' hA
              obtain ⟨rfl, u5, hT5, hM5, hB5, hat5⟩ := hA.below ⟨_, h0.1⟩
              exact ⟨_, rfl, OfPsi.to1 hls hT5 (h0.2.trans hB5), rfl⟩
          · intro ls c9 wc hΨ hls hall hsz hdf hv ho
            have hfr := Reg.frame_eq [_, _, _, _, _, _, _, _, _, _, _, _, _, _, _, _, _, _, _, _, _, _, _, _, _, _, _, _, _, _, _, _, _, _, _, _, _, _, _, _, _, _, _, _, _, _, _, .pointer (some ⟨P, 0, none⟩), .slice (some ⟨D, o, none⟩) nd cap2, .int .i64 j, .pointer (some ⟨D, o + j * 3, none⟩), .agg #[.int .u8 dk, .string ds, .int .u64 db], .string dn, .slice (some ⟨D, o, none⟩) nd cap2, .int .i64 j, .pointer (some ⟨D, o + j * 3, none⟩), .pointer (some ⟨D, o + j * 3 + 2, none⟩), .int .u64 db, .int .u64 b5, .int .u64 b, .int .i64 c, _, _, _, _, _, _, _, _, _, _, _, _, _, _, _, _, _, _, _, _, _, _, _, _, _, _, _, _, _, _, _, _, _, _, _, _, _, _, _, _, _, _, _, _, _, _, _, _, _, _, _, _, _, _, _, _, _, _, _, _, _, _, _, _, _, _, _, _, _, _, _, _, _, _, _, _, _, _, _, _, _, _, _, _, _, _, _, _, _, _, _, _, _, _, _, _, _, _, _, _, _, _, _, _, _, _, _, _, _, _, _, _, _, _, _, _, _, _, _, _, _, _, _, _, _, _, _, _, _, _, _, _, _, _, _, _, _, _, _, _, _, _, _, _, _, _, _, _, _, _, _, _] (by simpa using hsz) hdf ⟨((Reg.kept ho 0 (by kernel_rfl)).trans rfl), ((Reg.kept ho 1 (by kernel_rfl)).trans rfl), ((Reg.kept ho 2 (by kernel_rfl)).trans rfl), ((Reg.kept ho 3 (by kernel_rfl)).trans rfl), ((Reg.kept ho 4 (by kernel_rfl)).trans rfl), ((Reg.kept ho 5 (by kernel_rfl)).trans rfl), ((Reg.kept ho 6 (by kernel_rfl)).trans rfl), ((Reg.kept ho 7 (by kernel_rfl)).trans rfl), ((Reg.kept ho 8 (by kernel_rfl)).trans rfl), ((Reg.kept ho 9 (by kernel_rfl)).trans rfl), ((Reg.kept ho 10 (by kernel_rfl)).trans rfl), ((Reg.kept ho 11 (by kernel_rfl)).trans rfl), ((Reg.kept ho 12 (by kernel_rfl)).trans rfl), ((Reg.kept ho 13 (by kernel_rfl)).trans rfl), ((Reg.kept ho 14 (by kernel_rfl)).trans rfl), ((Reg.kept ho 15 (by kernel_rfl)).trans rfl), ((Reg.kept ho 16 (by kernel_rfl)).trans rfl), ((Reg.kept ho 17 (by kernel_rfl)).trans rfl), ((Reg.kept ho 18 (by kernel_rfl)).trans rfl), ((Reg.kept ho 19 (by kernel_rfl)).trans rfl), ((Reg.kept ho 20 (by kernel_rfl)).trans rfl), ((Reg.kept ho 21 (by kernel_rfl)).trans rfl), ((Reg.kept ho 22 (by kernel_rfl)).trans rfl), ((Reg.kept ho 23 (by kernel_rfl)).trans rfl), ((Reg.kept ho 24 (by kernel_rfl)).trans rfl), ((Reg.kept ho 25 (by kernel_rfl)).trans rfl), ((Reg.kept ho 26 (by kernel_rfl)).trans rfl), ((Reg.kept ho 27 (by kernel_rfl)).trans rfl), ((Reg.kept ho 28 (by kernel_rfl)).trans rfl), ((Reg.kept ho 29 (by kernel_rfl)).trans rfl), ((Reg.kept ho 30 (by kernel_rfl)).trans rfl), ((Reg.kept ho 31 (by kernel_rfl)).trans rfl), ((Reg.kept ho 32 (by kernel_rfl)).trans rfl), ((Reg.kept ho 33 (by kernel_rfl)).trans rfl), ((Reg.kept ho 34 (by kernel_rfl)).trans rfl), ((Reg.kept ho 35 (by kernel_rfl)).trans rfl), ((Reg.kept ho 36 (by kernel_rfl)).trans rfl), ((Reg.kept ho 37 (by kernel_rfl)).trans rfl), ((Reg.kept ho 38 (by kernel_rfl)).trans rfl), ((Reg.kept ho 39 (by kernel_rfl)).trans rfl), ((Reg.kept ho 40 (by kernel_rfl)).trans rfl), ((Reg.kept ho 41 (by kernel_rfl)).trans rfl), ((Reg.kept ho 42 (by kernel_rfl)).trans rfl), ((Reg.kept ho 43 (by kernel_rfl)).trans rfl), ((Reg.kept ho 44 (by kernel_rfl)).trans rfl), ((Reg.kept ho 45 (by kernel_rfl)).trans rfl), ((Reg.kept ho 46 (by kernel_rfl)).trans rfl), (by obtain ⟨_, g, hx⟩ := hv 0 _ 47 rfl rfl; exact g.trans (congrArg some hx)), (by obtain ⟨_, g, hx⟩ := hv 1 _ 48 rfl rfl; exact g.trans (congrArg some hx)), (by obtain ⟨_, g, hx⟩ := hv 2 _ 49 rfl rfl; exact g.trans (congrArg some hx)), (by obtain ⟨_, g, hx⟩ := hv 3 _ 50 rfl rfl; exact g.trans (congrArg some hx)), (by obtain ⟨_, g, hx⟩ := hv 4 _ 51 rfl rfl; exact g.trans (congrArg some hx)), (by obtain ⟨_, g, hx⟩ := hv 5 _ 52 rfl rfl; exact g.trans (congrArg some hx)), (by obtain ⟨_, g, hx⟩ := hv 6 _ 53 rfl rfl; exact g.trans (congrArg some hx)), (by obtain ⟨_, g, hx⟩ := hv 7 _ 54 rfl rfl; exact g.trans (congrArg some hx)), (by obtain ⟨_, g, hx⟩ := hv 8 _ 55 rfl rfl; exact g.trans (congrArg some hx)), (by obtain ⟨_, g, hx⟩ := hv 9 _ 56 rfl rfl; exact g.trans (congrArg some hx)), (by obtain ⟨_, g, hx⟩ := hv 10 _ 57 rfl rfl; exact g.trans (congrArg some hx)), (by obtain ⟨_, g, hx⟩ := hv 11 _ 58 rfl rfl; exact g.trans (congrArg some hx)), (by obtain ⟨_, g, hx⟩ := hv 12 _ 59 rfl rfl; exact g.trans (congrArg some hx)), (by obtain ⟨_, g, hx⟩ := hv 13 _ 60 rfl rfl; exact g.trans (congrArg some hx)), ((Reg.kept ho 61 (by kernel_rfl)).trans rfl), ((Reg.kept ho 62 (by kernel_rfl)).trans rfl), ((Reg.kept ho 63 (by kernel_rfl)).trans rfl), ((Reg.kept ho 64 (by kernel_rfl)).trans rfl), ((Reg.kept ho 65 (by kernel_rfl)).trans rfl), ((Reg.kept ho 66 (by kernel_rfl)).trans rfl), ((Reg.kept ho 67 (by kernel_rfl)).trans rfl), ((Reg.kept ho 68 (by kernel_rfl)).trans rfl), ((Reg.kept ho 69 (by kernel_rfl)).trans rfl), ((Reg.kept ho 70 (by kernel_rfl)).trans rfl), ((Reg.kept ho 71 (by kernel_rfl)).trans rfl), ((Reg.kept ho 72 (by kernel_rfl)).trans rfl), ((Reg.kept ho 73 (by kernel_rfl)).trans rfl), ((Reg.kept ho 74 (by kernel_rfl)).trans rfl), ((Reg.kept ho 75 (by kernel_rfl)).trans rfl), ((Reg.kept ho 76 (by kernel_rfl)).trans rfl), ((Reg.kept ho 77 (by kernel_rfl)).trans rfl), ((Reg.kept ho 78 (by kernel_rfl)).trans rfl), ((Reg.kept ho 79 (by kernel_rfl)).trans rfl), ((Reg.kept ho 80 (by kernel_rfl)).trans rfl), ((Reg.kept ho 81 (by kernel_rfl)).trans rfl), ((Reg.kept ho 82 (by kernel_rfl)).trans rfl), ((Reg.kept ho 83 (by kernel_rfl)).trans rfl), ((Reg.kept ho 84 (by kernel_rfl)).trans rfl), ((Reg.kept ho 85 (by kernel_rfl)).trans rfl), ((Reg.kept ho 86 (by kernel_rfl)).trans rfl), ((Reg.kept ho 87 (by kernel_rfl)).trans rfl), ((Reg.kept ho 88 (by kernel_rfl)).trans rfl), ((Reg.kept ho 89 (by kernel_rfl)).trans rfl), ((Reg.kept ho 90 (by kernel_rfl)).trans rfl), ((Reg.kept ho 91 (by kernel_rfl)).trans rfl), ((Reg.kept ho 92 (by kernel_rfl)).trans rfl), ((Reg.kept ho 93 (by kernel_rfl)).trans rfl), ((Reg.kept ho 94 (by kernel_rfl)).trans rfl), ((Reg.kept ho 95 (by kernel_rfl)).trans rfl), ((Reg.kept ho 96 (by kernel_rfl)).trans rfl), ((Reg.kept ho 97 (by kernel_rfl)).trans rfl), ((Reg.kept ho 98 (by kernel_rfl)).trans rfl), ((Reg.kept ho 99 (by kernel_rfl)).trans rfl), ((Reg.kept ho 100 (by kernel_rfl)).trans rfl), ((Reg.kept ho 101 (by kernel_rfl)).trans rfl), ((Reg.kept ho 102 (by kernel_rfl)).trans rfl), ((Reg.kept ho 103 (by kernel_rfl)).trans rfl), ((Reg.kept ho 104 (by kernel_rfl)).trans rfl), ((Reg.kept ho 105 (by kernel_rfl)).trans rfl), ((Reg.kept ho 106 (by kernel_rfl)).trans rfl), ((Reg.kept ho 107 (by kernel_rfl)).trans rfl), ((Reg.kept ho 108 (by kernel_rfl)).trans rfl), ((Reg.kept ho 109 (by kernel_rfl)).trans rfl), ((Reg.kept ho 110 (by kernel_rfl)).trans rfl), ((Reg.kept ho 111 (by kernel_rfl)).trans rfl), ((Reg.kept ho 112 (by kernel_rfl)).trans rfl), ((Reg.kept ho 113 (by kernel_rfl)).trans rfl), ((Reg.kept ho 114 (by kernel_rfl)).trans rfl), ((Reg.kept ho 115 (by kernel_rfl)).trans rfl), ((Reg.kept ho 116 (by kernel_rfl)).trans rfl), ((Reg.kept ho 117 (by kernel_rfl)).trans rfl), ((Reg.kept ho 118 (by kernel_rfl)).trans rfl), ((Reg.kept ho 119 (by kernel_rfl)).trans rfl), ((Reg.kept ho 120 (by kernel_rfl)).trans rfl), ((Reg.kept ho 121 (by kernel_rfl)).trans rfl), ((Reg.kept ho 122 (by kernel_rfl)).trans rfl), ((Reg.kept ho 123 (by kernel_rfl)).trans rfl), ((Reg.kept ho 124 (by kernel_rfl)).trans rfl), ((Reg.kept ho 125 (by kernel_rfl)).trans rfl), ((Reg.kept ho 126 (by kernel_rfl)).trans rfl), ((Reg.kept ho 127 (by kernel_rfl)).trans rfl), ((Reg.kept ho 128 (by kernel_rfl)).trans rfl), ((Reg.kept ho 129 (by kernel_rfl)).trans rfl), ((Reg.kept ho 130 (by kernel_rfl)).trans rfl), ((Reg.kept ho 131 (by kernel_rfl)).trans rfl), ((Reg.kept ho 132 (by kernel_rfl)).trans rfl), ((Reg.kept ho 133 (by kernel_rfl)).trans rfl), ((Reg.kept ho 134 (by kernel_rfl)).trans rfl), ((Reg.kept ho 135 (by kernel_rfl)).trans rfl), ((Reg.kept ho 136 (by kernel_rfl)).trans rfl), ((Reg.kept ho 137 (by kernel_rfl)).trans rfl), ((Reg.kept ho 138 (by kernel_rfl)).trans rfl), ((Reg.kept ho 139 (by kernel_rfl)).trans rfl), ((Reg.kept ho 140 (by kernel_rfl)).trans rfl), ((Reg.kept ho 141 (by kernel_rfl)).trans rfl), ((Reg.kept ho 142 (by kernel_rfl)).trans rfl), ((Reg.kept ho 143 (by kernel_rfl)).trans rfl), ((Reg.kept ho 144 (by kernel_rfl)).trans rfl), ((Reg.kept ho 145 (by kernel_rfl)).trans rfl), ((Reg.kept ho 146 (by kernel_rfl)).trans rfl), ((Reg.kept ho 147 (by kernel_rfl)).trans rfl), ((Reg.kept ho 148 (by kernel_rfl)).trans rfl), ((Reg.kept ho 149 (by kernel_rfl)).trans rfl), ((Reg.kept ho 150 (by kernel_rfl)).trans rfl), ((Reg.kept ho 151 (by kernel_rfl)).trans rfl), ((Reg.kept ho 152 (by kernel_rfl)).trans rfl), ((Reg.kept ho 153 (by kernel_rfl)).trans rfl), ((Reg.kept ho 154 (by kernel_rfl)).trans rfl), ((Reg.kept ho 155 (by kernel_rfl)).trans rfl), ((Reg.kept ho 156 (by kernel_rfl)).trans rfl), ((Reg.kept ho 157 (by kernel_rfl)).trans rfl), ((Reg.kept ho 158 (by kernel_rfl)).trans rfl), ((Reg.kept ho 159 (by kernel_rfl)).trans rfl), ((Reg.kept ho 160 (by kernel_rfl)).trans rfl), ((Reg.kept ho 161 (by kernel_rfl)).trans rfl), ((Reg.kept ho 162 (by kernel_rfl)).trans rfl), ((Reg.kept ho 163 (by kernel_rfl)).trans rfl), ((Reg.kept ho 164 (by kernel_rfl)).trans rfl), ((Reg.kept ho 165 (by kernel_rfl)).trans rfl), ((Reg.kept ho 166 (by kernel_rfl)).trans rfl), ((Reg.kept ho 167 (by kernel_rfl)).trans rfl), ((Reg.kept ho 168 (by kernel_rfl)).trans rfl), ((Reg.kept ho 169 (by kernel_rfl)).trans rfl), ((Reg.kept ho 170 (by kernel_rfl)).trans rfl), ((Reg.kept ho 171 (by kernel_rfl)).trans rfl), ((Reg.kept ho 172 (by kernel_rfl)).trans rfl), ((Reg.kept ho 173 (by kernel_rfl)).trans rfl), ((Reg.kept ho 174 (by kernel_rfl)).trans rfl), ((Reg.kept ho 175 (by kernel_rfl)).trans rfl), ((Reg.kept ho 176 (by kernel_rfl)).trans rfl), ((Reg.kept ho 177 (by kernel_rfl)).trans rfl), ((Reg.kept ho 178 (by kernel_rfl)).trans rfl), ((Reg.kept ho 179 (by kernel_rfl)).trans rfl), ((Reg.kept ho 180 (by kernel_rfl)).trans rfl), ((Reg.kept ho 181 (by kernel_rfl)).trans rfl), ((Reg.kept ho 182 (by kernel_rfl)).trans rfl), ((Reg.kept ho 183 (by kernel_rfl)).trans rfl), ((Reg.kept ho 184 (by kernel_rfl)).trans rfl), ((Reg.kept ho 185 (by kernel_rfl)).trans rfl), ((Reg.kept ho 186 (by kernel_rfl)).trans rfl), ((Reg.kept ho 187 (by kernel_rfl)).trans rfl), ((Reg.kept ho 188 (by kernel_rfl)).trans rfl), ((Reg.kept ho 189 (by kernel_rfl)).trans rfl), ((Reg.kept ho 190 (by kernel_rfl)).trans rfl), ((Reg.kept ho 191 (by kernel_rfl)).trans rfl), ((Reg.kept ho 192 (by kernel_rfl)).trans rfl), ((Reg.kept ho 193 (by kernel_rfl)).trans rfl), ((Reg.kept ho 194 (by kernel_rfl)).trans rfl), ((Reg.kept ho 195 (by kernel_rfl)).trans rfl), ((Reg.kept ho 196 (by kernel_rfl)).trans rfl), ((Reg.kept ho 197 (by kernel_rfl)).trans rfl), ((Reg.kept ho 198 (by kernel_rfl)).trans rfl), ((Reg.kept ho 199 (by kernel_rfl)).trans rfl), ((Reg.kept ho 200 (by kernel_rfl)).trans rfl), ((Reg.kept ho 201 (by kernel_rfl)).trans rfl), ((Reg.kept ho 202 (by kernel_rfl)).trans rfl), ((Reg.kept ho 203 (by kernel_rfl)).trans rfl), ((Reg.kept ho 204 (by kernel_rfl)).trans rfl), ((Reg.kept ho 205 (by kernel_rfl)).trans rfl), ((Reg.kept ho 206 (by kernel_rfl)).trans rfl), ((Reg.kept ho 207 (by kernel_rfl)).trans rfl), ((Reg.kept ho 208 (by kernel_rfl)).trans rfl), ((Reg.kept ho 209 (by kernel_rfl)).trans rfl), ((Reg.kept ho 210 (by kernel_rfl)).trans rfl), ((Reg.kept ho 211 (by kernel_rfl)).trans rfl), ((Reg.kept ho 212 (by kernel_rfl)).trans rfl), trivial⟩
            subst hfr
            obtain ⟨u5, hX5, hB5⟩ := hΨ.at1 (hall 13 (by decide))
            have HX5 := Lib.hid hX5
            have HB5 := Lib.hid hB5
            clear hΨ hls hall hsz hdf hv ho hX5 hB5 hname hadd hcode
            go_wp2
            go_roundg g
            case measure => omega
            case rel => exact ⟨j + 1, u5, _, by omega, by go_num, HX5.out, HB5.out⟩
      case rest =>
        obtain ⟨u, m, hX, hB⟩ := hcut
        have HX := Lib.hid hX
        have HB := Lib.hid hB
        have k2 := hX.c2
        have HI := Lib.hid hX.inv
        have hsn9 := hX.inv.sum
        have hsl : m.length ≤ 16 := Nat.le_trans hX.inv.len hX.inv.hi
        obtain ⟨sm, hsm⟩ : ∃ sm, seen m = sm := ⟨_, rfl⟩
        rw [hsm] at k2 hsn9
        clear hX hB hsm
        go_wp2_with fail
        refine (ref_items_any HX.out).mono ?_
        rintro e W3 ⟨v3, s, rfl, hI3, hp3, hto3, hB3⟩
        obtain ⟨p3, c3, hv3, hc3, hm3⟩ := hI3.cap
        subst hv3
        have HF := Lib.hid (inv_fit HI.out hp3)
        have hs16 : s.length ≤ 16 := by rw [hp3.length_eq]; exact hsl
        have HW3 := Lib.hid (below_on HB.out hB3 (Nat.le_refl _))
        have HR3 := Lib.hid hI3.rd
        clear hI3 hp3 hto3 hB3 hsl
        obtain ⟨i0, hi0, hz⟩ := Option.map_eq_some_iff.1 info_item
        simp only [Prod.mk.injEq] at hz
        obtain ⟨hz0, hz1, hz2⟩ := hz
        have HZ0 := Lib.hid hz0
        have HZ1 := Lib.hid hz1
        have HZ2 := Lib.hid hz2
        have HI0 := Lib.hid hi0
        obtain ⟨N, hN⟩ : ∃ N, W3.heap.size = N := ⟨_, rfl⟩
        have HNN := Lib.hid hN
        obtain ⟨ns, hns⟩ : ∃ ns, s.length = ns := ⟨_, rfl⟩
        have HLN := Lib.hid hns
        rw [hns] at hc3 hs16 ⊢
        unfold maxLen at hm3
        clear hz0 hz1 hz2 hi0 hN hns k2
        go_wp2
        go_loopg [2, 19] ns (fun g o x wx => ∃ (i : Nat) (v : Value), i + g = ns ∧ o = v ∧ x = .int .i64 i ∧ Its N 51 v (s.take i) wx ∧ Below N W3 wx)
        case atStart => exact ⟨0, _, by omega, rfl, rfl, Its.nil _ _ _, Below.refl _ _⟩
        case round =>
          obtain ⟨i, v, hig, hv, rfl, hI, hB⟩ := hrel
          replace hv := hv.symm
          subst hv
          cases gk with
          | zero =>
            obtain rfl : i = ns := by omega
            have hI2 : Its N 51 v s wr := by rw [← HLN.out, List.take_length] at hI; exact hI
            have HI2 := Lib.hid hI2
            have HB2 := Lib.hid hB
            clear hI hB hig
            by_cases hi0 : i = 0
            · subst hi0
              have hvn : v = .slice none 0 0 ∨ ∃ p c, v = .slice p 0 c ∧ c ≤ 9223372036854775807 := by
                obtain ⟨p, c, h1, h2, h3⟩ := hI2.cap
                rw [HLN.out] at h1
                exact .inr ⟨p, c, h1, h3⟩
              obtain ⟨p, c, rfl, hc9⟩ : ∃ p c, v = .slice p 0 c ∧ c ≤ 9223372036854775807 := by
                rcases hvn with rfl | h
                · exact ⟨none, 0, rfl, by omega⟩
                · exact h
              have hsnil : s = [] := List.eq_nil_of_length_eq_zero HLN.out
              clear hvn hI2
              go_wp2
              go_meet
              case rel => exact ⟨r, sm, p, [], c, rfl, rfl, rfl, by omega, by simp, hc9, by simp, fun _ h => by simp at h, fun _ h => by simp at h, HW3.out.trans (HB2.out.mono (by rw [← HNN.out]; exact HW3.out.size))⟩
            · obtain ⟨g, cap, hv, _⟩ := hI2.form_pos (by rw [HLN.out]; omega)
              rw [HLN.out] at hv
              subst hv
              have hn1 : (0 : Int) < (i : Int) := by omega
              have hn2 : decide (0 < i) = true := by simp; omega
              have HI3 := Lib.hid hI2
              have HHOW := Lib.hid hhow
              clear hI2
              go_upto_if 94 with fail
              refine of_switch _ ?hC w W3 _ r sm N g i cap how pos s HW3.out HNN.out HB2.out HI3.out HLN.out hs16 hi0 HF.out hsn9 HHOW.out _ _ _ _ _ _ _ _ _ _ _ _ _ _ _ _ _ _ _ _ _ _ _ _ _ _ _ _ _ _ _ _ _ _ _ _ _ _ _ _ _ _ _ _ _ _ _ _ _ _ _ _ _ _ _ _ _ _ _ _ _ _ _ _ _ _ _ _ _ _ _ _ _ _ _ _ _ _ _ _ _ _ _ _ _ _ _ _ _ _ _ _ _ _ _ _ _ _ _ _ _ _ _ _ _ _ _ _ _ _ _ _ _ _ _ _ _ _ _ _ _ _ _ _ _ _ _ _ _ _ _ _ _ _ _ _ _ _ _ _ _ _ _ _ _ _ _ _ _ _ _ _ _ _ _ _ _ _ _ _ _ _ _ _ _ _ _ _ _ _ _ _ _ _ _ _ _ _ _ _ _ _ _ _ _ _ _ _ _ _ _ _ _ _ _ _ _ _ _ _ _ _ _ _ _ _ _ _ _ ?hK
              case hC => kernel_rfl
              case hK =>
                intros
                first
                  | refine hK' _ _ (Met.intro (hJ _ _ ?_))
                  | refine Met.intro (hJ _ _ ?_)
                  | refine hJ _ _ ?_
                repeat apply Exists.intro
                refine ⟨?rel, rfl⟩
                case rel => assumption
          | succ g =>
            have hin : i < ns := by omega
            obtain ⟨C, off, rfl, hC, d0, d1, d2⟩ := HR3.out i (by rw [HLN.out]; exact hin)
            have hCN : C < N := Nat.lt_of_lt_of_eq hC HNN.out
            replace d0 := (hB.cell (p := ⟨C, off + i * 3, none⟩) hCN).trans d0
            replace d1 := (hB.cell (p := ⟨C, off + i * 3 + 1, none⟩) hCN).trans d1
            replace d2 := (hB.cell (p := ⟨C, off + i * 3 + 2, none⟩) hCN).trans d2
            have hNw : N ≤ wr.heap.size := Nat.le_trans (Nat.le_of_eq HNN.out.symm) hB.size
            have hlen : (s.take i).length = i := by rw [List.length_take, HLN.out]; omega
            have HI : Hid (wr.ownsRow N 51 3 v i (flat (s.take i))) := Lib.hid (by have := hI; unfold Its at this; rw [hlen] at this; exact this)
            have HTS : Hid (s.take (i + 1) = s.take i ++ [⟨s[i]!.name, s[i]!.many, s[i]!.over⟩]) := Lib.hid (take_snoc (by rw [HLN.out]; exact hin))
            have HLE := Lib.hid hlen
            have HB2 := Lib.hid hB
            have hCw : C < wr.heap.size := by omega
            clear hI hB hC hlen
            generalize s[i]!.name = xn at *
            generalize s[i]!.many = xm at *
            generalize s[i]!.over = xo at *
            have hin2 : (i : Int) < (ns : Int) := by omega
            generalize wr = W at *
            go_wp2
            go_region_law ((refine step_append_at _ rfl (.tmp 73) (.tmp 90) 43 rfl N 51 i0 _ 3 32 Try.underlying43 HI0.out HZ0.out HZ1.out HZ2.out rfl (by decide) v i (flat (s.take i)) (by simp [Act.eval, Act.put]) (World.ownsRow.alloc HI.out _) ⟨W.heap.size, 0, none⟩ 1 1 [.string xn, .int .u64 xm, .int .u64 xo] (by simp [Act.eval, Act.put]) rfl (new_row [.string xn, .int .u64 xm, .int .u64 xo] 51 W) (one_cells ⟨xn, xm, xo⟩) (by unfold maxLen; omega) (by omega) (by simp; omega) ?_); (intro v' w1 ho hg hat); have HO := Lib.hid ho; have HG := Lib.hid hg; clear ho hg hat)
            all_goals
              have hB1 : Below N W3 w1 := ((HB2.out.alloc hNw (.cells #[.string xn, .int .u64 xm, .int .u64 xo] 51)).drew).grown HG.out (by simp; omega) (fun k hk => (World.ownsRow.lt HI.out k hk).1)
              have hI1 : Its N 51 v' (s.take (i + 1)) w1 := by
                rw [HTS.out]
                exact its_append (by rw [HLE.out]; exact HO.out)
              have HB1 := Lib.hid hB1
              have HI1 := Lib.hid hI1
              clear hB1 hI1
              go_wp2
              go_roundg g
              case measure => omega
              case rel => exact ⟨i + 1, v', by omega, rfl, by go_num, HI1.out, HB1.out⟩
  case rest =>
    rename_i K hK
    refine hK _ _ ?_
    exact of_rest _ (by kernel_rfl) w wc _ _ _ _ _ _ _ _ _ _ _ _ _ _ _ _ _ _ _ _ _ _ _ _ _ _ _ _ _ _ _ _ _ _ _ _ _ _ _ _ _ _ _ _ _ _ _ _ _ _ _ _ _ _ _ _ _ _ _ _ _ _ _ _ _ _ _ _ _ _ _ _ _ _ _ _ _ _ _ _ _ _ _ _ _ _ _ _ _ _ _ _ _ _ _ _ _ _ _ _ _ _ _ _ _ _ _ _ _ _ _ _ _ _ _ _ _ _ _ _ _ _ _ _ _ _ _ _ _ _ _ _ _ _ _ _ _ _ _ _ _ _ _ _ _ _ _ _ _ _ _ _ _ _ _ _ _ _ _ _ _ _ _ _ _ _ _ _ _ _ _ _ _ _ _ _ _ _ _ _ _ _ _ _ _ _ _ _ _ _ _ _ _ _ _ _ _ _ _ _ _ _ _ _ _ _ _ _ _ _ _ _ hcut
end Go.Proofs.Ytnkhieackclniaa
