/- TopPlays: a deed, in the region that draws its order. -/
import Derived.Test.YtnkcobmccfcanaaTPl
namespace Go.Proofs.Ytnkcobmccfcanaa
open Go Go.RowKit

def PlPhi (D o q n cap B P dk db b : Nat) (ds dn : ByteArray) (c : Int) (sn le : Nat) : Nat → Value → World → Prop
  | i, v, _ => v = ([.pointer (some ⟨B, 0, none⟩), .slice (some ⟨D, o, none⟩) n cap, .int .i64 q, .pointer (some ⟨D, o + q * 3, none⟩), .agg #[.int .u8 dk, .string ds, .int .u64 db], .string dn, .int .u64 b, .int .i64 c, .pointer (some ⟨P, 0, none⟩), .slice (some ⟨D, o, none⟩) n cap, .int .i64 q, .pointer (some ⟨D, o + q * 3, none⟩), .agg #[.int .u8 dk, .string ds, .int .u64 db], .string dn, .int .u64 b, .int .i64 c, .bool false, .bool false, .pointer (some ⟨B, 0, none⟩), .int .u64 sn, .pointer (some ⟨P, 0, none⟩), .pointer (some ⟨P, 0, none⟩), .pointer (some ⟨P, 2, none⟩), .int .u64 sn, .bool false, .bool false, .bool false, .pointer (some ⟨B, 0, none⟩), .int .u64 le, .pointer (some ⟨P, 0, none⟩), .int .u64 le, .bool false, .bool false] : List Value).getD i undef
theorem PlPhi.stays {D o q n cap B P dk db b : Nat} {ds dn : ByteArray} {c : Int} {sn le : Nat} : ∀ i v wx wy, PlPhi D o q n cap B P dk db b ds dn c sn le i v wx → PlPhi D o q n cap B P dk db b ds dn c sn le i v wy := fun _ _ _ _ h => h
theorem radd_is {base P room : Nat} {v : Value} {l l' : List Itm} {code : Int} {w : World} (h : RTp base P room v l w) (name : ByteArray) (b : Nat) (hn : name.size ≤ maxLen) (hb : b < 18446744073709551616) (hs : addS room name b l = l') (hc : addC name b l = code) :
    Calls Try.prog 14 #[.pointer (some ⟨P, 0, none⟩), .string name, .int .u64 b] w (RAdded base P room v l' code w) := by
  subst hs hc
  exact radd_any h name b hn hb
set_option maxRecDepth 100000 in
set_option maxHeartbeats 64000000 in
theorem plays_in (x : Int) (hx : -9223372036854775808 ≤ x ∧ x ≤ 9223372036854775807) (near : Bool) (p : Option Addr) (n cap cl : Nat) (hn : n ≤ 9223372036854775807) (hcl : cl < 256) (w : World) (hD : Deeds p n w) :
    Calls Try.prog 3 #[.int .i64 x, .bool near, .slice p n cap, .int .u8 cl] w fun e w' => e = .returned (.bool true) ∧ Below w.heap.size w w' := by
  have HD := Lib.hid hD
  clear hD
  have hcase : (near = false ∧ (x < 1 ∨ 16 < x)) ∨ (near = false ∧ ∃ r : Nat, x = r ∧ 1 ≤ r ∧ r ≤ 16) ∨ (near = true ∧ ∃ y z r : Nat, IntKind.u64.wrap x = (y : Int) ∧ (y : Int) % 16 = (z : Int) ∧ (1 : Int) + (z : Int) = (r : Int) ∧ 1 ≤ r ∧ r ≤ 16) := by
    cases near with
    | true =>
      refine .inr (.inr ⟨rfl, ?_⟩)
      have h1 : 0 ≤ IntKind.u64.wrap x := by
        unfold IntKind.wrap
        simp [IntKind.signed, IntKind.bits]
        omega
      exact ⟨(IntKind.u64.wrap x).toNat, (IntKind.u64.wrap x).toNat % 16, 1 + (IntKind.u64.wrap x).toNat % 16, by omega, by omega, by omega, by omega, by omega⟩
    | false =>
      by_cases h : x < 1 ∨ 16 < x
      · exact .inl ⟨rfl, h⟩
      · exact .inr (.inl ⟨rfl, x.toNat, by omega, by omega, by omega⟩)
  rcases hcase with ⟨rfl, hout⟩ | ⟨rfl, r, rfl, hr1, hr16⟩ | ⟨rfl, y, z, r, hy, hz, hr, hr1, hr16⟩
  · have hno := new_out x hout
    have hro := ref_new_out x hout
    have HN := Lib.hid hout
    clear hout
    go_enter Try.func3, Try.ntmps3
    go_wp2_with fail
    refine (examples_any _).mono ?_
    rintro e W1 ⟨rfl, hB⟩
    go_wp2_with fail
    refine (hno _).mono ?_
    rintro e W2 ⟨rfl, rfl⟩
    go_wp2_with fail
    refine (hro _).mono ?_
    rintro e W2 ⟨rfl, rfl⟩
    go_wp2
    go_ret
    exact ⟨rfl, hB⟩
  case' inr.inl =>
    clear hx
  case' inr.inr =>
    have hz2 : IntKind.i64.wrap (z : Int) = (z : Int) := IntWalk.i64_in _ (by omega)
    have hr2 : IntKind.i64.wrap (r : Int) = (r : Int) := IntWalk.i64_in _ (by omega)
    have hz3 : IntKind.u64.wrap (z : Int) = (z : Int) := IntWalk.u64_in _ (by omega)
  all_goals
    have hnew := new_any r hr1 hr16
    have hrnew := ref_new_any r hr1 hr16
    go_enter Try.func3, Try.ntmps3
    go_wp2_with fail
    refine (examples_any _).mono ?_
    rintro e W1 ⟨rfl, hB1⟩
    go_wp2_with fail
    refine (hnew _).mono ?_
    rintro e W2 ⟨rfl, hB2, hT2⟩
    go_wp2_with fail
    refine (hrnew _).mono ?_
    rintro e W3 ⟨rfl, hB3, hX3⟩
    have HTW := Lib.hid (Two.start hB1 hT2 hB2 hX3 hB3)
    clear hB1 hB2 hB3 hT2 hX3 hnew hrnew
    generalize W1.heap.size = B at *
    generalize W2.heap.size = P at *
    go_wp2
    go_loopg [13, 14] (min n 100) (fun g i1 i2 wx => ∃ (q : Nat) (v u : Value) (l : List Itm), q + g = min n 100 ∧ i1 = .int .i64 q ∧ Two B P r v u l l w wx)
    case atStart => exact ⟨0, _, _, [], by omega, rfl, HTW.out⟩
    case round =>
      obtain ⟨q, v, u, l, hqg, rfl, hTW⟩ := hrel
      have HTW := Lib.hid hTW
      clear hTW
      cases gk with
      | zero =>
        have hqe : q = min n 100 := by omega
        have hq100 : q ≤ 100 := by omega
        have hend : ¬ (q < n) ∨ (q < n ∧ ¬ (q < 100)) := by omega
        clear hqe hqg
        have hlv := HTW.out.t.inv
        have hl16 : l.length ≤ 16 := Nat.le_trans hlv.len hlv.hi
        have HND := Lib.hid hlv.nd
        clear hlv
        rcases hend with hend | ⟨hend1, hend⟩
        all_goals
          go_wp2_with fail
          refine (items_any HTW.out.t).mono ?_
          rintro e W4 ⟨v4, s, rfl, hI, hp, hto, hB4⟩
          have H4 := Lib.hid (HTW.out.below hB4)
          obtain ⟨p4, c4, hv4, _, _⟩ := hI.cap
          subst hv4
          have hsl : s.length ≤ 16 := by rw [hp.length_eq]; exact hl16
          have hrf := refs_any p4 s c4 (by omega) W4 hI.rd
          have HP := Lib.hid hp
          have HTO := Lib.hid hto
          have HNS : Hid ((s.map (·.name)).Nodup) := Lib.hid ((hp.map _).nodup_iff.2 HND.out)
          clear hI hp hto hB4 hend
          go_wp2_with fail
          refine hrf.mono ?_
          rintro e W5 ⟨v5, rfl, hR5, hB5⟩
          have H5 := Lib.hid (H4.out.below hB5)
          have HR5 := Lib.hid hR5
          clear hrf hR5 hB5
          go_wp2_with fail
          refine (ref_items_any H5.out.x).mono ?_
          rintro e W6 ⟨v6, s2, rfl, hI6, hp6, hto6, hB6⟩
          obtain rfl : s = s2 := told_unique HTO.out hto6 (HP.out.trans hp6.symm) HNS.out
          have H6 := Lib.hid (H5.out.below hB6)
          have hR6 := HR5.out.below hB6
          obtain ⟨q5, c5, hv5, _, _⟩ := hR6.cap
          obtain ⟨q6, c6, hv6, _, _⟩ := hI6.cap
          subst hv5 hv6
          have hsa := same_any q5 q6 s c5 c6 (by omega) W6 hR6.rd hI6.rd
          clear hI6 hp6 hto6 hB6 hR6
          go_wp2_with fail
          refine hsa.mono ?_
          rintro e W7 ⟨rfl, hB7⟩
          have H7 := Lib.hid (H6.out.below hB7)
          clear hsa hB7
          go_wp2_with fail
          refine (seen_walk H7.out.t).mono ?_
          rintro e W8 ⟨rfl, hB8⟩
          have H8 := Lib.hid (H7.out.below hB8)
          clear hB8
          go_wp2_with fail
          refine (items_any H8.out.t).mono ?_
          rintro e W9 ⟨v9, s9, rfl, hI9, hp9, hto9, hB9⟩
          obtain rfl : s = s9 := told_unique HTO.out hto9 (HP.out.trans hp9.symm) HNS.out
          have H9 := Lib.hid (H8.out.below hB9)
          obtain ⟨p9, c9, hv9, _, _⟩ := hI9.cap
          subst hv9
          have hok : OkOf r (seen l) s := okOf_told H8.out.t.inv hp9 hto9
          have hof := of_any r hr1 hr16 (seen l) p9 s c9 (by omega) (tp_fit H8.out.t hp9) W9 hI9.rd
          have HOK := Lib.hid hok
          clear hI9 hp9 hto9 hB9 hok
          go_wp2_with fail
          refine hof.mono ?_
          rintro e W10 ⟨hB10, hres⟩
          rcases hres with ⟨hno, _⟩ | ⟨_, C, uu, rfl, hU⟩
          · exact absurd HOK.out hno
          have H10 := Lib.hid (H9.out.below hB10)
          have HU10 := Lib.hid hU
          clear hof hB10 hU
          go_wp2_with fail
          refine (items_any HU10.out).mono ?_
          rintro e W11 ⟨v11, s11, rfl, hI11, hp11, hto11, hB11⟩
          obtain rfl : s = s11 := told_unique HTO.out hto11 hp11.symm HNS.out
          have H11 := Lib.hid (H10.out.below hB11)
          obtain ⟨p11, c11, hv11, _, _⟩ := hI11.cap
          subst hv11
          have hrf := refs_any p11 s c11 (by omega) W11 hI11.rd
          clear hI11 hp11 hto11 hB11
          go_wp2_with fail
          refine hrf.mono ?_
          rintro e W12 ⟨v12, rfl, hR12, hB12⟩
          have H12 := Lib.hid (H11.out.below hB12)
          have HR12 := Lib.hid hR12
          clear hrf hR12 hB12
          go_wp2_with fail
          refine (ref_items_any H12.out.x).mono ?_
          rintro e W13 ⟨v13, s13, rfl, hI13, hp13, hto13, hB13⟩
          obtain rfl : s = s13 := told_unique HTO.out hto13 (HP.out.trans hp13.symm) HNS.out
          have H13 := Lib.hid (H12.out.below hB13)
          have hR13 := HR12.out.below hB13
          obtain ⟨q12, c12, hv12, _, _⟩ := hR13.cap
          obtain ⟨q13, c13, hv13, _, _⟩ := hI13.cap
          subst hv12 hv13
          have hsa := same_any q12 q13 s c12 c13 (by omega) W13 hR13.rd hI13.rd
          clear hI13 hp13 hto13 hB13 hR13
          go_wp2_with fail
          refine hsa.mono ?_
          rintro e W14 ⟨rfl, hB14⟩
          have H14 := Lib.hid (H13.out.below hB14)
          clear hsa hB14
          go_wp2_with fail
          refine (room_any H14.out.t).mono ?_
          rintro e W15 ⟨rfl, rfl⟩
          go_wp2
          go_ret
          exact ⟨rfl, H14.out.b⟩
      | succ g =>
        have hq1 : q < n := by omega
        have hq2 : q < 100 := by omega
        obtain ⟨D, o, d, rfl, hD, d0, d1, d2, hdk, hds, hdb⟩ := HD.out q hq1
        obtain ⟨dk, ds, db⟩ := d
        simp only at d0 d1 d2 hdk hds hdb
        have hqi : (q : Int) < (n : Int) := by omega
        have e0 := (HTW.out.b.cell (p := ⟨D, o + q * 3, none⟩) hD).trans d0
        have hby : ∃ b, b < 18446744073709551616 ∧ ((dk % 8 = 0 ∧ b = db) ∨ (0 < dk % 8 ∧ db % 9 = b)) := by
          rcases Nat.eq_zero_or_pos (dk % 8) with h | h
          · exact ⟨db, hdb, .inl ⟨h, rfl⟩⟩
          · exact ⟨db % 9, by omega, .inr ⟨h, rfl⟩⟩
        obtain ⟨b, hb64, hby⟩ := hby
        have e2 := (HTW.out.b.cell (p := ⟨D, o + q * 3 + 2, none⟩) hD).trans d2
        obtain ⟨k8, hk8⟩ : ∃ k8, dk % 8 = k8 := ⟨_, rfl⟩
        have hk8i : (dk : Int) % 8 = (k8 : Int) := by omega
        have r8 : IntKind.u8.wrap (k8 : Int) = (k8 : Int) := IntWalk.u8_in _ (by omega)
        rw [hk8] at hby
        clear hk8
        rcases hby with ⟨h0, hb⟩ | ⟨h0, hb⟩
        case' inl =>
          rw [← hb] at e2
          have t8 : decide (0 < k8) = false := decide_eq_false (by omega)
          clear h0 hb
          go_wp2
        case' inr =>
          have hb9 : (db : Int) % 9 = (b : Int) := by omega
          have r9 : IntKind.u64.wrap (b : Int) = (b : Int) := IntWalk.u64_in _ (by omega)
          have t8 : decide (0 < k8) = true := decide_eq_true h0
          clear h0 hb
          go_wp2
          rw [hb9]
        all_goals
          have hname0 := fun W => name_any dk hdk ds db W
          have hdn0 := dName_size dk ds hds
          generalize dName dk ds = dn at hname0 hdn0
          have hname := hname0
          have hdn := hdn0
          clear hname0 hdn0 e0 e2
          obtain ⟨l', hadd⟩ : ∃ l', addS r dn b l = l' := ⟨_, rfl⟩
          obtain ⟨c, hcode⟩ : ∃ c, addC dn b l = c := ⟨_, rfl⟩
          obtain ⟨sn, hsn⟩ : ∃ sn, seen l' = sn := ⟨_, rfl⟩
          obtain ⟨le, hle⟩ : ∃ le, leastL r l' = le := ⟨_, rfl⟩
          refine Reg2.wp_region_inv2 (n := 157) (PlPsi B P r v u l l' w) (PlPhi D o q n cap B P dk db b ds dn c sn le) (by kernel_rfl) (by kernel_rfl) rfl PlPhi.stays (PlPsi.zero _ HTW.out.drew) ?_ ?_
          · refine ⟨?_, ?_, ?_, ?_, ?_, ?_, ?_, ?_, ?_, ?_, ?_, ?_, ?_, ?_, ?_, ?_, ?_, ?_, ?_, ?_, ?_, ?_, ?_, ?_, ?_, ?_, ?_, ?_, ?_, ?_, ?_, ?_, ?_, trivial⟩
            · intro ls cx wc hΨ hls hun hcl hpr hp hs
              have g10 : cx.tmps[10]? = some (.pointer (some ⟨B, 0, none⟩)) := (hs 10 (by kernel_rfl)).trans rfl
              refine Reg2.ok_value (v := .pointer (some ⟨B, 0, none⟩)) (Reg.wanted_none rfl) ?_ (hΨ.stay 0 (by decide) (by decide)) rfl
              go_simp
            · intro ls cx wc hΨ hls hun hcl hpr hp hs
              have g2 : cx.tmps[2]? = some (.slice (some ⟨D, o, none⟩) n cap) := (hs 2 (by kernel_rfl)).trans rfl
              refine Reg2.ok_value (v := .slice (some ⟨D, o, none⟩) n cap) (Reg.wanted_none rfl) ?_ (hΨ.stay 1 (by decide) (by decide)) rfl
              go_simp
            · intro ls cx wc hΨ hls hun hcl hpr hp hs
              have g13 : cx.tmps[13]? = some (.int .i64 q) := (hs 13 (by kernel_rfl)).trans rfl
              refine Reg2.ok_value (v := .int .i64 q) (Reg.wanted_none rfl) ?_ (hΨ.stay 2 (by decide) (by decide)) rfl
              go_simp
            · intro ls cx wc hΨ hls hun hcl hpr hp hs
              have g77 : cx.tmps[77]? = some (.slice (some ⟨D, o, none⟩) n cap) := by obtain ⟨_, g, hv⟩ := Reg.pred hp 1 77 (by kernel_rfl) rfl rfl; exact g.trans (congrArg some hv)
              have g78 : cx.tmps[78]? = some (.int .i64 q) := by obtain ⟨_, g, hv⟩ := Reg.pred hp 2 78 (by kernel_rfl) rfl rfl; exact g.trans (congrArg some hv)
              refine Reg2.ok_value (v := .pointer (some ⟨D, o + q * 3, none⟩)) (Reg.wanted_none rfl) ?_ (hΨ.stay 3 (by decide) (by decide)) rfl
              go_simp
            · intro ls cx wc hΨ hls hun hcl hpr hp hs
              have g79 : cx.tmps[79]? = some (.pointer (some ⟨D, o + q * 3, none⟩)) := by obtain ⟨_, g, hv⟩ := Reg.pred hp 3 79 (by kernel_rfl) rfl rfl; exact g.trans (congrArg some hv)
              have kx0 := (Below.cell (p := ⟨D, o + q * 3, none⟩) hΨ.b hD).trans d0
              have kx1 := (Below.cell (p := ⟨D, o + q * 3 + 1, none⟩) hΨ.b hD).trans d1
              have kx2 := (Below.cell (p := ⟨D, o + q * 3 + 2, none⟩) hΨ.b hD).trans d2
              refine Reg2.ok_value (v := .agg #[.int .u8 dk, .string ds, .int .u64 db]) (Reg.wanted_none rfl) ?_ (hΨ.stay 4 (by decide) (by decide)) rfl
              go_simp
            · intro ls cx wc hΨ hls hun hcl hpr hp hs
              have g80 : cx.tmps[80]? = some (.agg #[.int .u8 dk, .string ds, .int .u64 db]) := by obtain ⟨_, g, hv⟩ := Reg.pred hp 4 80 (by kernel_rfl) rfl rfl; exact g.trans (congrArg some hv)
              refine Reg2.ok_call (f := 13) (args := #[.agg #[.int .u8 dk, .string ds, .int .u64 db]]) (Reg.wanted_none rfl) (by go_simp) ((hname wc).mono ?_)
              rintro e w' ⟨rfl, hB2⟩
              exact ⟨_, rfl, hΨ.keep hB2 5 (by decide) (by decide), rfl⟩
            · intro ls cx wc hΨ hls hun hcl hpr hp hs
              have g14 : cx.tmps[14]? = some (.int .u64 b) := (hs 14 (by kernel_rfl)).trans rfl
              refine Reg2.ok_value (v := .int .u64 b) (Reg.wanted_none rfl) ?_ (hΨ.stay 6 (by decide) (by decide)) rfl
              go_simp
            · intro ls cx wc hΨ hls hun hcl hpr hp hs
              have g76 : cx.tmps[76]? = some (.pointer (some ⟨B, 0, none⟩)) := by obtain ⟨_, g, hv⟩ := Reg.pred hp 0 76 (by kernel_rfl) rfl rfl; exact g.trans (congrArg some hv)
              have g81 : cx.tmps[81]? = some (.string dn) := by obtain ⟨_, g, hv⟩ := Reg.pred hp 5 81 (by kernel_rfl) rfl rfl; exact g.trans (congrArg some hv)
              have g82 : cx.tmps[82]? = some (.int .u64 b) := by obtain ⟨_, g, hv⟩ := Reg.pred hp 6 82 (by kernel_rfl) rfl rfl; exact g.trans (congrArg some hv)
              have h0 := hΨ.at0 hun
              have hnd : ls[15]? = some false := Reg2.not_done hcl hls 4 15 7 _ rfl (by kernel_rfl) hun
              refine Reg2.ok_call (f := 12) (args := #[.pointer (some ⟨B, 0, none⟩), .string dn, .int .u64 b]) (Reg.wanted_none rfl) (by go_simp) ((add_is h0.t dn b hdn hb64 hadd hcode).mono ?_)
              intro e w' hA
              obtain ⟨rfl, v5, hT5, hM5, hat5⟩ := hA
              exact ⟨_, rfl, PlPsi.to1 hls hnd (h0.stepT hT5 hM5 hat5), rfl⟩
            · intro ls cx wc hΨ hls hun hcl hpr hp hs
              have g12 : cx.tmps[12]? = some (.pointer (some ⟨P, 0, none⟩)) := (hs 12 (by kernel_rfl)).trans rfl
              refine Reg2.ok_value (v := .pointer (some ⟨P, 0, none⟩)) (Reg.wanted_none rfl) ?_ (hΨ.stay 8 (by decide) (by decide)) rfl
              go_simp
            · intro ls cx wc hΨ hls hun hcl hpr hp hs
              have g2 : cx.tmps[2]? = some (.slice (some ⟨D, o, none⟩) n cap) := (hs 2 (by kernel_rfl)).trans rfl
              refine Reg2.ok_value (v := .slice (some ⟨D, o, none⟩) n cap) (Reg.wanted_none rfl) ?_ (hΨ.stay 9 (by decide) (by decide)) rfl
              go_simp
            · intro ls cx wc hΨ hls hun hcl hpr hp hs
              have g13 : cx.tmps[13]? = some (.int .i64 q) := (hs 13 (by kernel_rfl)).trans rfl
              refine Reg2.ok_value (v := .int .i64 q) (Reg.wanted_none rfl) ?_ (hΨ.stay 10 (by decide) (by decide)) rfl
              go_simp
            · intro ls cx wc hΨ hls hun hcl hpr hp hs
              have g85 : cx.tmps[85]? = some (.slice (some ⟨D, o, none⟩) n cap) := by obtain ⟨_, g, hv⟩ := Reg.pred hp 9 85 (by kernel_rfl) rfl rfl; exact g.trans (congrArg some hv)
              have g86 : cx.tmps[86]? = some (.int .i64 q) := by obtain ⟨_, g, hv⟩ := Reg.pred hp 10 86 (by kernel_rfl) rfl rfl; exact g.trans (congrArg some hv)
              refine Reg2.ok_value (v := .pointer (some ⟨D, o + q * 3, none⟩)) (Reg.wanted_none rfl) ?_ (hΨ.stay 11 (by decide) (by decide)) rfl
              go_simp
            · intro ls cx wc hΨ hls hun hcl hpr hp hs
              have g87 : cx.tmps[87]? = some (.pointer (some ⟨D, o + q * 3, none⟩)) := by obtain ⟨_, g, hv⟩ := Reg.pred hp 11 87 (by kernel_rfl) rfl rfl; exact g.trans (congrArg some hv)
              have kx0 := (Below.cell (p := ⟨D, o + q * 3, none⟩) hΨ.b hD).trans d0
              have kx1 := (Below.cell (p := ⟨D, o + q * 3 + 1, none⟩) hΨ.b hD).trans d1
              have kx2 := (Below.cell (p := ⟨D, o + q * 3 + 2, none⟩) hΨ.b hD).trans d2
              refine Reg2.ok_value (v := .agg #[.int .u8 dk, .string ds, .int .u64 db]) (Reg.wanted_none rfl) ?_ (hΨ.stay 12 (by decide) (by decide)) rfl
              go_simp
            · intro ls cx wc hΨ hls hun hcl hpr hp hs
              have g88 : cx.tmps[88]? = some (.agg #[.int .u8 dk, .string ds, .int .u64 db]) := by obtain ⟨_, g, hv⟩ := Reg.pred hp 12 88 (by kernel_rfl) rfl rfl; exact g.trans (congrArg some hv)
              refine Reg2.ok_call (f := 13) (args := #[.agg #[.int .u8 dk, .string ds, .int .u64 db]]) (Reg.wanted_none rfl) (by go_simp) ((hname wc).mono ?_)
              rintro e w' ⟨rfl, hB2⟩
              exact ⟨_, rfl, hΨ.keep hB2 13 (by decide) (by decide), rfl⟩
            · intro ls cx wc hΨ hls hun hcl hpr hp hs
              have g14 : cx.tmps[14]? = some (.int .u64 b) := (hs 14 (by kernel_rfl)).trans rfl
              refine Reg2.ok_value (v := .int .u64 b) (Reg.wanted_none rfl) ?_ (hΨ.stay 14 (by decide) (by decide)) rfl
              go_simp
            · intro ls cx wc hΨ hls hun hcl hpr hp hs
              have g84 : cx.tmps[84]? = some (.pointer (some ⟨P, 0, none⟩)) := by obtain ⟨_, g, hv⟩ := Reg.pred hp 8 84 (by kernel_rfl) rfl rfl; exact g.trans (congrArg some hv)
              have g89 : cx.tmps[89]? = some (.string dn) := by obtain ⟨_, g, hv⟩ := Reg.pred hp 13 89 (by kernel_rfl) rfl rfl; exact g.trans (congrArg some hv)
              have g90 : cx.tmps[90]? = some (.int .u64 b) := by obtain ⟨_, g, hv⟩ := Reg.pred hp 14 90 (by kernel_rfl) rfl rfl; exact g.trans (congrArg some hv)
              have h7 := Reg2.reach_done hcl 4 15 7 _ rfl hpr (by kernel_rfl)
              obtain ⟨v5, h1⟩ := hΨ.at1 h7 hun
              refine Reg2.ok_call (f := 14) (args := #[.pointer (some ⟨P, 0, none⟩), .string dn, .int .u64 b]) (Reg.wanted_none rfl) (by go_simp) ((radd_is h1.x dn b hdn hb64 hadd hcode).mono ?_)
              intro e w' hA
              obtain ⟨rfl, u5, hT5, hM5, hat5⟩ := hA
              exact ⟨_, rfl, PlPsi.to2 hls h7 (h1.stepX hT5 hM5 hat5), rfl⟩
            · intro ls cx wc hΨ hls hun hcl hpr hp hs
              have g83 : cx.tmps[83]? = some (.int .i64 c) := by obtain ⟨_, g, hv⟩ := Reg.pred hp 7 83 (by kernel_rfl) rfl rfl; exact g.trans (congrArg some hv)
              have g91 : cx.tmps[91]? = some (.int .i64 c) := by obtain ⟨_, g, hv⟩ := Reg.pred hp 15 91 (by kernel_rfl) rfl rfl; exact g.trans (congrArg some hv)
              refine Reg2.ok_value (v := .bool false) (Reg.wanted_none rfl) ?_ (hΨ.stay 16 (by decide) (by decide)) rfl
              go_simp
            · intro ls cx wc hΨ hls hun hcl hpr hp hs
              have g92 : cx.tmps[92]? = some (.bool false) := by obtain ⟨_, g, hv⟩ := Reg.pred hp 16 92 (by kernel_rfl) rfl rfl; exact g.trans (congrArg some hv)
              refine Reg2.ok_value (v := .bool false) (Reg.wanted_none rfl) ?_ (hΨ.stay 17 (by decide) (by decide)) rfl
              go_simp
            · intro ls cx wc hΨ hls hun hcl hpr hp hs
              have g10 : cx.tmps[10]? = some (.pointer (some ⟨B, 0, none⟩)) := (hs 10 (by kernel_rfl)).trans rfl
              have g93 : cx.tmps[93]? = some (.bool false) := by obtain ⟨_, g, hv⟩ := Reg.pred hp 17 93 (by kernel_rfl) rfl rfl; exact g.trans (congrArg some hv)
              refine Reg2.ok_value (v := .pointer (some ⟨B, 0, none⟩)) (Reg.wanted_at (j := 17) (d := 93) rfl rfl rfl g93) ?_ (hΨ.stay 18 (by decide) (by decide)) rfl
              go_simp
            · intro ls cx wc hΨ hls hun hcl hpr hp hs
              have g94 : cx.tmps[94]? = some (.pointer (some ⟨B, 0, none⟩)) := by obtain ⟨_, g, hv⟩ := Reg.pred hp 18 94 (by kernel_rfl) rfl rfl; exact g.trans (congrArg some hv)
              have g93 : cx.tmps[93]? = some (.bool false) := by obtain ⟨_, g, hv⟩ := Reg.pred hp 17 93 (by kernel_rfl) rfl rfl; exact g.trans (congrArg some hv)
              have h15 := Reg2.reach_done hcl 4 19 15 _ rfl hpr (by kernel_rfl)
              have h7 := Reg2.reach_done hcl 4 15 7 _ rfl (fun e he hb => hcl 15 _ rfl h15 e he hb) (by kernel_rfl)
              obtain ⟨v5, u5, h5⟩ := hΨ.at2 h7 h15
              have hcc := seen_walk h5.t
              rw [hsn] at hcc
              refine Reg2.ok_call (f := 15) (args := #[.pointer (some ⟨B, 0, none⟩)]) (Reg.wanted_at (j := 17) (d := 93) rfl rfl rfl g93) (by go_simp) ((hcc).mono ?_)
              rintro e w' ⟨rfl, hB2⟩
              exact ⟨_, rfl, hΨ.keep hB2 19 (by decide) (by decide), rfl⟩
            · intro ls cx wc hΨ hls hun hcl hpr hp hs
              have g12 : cx.tmps[12]? = some (.pointer (some ⟨P, 0, none⟩)) := (hs 12 (by kernel_rfl)).trans rfl
              have g93 : cx.tmps[93]? = some (.bool false) := by obtain ⟨_, g, hv⟩ := Reg.pred hp 17 93 (by kernel_rfl) rfl rfl; exact g.trans (congrArg some hv)
              refine Reg2.ok_value (v := .pointer (some ⟨P, 0, none⟩)) (Reg.wanted_at (j := 17) (d := 93) rfl rfl rfl g93) ?_ (hΨ.stay 20 (by decide) (by decide)) rfl
              go_simp
            · intro ls cx wc hΨ hls hun hcl hpr hp hs
              have g96 : cx.tmps[96]? = some (.pointer (some ⟨P, 0, none⟩)) := by obtain ⟨_, g, hv⟩ := Reg.pred hp 20 96 (by kernel_rfl) rfl rfl; exact g.trans (congrArg some hv)
              have g93 : cx.tmps[93]? = some (.bool false) := by obtain ⟨_, g, hv⟩ := Reg.pred hp 17 93 (by kernel_rfl) rfl rfl; exact g.trans (congrArg some hv)
              refine Reg2.ok_value (v := .pointer (some ⟨P, 0, none⟩)) (Reg.wanted_at (j := 17) (d := 93) rfl rfl rfl g93) ?_ (hΨ.stay 21 (by decide) (by decide)) rfl
              go_simp
            · intro ls cx wc hΨ hls hun hcl hpr hp hs
              have g97 : cx.tmps[97]? = some (.pointer (some ⟨P, 0, none⟩)) := by obtain ⟨_, g, hv⟩ := Reg.pred hp 21 97 (by kernel_rfl) rfl rfl; exact g.trans (congrArg some hv)
              have g93 : cx.tmps[93]? = some (.bool false) := by obtain ⟨_, g, hv⟩ := Reg.pred hp 17 93 (by kernel_rfl) rfl rfl; exact g.trans (congrArg some hv)
              refine Reg2.ok_value (v := .pointer (some ⟨P, 2, none⟩)) (Reg.wanted_at (j := 17) (d := 93) rfl rfl rfl g93) ?_ (hΨ.stay 22 (by decide) (by decide)) rfl
              go_simp
            · intro ls cx wc hΨ hls hun hcl hpr hp hs
              have g98 : cx.tmps[98]? = some (.pointer (some ⟨P, 2, none⟩)) := by obtain ⟨_, g, hv⟩ := Reg.pred hp 22 98 (by kernel_rfl) rfl rfl; exact g.trans (congrArg some hv)
              have g93 : cx.tmps[93]? = some (.bool false) := by obtain ⟨_, g, hv⟩ := Reg.pred hp 17 93 (by kernel_rfl) rfl rfl; exact g.trans (congrArg some hv)
              have h15 := Reg2.reach_done hcl 4 23 15 _ rfl hpr (by kernel_rfl)
              have h7 := Reg2.reach_done hcl 4 15 7 _ rfl (fun e he hb => hcl 15 _ rfl h15 e he hb) (by kernel_rfl)
              obtain ⟨v5, u5, h5⟩ := hΨ.at2 h7 h15
              have kx := h5.x.c2
              rw [hsn] at kx
              refine Reg2.ok_value (v := .int .u64 sn) (Reg.wanted_at (j := 17) (d := 93) rfl rfl rfl g93) ?_ (hΨ.stay 23 (by decide) (by decide)) rfl
              go_simp
            · intro ls cx wc hΨ hls hun hcl hpr hp hs
              have g95 : cx.tmps[95]? = some (.int .u64 sn) := by obtain ⟨_, g, hv⟩ := Reg.pred hp 19 95 (by kernel_rfl) rfl rfl; exact g.trans (congrArg some hv)
              have g99 : cx.tmps[99]? = some (.int .u64 sn) := by obtain ⟨_, g, hv⟩ := Reg.pred hp 23 99 (by kernel_rfl) rfl rfl; exact g.trans (congrArg some hv)
              have g93 : cx.tmps[93]? = some (.bool false) := by obtain ⟨_, g, hv⟩ := Reg.pred hp 17 93 (by kernel_rfl) rfl rfl; exact g.trans (congrArg some hv)
              refine Reg2.ok_value (v := .bool false) (Reg.wanted_at (j := 17) (d := 93) rfl rfl rfl g93) ?_ (hΨ.stay 24 (by decide) (by decide)) rfl
              go_simp
            · intro ls cx wc hΨ hls hun hcl hpr hp hs
              have g93 : cx.tmps[93]? = some (.bool false) := by obtain ⟨_, g, hv⟩ := Reg.pred hp 17 93 (by kernel_rfl) rfl rfl; exact g.trans (congrArg some hv)
              have g100 : cx.tmps[100]? = some (.bool false) := by obtain ⟨_, g, hv⟩ := Reg.pred hp 24 100 (by kernel_rfl) rfl rfl; exact g.trans (congrArg some hv)
              refine Reg2.ok_value (v := .bool false) (Reg.wanted_none rfl) ?_ (hΨ.stay 25 (by decide) (by decide)) rfl
              go_simp
            · intro ls cx wc hΨ hls hun hcl hpr hp hs
              have g101 : cx.tmps[101]? = some (.bool false) := by obtain ⟨_, g, hv⟩ := Reg.pred hp 25 101 (by kernel_rfl) rfl rfl; exact g.trans (congrArg some hv)
              refine Reg2.ok_value (v := .bool false) (Reg.wanted_none rfl) ?_ (hΨ.stay 26 (by decide) (by decide)) rfl
              go_simp
            · intro ls cx wc hΨ hls hun hcl hpr hp hs
              have g10 : cx.tmps[10]? = some (.pointer (some ⟨B, 0, none⟩)) := (hs 10 (by kernel_rfl)).trans rfl
              have g102 : cx.tmps[102]? = some (.bool false) := by obtain ⟨_, g, hv⟩ := Reg.pred hp 26 102 (by kernel_rfl) rfl rfl; exact g.trans (congrArg some hv)
              refine Reg2.ok_value (v := .pointer (some ⟨B, 0, none⟩)) (Reg.wanted_at (j := 26) (d := 102) rfl rfl rfl g102) ?_ (hΨ.stay 27 (by decide) (by decide)) rfl
              go_simp
            · intro ls cx wc hΨ hls hun hcl hpr hp hs
              have g103 : cx.tmps[103]? = some (.pointer (some ⟨B, 0, none⟩)) := by obtain ⟨_, g, hv⟩ := Reg.pred hp 27 103 (by kernel_rfl) rfl rfl; exact g.trans (congrArg some hv)
              have g102 : cx.tmps[102]? = some (.bool false) := by obtain ⟨_, g, hv⟩ := Reg.pred hp 26 102 (by kernel_rfl) rfl rfl; exact g.trans (congrArg some hv)
              have h15 := Reg2.reach_done hcl 4 28 15 _ rfl hpr (by kernel_rfl)
              have h7 := Reg2.reach_done hcl 4 15 7 _ rfl (fun e he hb => hcl 15 _ rfl h15 e he hb) (by kernel_rfl)
              obtain ⟨v5, u5, h5⟩ := hΨ.at2 h7 h15
              have hcc := least_any h5.t
              rw [hle] at hcc
              refine Reg2.ok_call (f := 16) (args := #[.pointer (some ⟨B, 0, none⟩)]) (Reg.wanted_at (j := 26) (d := 102) rfl rfl rfl g102) (by go_simp) ((hcc).mono ?_)
              rintro e w' ⟨rfl, hB2⟩
              exact ⟨_, rfl, hΨ.keep hB2 28 (by decide) (by decide), rfl⟩
            · intro ls cx wc hΨ hls hun hcl hpr hp hs
              have g12 : cx.tmps[12]? = some (.pointer (some ⟨P, 0, none⟩)) := (hs 12 (by kernel_rfl)).trans rfl
              have g102 : cx.tmps[102]? = some (.bool false) := by obtain ⟨_, g, hv⟩ := Reg.pred hp 26 102 (by kernel_rfl) rfl rfl; exact g.trans (congrArg some hv)
              refine Reg2.ok_value (v := .pointer (some ⟨P, 0, none⟩)) (Reg.wanted_at (j := 26) (d := 102) rfl rfl rfl g102) ?_ (hΨ.stay 29 (by decide) (by decide)) rfl
              go_simp
            · intro ls cx wc hΨ hls hun hcl hpr hp hs
              have g105 : cx.tmps[105]? = some (.pointer (some ⟨P, 0, none⟩)) := by obtain ⟨_, g, hv⟩ := Reg.pred hp 29 105 (by kernel_rfl) rfl rfl; exact g.trans (congrArg some hv)
              have g102 : cx.tmps[102]? = some (.bool false) := by obtain ⟨_, g, hv⟩ := Reg.pred hp 26 102 (by kernel_rfl) rfl rfl; exact g.trans (congrArg some hv)
              have h15 := Reg2.reach_done hcl 4 30 15 _ rfl hpr (by kernel_rfl)
              have h7 := Reg2.reach_done hcl 4 15 7 _ rfl (fun e he hb => hcl 15 _ rfl h15 e he hb) (by kernel_rfl)
              obtain ⟨v5, u5, h5⟩ := hΨ.at2 h7 h15
              have hcc := ref_least_any h5.x
              rw [hle] at hcc
              refine Reg2.ok_call (f := 17) (args := #[.pointer (some ⟨P, 0, none⟩)]) (Reg.wanted_at (j := 26) (d := 102) rfl rfl rfl g102) (by go_simp) ((hcc).mono ?_)
              rintro e w' ⟨rfl, hB2⟩
              exact ⟨_, rfl, hΨ.keep hB2 30 (by decide) (by decide), rfl⟩
            · intro ls cx wc hΨ hls hun hcl hpr hp hs
              have g104 : cx.tmps[104]? = some (.int .u64 le) := by obtain ⟨_, g, hv⟩ := Reg.pred hp 28 104 (by kernel_rfl) rfl rfl; exact g.trans (congrArg some hv)
              have g106 : cx.tmps[106]? = some (.int .u64 le) := by obtain ⟨_, g, hv⟩ := Reg.pred hp 30 106 (by kernel_rfl) rfl rfl; exact g.trans (congrArg some hv)
              have g102 : cx.tmps[102]? = some (.bool false) := by obtain ⟨_, g, hv⟩ := Reg.pred hp 26 102 (by kernel_rfl) rfl rfl; exact g.trans (congrArg some hv)
              refine Reg2.ok_value (v := .bool false) (Reg.wanted_at (j := 26) (d := 102) rfl rfl rfl g102) ?_ (hΨ.stay 31 (by decide) (by decide)) rfl
              go_simp
            · intro ls cx wc hΨ hls hun hcl hpr hp hs
              have g102 : cx.tmps[102]? = some (.bool false) := by obtain ⟨_, g, hv⟩ := Reg.pred hp 26 102 (by kernel_rfl) rfl rfl; exact g.trans (congrArg some hv)
              have g107 : cx.tmps[107]? = some (.bool false) := by obtain ⟨_, g, hv⟩ := Reg.pred hp 31 107 (by kernel_rfl) rfl rfl; exact g.trans (congrArg some hv)
              refine Reg2.ok_value (v := .bool false) (Reg.wanted_none rfl) ?_ (hΨ.stay 32 (by decide) (by decide)) rfl
              go_simp
          · intro ls c9 wc hΨ hls hall hsz hdf hv ho
            have hfr := Reg.frame_eq [_, _, _, _, _, _, _, _, _, _, _, _, _, _, _, _, _, _, _, _, _, _, _, _, _, _, _, _, _, _, _, _, _, _, _, _, _, _, _, _, _, _, _, _, _, _, _, _, _, _, _, _, _, _, _, _, _, _, _, _, _, _, _, _, _, _, _, _, _, _, _, _, _, _, _, _, .pointer (some ⟨B, 0, none⟩), .slice (some ⟨D, o, none⟩) n cap, .int .i64 q, .pointer (some ⟨D, o + q * 3, none⟩), .agg #[.int .u8 dk, .string ds, .int .u64 db], .string dn, .int .u64 b, .int .i64 c, .pointer (some ⟨P, 0, none⟩), .slice (some ⟨D, o, none⟩) n cap, .int .i64 q, .pointer (some ⟨D, o + q * 3, none⟩), .agg #[.int .u8 dk, .string ds, .int .u64 db], .string dn, .int .u64 b, .int .i64 c, .bool false, .bool false, .pointer (some ⟨B, 0, none⟩), .int .u64 sn, .pointer (some ⟨P, 0, none⟩), .pointer (some ⟨P, 0, none⟩), .pointer (some ⟨P, 2, none⟩), .int .u64 sn, .bool false, .bool false, .bool false, .pointer (some ⟨B, 0, none⟩), .int .u64 le, .pointer (some ⟨P, 0, none⟩), .int .u64 le, .bool false, .bool false, _, _, _, _, _, _, _, _, _, _, _, _, _, _, _, _, _, _, _, _, _, _, _, _, _, _, _, _, _, _, _, _, _, _, _, _, _, _, _, _, _, _, _, _, _, _, _, _] (by simpa using hsz) hdf ⟨((Reg.kept ho 0 (by kernel_rfl)).trans rfl), ((Reg.kept ho 1 (by kernel_rfl)).trans rfl), ((Reg.kept ho 2 (by kernel_rfl)).trans rfl), ((Reg.kept ho 3 (by kernel_rfl)).trans rfl), ((Reg.kept ho 4 (by kernel_rfl)).trans rfl), ((Reg.kept ho 5 (by kernel_rfl)).trans rfl), ((Reg.kept ho 6 (by kernel_rfl)).trans rfl), ((Reg.kept ho 7 (by kernel_rfl)).trans rfl), ((Reg.kept ho 8 (by kernel_rfl)).trans rfl), ((Reg.kept ho 9 (by kernel_rfl)).trans rfl), ((Reg.kept ho 10 (by kernel_rfl)).trans rfl), ((Reg.kept ho 11 (by kernel_rfl)).trans rfl), ((Reg.kept ho 12 (by kernel_rfl)).trans rfl), ((Reg.kept ho 13 (by kernel_rfl)).trans rfl), ((Reg.kept ho 14 (by kernel_rfl)).trans rfl), ((Reg.kept ho 15 (by kernel_rfl)).trans rfl), ((Reg.kept ho 16 (by kernel_rfl)).trans rfl), ((Reg.kept ho 17 (by kernel_rfl)).trans rfl), ((Reg.kept ho 18 (by kernel_rfl)).trans rfl), ((Reg.kept ho 19 (by kernel_rfl)).trans rfl), ((Reg.kept ho 20 (by kernel_rfl)).trans rfl), ((Reg.kept ho 21 (by kernel_rfl)).trans rfl), ((Reg.kept ho 22 (by kernel_rfl)).trans rfl), ((Reg.kept ho 23 (by kernel_rfl)).trans rfl), ((Reg.kept ho 24 (by kernel_rfl)).trans rfl), ((Reg.kept ho 25 (by kernel_rfl)).trans rfl), ((Reg.kept ho 26 (by kernel_rfl)).trans rfl), ((Reg.kept ho 27 (by kernel_rfl)).trans rfl), ((Reg.kept ho 28 (by kernel_rfl)).trans rfl), ((Reg.kept ho 29 (by kernel_rfl)).trans rfl), ((Reg.kept ho 30 (by kernel_rfl)).trans rfl), ((Reg.kept ho 31 (by kernel_rfl)).trans rfl), ((Reg.kept ho 32 (by kernel_rfl)).trans rfl), ((Reg.kept ho 33 (by kernel_rfl)).trans rfl), ((Reg.kept ho 34 (by kernel_rfl)).trans rfl), ((Reg.kept ho 35 (by kernel_rfl)).trans rfl), ((Reg.kept ho 36 (by kernel_rfl)).trans rfl), ((Reg.kept ho 37 (by kernel_rfl)).trans rfl), ((Reg.kept ho 38 (by kernel_rfl)).trans rfl), ((Reg.kept ho 39 (by kernel_rfl)).trans rfl), ((Reg.kept ho 40 (by kernel_rfl)).trans rfl), ((Reg.kept ho 41 (by kernel_rfl)).trans rfl), ((Reg.kept ho 42 (by kernel_rfl)).trans rfl), ((Reg.kept ho 43 (by kernel_rfl)).trans rfl), ((Reg.kept ho 44 (by kernel_rfl)).trans rfl), ((Reg.kept ho 45 (by kernel_rfl)).trans rfl), ((Reg.kept ho 46 (by kernel_rfl)).trans rfl), ((Reg.kept ho 47 (by kernel_rfl)).trans rfl), ((Reg.kept ho 48 (by kernel_rfl)).trans rfl), ((Reg.kept ho 49 (by kernel_rfl)).trans rfl), ((Reg.kept ho 50 (by kernel_rfl)).trans rfl), ((Reg.kept ho 51 (by kernel_rfl)).trans rfl), ((Reg.kept ho 52 (by kernel_rfl)).trans rfl), ((Reg.kept ho 53 (by kernel_rfl)).trans rfl), ((Reg.kept ho 54 (by kernel_rfl)).trans rfl), ((Reg.kept ho 55 (by kernel_rfl)).trans rfl), ((Reg.kept ho 56 (by kernel_rfl)).trans rfl), ((Reg.kept ho 57 (by kernel_rfl)).trans rfl), ((Reg.kept ho 58 (by kernel_rfl)).trans rfl), ((Reg.kept ho 59 (by kernel_rfl)).trans rfl), ((Reg.kept ho 60 (by kernel_rfl)).trans rfl), ((Reg.kept ho 61 (by kernel_rfl)).trans rfl), ((Reg.kept ho 62 (by kernel_rfl)).trans rfl), ((Reg.kept ho 63 (by kernel_rfl)).trans rfl), ((Reg.kept ho 64 (by kernel_rfl)).trans rfl), ((Reg.kept ho 65 (by kernel_rfl)).trans rfl), ((Reg.kept ho 66 (by kernel_rfl)).trans rfl), ((Reg.kept ho 67 (by kernel_rfl)).trans rfl), ((Reg.kept ho 68 (by kernel_rfl)).trans rfl), ((Reg.kept ho 69 (by kernel_rfl)).trans rfl), ((Reg.kept ho 70 (by kernel_rfl)).trans rfl), ((Reg.kept ho 71 (by kernel_rfl)).trans rfl), ((Reg.kept ho 72 (by kernel_rfl)).trans rfl), ((Reg.kept ho 73 (by kernel_rfl)).trans rfl), ((Reg.kept ho 74 (by kernel_rfl)).trans rfl), ((Reg.kept ho 75 (by kernel_rfl)).trans rfl), (by obtain ⟨_, g, hx⟩ := hv 0 _ 76 rfl rfl; exact g.trans (congrArg some hx)), (by obtain ⟨_, g, hx⟩ := hv 1 _ 77 rfl rfl; exact g.trans (congrArg some hx)), (by obtain ⟨_, g, hx⟩ := hv 2 _ 78 rfl rfl; exact g.trans (congrArg some hx)), (by obtain ⟨_, g, hx⟩ := hv 3 _ 79 rfl rfl; exact g.trans (congrArg some hx)), (by obtain ⟨_, g, hx⟩ := hv 4 _ 80 rfl rfl; exact g.trans (congrArg some hx)), (by obtain ⟨_, g, hx⟩ := hv 5 _ 81 rfl rfl; exact g.trans (congrArg some hx)), (by obtain ⟨_, g, hx⟩ := hv 6 _ 82 rfl rfl; exact g.trans (congrArg some hx)), (by obtain ⟨_, g, hx⟩ := hv 7 _ 83 rfl rfl; exact g.trans (congrArg some hx)), (by obtain ⟨_, g, hx⟩ := hv 8 _ 84 rfl rfl; exact g.trans (congrArg some hx)), (by obtain ⟨_, g, hx⟩ := hv 9 _ 85 rfl rfl; exact g.trans (congrArg some hx)), (by obtain ⟨_, g, hx⟩ := hv 10 _ 86 rfl rfl; exact g.trans (congrArg some hx)), (by obtain ⟨_, g, hx⟩ := hv 11 _ 87 rfl rfl; exact g.trans (congrArg some hx)), (by obtain ⟨_, g, hx⟩ := hv 12 _ 88 rfl rfl; exact g.trans (congrArg some hx)), (by obtain ⟨_, g, hx⟩ := hv 13 _ 89 rfl rfl; exact g.trans (congrArg some hx)), (by obtain ⟨_, g, hx⟩ := hv 14 _ 90 rfl rfl; exact g.trans (congrArg some hx)), (by obtain ⟨_, g, hx⟩ := hv 15 _ 91 rfl rfl; exact g.trans (congrArg some hx)), (by obtain ⟨_, g, hx⟩ := hv 16 _ 92 rfl rfl; exact g.trans (congrArg some hx)), (by obtain ⟨_, g, hx⟩ := hv 17 _ 93 rfl rfl; exact g.trans (congrArg some hx)), (by obtain ⟨_, g, hx⟩ := hv 18 _ 94 rfl rfl; exact g.trans (congrArg some hx)), (by obtain ⟨_, g, hx⟩ := hv 19 _ 95 rfl rfl; exact g.trans (congrArg some hx)), (by obtain ⟨_, g, hx⟩ := hv 20 _ 96 rfl rfl; exact g.trans (congrArg some hx)), (by obtain ⟨_, g, hx⟩ := hv 21 _ 97 rfl rfl; exact g.trans (congrArg some hx)), (by obtain ⟨_, g, hx⟩ := hv 22 _ 98 rfl rfl; exact g.trans (congrArg some hx)), (by obtain ⟨_, g, hx⟩ := hv 23 _ 99 rfl rfl; exact g.trans (congrArg some hx)), (by obtain ⟨_, g, hx⟩ := hv 24 _ 100 rfl rfl; exact g.trans (congrArg some hx)), (by obtain ⟨_, g, hx⟩ := hv 25 _ 101 rfl rfl; exact g.trans (congrArg some hx)), (by obtain ⟨_, g, hx⟩ := hv 26 _ 102 rfl rfl; exact g.trans (congrArg some hx)), (by obtain ⟨_, g, hx⟩ := hv 27 _ 103 rfl rfl; exact g.trans (congrArg some hx)), (by obtain ⟨_, g, hx⟩ := hv 28 _ 104 rfl rfl; exact g.trans (congrArg some hx)), (by obtain ⟨_, g, hx⟩ := hv 29 _ 105 rfl rfl; exact g.trans (congrArg some hx)), (by obtain ⟨_, g, hx⟩ := hv 30 _ 106 rfl rfl; exact g.trans (congrArg some hx)), (by obtain ⟨_, g, hx⟩ := hv 31 _ 107 rfl rfl; exact g.trans (congrArg some hx)), (by obtain ⟨_, g, hx⟩ := hv 32 _ 108 rfl rfl; exact g.trans (congrArg some hx)), ((Reg.kept ho 109 (by kernel_rfl)).trans rfl), ((Reg.kept ho 110 (by kernel_rfl)).trans rfl), ((Reg.kept ho 111 (by kernel_rfl)).trans rfl), ((Reg.kept ho 112 (by kernel_rfl)).trans rfl), ((Reg.kept ho 113 (by kernel_rfl)).trans rfl), ((Reg.kept ho 114 (by kernel_rfl)).trans rfl), ((Reg.kept ho 115 (by kernel_rfl)).trans rfl), ((Reg.kept ho 116 (by kernel_rfl)).trans rfl), ((Reg.kept ho 117 (by kernel_rfl)).trans rfl), ((Reg.kept ho 118 (by kernel_rfl)).trans rfl), ((Reg.kept ho 119 (by kernel_rfl)).trans rfl), ((Reg.kept ho 120 (by kernel_rfl)).trans rfl), ((Reg.kept ho 121 (by kernel_rfl)).trans rfl), ((Reg.kept ho 122 (by kernel_rfl)).trans rfl), ((Reg.kept ho 123 (by kernel_rfl)).trans rfl), ((Reg.kept ho 124 (by kernel_rfl)).trans rfl), ((Reg.kept ho 125 (by kernel_rfl)).trans rfl), ((Reg.kept ho 126 (by kernel_rfl)).trans rfl), ((Reg.kept ho 127 (by kernel_rfl)).trans rfl), ((Reg.kept ho 128 (by kernel_rfl)).trans rfl), ((Reg.kept ho 129 (by kernel_rfl)).trans rfl), ((Reg.kept ho 130 (by kernel_rfl)).trans rfl), ((Reg.kept ho 131 (by kernel_rfl)).trans rfl), ((Reg.kept ho 132 (by kernel_rfl)).trans rfl), ((Reg.kept ho 133 (by kernel_rfl)).trans rfl), ((Reg.kept ho 134 (by kernel_rfl)).trans rfl), ((Reg.kept ho 135 (by kernel_rfl)).trans rfl), ((Reg.kept ho 136 (by kernel_rfl)).trans rfl), ((Reg.kept ho 137 (by kernel_rfl)).trans rfl), ((Reg.kept ho 138 (by kernel_rfl)).trans rfl), ((Reg.kept ho 139 (by kernel_rfl)).trans rfl), ((Reg.kept ho 140 (by kernel_rfl)).trans rfl), ((Reg.kept ho 141 (by kernel_rfl)).trans rfl), ((Reg.kept ho 142 (by kernel_rfl)).trans rfl), ((Reg.kept ho 143 (by kernel_rfl)).trans rfl), ((Reg.kept ho 144 (by kernel_rfl)).trans rfl), ((Reg.kept ho 145 (by kernel_rfl)).trans rfl), ((Reg.kept ho 146 (by kernel_rfl)).trans rfl), ((Reg.kept ho 147 (by kernel_rfl)).trans rfl), ((Reg.kept ho 148 (by kernel_rfl)).trans rfl), ((Reg.kept ho 149 (by kernel_rfl)).trans rfl), ((Reg.kept ho 150 (by kernel_rfl)).trans rfl), ((Reg.kept ho 151 (by kernel_rfl)).trans rfl), ((Reg.kept ho 152 (by kernel_rfl)).trans rfl), ((Reg.kept ho 153 (by kernel_rfl)).trans rfl), ((Reg.kept ho 154 (by kernel_rfl)).trans rfl), ((Reg.kept ho 155 (by kernel_rfl)).trans rfl), ((Reg.kept ho 156 (by kernel_rfl)).trans rfl), trivial⟩
            subst hfr
            obtain ⟨v5, u5, h5⟩ := hΨ.at2 (hall 7 (by decide)) (hall 15 (by decide))
            have H5 := Lib.hid h5
            clear hΨ hls hall hsz hdf hv ho h5 hname hadd hcode hsn hle
            by_cases hqc : q = cl
            · have t20 : ((q : Int) == (cl : Int)) = true := by simp [hqc]
              have hc1 := clear_any H5.out.t
              go_wp2_with fail
              refine hc1.mono ?_
              rintro e W6 ⟨rfl, hM6, hT6⟩
              have H6 := Lib.hid (H5.out.stepT hT6 hM6 (fun g hg => by simp [Value.ownBlock] at hg))
              clear hM6 hT6 hc1
              have hc2 := ref_clear_any H6.out.x
              go_wp2_with fail
              refine hc2.mono ?_
              rintro e W7 ⟨rfl, hM7, hX7⟩
              have H7 := Lib.hid (H6.out.stepX hX7 hM7 (fun g hg => by simp [Value.ownBlock] at hg))
              clear hM7 hX7 hc2
              go_wp2
              go_roundg g
              case measure => omega
              case rel => exact ⟨q + 1, _, _, _, by omega, by go_num, H7.out⟩
            · have t20 : ((q : Int) == (cl : Int)) = false := by simp; omega
              go_wp2
              go_roundg g
              case measure => omega
              case rel => exact ⟨q + 1, _, _, _, by omega, by go_num, H5.out⟩
end Go.Proofs.Ytnkcobmccfcanaa
