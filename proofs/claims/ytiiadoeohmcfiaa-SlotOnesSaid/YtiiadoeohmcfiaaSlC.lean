/- The places behind a gap close up. -/
import Derived.Test.YtiiadoeohmcfiaaSlR
import Derived.BigRegion
import Derived.Deep.RegionWith
namespace Go.Proofs.Ytiiadoeohmcfiaa
open Go Go.RowKit

def CloPsi (B N q s : Nat) (T : ByteArray) : Nat → Value → World → Prop
  | i, v, _ => v = ([.pointer (some ⟨B, 0, none⟩), .pointer (some ⟨B, 0, none⟩), .pointer (some ⟨N, 1, none⟩), .int .i64 ((s : Int)), .pointer (some ⟨B, 0, none⟩), .pointer (some ⟨B, 1, none⟩), .pointer (some ⟨B, 1 + s, none⟩), .string T, .tuple #[.int .i64 ((q : Int)), .bool false], .tuple #[.int .i64 ((q : Int)), .bool false], .int .i64 ((q : Int)), .bool false, .int .i64 ((q : Int)), .bool false] : List Value).getD i undef
theorem CloPsi.stays {B N q s : Nat} {T : ByteArray} : ∀ i v wx wy, CloPsi B N q s T i v wx → Reg.Old wx wy → CloPsi B N q s T i v wy := fun _ _ _ _ h _ => h
def CloPhi (B _N q s : Nat) : Nat → Value → World → Prop
  | i, v, _ => v = ([.pointer (some ⟨B, 0, none⟩), .int .i64 ((q : Int)), .agg #[.bool true, .int .i64 (s : Int)], .pointer (some ⟨B, 0, none⟩), .pointer (some ⟨B, 257, none⟩), .pointer (some ⟨B, 257 + q * 2, none⟩), undef] : List Value).getD i undef
theorem CloPhi.stays {B N q s : Nat} : ∀ i v wx wy, CloPhi B N q s i v wx → Reg.Old wx wy → CloPhi B N q s i v wy := fun _ _ _ _ h _ => h
set_option maxRecDepth 100000 in
set_option maxHeartbeats 4000000 in
theorem close_any (B n : Nat) (ks : Nat → Key) (en : Nat → Option Nat) (hk : ∀ s, s < 256 → (ks s).length ≤ maxLen) (g m : Nat) (hC : Sl.Clo ([] : Key) hsh ks g m 1 en)
    (w : World) (h : Tb B n ks en w) :
    Calls Try.prog 25 #[.pointer (some ⟨B, 0, none⟩), .int .i64 (g : Int)] w fun e w' =>
      e = .returned (.tuple #[]) ∧ ∃ en', Tb B n ks en' w' ∧ Sl.Inv ([] : Key) hsh ks en' ∧ Chg B w w' := by
  have hg := hC.glt
  have hm := hC.mlt
  have h1m := hC.le
  have hn0 := next_any g hg
  have hpn : (g + 1) % 512 = Sl.plc g 1 := rfl
  rw [hpn] at hn0
  have HC := Lib.hid hC
  have HT := Lib.hid h
  have HK := Lib.hid hk
  have HM := Lib.hid (Chg.refl B w)
  clear hC h hk hpn
  obtain ⟨p1, hp1⟩ : ∃ p1, Sl.plc g 1 = p1 := ⟨_, rfl⟩
  have HP1 := Lib.hid hp1
  rw [hp1] at hn0
  clear hp1
  go_enter Try.func25, Try.ntmps25
  go_wp2_with fail
  refine (hn0 _).mono ?_
  rintro e w1 ⟨rfl, rfl⟩
  go_wp2
  go_loopg [4, 5, 6, 7] (m - 1) (fun k s4 s5 s6 s7 wx => ∃ (i : Nat) (en' : Nat → Option Nat), s4 = .int .i64 (Sl.plc g i : Int) ∧ i + k = m ∧ 1 ≤ i ∧ Hid (Sl.Clo ([] : Key) hsh ks g m i en') ∧ Hid (Tb B n ks en' wx) ∧ Hid (Chg B w wx))
  case atStart => exact ⟨1, en, by rw [HP1.out], by omega, Nat.le_refl _, HC, HT, HM⟩
  case round =>
    clear HC HT HM hn0 HP1
    obtain ⟨i, en', rfl, hik, hi1, HC, HT, HM⟩ := hrel
    have hT := HT.out
    have hC := HC.out
    have hpl := Sl.plc_lt g i
    obtain ⟨p, hp⟩ : ∃ p, Sl.plc g i = p := ⟨_, rfl⟩
    rw [hp] at hpl ⊢
    have HP := Lib.hid hp
    have c0 := hT.taken p hpl
    have c1 := hT.slot p hpl
    have z0 := hT.lt
    cases gk with
    | zero =>
      obtain rfl : i = m := by omega
      have hl := hC.last
      rw [hp] at hl
      have E1 : (Option.isSome (none : Option Nat)) = false := rfl
      rw [hl] at c0 c1
      rw [E1] at c0
      clear hT hC hp hl
      go_wp2
      go_end0
      exact ⟨rfl, en', HT.out, HC.out.inv, HM.out⟩
    | succ k =>
      have him : i < m := by omega
      have hne := hC.left i (Nat.le_refl _) him
      rw [hp] at hne
      obtain ⟨s, he⟩ := Option.ne_none_iff_exists'.1 hne
      have hs := (hC.ent.slot p s hpl he).1
      have E1 : (Option.isSome (some s : Option Nat)) = true := rfl
      have E2 : (Option.getD (some s : Option Nat) 0) = s := rfl
      have f0 := hT.fro (257 + p * 2) (by omega)
      have f1 := hT.fro (257 + p * 2 + 1) (by omega)
      rw [he] at c0 c1
      rw [E1] at c0
      rw [E2] at c1
      clear hne E1 E2 hp
      have HE := Lib.hid he
      clear hT hC he
      have hn1 := next_any p hpl
      have hpn : (p + 1) % 512 = Sl.plc g (i + 1) := by rw [← HP.out]; exact Sl.plc_next g i
      rw [hpn] at hn1
      clear hpn
      obtain ⟨p', hp'⟩ : ∃ p', Sl.plc g (i + 1) = p' := ⟨_, rfl⟩
      have HP' := Lib.hid hp'
      rw [hp'] at hn1
      clear hp'
      have hent : Sl.Ent ([] : Key) ks (Sl.put en' p none) := by have := HC.out.taken; rw [HP.out] at this; exact this
      have hx2 := hent.empty p
      have hx3 : ∃ q, q < 512 ∧ Sl.put en' p none q = none := by obtain ⟨q, h1, _, h2⟩ := hx2; exact ⟨q, h1, h2⟩
      obtain ⟨mm, has, hS⟩ := Sl.search_ex (ks := ks) (ks s) hx3 (hsh_lt (ks s))
      have hno : has = false := by
        cases has with
        | false => rfl
        | true =>
          obtain ⟨_, _, h3⟩ := hS
          rw [if_pos rfl] at h3
          obtain ⟨t, e1, e2⟩ := h3
          rw [← HP.out] at e1
          exact absurd e2 (HC.out.gone (by rw [HP.out]; exact HE.out) (Sl.plc_lt _ _) e1)
      subst hno
      have hC2 : Sl.Clo ([] : Key) hsh ks g m (i + 1) (Sl.put (Sl.put en' p none) (Sl.plc (hsh (ks s)) mm) (some s)) := by
        have hS' := hS
        rw [← HP.out] at hS' ⊢
        exact HC.out.moved hsh_lt him (by rw [HP.out]; exact HE.out) hS'
      have hsr := fun W => search_at (B := B) (n := n) (HK.out s hs) hx3 (fun q t hq he => (hent.slot q t hq he).1) hS W
      have hq := Sl.plc_lt (hsh (ks s)) mm
      generalize Sl.plc (hsh (ks s)) mm = q at *
      have HC2 := Lib.hid hC2
      obtain ⟨T, hTT⟩ : ∃ T, tx (ks s) = T := ⟨_, rfl⟩
      rw [hTT] at hsr
      have HTT := Lib.hid hTT
      have HSR := Lib.hid hsr
      have HN1 := Lib.hid hn1
      clear hsr hx2 hx3 hent hn1 hS hC2 hTT
      go_wp2_with fail
      refine wp_gen (fun W => Tb B n ks (Sl.put en' p none) W ∧ Chg B w W ∧ CellsAt wr.heap.size #[.bool true, .int .i64 (s : Int)] W) ⟨(HT.out.setEn p hpl none).past _, ((HM.out.set _ _).set _ _).alloc _, CellsAt.newAt _ _ _ _ (by simp)⟩ ?_
      intro W ⟨hT2, hM2, hN2⟩
      have d1 : W.drew.cell? ⟨wr.heap.size, 1, none⟩ = some (.int .i64 (s : Int)) := hN2.cell 1 _ rfl
      have ck : W.drew.cell? ⟨B, 1 + s, none⟩ = some (.string T) := HTT.out ▸ hT2.key s hs
      have hBL : B < W.drew.heap.size := hT2.lt
      have hNL : wr.heap.size < W.drew.heap.size := hN2.lt
      have HT2 := Lib.hid hT2
      have HM2 := Lib.hid hM2
      have HN2 := Lib.hid hN2
      have hBN : B ≠ wr.heap.size := by omega
      clear hT2 hM2 hN2 c0 c1 f0 f1 HT HM z0
      generalize wr.heap.size = N at *
      refine Reg.wp_region_inv (n := 49) (CloPsi B N q s T) (by kernel_rfl) (by kernel_rfl) rfl CloPsi.stays ?_ ?_
      · refine ⟨?_, ?_, ?_, ?_, ?_, ?_, ?_, ?_, ?_, ?_, ?_, ?_, ?_, ?_, trivial⟩
        · intro cx wc hB hp hs
          have g0 : cx.tmps[0]? = some (.pointer (some ⟨B, 0, none⟩)) := (hs 0 (by kernel_rfl)).trans rfl
          refine Reg.ok_value Reg.Old.refl (v := .pointer (some ⟨B, 0, none⟩)) (Reg.wanted_none rfl) ?_ rfl
          go_simp
        · intro cx wc hB hp hs
          have g0 : cx.tmps[0]? = some (.pointer (some ⟨B, 0, none⟩)) := (hs 0 (by kernel_rfl)).trans rfl
          refine Reg.ok_value Reg.Old.refl (v := .pointer (some ⟨B, 0, none⟩)) (Reg.wanted_none rfl) ?_ rfl
          go_simp
        · intro cx wc hB hp hs
          have g5 : cx.tmps[5]? = some (.pointer (some ⟨N, 0, none⟩)) := (hs 5 (by kernel_rfl)).trans rfl
          refine Reg.ok_value Reg.Old.refl (v := .pointer (some ⟨N, 1, none⟩)) (Reg.wanted_none rfl) ?_ rfl
          go_simp
        · intro cx wc hB hp hs
          have g34 : cx.tmps[34]? = some (.pointer (some ⟨N, 1, none⟩)) := by obtain ⟨_, g, hv⟩ := Reg.pred hp 2 34 (by kernel_rfl) rfl rfl; exact g.trans (congrArg some hv)
          have k1 : wc.cell? ⟨N, 1, none⟩ = some (.int .i64 (s : Int)) := (Below.cell (p := ⟨N, 1, none⟩) hB hNL).trans d1
          refine Reg.ok_value Reg.Old.refl (v := .int .i64 ((s : Int))) (Reg.wanted_none rfl) ?_ rfl
          go_simp
        · intro cx wc hB hp hs
          have g33 : cx.tmps[33]? = some (.pointer (some ⟨B, 0, none⟩)) := by obtain ⟨_, g, hv⟩ := Reg.pred hp 1 33 (by kernel_rfl) rfl rfl; exact g.trans (congrArg some hv)
          refine Reg.ok_value Reg.Old.refl (v := .pointer (some ⟨B, 0, none⟩)) (Reg.wanted_none rfl) ?_ rfl
          go_simp
        · intro cx wc hB hp hs
          have g36 : cx.tmps[36]? = some (.pointer (some ⟨B, 0, none⟩)) := by obtain ⟨_, g, hv⟩ := Reg.pred hp 4 36 (by kernel_rfl) rfl rfl; exact g.trans (congrArg some hv)
          refine Reg.ok_value Reg.Old.refl (v := .pointer (some ⟨B, 1, none⟩)) (Reg.wanted_none rfl) ?_ rfl
          go_simp
        · intro cx wc hB hp hs
          have g37 : cx.tmps[37]? = some (.pointer (some ⟨B, 1, none⟩)) := by obtain ⟨_, g, hv⟩ := Reg.pred hp 5 37 (by kernel_rfl) rfl rfl; exact g.trans (congrArg some hv)
          have g35 : cx.tmps[35]? = some (.int .i64 ((s : Int))) := by obtain ⟨_, g, hv⟩ := Reg.pred hp 3 35 (by kernel_rfl) rfl rfl; exact g.trans (congrArg some hv)
          have i0 : (0 : Int) ≤ (s : Int) := by omega
          have i1 : (s : Int) < 256 := by omega
          refine Reg.ok_value Reg.Old.refl (v := .pointer (some ⟨B, 1 + s, none⟩)) (Reg.wanted_none rfl) ?_ rfl
          go_simp
        · intro cx wc hB hp hs
          have g38 : cx.tmps[38]? = some (.pointer (some ⟨B, 1 + s, none⟩)) := by obtain ⟨_, g, hv⟩ := Reg.pred hp 6 38 (by kernel_rfl) rfl rfl; exact g.trans (congrArg some hv)
          have kk : wc.cell? ⟨B, 1 + s, none⟩ = some (.string T) := (Below.cell (p := ⟨B, 1 + s, none⟩) hB hBL).trans ck
          refine Reg.ok_value Reg.Old.refl (v := .string T) (Reg.wanted_none rfl) ?_ rfl
          go_simp
        · intro cx wc hB hp hs
          have g32 : cx.tmps[32]? = some (.pointer (some ⟨B, 0, none⟩)) := by obtain ⟨_, g, hv⟩ := Reg.pred hp 0 32 (by kernel_rfl) rfl rfl; exact g.trans (congrArg some hv)
          have g39 : cx.tmps[39]? = some (.string T) := by obtain ⟨_, g, hv⟩ := Reg.pred hp 7 39 (by kernel_rfl) rfl rfl; exact g.trans (congrArg some hv)
          refine Reg.ok_call (f := 24) (args := #[.pointer (some ⟨B, 0, none⟩), .string T]) (Reg.wanted_none rfl) (by go_simp) ((HSR.out wc (HT2.out.drew.below hB)).mono ?_)
          rintro e w' ⟨rfl, hB2⟩
          exact ⟨_, rfl, hB2, rfl⟩
        · intro cx wc hB hp hs
          have g40 : cx.tmps[40]? = some (.tuple #[.int .i64 ((q : Int)), .bool false]) := by obtain ⟨_, g, hv⟩ := Reg.pred hp 8 40 (by kernel_rfl) rfl rfl; exact g.trans (congrArg some hv)
          refine Reg.ok_value Reg.Old.refl (v := .tuple #[.int .i64 ((q : Int)), .bool false]) (Reg.wanted_none rfl) ?_ rfl
          go_simp
        · intro cx wc hB hp hs
          have g31 : cx.tmps[31]? = some (.tuple #[.int .i64 ((q : Int)), .bool false]) := by obtain ⟨_, g, hv⟩ := Reg.pred hp 9 31 (by kernel_rfl) rfl rfl; exact g.trans (congrArg some hv)
          refine Reg.ok_value Reg.Old.refl (v := .int .i64 ((q : Int))) (Reg.wanted_none rfl) ?_ rfl
          go_simp
        · intro cx wc hB hp hs
          have g31 : cx.tmps[31]? = some (.tuple #[.int .i64 ((q : Int)), .bool false]) := by obtain ⟨_, g, hv⟩ := Reg.pred hp 9 31 (by kernel_rfl) rfl rfl; exact g.trans (congrArg some hv)
          refine Reg.ok_value Reg.Old.refl (v := .bool false) (Reg.wanted_none rfl) ?_ rfl
          go_simp
        · intro cx wc hB hp hs
          have g41 : cx.tmps[41]? = some (.int .i64 ((q : Int))) := by obtain ⟨_, g, hv⟩ := Reg.pred hp 10 41 (by kernel_rfl) rfl rfl; exact g.trans (congrArg some hv)
          refine Reg.ok_value Reg.Old.refl (v := .int .i64 ((q : Int))) (Reg.wanted_none rfl) ?_ rfl
          go_simp
        · intro cx wc hB hp hs
          have g42 : cx.tmps[42]? = some (.bool false) := by obtain ⟨_, g, hv⟩ := Reg.pred hp 11 42 (by kernel_rfl) rfl rfl; exact g.trans (congrArg some hv)
          refine Reg.ok_value Reg.Old.refl (v := .bool false) (Reg.wanted_none rfl) ?_ rfl
          go_simp
      · intro c W5 hB hsz hdf hv ho
        have hfr := Reg.frame_eq [_, _, _, _, _, _, .int .i64 ((q : Int)), .bool false, _, _, _, _, _, _, _, _, _, _, _, _, _, _, _, _, _, _, _, _, _, _, _, .tuple #[.int .i64 ((q : Int)), .bool false], .pointer (some ⟨B, 0, none⟩), .pointer (some ⟨B, 0, none⟩), .pointer (some ⟨N, 1, none⟩), .int .i64 ((s : Int)), .pointer (some ⟨B, 0, none⟩), .pointer (some ⟨B, 1, none⟩), .pointer (some ⟨B, 1 + s, none⟩), .string T, .tuple #[.int .i64 ((q : Int)), .bool false], .int .i64 ((q : Int)), .bool false, _, _, _, _, _, _] (by simpa using hsz) hdf ⟨((Reg.kept ho 0 (by kernel_rfl)).trans rfl), ((Reg.kept ho 1 (by kernel_rfl)).trans rfl), ((Reg.kept ho 2 (by kernel_rfl)).trans rfl), ((Reg.kept ho 3 (by kernel_rfl)).trans rfl), ((Reg.kept ho 4 (by kernel_rfl)).trans rfl), ((Reg.kept ho 5 (by kernel_rfl)).trans rfl), (by obtain ⟨_, g, hx⟩ := hv 12 _ 6 rfl rfl; exact g.trans (congrArg some hx)), (by obtain ⟨_, g, hx⟩ := hv 13 _ 7 rfl rfl; exact g.trans (congrArg some hx)), ((Reg.kept ho 8 (by kernel_rfl)).trans rfl), ((Reg.kept ho 9 (by kernel_rfl)).trans rfl), ((Reg.kept ho 10 (by kernel_rfl)).trans rfl), ((Reg.kept ho 11 (by kernel_rfl)).trans rfl), ((Reg.kept ho 12 (by kernel_rfl)).trans rfl), ((Reg.kept ho 13 (by kernel_rfl)).trans rfl), ((Reg.kept ho 14 (by kernel_rfl)).trans rfl), ((Reg.kept ho 15 (by kernel_rfl)).trans rfl), ((Reg.kept ho 16 (by kernel_rfl)).trans rfl), ((Reg.kept ho 17 (by kernel_rfl)).trans rfl), ((Reg.kept ho 18 (by kernel_rfl)).trans rfl), ((Reg.kept ho 19 (by kernel_rfl)).trans rfl), ((Reg.kept ho 20 (by kernel_rfl)).trans rfl), ((Reg.kept ho 21 (by kernel_rfl)).trans rfl), ((Reg.kept ho 22 (by kernel_rfl)).trans rfl), ((Reg.kept ho 23 (by kernel_rfl)).trans rfl), ((Reg.kept ho 24 (by kernel_rfl)).trans rfl), ((Reg.kept ho 25 (by kernel_rfl)).trans rfl), ((Reg.kept ho 26 (by kernel_rfl)).trans rfl), ((Reg.kept ho 27 (by kernel_rfl)).trans rfl), ((Reg.kept ho 28 (by kernel_rfl)).trans rfl), ((Reg.kept ho 29 (by kernel_rfl)).trans rfl), ((Reg.kept ho 30 (by kernel_rfl)).trans rfl), (by obtain ⟨_, g, hx⟩ := hv 9 _ 31 rfl rfl; exact g.trans (congrArg some hx)), (by obtain ⟨_, g, hx⟩ := hv 0 _ 32 rfl rfl; exact g.trans (congrArg some hx)), (by obtain ⟨_, g, hx⟩ := hv 1 _ 33 rfl rfl; exact g.trans (congrArg some hx)), (by obtain ⟨_, g, hx⟩ := hv 2 _ 34 rfl rfl; exact g.trans (congrArg some hx)), (by obtain ⟨_, g, hx⟩ := hv 3 _ 35 rfl rfl; exact g.trans (congrArg some hx)), (by obtain ⟨_, g, hx⟩ := hv 4 _ 36 rfl rfl; exact g.trans (congrArg some hx)), (by obtain ⟨_, g, hx⟩ := hv 5 _ 37 rfl rfl; exact g.trans (congrArg some hx)), (by obtain ⟨_, g, hx⟩ := hv 6 _ 38 rfl rfl; exact g.trans (congrArg some hx)), (by obtain ⟨_, g, hx⟩ := hv 7 _ 39 rfl rfl; exact g.trans (congrArg some hx)), (by obtain ⟨_, g, hx⟩ := hv 8 _ 40 rfl rfl; exact g.trans (congrArg some hx)), (by obtain ⟨_, g, hx⟩ := hv 10 _ 41 rfl rfl; exact g.trans (congrArg some hx)), (by obtain ⟨_, g, hx⟩ := hv 11 _ 42 rfl rfl; exact g.trans (congrArg some hx)), ((Reg.kept ho 43 (by kernel_rfl)).trans rfl), ((Reg.kept ho 44 (by kernel_rfl)).trans rfl), ((Reg.kept ho 45 (by kernel_rfl)).trans rfl), ((Reg.kept ho 46 (by kernel_rfl)).trans rfl), ((Reg.kept ho 47 (by kernel_rfl)).trans rfl), ((Reg.kept ho 48 (by kernel_rfl)).trans rfl), trivial⟩
        subst hfr
        have HT5 := Lib.hid (HT2.out.below hB)
        have HM5 : Hid (Chg B w W5) := Lib.hid (HM2.out.trans (Chg.of hB))
        have e0 : W5.drew.cell? ⟨N, 0, none⟩ = some (.bool true) := (HN2.out.below hB).cell 0 _ rfl
        have e1 : W5.drew.cell? ⟨N, 1, none⟩ = some (.int .i64 (s : Int)) := (HN2.out.below hB).cell 1 _ rfl
        have hNL : N < W5.drew.heap.size := (HN2.out.below hB).lt
        have z5 := HT5.out.lt
        clear hB hv ho HT2 HM2 HN2 d1 ck HSR hBL
        go_wp2
        refine Reg.wp_region_last2 (n := 49) 6 (CloPhi B N q s) (by kernel_rfl) rfl (by kernel_rfl) (by kernel_rfl) rfl CloPhi.stays ?_ ?_
        · refine ⟨?_, ?_, ?_, ?_, ?_, ?_, ?_, trivial⟩
          · intro _ cx wc hB hp hs
            have g0 : cx.tmps[0]? = some (.pointer (some ⟨B, 0, none⟩)) := (hs 0 (by kernel_rfl)).trans rfl
            refine Reg.ok_value Reg.Old.refl (v := .pointer (some ⟨B, 0, none⟩)) (Reg.wanted_none rfl) ?_ rfl
            go_simp
          · intro _ cx wc hB hp hs
            have g6 : cx.tmps[6]? = some (.int .i64 ((q : Int))) := (hs 6 (by kernel_rfl)).trans rfl
            refine Reg.ok_value Reg.Old.refl (v := .int .i64 ((q : Int))) (Reg.wanted_none rfl) ?_ rfl
            go_simp
          · intro _ cx wc hB hp hs
            have g5 : cx.tmps[5]? = some (.pointer (some ⟨N, 0, none⟩)) := (hs 5 (by kernel_rfl)).trans rfl
            have k0 : wc.cell? ⟨N, 0, none⟩ = some (.bool true) := (Below.cell (p := ⟨N, 0, none⟩) hB hNL).trans e0
            have k1 : wc.cell? ⟨N, 1, none⟩ = some (.int .i64 (s : Int)) := (Below.cell (p := ⟨N, 1, none⟩) hB hNL).trans e1
            refine Reg.ok_value Reg.Old.refl (v := .agg #[.bool true, .int .i64 (s : Int)]) (Reg.wanted_none rfl) ?_ rfl
            go_simp
          · intro _ cx wc hB hp hs
            have g43 : cx.tmps[43]? = some (.pointer (some ⟨B, 0, none⟩)) := by obtain ⟨_, g, hv⟩ := Reg.pred hp 0 43 (by kernel_rfl) rfl rfl; exact g.trans (congrArg some hv)
            refine Reg.ok_value Reg.Old.refl (v := .pointer (some ⟨B, 0, none⟩)) (Reg.wanted_none rfl) ?_ rfl
            go_simp
          · intro _ cx wc hB hp hs
            have g46 : cx.tmps[46]? = some (.pointer (some ⟨B, 0, none⟩)) := by obtain ⟨_, g, hv⟩ := Reg.pred hp 3 46 (by kernel_rfl) rfl rfl; exact g.trans (congrArg some hv)
            refine Reg.ok_value Reg.Old.refl (v := .pointer (some ⟨B, 257, none⟩)) (Reg.wanted_none rfl) ?_ rfl
            go_simp
          · intro _ cx wc hB hp hs
            have g47 : cx.tmps[47]? = some (.pointer (some ⟨B, 257, none⟩)) := by obtain ⟨_, g, hv⟩ := Reg.pred hp 4 47 (by kernel_rfl) rfl rfl; exact g.trans (congrArg some hv)
            have g44 : cx.tmps[44]? = some (.int .i64 ((q : Int))) := by obtain ⟨_, g, hv⟩ := Reg.pred hp 1 44 (by kernel_rfl) rfl rfl; exact g.trans (congrArg some hv)
            have i0 : (0 : Int) ≤ (q : Int) := by omega
            have i1 : (q : Int) < 512 := by omega
            refine Reg.ok_value Reg.Old.refl (v := .pointer (some ⟨B, 257 + q * 2, none⟩)) (Reg.wanted_none rfl) (exec_entry hq rfl g47 g44 _) rfl
          · exact fun h => absurd rfl h
        · intro c wc hB hsz hdf hv ho
          have hfr := Reg.frame_eq [_, _, _, _, _, _, _, _, _, _, _, _, _, _, _, _, _, _, _, _, _, _, _, _, _, _, _, _, _, _, _, _, _, _, _, _, _, _, _, _, _, _, _, .pointer (some ⟨B, 0, none⟩), .int .i64 ((q : Int)), .agg #[.bool true, .int .i64 (s : Int)], .pointer (some ⟨B, 0, none⟩), .pointer (some ⟨B, 257, none⟩), .pointer (some ⟨B, 257 + q * 2, none⟩)] (by simpa using hsz) hdf ⟨((Reg.kept_but ho 0 (by kernel_rfl)).trans rfl), ((Reg.kept_but ho 1 (by kernel_rfl)).trans rfl), ((Reg.kept_but ho 2 (by kernel_rfl)).trans rfl), ((Reg.kept_but ho 3 (by kernel_rfl)).trans rfl), ((Reg.kept_but ho 4 (by kernel_rfl)).trans rfl), ((Reg.kept_but ho 5 (by kernel_rfl)).trans rfl), ((Reg.kept_but ho 6 (by kernel_rfl)).trans rfl), ((Reg.kept_but ho 7 (by kernel_rfl)).trans rfl), ((Reg.kept_but ho 8 (by kernel_rfl)).trans rfl), ((Reg.kept_but ho 9 (by kernel_rfl)).trans rfl), ((Reg.kept_but ho 10 (by kernel_rfl)).trans rfl), ((Reg.kept_but ho 11 (by kernel_rfl)).trans rfl), ((Reg.kept_but ho 12 (by kernel_rfl)).trans rfl), ((Reg.kept_but ho 13 (by kernel_rfl)).trans rfl), ((Reg.kept_but ho 14 (by kernel_rfl)).trans rfl), ((Reg.kept_but ho 15 (by kernel_rfl)).trans rfl), ((Reg.kept_but ho 16 (by kernel_rfl)).trans rfl), ((Reg.kept_but ho 17 (by kernel_rfl)).trans rfl), ((Reg.kept_but ho 18 (by kernel_rfl)).trans rfl), ((Reg.kept_but ho 19 (by kernel_rfl)).trans rfl), ((Reg.kept_but ho 20 (by kernel_rfl)).trans rfl), ((Reg.kept_but ho 21 (by kernel_rfl)).trans rfl), ((Reg.kept_but ho 22 (by kernel_rfl)).trans rfl), ((Reg.kept_but ho 23 (by kernel_rfl)).trans rfl), ((Reg.kept_but ho 24 (by kernel_rfl)).trans rfl), ((Reg.kept_but ho 25 (by kernel_rfl)).trans rfl), ((Reg.kept_but ho 26 (by kernel_rfl)).trans rfl), ((Reg.kept_but ho 27 (by kernel_rfl)).trans rfl), ((Reg.kept_but ho 28 (by kernel_rfl)).trans rfl), ((Reg.kept_but ho 29 (by kernel_rfl)).trans rfl), ((Reg.kept_but ho 30 (by kernel_rfl)).trans rfl), ((Reg.kept_but ho 31 (by kernel_rfl)).trans rfl), ((Reg.kept_but ho 32 (by kernel_rfl)).trans rfl), ((Reg.kept_but ho 33 (by kernel_rfl)).trans rfl), ((Reg.kept_but ho 34 (by kernel_rfl)).trans rfl), ((Reg.kept_but ho 35 (by kernel_rfl)).trans rfl), ((Reg.kept_but ho 36 (by kernel_rfl)).trans rfl), ((Reg.kept_but ho 37 (by kernel_rfl)).trans rfl), ((Reg.kept_but ho 38 (by kernel_rfl)).trans rfl), ((Reg.kept_but ho 39 (by kernel_rfl)).trans rfl), ((Reg.kept_but ho 40 (by kernel_rfl)).trans rfl), ((Reg.kept_but ho 41 (by kernel_rfl)).trans rfl), ((Reg.kept_but ho 42 (by kernel_rfl)).trans rfl), (by obtain ⟨_, g, hx⟩ := hv 0 _ 43 (by decide) rfl rfl; exact g.trans (congrArg some hx)), (by obtain ⟨_, g, hx⟩ := hv 1 _ 44 (by decide) rfl rfl; exact g.trans (congrArg some hx)), (by obtain ⟨_, g, hx⟩ := hv 2 _ 45 (by decide) rfl rfl; exact g.trans (congrArg some hx)), (by obtain ⟨_, g, hx⟩ := hv 3 _ 46 (by decide) rfl rfl; exact g.trans (congrArg some hx)), (by obtain ⟨_, g, hx⟩ := hv 4 _ 47 (by decide) rfl rfl; exact g.trans (congrArg some hx)), (by obtain ⟨_, g, hx⟩ := hv 5 _ 48 (by decide) rfl rfl; exact g.trans (congrArg some hx)), trivial⟩
          subst hfr
          have hT7 := HT5.out.drew.below hB
          have hM7 : Chg B w wc := HM5.out.drew.trans (Chg.of hB)
          have HT8 : Hid (Tb B n ks (Sl.put (Sl.put en' p none) q (some s)) ((wc.setCell ⟨B, 257 + q * 2, none⟩ (.bool true)).setCell ⟨B, 257 + q * 2 + 1, none⟩ (.int .i64 (s : Int)))) := Lib.hid (hT7.setEn q hq (some s))
          have HM8 := Lib.hid ((hM7.set (257 + q * 2) (.bool true)).set (257 + q * 2 + 1) (.int .i64 (s : Int)))
          have b0 := hT7.taken q hq
          have b1 := hT7.slot q hq
          have f0 := hT7.fro (257 + q * 2) (by omega)
          have f1 := hT7.fro (257 + q * 2 + 1) (by omega)
          refine Reg.store_then (w2 := (wc.setCell ⟨B, 257 + q * 2, none⟩ (.bool true)).setCell ⟨B, 257 + q * 2 + 1, none⟩ (.int .i64 (s : Int))) ?_ rfl ?_
          · clear hT7 hM7 hv ho hB
            go_simp
          clear hT7 hM7 hv ho hB b0 b1 f0 f1
          generalize (wc.setCell ⟨B, 257 + q * 2, none⟩ (.bool true)).setCell ⟨B, 257 + q * 2 + 1, none⟩ (.int .i64 (s : Int)) = W8 at *
          clear e0 e1
          go_wp2_with fail
          refine (HN1.out _).mono ?_
          rintro e w9 ⟨rfl, rfl⟩
          go_wp2
          go_roundg k
          case measure => omega
          case rel => exact ⟨i + 1, _, by rw [HP'.out], by omega, by omega, HC2, HT8, HM8⟩
end Go.Proofs.Ytiiadoeohmcfiaa
