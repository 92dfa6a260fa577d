/- A byte of a text turned into another one. The words of a text but one. -/
import Derived.Test.YtdhkonaebhpeeaaDoorRsG
import Derived.Test.YtdhkonaebhpeeaaDoorReg
import Derived.Lib.ConvBytes
import Derived.Lib.AtoiErrMem
import Derived.Laws.BitsAllLaws
namespace Go.Proofs.YtdhkonaebhpeeaaDoor.Po
open Go Go.RowKit

theorem addr_add (b o i : Nat) : (⟨b, o, none⟩ : Addr).add i = ⟨b, o + i, none⟩ := by unfold Addr.add; split <;> simp_all
def BendPhi (B n cap q : Nat) (p z x y : Int) : Nat → Value → World → Prop
  | i, v, _ => v = ([.slice (some ⟨B, 0, none⟩) n cap, .int .i64 p, .slice (some ⟨B, 0, none⟩) n cap, .int .i64 n, .int .i64 q, .slice (some ⟨B, 0, none⟩) n cap, .int .i64 p, .slice (some ⟨B, 0, none⟩) n cap, .int .i64 n, .int .i64 q, .pointer (some ⟨B, q, none⟩), .int .u8 x, .int .u8 z, .int .u8 y, .pointer (some ⟨B, q, none⟩), undef] : List Value).getD i undef
theorem BendPhi.stays {B n cap q : Nat} {p z x y : Int} : ∀ i v wx wy, BendPhi B n cap q p z x y i v wx → Reg.Old wx wy → BendPhi B n cap q p z x y i v wy := fun _ _ _ _ h _ => h

theorem bytes_at (w : World) (s : ByteArray) : CellsAt w.heap.size (s.data.map fun b => Value.int .u8 b.toNat) (Lib.bytesWorld w 5 s) := by
  have hn := Lib.bytesWorld_at_new w 5 s
  have hl : ∀ i v, (s.data.map fun b => Value.int .u8 (b.toNat : Int))[i]? = some v → i < s.size := fun i v h => by
    have := (Array.getElem?_eq_some_iff.1 h).1
    simpa using this
  refine ⟨by rw [Lib.bytesWorld_size]; omega, fun i v hi => ?_, fun i v hi => ?_⟩
  · rw [Lib.bytesWorld_cell w _ s i (hl i v hi), ← hi]
    have := hl i v hi
    simp [List.getD, this]
  · have := hl i v hi
    simp [World.frozen?, hn, Lib.bytesCells]
    omega
theorem bend_back (s : ByteArray) (i : Nat) (y : Int) (B cap : Nat) (w : World) (y0 : 0 ≤ y) (y1 : y < 256) {n : Nat} (hn : s.size = n) (hC : CellsAt B ((s.data.map fun b => Value.int .u8 b.toNat).setIfInBounds i (.int .u8 y)) w) :
    (convert 62 9 (.slice (some ⟨B, 0, none⟩) n cap)).run Tryd.prog w = .ok (.string (tx (s.data.toList.set i (UInt8.ofNat y.toNat)))) w := by
  have h := run_convert_bytes_back (P := Tryd.prog) w 62 9 5 ⟨B, 0, none⟩ cap (s.data.toList.set i (UInt8.ofNat y.toNat)) Tryd.underlying62 Tryd.underlying5 Tryd.underlying9 (fun j hj => by
    rw [addr_add, Nat.zero_add]
    apply hC.cell
    have hjs : j < s.data.size := by simpa using hj
    have e : ((UInt8.ofNat y.toNat).toNat : Int) = y := by rw [UInt8.toNat_ofNat']; omega
    by_cases hij : i = j
    · subst hij
      rw [Array.getElem?_setIfInBounds_self_of_lt (by simpa using hjs)]
      simp only [List.getElem_set_self, e]
    · rw [Array.getElem?_setIfInBounds_ne hij, List.getElem_set_ne hij]
      rw [Array.getElem?_map, Array.getElem?_eq_getElem hjs]; rfl)
  rw [List.length_set, show s.data.toList.length = n by rw [← hn]; exact (Lib.size_eq s).symm] at h
  exact h

set_option maxRecDepth 100000 in
set_option maxHeartbeats 4000000 in
theorem bend_any (s : ByteArray) (hs : s.size ≤ 9223372036854775807) (p0 z : Int) (hp0 : -9223372036854775808 ≤ p0) (hp1 : p0 ≤ 9223372036854775807) (z0 : 0 ≤ z) (z1 : z < 256) (w : World) :
    Calls Tryd.prog 21 #[.string s, .int .i64 p0, .int .u8 z] w fun e w' => ∃ t : ByteArray, e = .returned (.string t) ∧ t.size = s.size ∧ Below w.heap.size w w' := by
  by_cases h0 : s.size = 0
  · obtain rfl : s = ⟨#[]⟩ := by
      rcases s with ⟨⟨l⟩⟩
      have : l = [] := by simpa [ByteArray.size] using h0
      subst this; rfl
    go_enter Tryd.func21, Tryd.ntmps21
    go_wp2
    go_ret
    exact ⟨_, rfl, rfl, Below.refl _ _⟩
  have hcond : (s.toList == []) = false := by
    have h1 : s.toList ≠ [] := by
      intro h
      have : s.data.toList.length = 0 := by rw [← Lib.toList_data, h]; rfl
      exact h0 (by simpa using this)
    simpa using h1
  have hcv := Lib.run_convert_string_bytes (P := Tryd.prog) w 9 62 5 s (u := .string) Tryd.underlying9 Tryd.underlying62 Tryd.underlying5
  have hC := bytes_at w s
  have hBw : Below w.heap.size w (Lib.bytesWorld w 5 s) := Lib.bytesWorld_below w 5 s
  generalize Lib.bytesWorld w 5 s = W1 at *
  generalize grownCap w s.size 0 5 = cap at *
  have hRw : w.heap.size ≤ w.heap.size := Nat.le_refl _
  generalize hB0 : w.heap.size = B at hcv hC hRw hBw ⊢
  obtain ⟨n, hn⟩ : ∃ n, s.size = n := ⟨_, rfl⟩
  rw [hn] at hcv
  have HN := Lib.hid hn
  have hn0 : ¬ (n : Int) = 0 := by omega
  have hnp : (0 : Int) < (n : Int) := by omega
  by_cases hat : p0 < 0
  · obtain ⟨p, hp⟩ : ∃ p, -(p0 + 1) = p := ⟨_, rfl⟩
    have hpw : IntKind.i64.wrap (-(IntKind.i64.wrap (p0 + 1))) = p := by rw [IntWalk.i64_in (p0 + 1) (by omega)]; exact (IntWalk.i64_in _ (by omega)).trans hp
    have hpp : 0 ≤ p := by omega
    obtain ⟨q, hi⟩ : ∃ q : Nat, Int.tmod p (n : Int) = (q : Int) := ⟨(Int.tmod p n).toNat, by have := Int.tmod_nonneg (n : Int) hpp; omega⟩
    have hi2 : q < s.data.size := by
      have := Int.tmod_lt_of_pos p hnp
      have : s.data.size = s.size := rfl
      omega
    obtain ⟨x, hx⟩ : ∃ x : UInt8, s.data[q] = x := ⟨_, rfl⟩
    have hix : (s.data.map fun b => Value.int .u8 (b.toNat : Int))[q]? = some (.int .u8 (x.toNat : Int)) := by rw [Array.getElem?_map, Array.getElem?_eq_getElem hi2, hx]; rfl
    have hx8 : x.toNat < 256 := x.toNat_lt
    obtain ⟨y, hy⟩ : ∃ y, bits .xor .u8 (x.toNat : Int) z = y := ⟨_, rfl⟩
    have hyb : 0 ≤ y ∧ y < 256 := by
      rw [← hy, u8_xor _ _ (by omega) (by omega) z0 z1]
      have := Nat.xor_lt_two_pow (n := 8) (x := (x.toNat : Int).toNat) (y := z.toNat) (by omega) (by omega)
      omega
    obtain ⟨y0, y1⟩ := hyb
    generalize (x.toNat : Int) = x at *
    have hin : (q : Int) < (n : Int) := by have : s.data.size = s.size := rfl; omega
    have hlt0 := hC.lt
    have hlt : B < W1.drew.heap.size := hlt0
    have hcell : W1.drew.cell? ⟨B, q, none⟩ = some (.int .u8 x) := hC.drew.cell q (.int .u8 x) hix
    go_enter Tryd.func21, Tryd.ntmps21

    go_wp2_with fail
    refine Reg.wp_region_last (n := 35) 15 (BendPhi B n cap q p z x y) (by kernel_rfl) rfl (by kernel_rfl) (by kernel_rfl) rfl BendPhi.stays ?_ ?_
    · refine ⟨?_, ?_, ?_, ?_, ?_, ?_, ?_, ?_, ?_, ?_, ?_, ?_, ?_, ?_, ?_, ?_, trivial⟩
      · intro _ cx wc hB hp hs
        have g7 : cx.tmps[7]? = some (.slice (some ⟨B, 0, none⟩) n cap) := (hs 7 (by kernel_rfl)).trans rfl
        refine Reg.ok_value Reg.Old.refl (v := .slice (some ⟨B, 0, none⟩) n cap) (Reg.wanted_none rfl) ?_ rfl
        go_simp
      · intro _ cx wc hB hp hs
        have g1 : cx.tmps[1]? = some (.int .i64 p) := (hs 1 (by kernel_rfl)).trans rfl
        refine Reg.ok_value Reg.Old.refl (v := .int .i64 p) (Reg.wanted_none rfl) ?_ rfl
        go_simp
      · intro _ cx wc hB hp hs
        have g7 : cx.tmps[7]? = some (.slice (some ⟨B, 0, none⟩) n cap) := (hs 7 (by kernel_rfl)).trans rfl
        refine Reg.ok_value Reg.Old.refl (v := .slice (some ⟨B, 0, none⟩) n cap) (Reg.wanted_none rfl) ?_ rfl
        go_simp
      · intro _ cx wc hB hp hs
        have g20 : cx.tmps[20]? = some (.slice (some ⟨B, 0, none⟩) n cap) := by obtain ⟨_, g, hv⟩ := Reg.pred hp 2 20 (by kernel_rfl) rfl rfl; exact g.trans (congrArg some hv)
        refine Reg.ok_value Reg.Old.refl (v := .int .i64 n) (Reg.wanted_none rfl) ?_ rfl
        go_simp
      · intro _ cx wc hB hp hs
        have g19 : cx.tmps[19]? = some (.int .i64 p) := by obtain ⟨_, g, hv⟩ := Reg.pred hp 1 19 (by kernel_rfl) rfl rfl; exact g.trans (congrArg some hv)
        have g21 : cx.tmps[21]? = some (.int .i64 n) := by obtain ⟨_, g, hv⟩ := Reg.pred hp 3 21 (by kernel_rfl) rfl rfl; exact g.trans (congrArg some hv)
        refine Reg.ok_value Reg.Old.refl (v := .int .i64 q) (Reg.wanted_none rfl) ?_ rfl
        go_simp
        omega
      · intro _ cx wc hB hp hs
        have g7 : cx.tmps[7]? = some (.slice (some ⟨B, 0, none⟩) n cap) := (hs 7 (by kernel_rfl)).trans rfl
        refine Reg.ok_value Reg.Old.refl (v := .slice (some ⟨B, 0, none⟩) n cap) (Reg.wanted_none rfl) ?_ rfl
        go_simp
      · intro _ cx wc hB hp hs
        have g1 : cx.tmps[1]? = some (.int .i64 p) := (hs 1 (by kernel_rfl)).trans rfl
        refine Reg.ok_value Reg.Old.refl (v := .int .i64 p) (Reg.wanted_none rfl) ?_ rfl
        go_simp
      · intro _ cx wc hB hp hs
        have g7 : cx.tmps[7]? = some (.slice (some ⟨B, 0, none⟩) n cap) := (hs 7 (by kernel_rfl)).trans rfl
        refine Reg.ok_value Reg.Old.refl (v := .slice (some ⟨B, 0, none⟩) n cap) (Reg.wanted_none rfl) ?_ rfl
        go_simp
      · intro _ cx wc hB hp hs
        have g25 : cx.tmps[25]? = some (.slice (some ⟨B, 0, none⟩) n cap) := by obtain ⟨_, g, hv⟩ := Reg.pred hp 7 25 (by kernel_rfl) rfl rfl; exact g.trans (congrArg some hv)
        refine Reg.ok_value Reg.Old.refl (v := .int .i64 n) (Reg.wanted_none rfl) ?_ rfl
        go_simp
      · intro _ cx wc hB hp hs
        have g24 : cx.tmps[24]? = some (.int .i64 p) := by obtain ⟨_, g, hv⟩ := Reg.pred hp 6 24 (by kernel_rfl) rfl rfl; exact g.trans (congrArg some hv)
        have g26 : cx.tmps[26]? = some (.int .i64 n) := by obtain ⟨_, g, hv⟩ := Reg.pred hp 8 26 (by kernel_rfl) rfl rfl; exact g.trans (congrArg some hv)
        refine Reg.ok_value Reg.Old.refl (v := .int .i64 q) (Reg.wanted_none rfl) ?_ rfl
        go_simp
        omega
      · intro _ cx wc hB hp hs
        have g23 : cx.tmps[23]? = some (.slice (some ⟨B, 0, none⟩) n cap) := by obtain ⟨_, g, hv⟩ := Reg.pred hp 5 23 (by kernel_rfl) rfl rfl; exact g.trans (congrArg some hv)
        have g27 : cx.tmps[27]? = some (.int .i64 q) := by obtain ⟨_, g, hv⟩ := Reg.pred hp 9 27 (by kernel_rfl) rfl rfl; exact g.trans (congrArg some hv)
        have i0 : (0 : Int) ≤ (q : Int) := by omega
        have i1 : (q : Int) < (n : Int) := by omega
        refine Reg.ok_value Reg.Old.refl (v := .pointer (some ⟨B, q, none⟩)) (Reg.wanted_none rfl) ?_ rfl
        go_simp
      · intro _ cx wc hB hp hs
        have g28 : cx.tmps[28]? = some (.pointer (some ⟨B, q, none⟩)) := by obtain ⟨_, g, hv⟩ := Reg.pred hp 10 28 (by kernel_rfl) rfl rfl; exact g.trans (congrArg some hv)
        have kx : wc.cell? ⟨B, q, none⟩ = some (.int .u8 x) := (Below.cell (p := ⟨B, q, none⟩) hB hlt).trans hcell
        refine Reg.ok_value Reg.Old.refl (v := .int .u8 x) (Reg.wanted_none rfl) ?_ rfl
        go_simp
      · intro _ cx wc hB hp hs
        have g2 : cx.tmps[2]? = some (.int .u8 z) := (hs 2 (by kernel_rfl)).trans rfl
        refine Reg.ok_value Reg.Old.refl (v := .int .u8 z) (Reg.wanted_none rfl) ?_ rfl
        go_simp
      · intro _ cx wc hB hp hs
        have g29 : cx.tmps[29]? = some (.int .u8 x) := by obtain ⟨_, g, hv⟩ := Reg.pred hp 11 29 (by kernel_rfl) rfl rfl; exact g.trans (congrArg some hv)
        have g30 : cx.tmps[30]? = some (.int .u8 z) := by obtain ⟨_, g, hv⟩ := Reg.pred hp 12 30 (by kernel_rfl) rfl rfl; exact g.trans (congrArg some hv)
        refine Reg.ok_value Reg.Old.refl (v := .int .u8 y) (Reg.wanted_none rfl) ?_ rfl
        go_simp
      · intro _ cx wc hB hp hs
        have g18 : cx.tmps[18]? = some (.slice (some ⟨B, 0, none⟩) n cap) := by obtain ⟨_, g, hv⟩ := Reg.pred hp 0 18 (by kernel_rfl) rfl rfl; exact g.trans (congrArg some hv)
        have g22 : cx.tmps[22]? = some (.int .i64 q) := by obtain ⟨_, g, hv⟩ := Reg.pred hp 4 22 (by kernel_rfl) rfl rfl; exact g.trans (congrArg some hv)
        have i0 : (0 : Int) ≤ (q : Int) := by omega
        have i1 : (q : Int) < (n : Int) := by omega
        refine Reg.ok_value Reg.Old.refl (v := .pointer (some ⟨B, q, none⟩)) (Reg.wanted_none rfl) ?_ rfl
        go_simp
      · exact fun h => absurd rfl h
    · intro c wc hB hsz hdf hv ho
      have hfr := Reg.frame_eq [_, _, _, _, _, _, _, _, _, _, _, _, _, _, _, _, _, _, .slice (some ⟨B, 0, none⟩) n cap, .int .i64 p, .slice (some ⟨B, 0, none⟩) n cap, .int .i64 n, .int .i64 q, .slice (some ⟨B, 0, none⟩) n cap, .int .i64 p, .slice (some ⟨B, 0, none⟩) n cap, .int .i64 n, .int .i64 q, .pointer (some ⟨B, q, none⟩), .int .u8 x, .int .u8 z, .int .u8 y, .pointer (some ⟨B, q, none⟩), _, _] (by simpa using hsz) hdf ⟨((Reg.kept_but ho 0 (by kernel_rfl)).trans rfl), ((Reg.kept_but ho 1 (by kernel_rfl)).trans rfl), ((Reg.kept_but ho 2 (by kernel_rfl)).trans rfl), ((Reg.kept_but ho 3 (by kernel_rfl)).trans rfl), ((Reg.kept_but ho 4 (by kernel_rfl)).trans rfl), ((Reg.kept_but ho 5 (by kernel_rfl)).trans rfl), ((Reg.kept_but ho 6 (by kernel_rfl)).trans rfl), ((Reg.kept_but ho 7 (by kernel_rfl)).trans rfl), ((Reg.kept_but ho 8 (by kernel_rfl)).trans rfl), ((Reg.kept_but ho 9 (by kernel_rfl)).trans rfl), ((Reg.kept_but ho 10 (by kernel_rfl)).trans rfl), ((Reg.kept_but ho 11 (by kernel_rfl)).trans rfl), ((Reg.kept_but ho 12 (by kernel_rfl)).trans rfl), ((Reg.kept_but ho 13 (by kernel_rfl)).trans rfl), ((Reg.kept_but ho 14 (by kernel_rfl)).trans rfl), ((Reg.kept_but ho 15 (by kernel_rfl)).trans rfl), ((Reg.kept_but ho 16 (by kernel_rfl)).trans rfl), ((Reg.kept_but ho 17 (by kernel_rfl)).trans rfl), (by obtain ⟨_, g, hx⟩ := hv 0 _ 18 (by decide) rfl rfl; exact g.trans (congrArg some hx)), (by obtain ⟨_, g, hx⟩ := hv 1 _ 19 (by decide) rfl rfl; exact g.trans (congrArg some hx)), (by obtain ⟨_, g, hx⟩ := hv 2 _ 20 (by decide) rfl rfl; exact g.trans (congrArg some hx)), (by obtain ⟨_, g, hx⟩ := hv 3 _ 21 (by decide) rfl rfl; exact g.trans (congrArg some hx)), (by obtain ⟨_, g, hx⟩ := hv 4 _ 22 (by decide) rfl rfl; exact g.trans (congrArg some hx)), (by obtain ⟨_, g, hx⟩ := hv 5 _ 23 (by decide) rfl rfl; exact g.trans (congrArg some hx)), (by obtain ⟨_, g, hx⟩ := hv 6 _ 24 (by decide) rfl rfl; exact g.trans (congrArg some hx)), (by obtain ⟨_, g, hx⟩ := hv 7 _ 25 (by decide) rfl rfl; exact g.trans (congrArg some hx)), (by obtain ⟨_, g, hx⟩ := hv 8 _ 26 (by decide) rfl rfl; exact g.trans (congrArg some hx)), (by obtain ⟨_, g, hx⟩ := hv 9 _ 27 (by decide) rfl rfl; exact g.trans (congrArg some hx)), (by obtain ⟨_, g, hx⟩ := hv 10 _ 28 (by decide) rfl rfl; exact g.trans (congrArg some hx)), (by obtain ⟨_, g, hx⟩ := hv 11 _ 29 (by decide) rfl rfl; exact g.trans (congrArg some hx)), (by obtain ⟨_, g, hx⟩ := hv 12 _ 30 (by decide) rfl rfl; exact g.trans (congrArg some hx)), (by obtain ⟨_, g, hx⟩ := hv 13 _ 31 (by decide) rfl rfl; exact g.trans (congrArg some hx)), (by obtain ⟨_, g, hx⟩ := hv 14 _ 32 (by decide) rfl rfl; exact g.trans (congrArg some hx)), ((Reg.kept_but ho 33 (by kernel_rfl)).trans rfl), ((Reg.kept_but ho 34 (by kernel_rfl)).trans rfl), trivial⟩
      subst hfr
      have hC2 := hC.drew.below hB
      have hBw2 := hBw.drew.trans (Below.mono hB (Nat.le_of_lt hlt))
      have kx := hC2.cell q (.int .u8 x) hix
      have fx := hC2.fro q (.int .u8 x) hix
      have hC3 := hC2.set q (.int .u8 y) (by simpa using hi2)
      have hBw3 : Below B w (wc.setCell ⟨B, q, none⟩ (.int .u8 y)) := hBw2.setCell hRw _
      refine Reg.store_then (w2 := wc.setCell ⟨B, q, none⟩ (.int .u8 y)) ?_ rfl ?_
      · go_simp
      clear kx fx hv ho hB hcell
      generalize wc.setCell ⟨B, q, none⟩ (.int .u8 y) = wd at *
      have hcv := bend_back s q y B cap wd y0 y1 HN.out hC3
      go_wp2
      go_ret
      exact ⟨_, rfl, by rw [tx_len, List.length_set]; first | exact (Lib.size_eq s).symm | exact (Lib.size_eq s).symm.trans HN.out, hBw3⟩

  · have hpp : 0 ≤ p0 := by omega
    obtain ⟨q, hi⟩ : ∃ q : Nat, Int.tmod p0 (n : Int) = (q : Int) := ⟨(Int.tmod p0 n).toNat, by have := Int.tmod_nonneg (n : Int) hpp; omega⟩
    have hi2 : q < s.data.size := by
      have := Int.tmod_lt_of_pos p0 hnp
      have : s.data.size = s.size := rfl
      omega
    obtain ⟨x, hx⟩ : ∃ x : UInt8, s.data[q] = x := ⟨_, rfl⟩
    have hix : (s.data.map fun b => Value.int .u8 (b.toNat : Int))[q]? = some (.int .u8 (x.toNat : Int)) := by rw [Array.getElem?_map, Array.getElem?_eq_getElem hi2, hx]; rfl
    have hx8 : x.toNat < 256 := x.toNat_lt
    obtain ⟨y, hy⟩ : ∃ y, bits .xor .u8 (x.toNat : Int) z = y := ⟨_, rfl⟩
    have hyb : 0 ≤ y ∧ y < 256 := by
      rw [← hy, u8_xor _ _ (by omega) (by omega) z0 z1]
      have := Nat.xor_lt_two_pow (n := 8) (x := (x.toNat : Int).toNat) (y := z.toNat) (by omega) (by omega)
      omega
    obtain ⟨y0, y1⟩ := hyb
    generalize (x.toNat : Int) = x at *
    have hin : (q : Int) < (n : Int) := by have : s.data.size = s.size := rfl; omega
    have hlt0 := hC.lt
    have hlt : B < W1.drew.heap.size := hlt0
    have hcell : W1.drew.cell? ⟨B, q, none⟩ = some (.int .u8 x) := hC.drew.cell q (.int .u8 x) hix
    go_enter Tryd.func21, Tryd.ntmps21

    go_wp2_with fail
    refine Reg.wp_region_last (n := 35) 15 (BendPhi B n cap q p0 z x y) (by kernel_rfl) rfl (by kernel_rfl) (by kernel_rfl) rfl BendPhi.stays ?_ ?_
    · refine ⟨?_, ?_, ?_, ?_, ?_, ?_, ?_, ?_, ?_, ?_, ?_, ?_, ?_, ?_, ?_, ?_, trivial⟩
      · intro _ cx wc hB hp hs
        have g7 : cx.tmps[7]? = some (.slice (some ⟨B, 0, none⟩) n cap) := (hs 7 (by kernel_rfl)).trans rfl
        refine Reg.ok_value Reg.Old.refl (v := .slice (some ⟨B, 0, none⟩) n cap) (Reg.wanted_none rfl) ?_ rfl
        go_simp
      · intro _ cx wc hB hp hs
        have g1 : cx.tmps[1]? = some (.int .i64 p0) := (hs 1 (by kernel_rfl)).trans rfl
        refine Reg.ok_value Reg.Old.refl (v := .int .i64 p0) (Reg.wanted_none rfl) ?_ rfl
        go_simp
      · intro _ cx wc hB hp hs
        have g7 : cx.tmps[7]? = some (.slice (some ⟨B, 0, none⟩) n cap) := (hs 7 (by kernel_rfl)).trans rfl
        refine Reg.ok_value Reg.Old.refl (v := .slice (some ⟨B, 0, none⟩) n cap) (Reg.wanted_none rfl) ?_ rfl
        go_simp
      · intro _ cx wc hB hp hs
        have g20 : cx.tmps[20]? = some (.slice (some ⟨B, 0, none⟩) n cap) := by obtain ⟨_, g, hv⟩ := Reg.pred hp 2 20 (by kernel_rfl) rfl rfl; exact g.trans (congrArg some hv)
        refine Reg.ok_value Reg.Old.refl (v := .int .i64 n) (Reg.wanted_none rfl) ?_ rfl
        go_simp
      · intro _ cx wc hB hp hs
        have g19 : cx.tmps[19]? = some (.int .i64 p0) := by obtain ⟨_, g, hv⟩ := Reg.pred hp 1 19 (by kernel_rfl) rfl rfl; exact g.trans (congrArg some hv)
        have g21 : cx.tmps[21]? = some (.int .i64 n) := by obtain ⟨_, g, hv⟩ := Reg.pred hp 3 21 (by kernel_rfl) rfl rfl; exact g.trans (congrArg some hv)
        refine Reg.ok_value Reg.Old.refl (v := .int .i64 q) (Reg.wanted_none rfl) ?_ rfl
        go_simp
        omega
      · intro _ cx wc hB hp hs
        have g7 : cx.tmps[7]? = some (.slice (some ⟨B, 0, none⟩) n cap) := (hs 7 (by kernel_rfl)).trans rfl
        refine Reg.ok_value Reg.Old.refl (v := .slice (some ⟨B, 0, none⟩) n cap) (Reg.wanted_none rfl) ?_ rfl
        go_simp
      · intro _ cx wc hB hp hs
        have g1 : cx.tmps[1]? = some (.int .i64 p0) := (hs 1 (by kernel_rfl)).trans rfl
        refine Reg.ok_value Reg.Old.refl (v := .int .i64 p0) (Reg.wanted_none rfl) ?_ rfl
        go_simp
      · intro _ cx wc hB hp hs
        have g7 : cx.tmps[7]? = some (.slice (some ⟨B, 0, none⟩) n cap) := (hs 7 (by kernel_rfl)).trans rfl
        refine Reg.ok_value Reg.Old.refl (v := .slice (some ⟨B, 0, none⟩) n cap) (Reg.wanted_none rfl) ?_ rfl
        go_simp
      · intro _ cx wc hB hp hs
        have g25 : cx.tmps[25]? = some (.slice (some ⟨B, 0, none⟩) n cap) := by obtain ⟨_, g, hv⟩ := Reg.pred hp 7 25 (by kernel_rfl) rfl rfl; exact g.trans (congrArg some hv)
        refine Reg.ok_value Reg.Old.refl (v := .int .i64 n) (Reg.wanted_none rfl) ?_ rfl
        go_simp
      · intro _ cx wc hB hp hs
        have g24 : cx.tmps[24]? = some (.int .i64 p0) := by obtain ⟨_, g, hv⟩ := Reg.pred hp 6 24 (by kernel_rfl) rfl rfl; exact g.trans (congrArg some hv)
        have g26 : cx.tmps[26]? = some (.int .i64 n) := by obtain ⟨_, g, hv⟩ := Reg.pred hp 8 26 (by kernel_rfl) rfl rfl; exact g.trans (congrArg some hv)
        refine Reg.ok_value Reg.Old.refl (v := .int .i64 q) (Reg.wanted_none rfl) ?_ rfl
        go_simp
        omega
      · intro _ cx wc hB hp hs
        have g23 : cx.tmps[23]? = some (.slice (some ⟨B, 0, none⟩) n cap) := by obtain ⟨_, g, hv⟩ := Reg.pred hp 5 23 (by kernel_rfl) rfl rfl; exact g.trans (congrArg some hv)
        have g27 : cx.tmps[27]? = some (.int .i64 q) := by obtain ⟨_, g, hv⟩ := Reg.pred hp 9 27 (by kernel_rfl) rfl rfl; exact g.trans (congrArg some hv)
        have i0 : (0 : Int) ≤ (q : Int) := by omega
        have i1 : (q : Int) < (n : Int) := by omega
        refine Reg.ok_value Reg.Old.refl (v := .pointer (some ⟨B, q, none⟩)) (Reg.wanted_none rfl) ?_ rfl
        go_simp
      · intro _ cx wc hB hp hs
        have g28 : cx.tmps[28]? = some (.pointer (some ⟨B, q, none⟩)) := by obtain ⟨_, g, hv⟩ := Reg.pred hp 10 28 (by kernel_rfl) rfl rfl; exact g.trans (congrArg some hv)
        have kx : wc.cell? ⟨B, q, none⟩ = some (.int .u8 x) := (Below.cell (p := ⟨B, q, none⟩) hB hlt).trans hcell
        refine Reg.ok_value Reg.Old.refl (v := .int .u8 x) (Reg.wanted_none rfl) ?_ rfl
        go_simp
      · intro _ cx wc hB hp hs
        have g2 : cx.tmps[2]? = some (.int .u8 z) := (hs 2 (by kernel_rfl)).trans rfl
        refine Reg.ok_value Reg.Old.refl (v := .int .u8 z) (Reg.wanted_none rfl) ?_ rfl
        go_simp
      · intro _ cx wc hB hp hs
        have g29 : cx.tmps[29]? = some (.int .u8 x) := by obtain ⟨_, g, hv⟩ := Reg.pred hp 11 29 (by kernel_rfl) rfl rfl; exact g.trans (congrArg some hv)
        have g30 : cx.tmps[30]? = some (.int .u8 z) := by obtain ⟨_, g, hv⟩ := Reg.pred hp 12 30 (by kernel_rfl) rfl rfl; exact g.trans (congrArg some hv)
        refine Reg.ok_value Reg.Old.refl (v := .int .u8 y) (Reg.wanted_none rfl) ?_ rfl
        go_simp
      · intro _ cx wc hB hp hs
        have g18 : cx.tmps[18]? = some (.slice (some ⟨B, 0, none⟩) n cap) := by obtain ⟨_, g, hv⟩ := Reg.pred hp 0 18 (by kernel_rfl) rfl rfl; exact g.trans (congrArg some hv)
        have g22 : cx.tmps[22]? = some (.int .i64 q) := by obtain ⟨_, g, hv⟩ := Reg.pred hp 4 22 (by kernel_rfl) rfl rfl; exact g.trans (congrArg some hv)
        have i0 : (0 : Int) ≤ (q : Int) := by omega
        have i1 : (q : Int) < (n : Int) := by omega
        refine Reg.ok_value Reg.Old.refl (v := .pointer (some ⟨B, q, none⟩)) (Reg.wanted_none rfl) ?_ rfl
        go_simp
      · exact fun h => absurd rfl h
    · intro c wc hB hsz hdf hv ho
      have hfr := Reg.frame_eq [_, _, _, _, _, _, _, _, _, _, _, _, _, _, _, _, _, _, .slice (some ⟨B, 0, none⟩) n cap, .int .i64 p0, .slice (some ⟨B, 0, none⟩) n cap, .int .i64 n, .int .i64 q, .slice (some ⟨B, 0, none⟩) n cap, .int .i64 p0, .slice (some ⟨B, 0, none⟩) n cap, .int .i64 n, .int .i64 q, .pointer (some ⟨B, q, none⟩), .int .u8 x, .int .u8 z, .int .u8 y, .pointer (some ⟨B, q, none⟩), _, _] (by simpa using hsz) hdf ⟨((Reg.kept_but ho 0 (by kernel_rfl)).trans rfl), ((Reg.kept_but ho 1 (by kernel_rfl)).trans rfl), ((Reg.kept_but ho 2 (by kernel_rfl)).trans rfl), ((Reg.kept_but ho 3 (by kernel_rfl)).trans rfl), ((Reg.kept_but ho 4 (by kernel_rfl)).trans rfl), ((Reg.kept_but ho 5 (by kernel_rfl)).trans rfl), ((Reg.kept_but ho 6 (by kernel_rfl)).trans rfl), ((Reg.kept_but ho 7 (by kernel_rfl)).trans rfl), ((Reg.kept_but ho 8 (by kernel_rfl)).trans rfl), ((Reg.kept_but ho 9 (by kernel_rfl)).trans rfl), ((Reg.kept_but ho 10 (by kernel_rfl)).trans rfl), ((Reg.kept_but ho 11 (by kernel_rfl)).trans rfl), ((Reg.kept_but ho 12 (by kernel_rfl)).trans rfl), ((Reg.kept_but ho 13 (by kernel_rfl)).trans rfl), ((Reg.kept_but ho 14 (by kernel_rfl)).trans rfl), ((Reg.kept_but ho 15 (by kernel_rfl)).trans rfl), ((Reg.kept_but ho 16 (by kernel_rfl)).trans rfl), ((Reg.kept_but ho 17 (by kernel_rfl)).trans rfl), (by obtain ⟨_, g, hx⟩ := hv 0 _ 18 (by decide) rfl rfl; exact g.trans (congrArg some hx)), (by obtain ⟨_, g, hx⟩ := hv 1 _ 19 (by decide) rfl rfl; exact g.trans (congrArg some hx)), (by obtain ⟨_, g, hx⟩ := hv 2 _ 20 (by decide) rfl rfl; exact g.trans (congrArg some hx)), (by obtain ⟨_, g, hx⟩ := hv 3 _ 21 (by decide) rfl rfl; exact g.trans (congrArg some hx)), (by obtain ⟨_, g, hx⟩ := hv 4 _ 22 (by decide) rfl rfl; exact g.trans (congrArg some hx)), (by obtain ⟨_, g, hx⟩ := hv 5 _ 23 (by decide) rfl rfl; exact g.trans (congrArg some hx)), (by obtain ⟨_, g, hx⟩ := hv 6 _ 24 (by decide) rfl rfl; exact g.trans (congrArg some hx)), (by obtain ⟨_, g, hx⟩ := hv 7 _ 25 (by decide) rfl rfl; exact g.trans (congrArg some hx)), (by obtain ⟨_, g, hx⟩ := hv 8 _ 26 (by decide) rfl rfl; exact g.trans (congrArg some hx)), (by obtain ⟨_, g, hx⟩ := hv 9 _ 27 (by decide) rfl rfl; exact g.trans (congrArg some hx)), (by obtain ⟨_, g, hx⟩ := hv 10 _ 28 (by decide) rfl rfl; exact g.trans (congrArg some hx)), (by obtain ⟨_, g, hx⟩ := hv 11 _ 29 (by decide) rfl rfl; exact g.trans (congrArg some hx)), (by obtain ⟨_, g, hx⟩ := hv 12 _ 30 (by decide) rfl rfl; exact g.trans (congrArg some hx)), (by obtain ⟨_, g, hx⟩ := hv 13 _ 31 (by decide) rfl rfl; exact g.trans (congrArg some hx)), (by obtain ⟨_, g, hx⟩ := hv 14 _ 32 (by decide) rfl rfl; exact g.trans (congrArg some hx)), ((Reg.kept_but ho 33 (by kernel_rfl)).trans rfl), ((Reg.kept_but ho 34 (by kernel_rfl)).trans rfl), trivial⟩
      subst hfr
      have hC2 := hC.drew.below hB
      have hBw2 := hBw.drew.trans (Below.mono hB (Nat.le_of_lt hlt))
      have kx := hC2.cell q (.int .u8 x) hix
      have fx := hC2.fro q (.int .u8 x) hix
      have hC3 := hC2.set q (.int .u8 y) (by simpa using hi2)
      have hBw3 : Below B w (wc.setCell ⟨B, q, none⟩ (.int .u8 y)) := hBw2.setCell hRw _
      refine Reg.store_then (w2 := wc.setCell ⟨B, q, none⟩ (.int .u8 y)) ?_ rfl ?_
      · go_simp
      clear kx fx hv ho hB hcell
      generalize wc.setCell ⟨B, q, none⟩ (.int .u8 y) = wd at *
      have hcv := bend_back s q y B cap wd y0 y1 HN.out hC3
      go_wp2
      go_ret
      exact ⟨_, rfl, by rw [tx_len, List.length_set]; first | exact (Lib.size_eq s).symm | exact (Lib.size_eq s).symm.trans HN.out, hBw3⟩

end Go.Proofs.YtdhkonaebhpeeaaDoor.Po

namespace Go.Proofs.YtdhkonaebhpeeaaDoor.Po
open Go Go.RowKit

set_option maxRecDepth 100000 in
set_option maxHeartbeats 4000000 in
theorem words_any (S : ByteArray) (hS : S.size ≤ 1099511627776) (p0 : Int) (hp0 : -9223372036854775808 ≤ p0) (hp1 : p0 ≤ 9223372036854775807) (w : World) :
    Calls Tryd.prog 22 #[.string S, .int .i64 p0] w fun e w' => ∃ t : ByteArray, e = .returned (.string t) ∧ t.size ≤ S.size + 1 ∧ w' = w := by
  go_enter Tryd.func22, Tryd.ntmps22
  go_wp2
  generalize wrap64 ((IntKind.u64.wrap p0).tmod 11) = K at *
  go_loopg [6, 7, 8, 9] (S.size + 1) (fun g s6 s7 s8 s9 wx => ∃ (n i f : Nat) (l : List UInt8), s6 = .string (tx l) ∧ s7 = .int .i64 (n : Int) ∧ s8 = .int .i64 (f : Int) ∧ s9 = .int .i64 (i : Int) ∧ g + i = S.size + 1 ∧ f ≤ i ∧ n ≤ i ∧ l.length ≤ f ∧ wx = w)
  case atStart => exact ⟨0, 0, 0, [], rfl, rfl, rfl, rfl, by omega, by omega, by omega, by simp, rfl⟩
  case round =>
    obtain ⟨n, i, f, l, rfl, rfl, rfl, rfl, hgi, hfi, hni, hO, rfl⟩ := hrel
    cases gk with
    | zero =>
      have hgt : ¬ (i : Int) ≤ (S.size : Int) := by omega
      go_wp2
      go_ret
      exact ⟨_, rfl, by rw [tx_len]; omega, rfl⟩
    | succ g =>
      have hii : (i : Int) ≤ (S.size : Int) := by omega
      have hff : (f : Int) ≤ (i : Int) := by omega
      have htl := tx_len l
      have hEs : (S.extract f i).size = i - f := by rw [ByteArray.size_extract]; omega
      have Z1 : (9223372036854775807 < (tx l).size + 1) = False := eq_false (by omega)
      have Z2 : (9223372036854775807 < (tx l).size + 1 + (i - f)) = False := eq_false (by omega)
      have Z3 : (9223372036854775807 < (tx l).size + (i - f)) = False := eq_false (by omega)
      clear htl
      by_cases hend : i = S.size
      · subst hend
        by_cases hnK : (n : Int) = K
        · subst hnK
          clear hEs Z1 Z2 Z3
          go_wp2
          go_roundg g
          case measure => omega
          case rel => exact ⟨n + 1, S.size + 1, S.size + 1, l, rfl, by go_num, by go_num, by go_num, by omega, by omega, by omega, by omega, rfl⟩
        · cases l with
          | nil =>
            have e0 : tx [] = (⟨#[]⟩ : ByteArray) := rfl
            rw [e0] at *
            go_wp2
            go_roundg g
            case measure => omega
            case rel => exact ⟨n + 1, S.size + 1, S.size + 1, _, by rw [tx_list], by go_num, by go_num, by go_num, by omega, by omega, by omega, by rw [size_list, ByteArray.size_append, hEs]; show 0 + _ ≤ _; omega, rfl⟩
          | cons a r =>
            have hne := txt_ne (l := a :: r) (by simp)
            have hne2 := txt_no (l := a :: r) (by simp)
            obtain ⟨TX, hTX⟩ : ∃ T, tx (a :: r) = T := ⟨_, rfl⟩
            have hTl : TX.size = (a :: r).length := by rw [← hTX, tx_len]
            have HTL := Lib.hid hTl
            rw [hTX] at hne hne2 Z1 Z2 Z3 ⊢
            clear hTX hTl
            go_wp2
            go_roundg g
            case measure => omega
            case rel => exact ⟨n + 1, S.size + 1, S.size + 1, _, by rw [tx_list], by go_num, by go_num, by go_num, by omega, by omega, by omega, by rw [size_list, ByteArray.size_append, ByteArray.size_append, HTL.out, hEs]; show _ + 1 + _ ≤ _; omega, rfl⟩
      · have hendi : ¬ (i : Int) = (S.size : Int) := by omega
        have hb1 : ((i : Int) == (S.size : Int)) = false := by simpa using hendi
        have hlt : i < S.size := by omega
        have hlti : (i : Int) < (S.size : Int) := by omega
        obtain ⟨c, hc⟩ : ∃ c, (S[i]).toNat = c := ⟨_, rfl⟩
        by_cases hsp : c = 32
        · subst hsp
          by_cases hnK : (n : Int) = K
          · subst hnK
            clear hEs Z1 Z2 Z3
            go_wp2
            go_roundg g
            case measure => omega
            case rel => exact ⟨n + 1, i + 1, i + 1, l, rfl, by go_num, by go_num, by go_num, by omega, by omega, by omega, by omega, rfl⟩
          · cases l with
            | nil =>
              have e0 : tx [] = (⟨#[]⟩ : ByteArray) := rfl
              rw [e0] at *
              go_wp2
              go_roundg g
              case measure => omega
              case rel => exact ⟨n + 1, i + 1, i + 1, _, by rw [tx_list], by go_num, by go_num, by go_num, by omega, by omega, by omega, by rw [size_list, ByteArray.size_append, hEs]; show 0 + _ ≤ _; omega, rfl⟩
            | cons a r =>
              have hne := txt_ne (l := a :: r) (by simp)
              have hne2 := txt_no (l := a :: r) (by simp)
              obtain ⟨TX, hTX⟩ : ∃ T, tx (a :: r) = T := ⟨_, rfl⟩
              have hTl : TX.size = (a :: r).length := by rw [← hTX, tx_len]
              have HTL := Lib.hid hTl
              rw [hTX] at hne hne2 Z1 Z2 Z3 ⊢
              clear hTX hTl
              go_wp2
              go_roundg g
              case measure => omega
              case rel => exact ⟨n + 1, i + 1, i + 1, _, by rw [tx_list], by go_num, by go_num, by go_num, by omega, by omega, by omega, by rw [size_list, ByteArray.size_append, ByteArray.size_append, HTL.out, hEs]; show _ + 1 + _ ≤ _; omega, rfl⟩
        · have hspi : ¬ (c : Int) = 32 := by omega
          have hb2 : ((c : Int) == 32) = false := by simpa using hspi
          clear hEs Z1 Z2 Z3
          go_wp2
          go_roundg g
          case measure => omega
          case rel => exact ⟨n, i + 1, f, l, rfl, rfl, rfl, by go_num, by omega, by omega, by omega, by omega, rfl⟩
end Go.Proofs.YtdhkonaebhpeeaaDoor.Po

