/- Drop. -/
import Derived.Test.YtiiadoeohmcfiaaSlE
namespace Go.Proofs.Ytiiadoeohmcfiaa
open Go Go.RowKit

def DropPhi (B p s : Nat) : Nat → Value → World → Prop
  | i, v, _ => v = ([.pointer (some ⟨B, 0, none⟩), .pointer (some ⟨B, 0, none⟩), .int .i64 ((p : Int)), .pointer (some ⟨B, 0, none⟩), .pointer (some ⟨B, 257, none⟩), .pointer (some ⟨B, 257 + p * 2, none⟩), .pointer (some ⟨B, 257 + p * 2 + 1, none⟩), .int .i64 ((s : Int)), .pointer (some ⟨B, 0, none⟩), .pointer (some ⟨B, 1, none⟩), .pointer (some ⟨B, 1 + s, none⟩), undef] : List Value).getD i undef
theorem DropPhi.stays {B p s : Nat} : ∀ i v wx wy, DropPhi B p s i v wx → Reg.Old wx wy → DropPhi B p s i v wy := fun _ _ _ _ h _ => h
set_option maxRecDepth 100000 in
set_option maxHeartbeats 4000000 in
theorem drop_none {B : Nat} {L : List Key} {en : Nat → Option Nat} (k : Key) (hk : k.length ≤ maxLen) (hf : findK L k = none) (w : World) (h : Tab B L en w) :
    Calls Try.prog 11 #[.pointer (some ⟨B, 0, none⟩), .string (tx k)] w fun e w' => e = .returned (.bool false) ∧ Below w.heap.size w w' := by
  have hx : ∃ q, q < 512 ∧ en q = none := by obtain ⟨q, h1, _, h2⟩ := h.inv.ent.empty 0; exact ⟨q, h1, h2⟩
  obtain ⟨m, has, hS⟩ := Sl.search_ex (ks := keyOf L) k hx (hsh_lt k)
  have hs := search_at hk hx (fun p s hp he => (h.inv.ent.slot p s hp he).1) hS w h.tb
  obtain ⟨h1, h2⟩ := h.find hS
  rw [hf] at h1
  replace h1 : has = false := h1
  subst h1
  obtain ⟨p, hpe⟩ : ∃ p, Sl.plc (hsh k) m = p := ⟨_, rfl⟩
  rw [hpe] at hs
  clear hpe hS h2 h hx hk hf
  obtain ⟨T, hT⟩ : ∃ T, tx k = T := ⟨_, rfl⟩
  rw [hT] at hs ⊢
  clear hT
  go_enter Try.func11, Try.ntmps11
  go_wp2_with fail
  refine hs.mono ?_
  rintro e w1 ⟨rfl, hB⟩
  clear hs
  go_wp2
  go_ret
  exact ⟨rfl, hB⟩
set_option maxRecDepth 100000 in
set_option maxHeartbeats 4000000 in
theorem drop_some {B : Nat} {L : List Key} {en : Nat → Option Nat} (k : Key) (hk : k.length ≤ maxLen) (s : Nat) (hf : findK L k = some s) (w : World) (h : Tab B L en w) :
    Calls Try.prog 11 #[.pointer (some ⟨B, 0, none⟩), .string (tx k)] w fun e w' => e = .returned (.bool true) ∧ Chg B w w' ∧ ∃ en', Tab B (L.set s []) en' w' := by
  have hx : ∃ q, q < 512 ∧ en q = none := by obtain ⟨q, h1, _, h2⟩ := h.inv.ent.empty 0; exact ⟨q, h1, h2⟩
  obtain ⟨m, has, hS⟩ := Sl.search_ex (ks := keyOf L) k hx (hsh_lt k)
  have hs := search_at hk hx (fun p s hp he => (h.inv.ent.slot p s hp he).1) hS w h.tb
  obtain ⟨h1, h2⟩ := h.find hS
  rw [hf] at h1 h2
  replace h1 : has = true := h1
  subst h1
  obtain ⟨_, hsL, _⟩ := findK_some hf
  have hs256 : s < 256 := by have := h.room; omega
  have hpl := Sl.plc_lt (hsh k) m
  obtain ⟨p, hpe⟩ : ∃ p, Sl.plc (hsh k) m = p := ⟨_, rfl⟩
  rw [hpe] at hs h2 hpl
  obtain ⟨mm, _, hC⟩ := h.inv.drop hsh_lt hpl h2
  have hK : ∀ t, (Sl.putK (keyOf L) s [] t).length ≤ 4096 := fun t => by
    unfold Sl.putK
    split
    · exact Nat.zero_le _
    · exact h.short t
  have HCL := Lib.hid (fun W hW => close_any B L.length (Sl.putK (keyOf L) s []) (Sl.put en p none) (fun t _ => Nat.le_trans (hK t) (by unfold maxLen; omega)) p mm hC W hW)
  have HEND : Hid (∀ en' W, Tb B L.length (Sl.putK (keyOf L) s []) en' W → Sl.Inv ([] : Key) hsh (Sl.putK (keyOf L) s []) en' → Tab B (L.set s []) en' W) := Lib.hid (fun en' W h1 h2 => by
    refine ⟨?_, ?_, by rw [List.length_set]; exact h.room, fun t => ?_⟩
    · rw [List.length_set, keyOf_set [] hsL]; exact h1
    · rw [keyOf_set [] hsL]; exact h2
    · rw [keyOf_set [] hsL]; exact hK t)
  have HT := Lib.hid h.tb
  have HE := Lib.hid h2
  clear hpe hS h2 h hx hk hf hC hK
  obtain ⟨T, hT⟩ : ∃ T, tx k = T := ⟨_, rfl⟩
  rw [hT] at hs ⊢
  clear hT
  go_enter Try.func11, Try.ntmps11
  go_wp2_with fail
  refine hs.mono ?_
  rintro e w1 ⟨rfl, hB⟩
  have HT1 := Lib.hid (HT.out.below hB)
  have HM1 := Lib.hid (Chg.of (B := B) hB)
  have c1 : w1.drew.cell? ⟨B, 257 + p * 2 + 1, none⟩ = some (.int .i64 (s : Int)) := by
    have := HT1.out.slot p hpl
    rw [HE.out] at this
    exact this
  have hBL : B < w1.drew.heap.size := HT1.out.lt
  clear hs hB HT
  go_wp2
  refine Reg.wp_region_last2 (n := 35) 11 (DropPhi B p s) (by kernel_rfl) rfl (by kernel_rfl) (by kernel_rfl) rfl DropPhi.stays ?_ ?_
  · refine ⟨?_, ?_, ?_, ?_, ?_, ?_, ?_, ?_, ?_, ?_, ?_, ?_, trivial⟩
    · intro _ cx wc hB hp hs
      have g0 : cx.tmps[0]? = some (.pointer (some ⟨B, 0, none⟩)) := (hs 0 (by kernel_rfl)).trans rfl
      refine Reg.ok_value Reg.Old.refl (v := .pointer (some ⟨B, 0, none⟩)) (Reg.wanted_none rfl) ?_ rfl
      go_simp
    · intro _ cx wc hB hp hs
      have g0 : cx.tmps[0]? = some (.pointer (some ⟨B, 0, none⟩)) := (hs 0 (by kernel_rfl)).trans rfl
      refine Reg.ok_value Reg.Old.refl (v := .pointer (some ⟨B, 0, none⟩)) (Reg.wanted_none rfl) ?_ rfl
      go_simp
    · intro _ cx wc hB hp hs
      have g5 : cx.tmps[5]? = some (.int .i64 ((p : Int))) := (hs 5 (by kernel_rfl)).trans rfl
      refine Reg.ok_value Reg.Old.refl (v := .int .i64 ((p : Int))) (Reg.wanted_none rfl) ?_ rfl
      go_simp
    · intro _ cx wc hB hp hs
      have g16 : cx.tmps[16]? = some (.pointer (some ⟨B, 0, none⟩)) := by obtain ⟨_, g, hv⟩ := Reg.pred hp 1 16 (by kernel_rfl) rfl rfl; exact g.trans (congrArg some hv)
      refine Reg.ok_value Reg.Old.refl (v := .pointer (some ⟨B, 0, none⟩)) (Reg.wanted_none rfl) ?_ rfl
      go_simp
    · intro _ cx wc hB hp hs
      have g18 : cx.tmps[18]? = some (.pointer (some ⟨B, 0, none⟩)) := by obtain ⟨_, g, hv⟩ := Reg.pred hp 3 18 (by kernel_rfl) rfl rfl; exact g.trans (congrArg some hv)
      refine Reg.ok_value Reg.Old.refl (v := .pointer (some ⟨B, 257, none⟩)) (Reg.wanted_none rfl) ?_ rfl
      go_simp
    · intro _ cx wc hB hp hs
      have g19 : cx.tmps[19]? = some (.pointer (some ⟨B, 257, none⟩)) := by obtain ⟨_, g, hv⟩ := Reg.pred hp 4 19 (by kernel_rfl) rfl rfl; exact g.trans (congrArg some hv)
      have g17 : cx.tmps[17]? = some (.int .i64 ((p : Int))) := by obtain ⟨_, g, hv⟩ := Reg.pred hp 2 17 (by kernel_rfl) rfl rfl; exact g.trans (congrArg some hv)
      refine Reg.ok_value Reg.Old.refl (v := .pointer (some ⟨B, 257 + p * 2, none⟩)) (Reg.wanted_none rfl) (exec_entry hpl rfl g19 g17 _) rfl
    · intro _ cx wc hB hp hs
      have g20 : cx.tmps[20]? = some (.pointer (some ⟨B, 257 + p * 2, none⟩)) := by obtain ⟨_, g, hv⟩ := Reg.pred hp 5 20 (by kernel_rfl) rfl rfl; exact g.trans (congrArg some hv)
      refine Reg.ok_value Reg.Old.refl (v := .pointer (some ⟨B, 257 + p * 2 + 1, none⟩)) (Reg.wanted_none rfl) ?_ rfl
      go_simp
    · intro _ cx wc hB hp hs
      have g21 : cx.tmps[21]? = some (.pointer (some ⟨B, 257 + p * 2 + 1, none⟩)) := by obtain ⟨_, g, hv⟩ := Reg.pred hp 6 21 (by kernel_rfl) rfl rfl; exact g.trans (congrArg some hv)
      have k1 : wc.cell? ⟨B, 257 + p * 2 + 1, none⟩ = some (.int .i64 (s : Int)) := (Below.cell (p := ⟨B, 257 + p * 2 + 1, none⟩) hB hBL).trans c1
      refine Reg.ok_value Reg.Old.refl (v := .int .i64 ((s : Int))) (Reg.wanted_none rfl) ?_ rfl
      go_simp
    · intro _ cx wc hB hp hs
      have g15 : cx.tmps[15]? = some (.pointer (some ⟨B, 0, none⟩)) := by obtain ⟨_, g, hv⟩ := Reg.pred hp 0 15 (by kernel_rfl) rfl rfl; exact g.trans (congrArg some hv)
      refine Reg.ok_value Reg.Old.refl (v := .pointer (some ⟨B, 0, none⟩)) (Reg.wanted_none rfl) ?_ rfl
      go_simp
    · intro _ cx wc hB hp hs
      have g23 : cx.tmps[23]? = some (.pointer (some ⟨B, 0, none⟩)) := by obtain ⟨_, g, hv⟩ := Reg.pred hp 8 23 (by kernel_rfl) rfl rfl; exact g.trans (congrArg some hv)
      refine Reg.ok_value Reg.Old.refl (v := .pointer (some ⟨B, 1, none⟩)) (Reg.wanted_none rfl) ?_ rfl
      go_simp
    · intro _ cx wc hB hp hs
      have g24 : cx.tmps[24]? = some (.pointer (some ⟨B, 1, none⟩)) := by obtain ⟨_, g, hv⟩ := Reg.pred hp 9 24 (by kernel_rfl) rfl rfl; exact g.trans (congrArg some hv)
      have g22 : cx.tmps[22]? = some (.int .i64 ((s : Int))) := by obtain ⟨_, g, hv⟩ := Reg.pred hp 7 22 (by kernel_rfl) rfl rfl; exact g.trans (congrArg some hv)
      have i0 : (0 : Int) ≤ (s : Int) := by omega
      have i1 : (s : Int) < 256 := by omega
      refine Reg.ok_value Reg.Old.refl (v := .pointer (some ⟨B, 1 + s, none⟩)) (Reg.wanted_none rfl) ?_ rfl
      go_simp
    · exact fun h => absurd rfl h
  · intro c wc hB hsz hdf hv ho
    have hfr := Reg.frame_eq [_, _, _, _, _, _, _, _, _, _, _, _, _, _, _, .pointer (some ⟨B, 0, none⟩), .pointer (some ⟨B, 0, none⟩), .int .i64 ((p : Int)), .pointer (some ⟨B, 0, none⟩), .pointer (some ⟨B, 257, none⟩), .pointer (some ⟨B, 257 + p * 2, none⟩), .pointer (some ⟨B, 257 + p * 2 + 1, none⟩), .int .i64 ((s : Int)), .pointer (some ⟨B, 0, none⟩), .pointer (some ⟨B, 1, none⟩), .pointer (some ⟨B, 1 + s, none⟩), _, _, _, _, _, _, _, _, _] (by simpa using hsz) hdf ⟨((Reg.kept_but ho 0 (by kernel_rfl)).trans rfl), ((Reg.kept_but ho 1 (by kernel_rfl)).trans rfl), ((Reg.kept_but ho 2 (by kernel_rfl)).trans rfl), ((Reg.kept_but ho 3 (by kernel_rfl)).trans rfl), ((Reg.kept_but ho 4 (by kernel_rfl)).trans rfl), ((Reg.kept_but ho 5 (by kernel_rfl)).trans rfl), ((Reg.kept_but ho 6 (by kernel_rfl)).trans rfl), ((Reg.kept_but ho 7 (by kernel_rfl)).trans rfl), ((Reg.kept_but ho 8 (by kernel_rfl)).trans rfl), ((Reg.kept_but ho 9 (by kernel_rfl)).trans rfl), ((Reg.kept_but ho 10 (by kernel_rfl)).trans rfl), ((Reg.kept_but ho 11 (by kernel_rfl)).trans rfl), ((Reg.kept_but ho 12 (by kernel_rfl)).trans rfl), ((Reg.kept_but ho 13 (by kernel_rfl)).trans rfl), ((Reg.kept_but ho 14 (by kernel_rfl)).trans rfl), (by obtain ⟨_, g, hx⟩ := hv 0 _ 15 (by decide) rfl rfl; exact g.trans (congrArg some hx)), (by obtain ⟨_, g, hx⟩ := hv 1 _ 16 (by decide) rfl rfl; exact g.trans (congrArg some hx)), (by obtain ⟨_, g, hx⟩ := hv 2 _ 17 (by decide) rfl rfl; exact g.trans (congrArg some hx)), (by obtain ⟨_, g, hx⟩ := hv 3 _ 18 (by decide) rfl rfl; exact g.trans (congrArg some hx)), (by obtain ⟨_, g, hx⟩ := hv 4 _ 19 (by decide) rfl rfl; exact g.trans (congrArg some hx)), (by obtain ⟨_, g, hx⟩ := hv 5 _ 20 (by decide) rfl rfl; exact g.trans (congrArg some hx)), (by obtain ⟨_, g, hx⟩ := hv 6 _ 21 (by decide) rfl rfl; exact g.trans (congrArg some hx)), (by obtain ⟨_, g, hx⟩ := hv 7 _ 22 (by decide) rfl rfl; exact g.trans (congrArg some hx)), (by obtain ⟨_, g, hx⟩ := hv 8 _ 23 (by decide) rfl rfl; exact g.trans (congrArg some hx)), (by obtain ⟨_, g, hx⟩ := hv 9 _ 24 (by decide) rfl rfl; exact g.trans (congrArg some hx)), (by obtain ⟨_, g, hx⟩ := hv 10 _ 25 (by decide) rfl rfl; exact g.trans (congrArg some hx)), ((Reg.kept_but ho 26 (by kernel_rfl)).trans rfl), ((Reg.kept_but ho 27 (by kernel_rfl)).trans rfl), ((Reg.kept_but ho 28 (by kernel_rfl)).trans rfl), ((Reg.kept_but ho 29 (by kernel_rfl)).trans rfl), ((Reg.kept_but ho 30 (by kernel_rfl)).trans rfl), ((Reg.kept_but ho 31 (by kernel_rfl)).trans rfl), ((Reg.kept_but ho 32 (by kernel_rfl)).trans rfl), ((Reg.kept_but ho 33 (by kernel_rfl)).trans rfl), ((Reg.kept_but ho 34 (by kernel_rfl)).trans rfl), trivial⟩
    subst hfr
    have hT2 := HT1.out.drew.below hB
    have hM2 : Chg B w wc := HM1.out.drew.trans (Chg.of hB)
    have HT3 := Lib.hid (hT2.setKey s hs256 [])
    have HM3 := Lib.hid (hM2.set (1 + s) (.string (tx [])))
    have ck := hT2.key s hs256
    have fk := hT2.fro (1 + s) (by omega)
    have ht0 : tx [] = ⟨#[]⟩ := rfl
    rw [ht0] at HT3 HM3
    refine Reg.store_then (w2 := wc.setCell ⟨B, 1 + s, none⟩ (.string ⟨#[]⟩)) ?_ rfl ?_
    · clear hT2 hM2 hv ho hB
      go_simp
    clear hT2 hM2 hv ho hB ck fk ht0 c1 hBL HT1 HM1
    generalize wc.setCell ⟨B, 1 + s, none⟩ (.string ⟨#[]⟩) = W3 at *
    have f0 := HT3.out.fro (257 + p * 2) (by omega)
    have f1 := HT3.out.fro (257 + p * 2 + 1) (by omega)
    have b0 := HT3.out.taken p hpl
    have b1 := HT3.out.slot p hpl
    have z3 := HT3.out.lt
    have HT4 : Hid (Tb B L.length (Sl.putK (keyOf L) s []) (Sl.put en p none) ((W3.setCell ⟨B, 257 + p * 2, none⟩ (.bool false)).setCell ⟨B, 257 + p * 2 + 1, none⟩ (.int .i64 0))) := Lib.hid (HT3.out.setEn p hpl none)
    have HM4 := Lib.hid ((HM3.out.set (257 + p * 2) (.bool false)).set (257 + p * 2 + 1) (.int .i64 0))
    clear HT3 HM3
    go_wp2_with fail
    refine (HCL.out _ HT4.out).mono ?_
    rintro e w5 ⟨rfl, en', hT5, hI5, hM5⟩
    have HE5 := Lib.hid (HEND.out en' w5 hT5 hI5)
    have HM5 := Lib.hid (HM4.out.trans hM5)
    clear hT5 hI5 hM5 HM4 HT4 HCL HEND b0 b1 f0 f1
    go_wp2
    go_ret
    exact ⟨rfl, HM5.out, en', HE5.out⟩
end Go.Proofs.Ytiiadoeohmcfiaa
