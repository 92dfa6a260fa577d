/- Add. -/
import Derived.Test.YtiiadoeohmcfiaaSlE
import Derived.Test.YtiiadoeohmcfiaaShelf
namespace Go.Proofs.Ytiiadoeohmcfiaa
open Go Go.RowKit

def AddPhi (B s : Nat) (T : ByteArray) : Nat → Value → World → Prop
  | i, v, _ => v = ([.pointer (some ⟨B, 0, none⟩), .int .i64 ((s : Int)), .string T, .string T, .pointer (some ⟨B, 0, none⟩), .pointer (some ⟨B, 1, none⟩), .pointer (some ⟨B, 1 + s, none⟩), undef] : List Value).getD i undef
theorem AddPhi.stays {B s : Nat} {T : ByteArray} : ∀ i v wx wy, AddPhi B s T i v wx → Reg.Old wx wy → AddPhi B s T i v wy := fun _ _ _ _ h _ => h
theorem clone_any (T : ByteArray) (hT : T.size ≤ 4096) (w : World) : Calls Try.prog 27 #[.string T] w fun e w' => e = .returned (.string T) ∧ Below w.heap.size w w' := by
  have hc := Try.stringslite_Clone T
  go_enter Try.func27, Try.ntmps27
  go_wp2_with fail
  refine (hc _ (by omega)).mono ?_
  rintro e w1 ⟨rfl, hB⟩
  go_wp2
  go_ret
  exact ⟨rfl, hB⟩
/-- What Add tells. -/
def addV (x : Nat × Nat × List Key) : Value := .tuple #[.int .i64 (x.1 : Int), .int .i64 (x.2.1 : Int)]
set_option maxRecDepth 100000 in
set_option maxHeartbeats 4000000 in
theorem add_wrong {B : Nat} (k : Key) (hk : k.length ≤ maxLen) (hw : k = [] ∨ 4096 < k.length) (w : World) :
    Calls Try.prog 15 #[.pointer (some ⟨B, 0, none⟩), .string (tx k)] w fun e w' => e = .returned (.tuple #[.int .i64 0, .int .i64 1]) ∧ w = w' := by
  by_cases h0 : k = []
  · subst h0
    have he := txt_empty
    obtain ⟨T, hT⟩ : ∃ T, tx [] = T := ⟨_, rfl⟩
    rw [hT] at he ⊢
    clear hT hk hw
    go_enter Try.func15, Try.ntmps15
    go_wp2
    go_ret2
    exact ⟨rfl, rfl⟩
  · have he := txt_no h0
    have hl : 4096 < k.length := hw.resolve_left h0
    have hz : (tx k).size = k.length := tx_len k
    obtain ⟨T, hT⟩ : ∃ T, tx k = T := ⟨_, rfl⟩
    rw [hT] at he hz ⊢
    have h1 : 4096 < T.size := by omega
    have h2 : T.size ≤ 9223372036854775807 := by unfold maxLen at hk; omega
    clear hT hk hw hz hl h0
    go_enter Try.func15, Try.ntmps15
    go_wp2
    go_ret2
    exact ⟨rfl, rfl⟩
set_option maxRecDepth 100000 in
set_option maxHeartbeats 4000000 in
theorem add_there {B : Nat} {L : List Key} {en : Nat → Option Nat} (k : Key) (hk : k ≠ []) (h4 : k.length ≤ 4096) (hf : (findK L k).isSome = true) (w : World) (h : Tab B L en w) :
    Calls Try.prog 15 #[.pointer (some ⟨B, 0, none⟩), .string (tx k)] w fun e w' => e = .returned (.tuple #[.int .i64 0, .int .i64 6]) ∧ Below w.heap.size w w' := by
  have hx : ∃ q, q < 512 ∧ en q = none := by obtain ⟨q, h1, _, h2⟩ := h.inv.ent.empty 0; exact ⟨q, h1, h2⟩
  obtain ⟨m, has, hS⟩ := Sl.search_ex (ks := keyOf L) k hx (hsh_lt k)
  have hs := search_at (Nat.le_trans h4 (by unfold maxLen; omega)) hx (fun p s hp he => (h.inv.ent.slot p s hp he).1) hS w h.tb
  obtain ⟨h1, h2⟩ := h.find hS
  have he := txt_no hk
  have hz : (tx k).size ≤ 4096 := by rw [tx_len]; exact h4
  rw [hf] at h1
  subst h1
  obtain ⟨p, hpe⟩ : ∃ p, Sl.plc (hsh k) m = p := ⟨_, rfl⟩
  rw [hpe] at hs
  clear hpe hS h2 h hx hk hf h4
  obtain ⟨T, hT⟩ : ∃ T, tx k = T := ⟨_, rfl⟩
  rw [hT] at hs hz he ⊢
  clear hT
  go_enter Try.func15, Try.ntmps15
  go_wp2_with fail
  refine hs.mono ?_
  rintro e w1 ⟨rfl, hB⟩
  go_wp2
  go_ret2
  exact ⟨rfl, hB⟩
set_option maxRecDepth 100000 in
set_option maxHeartbeats 4000000 in
theorem add_full {B : Nat} {L : List Key} {en : Nat → Option Nat} (k : Key) (hk : k ≠ []) (h4 : k.length ≤ 4096) (hf : (findK L k).isSome = false) (hfr : idxL [] L = none) (w : World) (h : Tab B L en w) :
    Calls Try.prog 15 #[.pointer (some ⟨B, 0, none⟩), .string (tx k)] w fun e w' => e = .returned (.tuple #[.int .i64 0, .int .i64 4]) ∧ Below w.heap.size w w' := by
  have hx : ∃ q, q < 512 ∧ en q = none := by obtain ⟨q, h1, _, h2⟩ := h.inv.ent.empty 0; exact ⟨q, h1, h2⟩
  obtain ⟨m, has, hS⟩ := Sl.search_ex (ks := keyOf L) k hx (hsh_lt k)
  have hs := search_at (Nat.le_trans h4 (by unfold maxLen; omega)) hx (fun p s hp he => (h.inv.ent.slot p s hp he).1) hS w h.tb
  obtain ⟨h1, h2⟩ := h.find hS
  have he := txt_no hk
  have hz : (tx k).size ≤ 4096 := by rw [tx_len]; exact h4
  rw [hf] at h1
  subst h1
  have HL := Lib.hid (fun W hW => free_first (B := B) (L := L) (en := en) W hW)
  rw [hfr] at HL
  have HT := Lib.hid h
  obtain ⟨p, hpe⟩ : ∃ p, Sl.plc (hsh k) m = p := ⟨_, rfl⟩
  rw [hpe] at hs
  clear hpe hS h2 h hx hk hf h4 hfr
  obtain ⟨T, hT⟩ : ∃ T, tx k = T := ⟨_, rfl⟩
  rw [hT] at hs hz he ⊢
  clear hT
  go_enter Try.func15, Try.ntmps15
  go_wp2_with fail
  refine hs.mono ?_
  rintro e w1 ⟨rfl, hB⟩
  have HT1 := Lib.hid (HT.out.below hB)
  clear HT hs
  go_wp2_with fail
  refine (HL.out _ HT1.out).mono ?_
  rintro e w2 ⟨rfl, rfl⟩
  rw [show freeV none = .tuple #[.int .i64 0, .bool false] from rfl]
  go_wp2
  go_ret2
  exact ⟨rfl, hB⟩
set_option maxRecDepth 100000 in
set_option maxHeartbeats 4000000 in
theorem add_new {B : Nat} {L : List Key} {en : Nat → Option Nat} (k : Key) (hk : k ≠ []) (h4 : k.length ≤ 4096) (hf : (findK L k).isSome = false) (s : Nat) (hfr : idxL [] L = some s) (w : World) (h : Tab B L en w) :
    Calls Try.prog 15 #[.pointer (some ⟨B, 0, none⟩), .string (tx k)] w fun e w' => e = .returned (.tuple #[.int .i64 (s : Int), .int .i64 0]) ∧ Chg B w w' ∧ ∃ en', Tab B (L.set s k) en' w' := by
  have hx : ∃ q, q < 512 ∧ en q = none := by obtain ⟨q, h1, _, h2⟩ := h.inv.ent.empty 0; exact ⟨q, h1, h2⟩
  obtain ⟨m, has, hS⟩ := Sl.search_ex (ks := keyOf L) k hx (hsh_lt k)
  have hs := search_at (Nat.le_trans h4 (by unfold maxLen; omega)) hx (fun p s hp he => (h.inv.ent.slot p s hp he).1) hS w h.tb
  obtain ⟨h1, h2⟩ := h.find hS
  have he := txt_no hk
  have hz : (tx k).size ≤ 4096 := by rw [tx_len]; exact h4
  rw [hf] at h1
  subst h1
  have HL := Lib.hid (fun W hW => free_first (B := B) (L := L) (en := en) W hW)
  rw [hfr] at HL
  obtain ⟨hsL, hs0, _⟩ := idx_some hfr
  have hs256 : s < 256 := by have := h.room; omega
  have hI := h.inv.add hsh_lt hS hk hs256 hs0
  have hp := Sl.plc_lt (hsh k) m
  obtain ⟨p, hpe⟩ : ∃ p, Sl.plc (hsh k) m = p := ⟨_, rfl⟩
  rw [hpe] at hs hp hI
  have HEND : Hid (∀ W, Tb B L.length (Sl.putK (keyOf L) s k) (Sl.put en p (some s)) W → Tab B (L.set s k) (Sl.put en p (some s)) W) := Lib.hid (fun W h1 => by
    refine ⟨?_, ?_, by rw [List.length_set]; exact h.room, fun t => ?_⟩
    · rw [List.length_set, keyOf_set k hsL]; exact h1
    · rw [keyOf_set k hsL]; exact hI
    · rw [keyOf_set k hsL]
      unfold Sl.putK
      split
      · exact h4
      · exact h.short t)
  have HCL := Lib.hid (fun W => clone_any (tx k) hz W)
  have HT := Lib.hid h
  have HSK : Hid (∀ W, Tb B L.length (keyOf L) en W → Tb B L.length (Sl.putK (keyOf L) s k) en (W.setCell ⟨B, 1 + s, none⟩ (.string (tx k)))) := Lib.hid (fun W hW => hW.setKey s hs256 k)
  clear hpe hS h2 h hx hk hf h4 hfr hI hs0
  obtain ⟨T, hT⟩ : ∃ T, tx k = T := ⟨_, rfl⟩
  rw [hT] at hs hz he HCL HSK ⊢
  clear hT
  go_enter Try.func15, Try.ntmps15
  go_wp2_with fail
  refine hs.mono ?_
  rintro e w1 ⟨rfl, hB⟩
  have HT1 := Lib.hid (HT.out.below hB)
  have HM1 := Lib.hid (Chg.of (B := B) hB)
  clear HT hs hB
  go_wp2_with fail
  refine (HL.out _ HT1.out).mono ?_
  rintro e w2 ⟨rfl, rfl⟩
  rw [show freeV (some s) = .tuple #[.int .i64 (s : Int), .bool true] from rfl]
  clear HL
  go_wp2
  refine Reg.wp_region_last2 (n := 46) 7 (AddPhi B s T) (by kernel_rfl) rfl (by kernel_rfl) (by kernel_rfl) rfl AddPhi.stays ?_ ?_
  · refine ⟨?_, ?_, ?_, ?_, ?_, ?_, ?_, ?_, trivial⟩
    · intro _ cx wc hB hp hs
      have g0 : cx.tmps[0]? = some (.pointer (some ⟨B, 0, none⟩)) := (hs 0 (by kernel_rfl)).trans rfl
      refine Reg.ok_value Reg.Old.refl (v := .pointer (some ⟨B, 0, none⟩)) (Reg.wanted_none rfl) ?_ rfl
      go_simp
    · intro _ cx wc hB hp hs
      have g8 : cx.tmps[8]? = some (.int .i64 ((s : Int))) := (hs 8 (by kernel_rfl)).trans rfl
      refine Reg.ok_value Reg.Old.refl (v := .int .i64 ((s : Int))) (Reg.wanted_none rfl) ?_ rfl
      go_simp
    · intro _ cx wc hB hp hs
      have g1 : cx.tmps[1]? = some (.string T) := (hs 1 (by kernel_rfl)).trans rfl
      refine Reg.ok_value Reg.Old.refl (v := .string T) (Reg.wanted_none rfl) ?_ rfl
      go_simp
    · intro _ cx wc hB hp hs
      have g33 : cx.tmps[33]? = some (.string T) := by obtain ⟨_, g, hv⟩ := Reg.pred hp 2 33 (by kernel_rfl) rfl rfl; exact g.trans (congrArg some hv)
      refine Reg.ok_call (f := 27) (args := #[.string T]) (Reg.wanted_none rfl) (by go_simp) ((HCL.out wc).mono ?_)
      rintro e w' ⟨rfl, hB2⟩
      exact ⟨_, rfl, hB2, rfl⟩
    · intro _ cx wc hB hp hs
      have g31 : cx.tmps[31]? = some (.pointer (some ⟨B, 0, none⟩)) := by obtain ⟨_, g, hv⟩ := Reg.pred hp 0 31 (by kernel_rfl) rfl rfl; exact g.trans (congrArg some hv)
      refine Reg.ok_value Reg.Old.refl (v := .pointer (some ⟨B, 0, none⟩)) (Reg.wanted_none rfl) ?_ rfl
      go_simp
    · intro _ cx wc hB hp hs
      have g35 : cx.tmps[35]? = some (.pointer (some ⟨B, 0, none⟩)) := by obtain ⟨_, g, hv⟩ := Reg.pred hp 4 35 (by kernel_rfl) rfl rfl; exact g.trans (congrArg some hv)
      refine Reg.ok_value Reg.Old.refl (v := .pointer (some ⟨B, 1, none⟩)) (Reg.wanted_none rfl) ?_ rfl
      go_simp
    · intro _ cx wc hB hp hs
      have g36 : cx.tmps[36]? = some (.pointer (some ⟨B, 1, none⟩)) := by obtain ⟨_, g, hv⟩ := Reg.pred hp 5 36 (by kernel_rfl) rfl rfl; exact g.trans (congrArg some hv)
      have g32 : cx.tmps[32]? = some (.int .i64 ((s : Int))) := by obtain ⟨_, g, hv⟩ := Reg.pred hp 1 32 (by kernel_rfl) rfl rfl; exact g.trans (congrArg some hv)
      have i0 : (0 : Int) ≤ (s : Int) := by omega
      have i1 : (s : Int) < 256 := by omega
      refine Reg.ok_value Reg.Old.refl (v := .pointer (some ⟨B, 1 + s, none⟩)) (Reg.wanted_none rfl) ?_ rfl
      go_simp
    · exact fun h => absurd rfl h
  · intro c wc hB hsz hdf hv ho
    have hfr := Reg.frame_eq [_, _, _, _, _, _, _, _, _, _, _, _, _, _, _, _, _, _, _, _, _, _, _, _, _, _, _, _, _, _, _, .pointer (some ⟨B, 0, none⟩), .int .i64 ((s : Int)), .string T, .string T, .pointer (some ⟨B, 0, none⟩), .pointer (some ⟨B, 1, none⟩), .pointer (some ⟨B, 1 + s, none⟩), _, _, _, _, _, _, _, _] (by simpa using hsz) hdf ⟨((Reg.kept_but ho 0 (by kernel_rfl)).trans rfl), ((Reg.kept_but ho 1 (by kernel_rfl)).trans rfl), ((Reg.kept_but ho 2 (by kernel_rfl)).trans rfl), ((Reg.kept_but ho 3 (by kernel_rfl)).trans rfl), ((Reg.kept_but ho 4 (by kernel_rfl)).trans rfl), ((Reg.kept_but ho 5 (by kernel_rfl)).trans rfl), ((Reg.kept_but ho 6 (by kernel_rfl)).trans rfl), ((Reg.kept_but ho 7 (by kernel_rfl)).trans rfl), ((Reg.kept_but ho 8 (by kernel_rfl)).trans rfl), ((Reg.kept_but ho 9 (by kernel_rfl)).trans rfl), ((Reg.kept_but ho 10 (by kernel_rfl)).trans rfl), ((Reg.kept_but ho 11 (by kernel_rfl)).trans rfl), ((Reg.kept_but ho 12 (by kernel_rfl)).trans rfl), ((Reg.kept_but ho 13 (by kernel_rfl)).trans rfl), ((Reg.kept_but ho 14 (by kernel_rfl)).trans rfl), ((Reg.kept_but ho 15 (by kernel_rfl)).trans rfl), ((Reg.kept_but ho 16 (by kernel_rfl)).trans rfl), ((Reg.kept_but ho 17 (by kernel_rfl)).trans rfl), ((Reg.kept_but ho 18 (by kernel_rfl)).trans rfl), ((Reg.kept_but ho 19 (by kernel_rfl)).trans rfl), ((Reg.kept_but ho 20 (by kernel_rfl)).trans rfl), ((Reg.kept_but ho 21 (by kernel_rfl)).trans rfl), ((Reg.kept_but ho 22 (by kernel_rfl)).trans rfl), ((Reg.kept_but ho 23 (by kernel_rfl)).trans rfl), ((Reg.kept_but ho 24 (by kernel_rfl)).trans rfl), ((Reg.kept_but ho 25 (by kernel_rfl)).trans rfl), ((Reg.kept_but ho 26 (by kernel_rfl)).trans rfl), ((Reg.kept_but ho 27 (by kernel_rfl)).trans rfl), ((Reg.kept_but ho 28 (by kernel_rfl)).trans rfl), ((Reg.kept_but ho 29 (by kernel_rfl)).trans rfl), ((Reg.kept_but ho 30 (by kernel_rfl)).trans rfl), (by obtain ⟨_, g, hx⟩ := hv 0 _ 31 (by decide) rfl rfl; exact g.trans (congrArg some hx)), (by obtain ⟨_, g, hx⟩ := hv 1 _ 32 (by decide) rfl rfl; exact g.trans (congrArg some hx)), (by obtain ⟨_, g, hx⟩ := hv 2 _ 33 (by decide) rfl rfl; exact g.trans (congrArg some hx)), (by obtain ⟨_, g, hx⟩ := hv 3 _ 34 (by decide) rfl rfl; exact g.trans (congrArg some hx)), (by obtain ⟨_, g, hx⟩ := hv 4 _ 35 (by decide) rfl rfl; exact g.trans (congrArg some hx)), (by obtain ⟨_, g, hx⟩ := hv 5 _ 36 (by decide) rfl rfl; exact g.trans (congrArg some hx)), (by obtain ⟨_, g, hx⟩ := hv 6 _ 37 (by decide) rfl rfl; exact g.trans (congrArg some hx)), ((Reg.kept_but ho 38 (by kernel_rfl)).trans rfl), ((Reg.kept_but ho 39 (by kernel_rfl)).trans rfl), ((Reg.kept_but ho 40 (by kernel_rfl)).trans rfl), ((Reg.kept_but ho 41 (by kernel_rfl)).trans rfl), ((Reg.kept_but ho 42 (by kernel_rfl)).trans rfl), ((Reg.kept_but ho 43 (by kernel_rfl)).trans rfl), ((Reg.kept_but ho 44 (by kernel_rfl)).trans rfl), ((Reg.kept_but ho 45 (by kernel_rfl)).trans rfl), trivial⟩
    subst hfr
    have hT2 := HT1.out.tb.drew.below hB
    have hM2 : Chg B w wc := HM1.out.drew.trans (Chg.of hB)
    have HT3 := Lib.hid (HSK.out _ hT2)
    have HM3 := Lib.hid (hM2.set (1 + s) (.string T))
    have ck := hT2.key s hs256
    have fk := hT2.fro (1 + s) (by omega)
    refine Reg.store_then (w2 := wc.setCell ⟨B, 1 + s, none⟩ (.string T)) ?_ rfl ?_
    · clear hT2 hM2 hv ho hB
      go_simp
    clear hT2 hM2 hv ho hB ck fk HT1 HM1 HSK
    generalize wc.setCell ⟨B, 1 + s, none⟩ (.string T) = W3 at *
    have f0 := HT3.out.fro (257 + p * 2) (by omega)
    have f1 := HT3.out.fro (257 + p * 2 + 1) (by omega)
    have b0 := HT3.out.taken p hp
    have b1 := HT3.out.slot p hp
    have z3 := HT3.out.lt
    have HT4 : Hid (Tb B L.length (Sl.putK (keyOf L) s k) (Sl.put en p (some s)) ((W3.setCell ⟨B, 257 + p * 2, none⟩ (.bool true)).setCell ⟨B, 257 + p * 2 + 1, none⟩ (.int .i64 (s : Int)))) := Lib.hid (HT3.out.setEn p hp (some s))
    have HM4 := Lib.hid ((HM3.out.set (257 + p * 2) (.bool true)).set (257 + p * 2 + 1) (.int .i64 (s : Int)))
    clear HT3 HM3 HCL
    go_wp2
    go_ret2
    exact ⟨rfl, HM4.out, _, HEND.out _ HT4.out⟩
end Go.Proofs.Ytiiadoeohmcfiaa
