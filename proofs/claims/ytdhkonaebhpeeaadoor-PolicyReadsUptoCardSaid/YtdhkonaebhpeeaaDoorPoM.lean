/- A policy is read off a text, right or not: walked. -/
import Derived.Test.YtdhkonaebhpeeaaDoorRsK
namespace Go.Proofs.YtdhkonaebhpeeaaDoor.Po
open Go Go.RowKit

/-- What is so behind a policy being read. -/
def RunEnd (S : Nat → Prop) (P : Nat) (n t : List Int) (s : List UInt8) (w : World) (e : Ending) (w' : World) : Prop :=
  match runN n t s with
  | none => e = .returned (.bool false) ∧ Mov (fun j => j = P) w w'
  | some x => e = .returned (.bool true) ∧ Mov (fun j => j = P) w w' ∧ x.1.length = 10 ∧ ∃ v', PolAt P x.1 v' w' ∧ Tr S v' x.2 w'
theorem read_none (S0 : Nat → Prop) (P : Nat) (_hSP : S0 P) (n t : List Int) (v : Value) (w : World) (hn : n.length = 10) (hP : PolAt P n v w) (hT : Tr S0 v t w) :
    Calls Tryd.prog 40 #[.pointer (some ⟨P, 0, none⟩), .string (tx [])] w (RunEnd S0 P n t [] w) := by
  have he : (tx []).toList = [] := txt_empty
  have hB : Below w.heap.size w (w.alloc (.cells #[.bool true] 4)) := (Below.refl _ _).alloc (Nat.le_refl _) _
  have hr := (CellsAt.new #[.bool true] 4 w).cell 0 _ rfl
  have HEND : Hid (RunEnd S0 P n t [] w (.returned (.bool true)) (w.alloc (.cells #[.bool true] 4))) := Lib.hid (by
    unfold RunEnd runN
    rw [if_pos rfl]
    exact ⟨rfl, Mov.ofB hB, hn, v, CellsAt.below hP hB, hT.below hB⟩)
  clear hP hT hB hn
  generalize tx [] = TE at *
  go_enter Tryd.func40, Tryd.ntmps40
  go_wp2
  go_step3
  go_wp2
  refine bodyPost_ret (result_cell rfl rfl (load_bool hr)) rfl ?_
  exact HEND.out
section
attribute [local go_sem] Oper.semAt_some
set_option maxRecDepth 100000 in
set_option maxHeartbeats 16000000 in
theorem read_some (S0 : Nat → Prop) (P : Nat) (hSP : S0 P) (n t : List Int) (v : Value) (s : List UInt8) (hs0 : s ≠ []) (hl : s.length ≤ 1099511627776) (w : World) (hn : n.length = 10) (hP : PolAt P n v w) (hT : Tr S0 v t w) (hSl : ∀ j, S0 j → j < w.heap.size) :
    Calls Tryd.prog 40 #[.pointer (some ⟨P, 0, none⟩), .string (tx s)] w (RunEnd S0 P n t s w) := by
  obtain ⟨N, hN⟩ : ∃ N, w.heap.size = N := ⟨_, rfl⟩
  have hPl : P < N := by rw [← hN]; exact hP.lt
  have HP := Lib.hid hP
  have HT := Lib.hid hT
  have HNL := Lib.hid hn
  have HSP := Lib.hid hSP
  have HSL : Hid (∀ j, S0 j → j < N) := Lib.hid (fun j h => by rw [← hN]; exact hSl j h)
  have hne : (tx s).toList.isEmpty = false := txt_no hs0
  have HS0 := Lib.hid hs0
  have hf := fun W => fields_of P W
  have hsz : (tx s).size ≤ 1099511627776 := by rw [tx_len]; exact hl
  have hlist : (tx s).data.toList = s := list_tx s
  have HLS := Lib.hid hlist
  clear hP hT hn hSP hSl hs0 hlist
  obtain ⟨TS, hTS⟩ : ∃ T, tx s = T := ⟨_, rfl⟩
  rw [hTS] at hne hsz HLS ⊢
  clear hTS
  refine (callsIn_wide (n := 5)).1 ?_
  refine callsIn_of_wp_marks Tryd.func40 rfl trivial ?_ rfl
  simp only [Tryd.ntmps40, List.size_toArray, List.length_cons, List.length_nil, Nat.reduceAdd, Nat.reduceSub, Array.replicate_succ, Array.replicate_zero, List.push_toArray, List.append_toArray, List.nil_append, List.cons_append]
  gi_wp2
  refine wpIn_scope_straight ?_
  gi_wp2
  refine ⟨trivial, (callsIn_wide.2 (hf _)).mono ?_⟩
  rintro e w2 ⟨rfl, hF2, hB2⟩
  have hr0 : Boxed (w.alloc (.cells #[.bool false] 4)) N 4 (.bool false) := by rw [← hN]; exact Boxed.new w 4 (.bool false)
  have hBa : Below N w (w.alloc (.cells #[.bool false] 4)) := (Below.refl N w).alloc (by omega) _
  have hsa : (w.alloc (.cells #[.bool false] 4)).heap.size = N + 1 := by simp [hN]
  rw [hsa] at hF2 hB2 ⊢
  have hr2 : Boxed w2 N 4 (.bool false) := (hB2.block N (by omega)).trans hr0
  have hBw2 : Below N w w2 := hBa.trans (hB2.mono (by omega))
  obtain ⟨Z, hZ⟩ : ∃ Z, w2.heap.size = Z := ⟨_, rfl⟩
  have hZF : N + 1 < Z := by rw [← hZ]; exact hF2.lt
  have HF2 := Lib.hid hF2
  have HR2 := Lib.hid hr2
  have HB2 := Lib.hid hBw2
  clear hr0 hBa hsa hF2 hB2 hr2 hBw2 hf
  gi_wp2
  refine wpIn_label ?_
  gi_wp2
  refine ⟨trivial, (callsIn_wide.2 (seq_ok _ _ _)).mono ?_⟩
  rintro e w' ⟨rfl, rfl⟩
  gi_wp2
  refine range_ret (Z + 4) (by simp; omega) rfl (enters_of Tryd.func64 (by kernel_rfl) rfl) fun fn rec W1 hrec hW1 => ?_
  have hL : Lie (fun j => S0 j ∨ j = N ∨ j = N + 1 ∨ Z ≤ j ∧ j ≤ Z + 5) P N (N + 1) Z w := ⟨hPl, by omega, hZF, hN, .inl HSP.out, .inr (.inl rfl), .inr (.inr (.inl rfl)), fun j h1 h2 => .inr (.inr (.inr ⟨h1, h2⟩))⟩
  have hG : Rd (fun j => S0 j ∨ j = N ∨ j = N + 1 ∨ Z ≤ j ∧ j ≤ Z + 5) P N (N + 1) Z w (rec .ready none) n t (List.range 11) W1 ∧ Cap 32 (Z + 1) TS W1 := by
    have b1 := Boxed.new w2 63 (.slice (some ⟨N + 1, 0, none⟩) 11 11)
    have b3 := Boxed.new (w2.alloc (.cells #[(.slice (some ⟨N + 1, 0, none⟩) 11 11)] 63)) 9 (.string TS)
    have b4 := Boxed.new ((w2.alloc (.cells #[(.slice (some ⟨N + 1, 0, none⟩) 11 11)] 63)).alloc (.cells #[.string TS] 9)) 9 (.string ⟨#[32]⟩)
    have b5 := Boxed.new (((w2.alloc (.cells #[(.slice (some ⟨N + 1, 0, none⟩) 11 11)] 63)).alloc (.cells #[.string TS] 9)).alloc (.cells #[.string ⟨#[32]⟩] 9)) 3 (.int .i64 0)
    have d6 := World.alloc_heap_new ((((w2.alloc (.cells #[(.slice (some ⟨N + 1, 0, none⟩) 11 11)] 63)).alloc (.cells #[.string TS] 9)).alloc (.cells #[.string ⟨#[32]⟩] 9)).alloc (.cells #[.int .i64 0] 3)) (.deferred (some []))
    have d7 := World.alloc_heap_new (((((w2.alloc (.cells #[(.slice (some ⟨N + 1, 0, none⟩) 11 11)] 63)).alloc (.cells #[.string TS] 9)).alloc (.cells #[.string ⟨#[32]⟩] 9)).alloc (.cells #[.int .i64 0] 3)).alloc (.deferred (some []))) (rec .ready none)
    simp only [World.size_alloc, hZ] at b1 b3 b4 b5 d6 d7
    have hBl : Below Z w2 ((((((w2.alloc (.cells #[(.slice (some ⟨N + 1, 0, none⟩) 11 11)] 63)).alloc (.cells #[.string TS] 9)).alloc (.cells #[.string ⟨#[32]⟩] 9)).alloc (.cells #[.int .i64 0] 3)).alloc (.deferred (some []))).alloc (rec .ready none)) := ((((((Below.refl Z w2).alloc (by omega) _).alloc (by simp; omega) _).alloc (by simp; omega) _).alloc (by simp; omega) _).alloc (by simp; omega) _).alloc (by simp; omega) _
    rw [hW1] at hBl
    have hBz : Below w2.heap.size w2 W1 := by rw [hZ]; exact hBl
    have hBw : Below N w W1 := HB2.out.trans (hBl.mono (by omega))
    have hs1 : Z + 6 ≤ W1.heap.size := by rw [← hW1]; simp [hZ]
    have hmv : Mov (fun j => j = P) w W1 := Mov.ofB (hN ▸ hBw)
    refine ⟨⟨(hBl.block N (by omega)).trans HR2.out, ?_, (PartsAt.full HF2.out).below hBz, ⟨v, HP.out.belowAt hBw hPl, (HT.out.weak (fun j h hlt => h.elim id (fun h => by omega))).below (hN ▸ hBw)⟩, hmv, hs1, ?_, ?_, HNL.out⟩, ?_⟩
    · rw [← hW1]
      exact (((((b1.alloc _).alloc _).alloc _).alloc _).alloc _)
    · rw [← hW1]
      exact d7
    · rw [← hW1]
      exact (Below.heap_alloc _ _ _ (by simp; omega)).trans d6
    · rw [← hW1]
      exact ⟨((((b3.alloc _).alloc _).alloc _).alloc _), (((b4.alloc _).alloc _).alloc _), ((b5.alloc _).alloc _)⟩
  have HL := Lib.hid hL
  have HG := Lib.hid hG
  clear hG hL hW1
  refine (split_in 32 3 (Z + 4 + 1) (Z + 1) (fun pre W => ∃ n' t' u, goN n t (List.range 11) pre = some (n', t', u) ∧ (∀ k ∈ u, k < 11) ∧ u.length ≤ 11 ∧ Rd (fun j => S0 j ∨ j = N ∨ j = N + 1 ∨ Z ≤ j ∧ j ≤ Z + 5) P N (N + 1) Z w (rec .ready none) n' t' u W)
    (fun W => goN n t (List.range 11) (cutB 32 s) = none ∧ Boxed W N 4 (.bool false) ∧ Mov (fun j => j = P) w W ∧ Z + 6 ≤ W.heap.size ∧ W.heap[Z + 5]? = some (rec .done (some .ret)) ∧ W.heap[Z + 4]? = some (.deferred (some []))) TS (by omega) ?set ?round W1 ⟨n, t, List.range 11, rfl, fun k hk => List.mem_range.1 hk, by simp, HG.out.1⟩ HG.out.2).mono ?done
  case set => exact fun pre W x ⟨n', t', u, h1, h2, h3, h4⟩ => ⟨n', t', u, h1, h2, h3, h4.set HL.out x⟩
  case done =>
    rintro e W' ⟨hv, ⟨n', t', u, h1, h2, h3, h4⟩ | ⟨h1, h2, h3, h4, h5, h6⟩⟩
    · refine ⟨hv, .inl ⟨h4.loop, ?_⟩⟩
      rw [HLS.out] at h1
      have hWp := h4.put (rec' := rec .exhausted none) HL.out
      change Rd _ P N (N + 1) Z w (rec .exhausted none) n' t' u (W'.putObj (Z + 4 + 1) (rec .exhausted none)) at hWp
      generalize W'.putObj (Z + 4 + 1) (rec .exhausted none) = Wp at *
      have hRN : runN n t s = some (n', t') := by
        unfold runN
        rw [if_neg HS0.out, words_go, h1]
        rfl
      have r4 := hWp.res.cell
      have f4 := hWp.res.frozen
      have d4 : (Wp.setCell ⟨N, 0, none⟩ (.bool true)).heap[Z + 4]? = some (.deferred (some [])) := (Below.heap_setCell _ _ _ _ (show Z + 4 ≠ N by omega)).trans hWp.defs
      have r5 : (Wp.setCell ⟨N, 0, none⟩ (.bool true)).cell? ⟨N, 0, none⟩ = some (.bool true) := World.cell?_setCell_same _ _ _ r4
      have r6 : ((Wp.setCell ⟨N, 0, none⟩ (.bool true)).putObj (Z + 4) (.deferred none)).cell? ⟨N, 0, none⟩ = some (.bool true) := (World.cell?_of_block (World.putObj_heap_other (show N ≠ Z + 4 by omega))).trans r5
      have hM2 : Mov (fun j => j = N ∨ j = Z + 4) Wp ((Wp.setCell ⟨N, 0, none⟩ (.bool true)).putObj (Z + 4) (.deferred none)) := mov_put ((Mov.refl (fun j => j = N ∨ j = Z + 4) Wp).set (.inl rfl) 0 _) (.inr rfl) _
      have HEND : Hid (RunEnd S0 P n t s w (.returned (.bool true)) ((Wp.setCell ⟨N, 0, none⟩ (.bool true)).putObj (Z + 4) (.deferred none))) := Lib.hid (by
        obtain ⟨v', hv', ht'⟩ := hWp.pol
        have hm := hWp.mov
        unfold RunEnd
        rw [hRN]
        refine ⟨rfl, ⟨hM2.os.trans hm.os, hM2.tape.trans hm.tape, hM2.output.trans hm.output, Nat.le_trans hm.size hM2.size, fun j hj hn => (hM2.block j (Nat.lt_of_lt_of_le hj hm.size) (by omega)).trans (hm.block j hj hn)⟩, hWp.len, v', cells_mov hv' hM2 (by omega), (ht'.mov hM2 (fun j h _ => h.elim (fun h => .inr (.inl h)) (fun h => .inr (.inr (.inr (by omega)))))).weak (fun j h _ => .inl h)⟩)
      clear h1 h2 h3 h4 hWp hRN hM2 HG hrec
      gi_wp2
      refine ⟨by simp, .inl ⟨_, _, rfl, run_takeDeferred d4, ?_⟩⟩
      exact ⟨_, result_cell rfl rfl (load_bool r6), HEND.out⟩
    · refine ⟨hv, .inr ⟨h5, ?_⟩⟩
      have k6 : (W'.putObj (Z + 4 + 1) (rec .exhausted (some .ret))).heap[Z + 4]? = some (.deferred (some [])) := (World.putObj_heap_other (by omega)).trans h6
      have kr : Boxed ((W'.putObj (Z + 4 + 1) (rec .exhausted (some .ret))).putObj (Z + 4) (.deferred none)) N 4 (.bool false) := Boxed.other (Boxed.other h2 _ (by omega)) _ (by omega)
      have hE1 : Mov (fun j => j = P) w ((W'.putObj (Z + 4 + 1) (rec .exhausted (some .ret))).putObj (Z + 4) (.deferred none)) :=
        ⟨h3.os, h3.tape, h3.output, by simpa using h3.size, fun j hj hn => (World.putObj_heap_other (by omega)).trans ((World.putObj_heap_other (by omega)).trans (h3.block j hj hn))⟩
      simp only [Exit.inBlock, Exit.then, Exit.noGoto, bodyPostM]
      refine ⟨by simp, .inl ⟨_, _, rfl, run_takeDeferred k6, ?_⟩⟩
      refine ⟨_, result_cell rfl rfl (load_bool kr.cell), ?_⟩
      unfold RunEnd runN
      rw [if_neg HS0.out, words_go, h1]
      exact ⟨rfl, hE1⟩
  case round =>
    intro pre x r rest W hcs hxl hJ hC
    obtain ⟨n', t', u, hgo, hu1, hu2, hG⟩ := hJ
    rw [HLS.out] at hcs
    have hGX := hG.put (rec' := rec .busy none) HL.out
    have hCX := hC.other (rec .busy none) (l := Z + 5) (by omega)
    refine round_ret (a₁ := { tmps := #[.pointer (some ⟨P, 0, none⟩), .string TS, undef, undef, .pointer (some ⟨N, 0, none⟩), .pointer (some ⟨Z, 0, none⟩), .string x, undef, undef, undef, undef, .string TS, .bool false, .pointer (some ⟨P, 0, none⟩), .slice (some ⟨N + 1, 0, none⟩) 11 11, .string TS, .func (.func 64) #[] #[.pointer (some ⟨Z + 1 + 1, 0, none⟩), .pointer (some ⟨Z + 1, 0, none⟩), .pointer (some ⟨Z + 1 + 2, 0, none⟩)], .string x, undef, undef, undef, undef, undef, undef, undef, undef, undef, undef, undef, undef, undef, undef, undef, undef, undef, undef, undef, undef, undef, undef, undef, undef, undef, undef], defers := [] })
      (R := fun W' => (∃ n' t' u, goN n t (List.range 11) (pre ++ [x.data.toList]) = some (n', t', u) ∧ (∀ k ∈ u, k < 11) ∧ u.length ≤ 11 ∧ Rd (fun j => S0 j ∨ j = N ∨ j = N + 1 ∨ Z ≤ j ∧ j ≤ Z + 5) P N (N + 1) Z w (rec .ready none) n' t' u W') ∧ Cap 32 (Z + 1) r W')
      (Rx := fun W => goN n t (List.range 11) (cutB 32 s) = none ∧ Boxed W N 4 (.bool false) ∧ Mov (fun j => j = P) w W ∧ Z + 6 ≤ W.heap.size ∧ W.heap[Z + 5]? = some (rec .done (some .ret)) ∧ W.heap[Z + 4]? = some (.deferred (some []))) hrec hG.loop rfl ?assign ?body
    case assign =>
      clear HG hrec hGX hCX hG hC
      intro K hK
      gi_wp2
      exact hK
    case body =>
      clear HG hrec hG hC
      change Rd _ P N (N + 1) Z w (rec .busy none) n' t' u (W.putObj (Z + 4 + 1) (rec .busy none)) at hGX
      change Cap 32 (Z + 1) r (W.putObj (Z + 4 + 1) (rec .busy none)) at hCX
      generalize W.putObj (Z + 4 + 1) (rec .busy none) = X at *
      have hfin : ∀ xs, findN x.data.toList u = none → xs = cutB 32 s → goN n t (List.range 11) xs = none := fun xs h e => by
        rw [e, hcs, go_app, hgo]
        simp only
        rw [goN_cons, h]
      have HFIN := Lib.hid hfin
      have HGO := Lib.hid hgo
      have HU1 := Lib.hid hu1
      have cz := hGX.unt.cell
      have HGX := Lib.hid hGX
      have HCX := Lib.hid hCX
      obtain ⟨xl, hxe⟩ : ∃ xl, x.data.toList = xl := ⟨_, rfl⟩
      have hxln : xl.length ≤ 1099511627776 := by rw [← hxe, size_list]; omega
      rw [hxe] at HFIN
      have HXE := Lib.hid hxe
      clear hfin hcs hgo hu1 hGX hCX hxl hxe
      gi_wp2
      gi_loopg [20] u.length (fun g s20 wx => ∃ i : Nat, s20 = .int .i64 (i : Int) ∧ g + i = u.length ∧ Hid (∀ j (_ : j < i) (h : j < u.length), hitN xl u[j] = none) ∧ Hid (Rd (fun j => S0 j ∨ j = N ∨ j = N + 1 ∨ Z ≤ j ∧ j ≤ Z + 5) P N (N + 1) Z w (rec .busy none) n' t' u wx) ∧ Hid (Cap 32 (Z + 1) r wx))
      case atStart => exact ⟨0, rfl, rfl, Lib.hid (fun j hj => by omega), HGX, HCX⟩
      case round =>
        clear HGX HCX cz
        obtain ⟨i, rfl, hgi, HH, HR, HC⟩ := hrel
        cases gk with
        | zero =>
          obtain rfl : i = u.length := by omega
          have hno := HFIN.out _ (find_ge fun j hj => HH.out j hj hj) rfl
          have r4 := HR.out.res.cell
          have f4 := HR.out.res.frozen
          have HNO := Lib.hid hno
          have hb : Boxed (wr.setCell ⟨N, 0, none⟩ (.bool false)) N 4 (.bool false) := HR.out.res.set _
          have hl7 : (wr.setCell ⟨N, 0, none⟩ (.bool false)).heap[Z + 4 + 1]? = some (rec .busy none) := (Below.heap_setCell _ _ _ _ (show Z + 4 + 1 ≠ N by omega)).trans HR.out.loop
          have hd6 : (wr.setCell ⟨N, 0, none⟩ (.bool false)).heap[Z + 4]? = some (.deferred (some [])) := (Below.heap_setCell _ _ _ _ (show Z + 4 ≠ N by omega)).trans HR.out.defs
          have hm := HR.out.mov
          have hmv : Mov (fun j => j = P) w (wr.setCell ⟨N, 0, none⟩ (.bool false)) := ⟨hm.os, hm.tape, hm.output, by simpa using hm.size, fun j hj hn => (Below.heap_setCell _ _ _ _ (show j ≠ N by omega)).trans (hm.block j hj hn)⟩
          have hsz2 : Z + 6 ≤ (wr.setCell ⟨N, 0, none⟩ (.bool false)).heap.size := by simpa using HR.out.size
          have HE1 := Lib.hid hb
          have HE2 := Lib.hid hl7
          have HE3 := Lib.hid hd6
          have HE4 := Lib.hid hmv
          have HE5 := Lib.hid hsz2
          clear hb hl7 hd6 hmv hsz2 hm hno HR HC HH HFIN HGO HU1
          gi_wp2
          have := HE5.out
          exact ⟨HE2.out, HNO.out, Boxed.other HE1.out _ (by omega), ⟨HE4.out.os, HE4.out.tape, HE4.out.output, by simpa using HE4.out.size, fun j hj hn => (World.putObj_heap_other (by omega)).trans (HE4.out.block j hj hn)⟩, by simpa using HE5.out, World.putObj_heap_same (by omega), (World.putObj_heap_other (by omega)).trans HE3.out⟩
        | succ g =>
          have hi : i < u.length := by omega
          have hk11 : u[i] < 11 := HU1.out _ (List.getElem_mem hi)
          have hpa := HR.out.parts.parts
          have c0 : wr.cell? ⟨N + 1, i * 6, none⟩ = some (.string (tx (tellN u[i]))) := (hpa.cell i hi 0 (by omega) (x := .string (tx (tellN u[i]))) rfl).1
          have c1 := (hpa.cell i hi 1 (by omega) (x := .int .i64 (loN u[i])) rfl).1
          have c2 := (hpa.cell i hi 2 (by omega) (x := .int .i64 (hiN u[i])) rfl).1
          have c3 := (hpa.cell i hi 3 (by omega) (x := .pointer (cntP P u[i])) rfl).1
          have c4 := (hpa.cell i hi 4 (by omega) (x := .pointer (timP P u[i])) rfl).1
          have c5 := (hpa.cell i hi 5 (by omega) (x := .pointer (tieP P u[i])) rfl).1
          have hFl : N + 1 < wr.heap.size := hpa.lt
          have hfv : fieldV P u[i] = .agg #[.string (tx (tellN u[i])), .int .i64 (loN u[i]), .int .i64 (hiN u[i]), .pointer (cntP P u[i]), .pointer (timP P u[i]), .pointer (tieP P u[i])] := rfl
          have hfind := fun ns h => find_is (w := xl) hi (ns := ns) (fun j hj => HH.out j hj (by omega)) h
          obtain ⟨k, hke⟩ : ∃ k, u[i] = k := ⟨_, rfl⟩
          have hnext : hitN xl k = none → ∀ j (_ : j < i + 1) (h : j < u.length), hitN xl u[j] = none := fun h0 j hj h => by
            by_cases e : j = i
            · subst e; rw [hke]; exact h0
            · exact HH.out j (by omega) h
          rw [hke] at hk11 c0 c1 c2 c3 c4 c5 hfv hfind
          have HNX := Lib.hid hnext
          have HFD := Lib.hid hfind
          have hhit : hitN xl k = match cutP (tellN k) xl with | none => none | some v => readN k v := rfl
          have HHIT := Lib.hid hhit
          have hcall := fun (text : List UInt8) (hl : text.length ≤ 1099511627776) (v : Value) W hP hT hSl => fread_any (fun j => S0 j ∨ j = N ∨ j = N + 1 ∨ Z ≤ j ∧ j ≤ Z + 5) P k HL.out.sP hk11 n' t' v text hl W HR.out.len hP hT hSl
          rw [hfv] at hcall
          have hcp := fun W => cut_prefix x (tx (tellN k)) W
          rw [HXE.out, list_tx] at hcp
          have HCALL := Lib.hid hcall
          have HFV := Lib.hid hfv
          have HK := Lib.hid hk11
          generalize tx (tellN k) = TN at *
          generalize loN k = lo at *
          generalize hiN k = hi' at *
          generalize cntP P k = q1 at *
          generalize timP P k = q2 at *
          generalize tieP P k = q3 at *
          have hBa : Below wr.heap.size wr (wr.alloc (.cells #[.string TN, .int .i64 lo, .int .i64 hi', .pointer q1, .pointer q2, .pointer q3] 70)) := (Below.refl _ _).alloc (Nat.le_refl _) _
          have hRa := HR.out.past HL.out hBa
          have hCa := HC.out.mov (Mov.ofB (S := fun _ => False) hBa) (fun _ _ _ h => h)
          have hcz := HR.out.unt.cell
          have HRA := Lib.hid hRa
          have HCA := Lib.hid hCa
          clear hpa hfind hnext hhit hcall hfv hk11 hRa hCa HR HC HH hBa
          cases hcut : cutP (tellN k) xl with
          | none =>
            rw [hcut] at hcp
            have hno : hitN xl k = none := by rw [HHIT.out, hcut]
            have HH2 := Lib.hid (HNX.out hno)
            clear hno hcut HNX HFD HCALL HHIT
            simp only [Option.isSome_none, Option.getD_none] at hcp
            gi_wp2
            refine ⟨trivial, (CallsIn.inRound _ (callsIn_wide.2 (hcp _))).mono ?_⟩
            rintro e w5 ⟨rfl, rfl⟩
            gi_wp2
            refine ⟨trivial, ?_⟩
            gi_wp2
            gi_roundg g
            case measure => omega
            case rel => exact ⟨i + 1, by go_num, by omega, HH2, HRA, HCA⟩
          | some text =>
            rw [hcut] at hcp
            have htl : text.length ≤ 1099511627776 := by
              have := congrArg List.length (cutP_some hcut)
              rw [List.length_append] at this
              omega
            have hh2 : hitN xl k = readN k text := by rw [HHIT.out, hcut]
            simp only [Option.isSome_some, Option.getD_some] at hcp
            obtain ⟨v4, hv4, ht4⟩ := HRA.out.pol
            have hrd := HCALL.out text htl v4 _ hv4 ht4 (fun j hj => by
              have h1 := HRA.out.size
              rcases hj with hj | hj | hj | hj
              · have := HSL.out j hj; omega
              · omega
              · omega
              · omega)
            unfold ReadEnd at hrd
            clear hcut HCALL HHIT hv4 ht4
            generalize tx text = TT at *
            cases hrn : readN k text with
            | none =>
              rw [hrn] at hrd hh2
              have HH2 := Lib.hid (HNX.out hh2)
              clear HNX HFD hh2 hrn
              gi_wp2
              refine ⟨trivial, (CallsIn.inRound _ (callsIn_wide.2 (hcp _))).mono ?_⟩
              rintro e w5 ⟨rfl, rfl⟩
              gi_wp2
              refine ⟨trivial, (CallsIn.inRound _ (callsIn_wide.2 hrd)).mono ?_⟩
              rintro e w6 ⟨rfl, hB6⟩
              have HR6 := Lib.hid (HRA.out.past HL.out hB6)
              have HC6 := Lib.hid (HCA.out.mov (Mov.ofB (S := fun _ => False) hB6) (fun _ _ _ h => h))
              clear hB6 hrd hcp HRA HCA
              gi_wp2
              gi_roundg g
              case measure => omega
              case rel => exact ⟨i + 1, by go_num, by omega, HH2, HR6, HC6⟩
            | some ns =>
              rw [hrn] at hrd hh2
              have hf := HFD.out ns hh2
              have HF2 := Lib.hid hf
              clear HNX HFD hh2 hrn hf
              gi_wp2
              refine ⟨trivial, (CallsIn.inRound _ (callsIn_wide.2 (hcp _))).mono ?_⟩
              rintro e w5 ⟨rfl, rfl⟩
              gi_wp2
              refine ⟨trivial, (CallsIn.inRound _ (callsIn_wide.2 hrd)).mono ?_⟩
              rintro e w6 ⟨rfl, hM6, v6, hv6, ht6⟩
              have hR6 := HRA.out.read HL.out hM6 hv6 ht6 (by rw [setN_len]; exact HRA.out.len)
              have hC6 := HCA.out.mov hM6 (fun j h1 _ h => by omega)
              have hz6 := hR6.unt.cell
              have hde := delete_any (N + 1) P u i hi hu2 w6 hR6.parts
              have HR6 := Lib.hid hR6
              have HC6 := Lib.hid hC6
              clear hM6 hv6 ht6 hR6 hC6 hrd hcp HRA HCA c0 c1 c2 c3 c4 c5 hcz
              gi_wp2
              refine ⟨trivial, (CallsIn.inRound _ (callsIn_wide.2 hde)).mono ?_⟩
              rintro e w7 ⟨rfl, hA7, hM7⟩
              obtain ⟨hb7, hR7⟩ := HR6.out.drop HL.out hi hA7 hM7
              have hC7 : Cap 32 (Z + 1) r (w7.setCell ⟨Z, 0, none⟩ (.slice (some ⟨N + 1, 0, none⟩) (u.length - 1) 11)) := (HC6.out.mov hM7 (fun j h1 _ h => by omega)).mov (mov_set1 _ Z 0 _) (fun j h1 _ h => by omega)
              have z7 := hb7.cell
              have g7 := hb7.frozen
              have HR7 := Lib.hid hR7
              have HC7 := Lib.hid hC7
              clear hb7 hR7 hC7 hA7 hM7 HR6 HC6 hde hz6
              have hgo2 : goN n t (List.range 11) (pre ++ [x.data.toList]) = some (setN n' k ns, setT t' k ns, u.eraseIdx i) := by
                rw [go_app, HGO.out, HXE.out]
                simp only
                rw [goN_cons, HF2.out]
                rfl
              have HGO2 := Lib.hid hgo2
              have HU2 : Hid (∀ j ∈ u.eraseIdx i, j < 11) := Lib.hid (fun j hj => HU1.out j (List.mem_of_mem_eraseIdx hj))
              have HU3 : Hid ((u.eraseIdx i).length ≤ 11) := Lib.hid (by rw [List.length_eraseIdx_of_lt hi]; omega)
              clear hgo2 HGO HF2 HU1 HFIN
              gi_wp2
              exact ⟨HR7.out.loop, ⟨_, _, _, HGO2.out, HU2.out, HU3.out, HR7.out.put HL.out⟩, HC7.out.other _ (by omega)⟩
end
theorem read_any (S0 : Nat → Prop) (P : Nat) (hSP : S0 P) (n t : List Int) (v : Value) (s : List UInt8) (hl : s.length ≤ 1099511627776) (w : World) (hn : n.length = 10) (hP : PolAt P n v w) (hT : Tr S0 v t w) (hSl : ∀ j, S0 j → j < w.heap.size) :
    Calls Tryd.prog 40 #[.pointer (some ⟨P, 0, none⟩), .string (tx s)] w (RunEnd S0 P n t s w) := by
  by_cases h : s = []
  · subst h
    exact read_none S0 P hSP n t v w hn hP hT
  · exact read_some S0 P hSP n t v s h hl w hn hP hT hSl
end Go.Proofs.YtdhkonaebhpeeaaDoor.Po

