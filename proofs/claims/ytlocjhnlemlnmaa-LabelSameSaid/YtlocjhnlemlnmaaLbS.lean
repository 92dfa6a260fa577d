/- Labels sorted. -/
import Derived.Test.YtlocjhnlemlnmaaLbC
import Derived.WalkMore
namespace Go.Proofs.Ytlocjhnlemlnmaa.Lx
open Go Go.RowKit
attribute [local go_sem] Oper.semAt_some

/-- What is told of labels sorted. -/
def SortEnd (w : World) : Option (List LabB) → Ending → World → Prop
  | none, e, w' => e = .returned (.tuple #[.slice none 0 0, .int .i64 11]) ∧ Below w.heap.size w w'
  | some s, e, w' => ∃ v, e = .returned (.tuple #[v, .int .i64 0]) ∧ OwnL w.heap.size v s w' ∧ Below w.heap.size w w'
theorem boxed_mov {S : Nat → Prop} {W W' : World} {B : Nat} {t : TypeId} {v : Value} (h : Boxed W B t v) (hM : Mov S W W') (hn : ¬ S B) : Boxed W' B t v := (hM.block B h.lt hn).trans h
theorem mov_more {S T : Nat → Prop} {a b : World} (h : Mov S a b) (hST : ∀ k, S k → T k) : Mov T a b := ⟨h.os, h.tape, h.output, h.size, fun k hk hn => h.block k hk (fun hs => hn (hST k hs))⟩
theorem boxed_below {W W' : World} {B g : Nat} {t : TypeId} {v : Value} (h : Boxed W B t v) (hB : Below g W W') (hg : W.heap.size = g) : Boxed W' B t v := (hB.block B (by have := h.lt; omega)).trans h
theorem Boxed.other' {W : World} {B : Nat} {t : TypeId} {v : Value} (h : Boxed W B t v) {l : Nat} (o : Obj) (hl : B ≠ l) : Boxed (W.putObj l o) B t v := (World.putObj_heap_other hl).trans h
theorem OwnL.put {B l : Nat} {v : Value} {ls : List LabB} {W : World} {o : Obj} (h : OwnL B v ls W) (o' : Obj) (hl : W.heap[l]? = some o) (ho : ∀ cur fr, o ≠ .cells cur 47 fr) : OwnL B v ls (W.putObj l o') :=
  h.mov (S := fun k => k = l) ⟨rfl, rfl, rfl, by simp, fun k _ hk => World.putObj_heap_other hk⟩ fun g hg hk => by
    subst hk
    rcases h.2 with ⟨rfl, _⟩ | ⟨g', cap, cur, rfl, _, hc, _⟩
    · cases hg
    · cases hg
      rw [hl] at hc
      exact ho _ _ (Option.some.inj hc)
theorem OwnL.notBox {B X : Nat} {v u : Value} {ls : List LabB} {W : World} {t : TypeId} (h : OwnL B v ls W) (hb : Boxed W X t u) (ht : t ≠ 47) : v.ownBlock ≠ some X := fun e => Boxed.not_row hb ht h e.symm

/-- Between two passes: what is sorted in runs; B the boxes of what is sorted and of the error. -/
structure SortS (N b : Nat) (ls S : List LabB) (run b6 : Nat) (v : Value) (rs : List Nat) (w W : World) : Prop where
  below : Below N w W
  own : OwnL N v S W
  box4 : Boxed W b 23 v
  box5 : Boxed W (b + 1) 28 (.int .i64 0)
  box6 : Boxed W b6 3 (.int .i64 (run : Int))
  hb : N ≤ b ∧ b + 1 < b6
  perm : S.Perm ls
  runs : RunsK run S
  r1 : 1 ≤ run
  once : rs.Nodup
  marks : ∀ r ∈ rs, b6 ≠ r ∧ b + 1 < r ∧ W.heap[r]? = some (.deferred (some []))
def Pass (g b7 l n d : Nat) (N : Nat) (S : List LabB) (rec : Obj) (W0 : World) (o : Nat) (W : World) : Prop :=
  Mov (fun k => k = g ∨ k = b7 ∨ k = l) W0 W ∧ W.heap[l]? = some rec ∧ (∃ j, o = j * d) ∧ ∃ M, M.Perm (S.take o) ∧ RunsK d M ∧ Boxed W b7 23 (roomy g M.length n) ∧ OwnL N (roomy g M.length n) M W
def Left (g b7 l b : Nat) (ls : List LabB) (rec : Obj) (W0 W : World) : Prop :=
  Mov (fun k => k = g ∨ k = b7 ∨ k = l ∨ k = b ∨ k = b + 1) W0 W ∧ W.heap[l]? = some rec ∧ ¬ OnceK ls ∧ Boxed W b 23 (.slice none 0 0) ∧ Boxed W (b + 1) 28 (.int .i64 11)
def SrtPsi (g cap N o : Nat) (M : List LabB) (R : Option (List LabB)) (X : World) (ls : Array Bool) (w : World) : Prop :=
  (ls[7]? = some false → w = X.drew) ∧ (ls[7]? = some true → Mov (fun j => j = g) X w ∧ ∀ s, R = some s → OwnL N (roomy g (o + s.length) cap) (M ++ s) w)
theorem SrtPsi.stay {g cap N o : Nat} {M : List LabB} {R : Option (List LabB)} {X : World} {ls : Array Bool} {w : World} (h : SrtPsi g cap N o M R X ls w) (k : Nat) (hk : k ≠ 7) : SrtPsi g cap N o M R X (ls.setIfInBounds k true) w := by
  unfold SrtPsi at h ⊢
  rw [Array.getElem?_setIfInBounds_ne hk]
  exact h
def SrtPhi (l : List Value) (i : Nat) (v : Value) (_ : World) : Prop := v = l.getD i undef
theorem kept_all {l : List Oper} {a a0 : Act} (ho : ∀ d, (∀ (i : Nat) (o : Oper), l[i]? = some o → o.dst ≠ some d) → a.tmps[d]? = a0.tmps[d]?) (d : Nat) (h : (l.all fun o => o.dst != some d) = true) : a.tmps[d]? = a0.tmps[d]? :=
  ho d fun i o hi => by
    have := List.all_eq_true.1 h o (List.mem_of_getElem? hi)
    simpa using this
theorem make_labs (c : Nat) (hc : c ≤ maxLab) (w : World) : ∃ w', (Instr.makeSlice 23 (.int .i64 0) (.int .i64 (c : Int))).run Try.prog w = .ok (.slice (some ⟨w.heap.size, 0, none⟩) 0 c) w' ∧ OwnL w.heap.size (roomy w.heap.size 0 c) [] w' ∧ Below w.heap.size w w' := by
  unfold maxLab at hc
  obtain ⟨i, hi, hz0, hz1, hz2⟩ := info_parts2 info_lab
  obtain ⟨w', h1, h2, h3⟩ := run_make_own (P := Try.prog) w w.heap.size 23 47 i _ 2 Try.underlying23 hi hz0 hz1 .i64 .i64 c (by rw [hz2]; omega) (by unfold maxLen; omega) (Nat.le_refl _)
  exact ⟨w', h1, h2, ⟨h3.os, h3.tape, h3.output, h3.size, fun k hk => h3.block k hk (fun e => by cases e)⟩⟩

set_option maxRecDepth 100000 in
set_option maxHeartbeats 8000000 in
theorem sort_any (p : Option Addr) (c : Nat) (ls : List LabB) (hp : p = none → c = 0) (hlen : ls.length ≤ maxLab) (w : World) (hL : LbAt p ls w) :
    Calls Try.prog 12 #[.slice p ls.length c] w (SortEnd w (sortK ls)) := by
  have hclo := fun w h => clone_ok p c ls hp hlen w h
  have HL := Lib.hid hL
  have hsh := hL.short
  unfold maxLab at hlen
  clear hL hp
  refine (callsIn_wide (n := 6)).1 ?_
  refine callsIn_of_wp_marks Try.func12 rfl trivial ?_ rfl
  simp only [Try.ntmps12, List.size_toArray, List.length_cons, List.length_nil, Nat.reduceAdd, Nat.reduceSub, Array.replicate_succ, Array.replicate_zero, List.push_toArray, List.append_toArray, List.nil_append, List.cons_append]
  gi_wp2
  refine wpIn_wide.2 ?_
  apply wp_scope_straight
  refine (wpIn_wide (n := 6)).1 ?_
  gi_wp2
  refine ⟨trivial, (callsIn_wide.2 (hclo _ HL.out)).mono ?_⟩
  rintro e w1 ⟨v0, rfl, hO, hB⟩
  obtain ⟨p0, c0, rfl⟩ := hO.len
  have b4 := Boxed.new w1 23 (.slice p0 ls.length c0)
  have b5 := Boxed.new (w1.alloc (.cells #[.slice p0 ls.length c0] 23)) 28 (.int .i64 0)
  have b6 := Boxed.new ((w1.alloc (.cells #[.slice p0 ls.length c0] 23)).alloc (.cells #[.int .i64 0] 28)) 3 (.int .i64 ((1 : Nat) : Int))
  simp only [World.size_alloc] at b5 b6
  have HS : Hid (SortS w.heap.size w1.heap.size ls ls 1 (w1.heap.size + 1 + 1) (.slice p0 ls.length c0) [] w (((w1.alloc (.cells #[.slice p0 ls.length c0] 23)).alloc (.cells #[.int .i64 0] 28)).alloc (.cells #[.int .i64 1] 3))) :=
    Lib.hid ⟨((hB.alloc hB.size _).alloc (by have := hB.size; simp; omega) _).alloc (by have := hB.size; simp; omega) _, ((World.ownsRow.alloc hO _).alloc _).alloc _, (b4.alloc _).alloc _, b5.alloc _, b6, ⟨hB.size, by omega⟩, List.Perm.refl _, RunsK.one _, Nat.le_refl _, List.nodup_nil, fun r hr => by cases hr⟩
  clear hclo HL hO hB b4 b5 b6
  gi_wp2
  refine wpIn_label ?_
  gi_wp2
  generalize hW : ((w1.alloc (.cells #[.slice p0 ls.length c0] 23)).alloc (.cells #[.int .i64 0] 28)).alloc (.cells #[.int .i64 1] 3) = W at *
  generalize hbb : w1.heap.size = b at *
  clear hW hbb
  refine wpIn_loop_ghost_k (fun gk a' W => ∃ (u7 u8 u9 u10 u11 u12 u13 u14 u15 u16 u17 u18 u19 u20 u21 u22 u23 u24 u25 u26 u27 u28 u29 u30 u31 u32 u33 u34 u35 u36 u37 u38 u39 u40 u41 u42 u43 u44 u45 u46 u47 : Value) (S : List LabB) (run b6 : Nat) (v : Value) (rs : List Nat), gk = ls.length - run ∧ Hid (SortS w.heap.size b ls S run b6 v rs w W) ∧ a' = { tmps := [Value.slice p ls.length c, undef, Value.slice none 0 0, Value.int IntKind.i64 0, Value.pointer (some ⟨b, 0, none⟩), Value.pointer (some ⟨b + 1, 0, none⟩), Value.pointer (some ⟨b6, 0, none⟩), u7, u8, u9, u10, u11, u12, u13, u14, u15, u16, u17, u18, u19, u20, u21, u22, u23, u24, u25, u26, u27, u28, u29, u30, u31, u32, u33, u34, u35, u36, u37, u38, u39, u40, u41, u42, u43, u44, u45, u46, u47, undef, undef].toArray, defers := rs.map markOf }) (ls.length - 1) ?start ?round
  case start => exact ⟨_, _, _, _, _, _, _, _, _, _, _, _, _, _, _, _, _, _, _, _, _, _, _, _, _, _, _, _, _, _, _, _, _, _, _, _, _, _, _, _, _, ls, 1, _, _, [], rfl, HS, rfl⟩
  case round =>
    clear HS
    rintro gk a' W ⟨u7, u8, u9, u10, u11, u12, u13, u14, u15, u16, u17, u18, u19, u20, u21, u22, u23, u24, u25, u26, u27, u28, u29, u30, u31, u32, u33, u34, u35, u36, u37, u38, u39, u40, u41, u42, u43, u44, u45, u46, u47, S, run, b6, v, rs, rfl, HS, rfl⟩ J K hJ hK
    have c6 := HS.out.box6.cell
    have hSl := HS.out.perm.length_eq
    have hr1 := HS.out.r1
    have HSL := Lib.hid hSl
    clear hSl
    by_cases hlt : run < ls.length
    · have hn2 : 2 ≤ ls.length := by omega
      rcases HS.out.own.form with ⟨_, h0⟩ | ⟨G, c9, hv, hGN, hGW, hGc, _⟩
      · have := HSL.out
        rw [h0] at this
        simp at this
        omega
      rw [HSL.out] at hv hGc
      subst hv
      obtain ⟨w5, hmk, hO5, hB5⟩ := make_labs ls.length (by show _ ≤ (4398046511104 : Nat); exact hlen) W
      obtain ⟨d, hd⟩ : ∃ d : Nat, 2 * run = d := ⟨_, rfl⟩
      have hdi : (2 : Int) * (run : Int) = (d : Int) := by omega
      have hd1 : 1 ≤ d := by omega
      have hd2 : d ≤ 8796093022208 := by omega
      have hB6 := hB5.alloc hB5.size (.cells #[.slice (some ⟨W.heap.size, 0, none⟩) 0 ls.length] 23)
      have HB6 := Lib.hid hB6
      have b7 := Boxed.new w5 23 (.slice (some ⟨W.heap.size, 0, none⟩) 0 ls.length)
      have HB7 := Lib.hid b7
      have HO6 := Lib.hid (World.ownsRow.alloc hO5 (.cells #[.slice (some ⟨W.heap.size, 0, none⟩) 0 ls.length] 23))
      have c4 := (hB6.cell (p := ⟨b, 0, none⟩) HS.out.box4.lt).trans HS.out.box4.cell
      have c6' := (hB6.cell (p := ⟨b6, 0, none⟩) HS.out.box6.lt).trans HS.out.box6.cell
      have hck := fun w => chunk_ok (some ⟨G, 0, none⟩) ls.length c9 d hd1 w
      have hz5 := hB5.size
      have HGN := Lib.hid hGN
      have HGW := Lib.hid hGW
      have HD := Lib.hid hd
      have hO5x := hO5
      clear hB6 b7 hO5 hB5 hd hGN hGW
      gi_wp2
      refine ⟨trivial, (callsIn_wide.2 (hck _)).mono ?_⟩
      rintro e w7 ⟨rfl, rfl⟩
      clear hck
      gi_wp2
      refine range_two (w5.heap.size + 3) 0 (by simp) rfl (enters_of Try.func38 (by kernel_rfl) rfl) fun fn rec W1 hrec hW1 => ?_
      have hg5 : W.heap.size < w5.heap.size := (OwnL.lt (g := W.heap.size) hO5x rfl).2
      obtain ⟨HW1, HDD⟩ : Hid (Below W.heap.size W W1) ∧ Hid (Boxed W1 (w5.heap.size + 1) 23 (.slice (some ⟨G, 0, none⟩) ls.length c9) ∧ Boxed W1 (w5.heap.size + 1 + 1) 3 (.int .i64 (d : Int)) ∧ W1.heap[w5.heap.size + 3]? = some (.deferred (some [])) ∧ Pass W.heap.size w5.heap.size (w5.heap.size + 3 + 1) ls.length d w.heap.size S (rec .ready none) W1 0 W1) := by
        have e1 := Boxed.new (w5.alloc (.cells #[.slice (some ⟨W.heap.size, 0, none⟩) 0 ls.length] 23)) 23 (.slice (some ⟨G, 0, none⟩) ls.length c9)
        have e2 := Boxed.new ((w5.alloc (.cells #[.slice (some ⟨W.heap.size, 0, none⟩) 0 ls.length] 23)).alloc (.cells #[.slice (some ⟨G, 0, none⟩) ls.length c9] 23)) 3 (.int .i64 (d : Int))
        have e3 := World.alloc_heap_new (((w5.alloc (.cells #[.slice (some ⟨W.heap.size, 0, none⟩) 0 ls.length] 23)).alloc (.cells #[.slice (some ⟨G, 0, none⟩) ls.length c9] 23)).alloc (.cells #[.int .i64 (d : Int)] 3)) (.deferred (some []))
        have e4 := World.alloc_heap_new ((((w5.alloc (.cells #[.slice (some ⟨W.heap.size, 0, none⟩) 0 ls.length] 23)).alloc (.cells #[.slice (some ⟨G, 0, none⟩) ls.length c9] 23)).alloc (.cells #[.int .i64 (d : Int)] 3)).alloc (.deferred (some []))) (rec .ready none)
        simp only [World.size_alloc] at e1 e2 e3 e4
        rw [← hW1]
        have hz := HB6.out.size
        refine ⟨Lib.hid ((((HB6.out.alloc hz _).alloc (by simp at hz ⊢; omega) _).alloc (by simp at hz ⊢; omega) _).alloc (by simp at hz ⊢; omega) _), Lib.hid ⟨((e1.alloc _).alloc _).alloc _, (e2.alloc _).alloc _, (Below.heap_alloc _ _ _ (by simp)).trans e3, Mov.refl _ _, e4, ⟨0, by simp⟩, [], by simp, RunsK.nil _, (((HB7.out.alloc _).alloc _).alloc _).alloc _, (((HO6.out.alloc _).alloc _).alloc _).alloc _ |> fun h => OwnL.sub (B := W.heap.size) h HS.out.below.size⟩⟩
      have hbW := HS.out.box4.lt
      have hbW1 := HS.out.box5.lt
      have hb6W := HS.out.box6.lt
      have hNb := HS.out.hb.1
      have hbb6 := HS.out.hb.2
      have hGW := HGW.out
      have hrW : Hid (∀ r ∈ rs, r < W.heap.size) := Lib.hid fun r hr => (Array.getElem?_eq_some_iff.1 (HS.out.marks r hr).2.2).1
      have HNG := Lib.hid (HS.out.below.size)
      have HP4 := Lib.hid (boxed_below HS.out.box4 HW1.out rfl)
      have HP5 := Lib.hid (boxed_below HS.out.box5 HW1.out rfl)
      have HP6 := Lib.hid (boxed_below HS.out.box6 HW1.out rfl)
      have HPr : Hid (∀ r ∈ rs, W1.heap[r]? = some (.deferred (some []))) := Lib.hid fun r hr => (HW1.out.block r (hrW.out r hr)).trans (HS.out.marks r hr).2.2
      have HPO := Lib.hid (HS.out.own.below HW1.out)
      have HSH := Lib.hid (hsh.perm HS.out.perm)
      clear hW1 HB6 HB7 HO6 hO5x c4 c6 c6' hmk
      obtain ⟨g, hg⟩ : ∃ g, W.heap.size = g := ⟨_, rfl⟩
      rw [hg] at hg5 HW1 HDD hbW hbW1 hb6W hGW hrW HNG ⊢
      have HGG := Lib.hid hg
      clear hg
      generalize w5.heap.size = x at *
      refine (chunk_in 4 (x + 3 + 1) (x + 1) G ls.length c9 d hd1 (by omega) hlen hGc (Pass g x (x + 3 + 1) ls.length d w.heap.size S (rec .ready none) W1) (Left g x (x + 3 + 1) b ls (rec .done (some (.exit 0))) W1) ?box ?drew ?round2 W1 HDD.out.2.2.2).mono ?done
      case box => exact fun o W' h => ⟨boxed_mov HDD.out.1 h.1 (by omega), boxed_mov HDD.out.2.1 h.1 (by omega)⟩
      case drew =>
        rintro o W' k ⟨h1, h2, h3, M, h4, h5, h6, h7⟩
        exact ⟨h1.drewN k, h2, h3, M, h4, h5, h6, h7⟩
      case done =>
        rintro e W' ⟨hv, ⟨o, ho, h⟩ | h⟩
        · refine ⟨hv, .inl ⟨h.2.1, ?_⟩⟩
          obtain ⟨h1, h2, h3, M, h4, h5, h6, h7⟩ := h
          rw [List.take_of_length_le (by rw [HSL.out]; exact ho)] at h4
          have hMl : M.length = ls.length := by rw [h4.length_eq, HSL.out]
          rw [hMl] at h6 h7
          have m1 : Mov (fun k => k = g ∨ k = x ∨ k = x + 3 + 1) W1 (W'.putObj (x + 3 + 1) (rec .exhausted none)) :=
            h1.trans (T := fun k => k = x + 3 + 1) ⟨rfl, rfl, rfl, by simp, fun k _ hk => World.putObj_heap_other hk⟩ (fun i _ hi => .inr (.inr hi))
          have q4 := boxed_mov HP4.out m1 (by omega)
          have q5 := boxed_mov HP5.out m1 (by omega)
          have q6 := boxed_mov HP6.out m1 (by omega)
          have q7 := Boxed.other' h6 (rec .exhausted none) (l := x + 3 + 1) (by omega)
          have qO := OwnL.put h7 (rec .exhausted none) h2 (by rw [hrec]; intro cur fr e; cases e)
          have qB : Below w.heap.size w (W'.putObj (x + 3 + 1) (rec .exhausted none)) := by
            have z1 := HNG.out
            have z2 := HGG.out
            have z3 := HW1.out.size
            exact (HS.out.below.trans (HW1.out.mono (by omega))).trans (m1.below (N := w.heap.size) (by omega) (by omega))
          have qD : (W'.putObj (x + 3 + 1) (rec .exhausted none)).heap[x + 3]? = some (.deferred (some [])) := (m1.block (x + 3) (Array.getElem?_eq_some_iff.1 HDD.out.2.2.1).1 (by omega)).trans HDD.out.2.2.1
          have qr : ∀ r ∈ rs, (W'.putObj (x + 3 + 1) (rec .exhausted none)).heap[r]? = some (.deferred (some [])) := fun r hr => (m1.block r (by have := hrW.out r hr; have := (Array.getElem?_eq_some_iff.1 HDD.out.2.2.1).1; omega) (by have := hrW.out r hr; omega)).trans (HPr.out r hr)
          generalize W'.putObj (x + 3 + 1) (rec .exhausted none) = Z at *
          have c4 := q4.cell
          have f4 := q4.frozen
          have c6 := q6.cell
          have c7 := q7.cell
          have Q5 := Lib.hid q5
          have QO := Lib.hid qO
          have QB := Lib.hid qB
          have QD := Lib.hid qD
          have Qr := Lib.hid qr
          have Q4 := Lib.hid q4
          have QM := Lib.hid h4
          have QR := Lib.hid h5
          clear h1 h2 h3 h4 h5 h6 h7 m1 q4 q5 q6 q7 qO qB qD qr HP4 HP5 HP6 HPr HW1 HDD hrec hMl
          gi_wp2
          have hrd : (run : Int) * 2 = (d : Int) := by omega
          have hZ : (Z.setCell ⟨b, 0, none⟩ (.slice (some ⟨g, 0, none⟩) ls.length ls.length)).heap.size = Z.heap.size := by simp
          have zl := (Array.getElem?_eq_some_iff.1 QD.out).1
          have keep : ∀ r, r < Z.heap.size → r ≠ b → Z.heap[r]? = some (.deferred (some [])) → ((Z.setCell ⟨b, 0, none⟩ (.slice (some ⟨g, 0, none⟩) ls.length ls.length)).alloc (.cells #[.int .i64 (d : Int)] 3)).heap[r]? = some (.deferred (some [])) := fun r hr hb h => by
            rw [Below.heap_alloc _ _ _ (by rw [hZ]; exact hr), Below.heap_setCell _ _ _ _ hb]
            exact h
          rw [hrd]
          refine Handed.intro (ls.length - d) (by have := HD.out; omega) (hJ _ _ _ ⟨_, _, _, _, _, _, _, _, _, _, _, _, _, _, _, _, _, _, _, _, _, _, _, _, _, _, _, _, _, _, _, _, _, _, _, _, _, _, _, _, _, M, d, Z.heap.size, roomy g ls.length ls.length, (x + 3) :: rs, rfl, Lib.hid ?_, rfl⟩)
          have b6n := Boxed.new (Z.setCell ⟨b, 0, none⟩ (.slice (some ⟨g, 0, none⟩) ls.length ls.length)) 3 (.int .i64 (d : Int))
          rw [hZ] at b6n
          refine ⟨(QB.out.setCell (p := ⟨b, 0, none⟩) hNb _).alloc (by rw [hZ]; exact QB.out.size) _, World.ownsRow.alloc (OwnL.mov QO.out ((Mov.refl (fun k => k = b) Z).set rfl 0 _) (fun k hk hb => by cases hk; exact absurd (show g = b from hb) (by omega))) _, (Q4.out.set _).alloc _, (Boxed.other Q5.out (by omega) _).alloc _, b6n, ⟨hNb, Q5.out.lt⟩, QM.out.trans HS.out.perm, QR.out, hd1, List.nodup_cons.2 ⟨fun hr => by have := hrW.out _ hr; omega, HS.out.once⟩, fun r hr => ?_⟩
          rcases List.mem_cons.1 hr with rfl | hr
          · exact ⟨by omega, by omega, keep _ zl (by omega) QD.out⟩
          · have z1 := hrW.out r hr
            have z2 := (Array.getElem?_eq_some_iff.1 (Qr.out r hr)).1
            have z3 := (HS.out.marks r hr).2.1
            exact ⟨by omega, z3, keep _ z2 (by omega) (Qr.out r hr)⟩
        · refine ⟨hv, .inr ⟨h.2.1, ?_⟩⟩
          obtain ⟨h1, h2, h3, h4, h5⟩ := h
          have m1 : Mov (fun k => k = g ∨ k = x ∨ k = x + 3 + 1 ∨ k = b ∨ k = b + 1) W1 (W'.putObj (x + 3 + 1) (rec .exhausted (some (.exit 0)))) :=
            h1.trans (T := fun k => k = x + 3 + 1) ⟨rfl, rfl, rfl, by simp, fun k _ hk => World.putObj_heap_other hk⟩ (fun i _ hi => .inr (.inr (.inl hi)))
          have q4 := Boxed.other' h4 (rec .exhausted (some (.exit 0))) (l := x + 3 + 1) (by omega)
          have q5 := Boxed.other' h5 (rec .exhausted (some (.exit 0))) (l := x + 3 + 1) (by omega)
          have qB : Below w.heap.size w (W'.putObj (x + 3 + 1) (rec .exhausted (some (.exit 0)))) := by
            have z1 := HNG.out
            have z2 := HGG.out
            have z3 := HW1.out.size
            exact (HS.out.below.trans (HW1.out.mono (by omega))).trans (m1.below (N := w.heap.size) (by omega) (by omega))
          have qD : (W'.putObj (x + 3 + 1) (rec .exhausted (some (.exit 0)))).heap[x + 3]? = some (.deferred (some [])) := (m1.block (x + 3) (Array.getElem?_eq_some_iff.1 HDD.out.2.2.1).1 (by omega)).trans HDD.out.2.2.1
          have qr : ∀ r ∈ rs, (W'.putObj (x + 3 + 1) (rec .exhausted (some (.exit 0)))).heap[r]? = some (.deferred (some [])) := fun r hr => (m1.block r (by have := hrW.out r hr; have := (Array.getElem?_eq_some_iff.1 HDD.out.2.2.1).1; omega) (by have := hrW.out r hr; have := (HS.out.marks r hr).2.1; omega)).trans (HPr.out r hr)
          generalize W'.putObj (x + 3 + 1) (rec .exhausted (some (.exit 0))) = Z at *
          have c4 := q4.cell
          have c5 := q5.cell
          have QB := Lib.hid qB
          have QD := Lib.hid qD
          have Qr := Lib.hid qr
          have HKK := Lib.hid (sortK_twice h3)
          clear h1 h2 h3 h4 h5 m1 q4 q5 qB qD qr HP4 HP5 HP6 HPr HW1 HDD hrec hJ
          gi_wp2
          refine wpIn_wide.2 ?_
          go_quiet (fail)
          gi_wp2
          have big : ∀ r ∈ (x + 3) :: rs, b + 1 < r ∧ Z.heap[r]? = some (.deferred (some [])) := fun r hr => by
            rcases List.mem_cons.1 hr with rfl | hr
            · exact ⟨by omega, QD.out⟩
            · exact ⟨(HS.out.marks r hr).2.1, Qr.out r hr⟩
          refine leaves_marks (N := w.heap.size) ((x + 3) :: rs) _ (List.nodup_cons.2 ⟨fun hr => by have := hrW.out _ hr; omega, HS.out.once⟩) (fun r hr => ⟨by have := (big r hr).1; omega, (big r hr).2⟩) fun w' hM => ⟨.tuple #[.slice none 0 0, .int .i64 11], by simp [results, Try.results12, go_sem], ?_⟩
          have hM2 : Mov (fun k => k ∈ (x + 3) :: rs) Z w' := (Mov.refl _ Z).drewN _ |>.trans hM (fun _ _ h => h)
          show SortEnd w (sortK ls) _ _
          rw [HKK.out]
          exact ⟨rfl, QB.out.trans (hM2.below (fun k hk => by have := (big k hk).1; omega) QB.out.size)⟩
      case round2 =>
        rintro o e W' ⟨h1, h2, ⟨j, hj⟩, M, h4, h5, h6, h7⟩ ho he
        have hMl : M.length = o := by rw [h4.length_eq, List.length_take, HSL.out]; omega
        obtain ⟨Ch, hCh⟩ : ∃ Ch, (S.drop o).take d = Ch := ⟨_, rfl⟩
        have hChl : Ch.length = e := by rw [← hCh, List.length_take, List.length_drop, HSL.out]; exact he
        obtain ⟨h, hh⟩ : ∃ h, min run e = h := ⟨_, rfl⟩
        have hhi : min (run : Int) (e : Int) = (h : Int) := by omega
        have hhe : h ≤ e := by omega
        have hal : (Ch.take h).length = h := by rw [List.length_take, hChl]; omega
        have hbl : (Ch.drop h).length = e - h := by rw [List.length_drop, hChl]
        have hrt : Ch.take h = Ch.take run ∧ Ch.drop h = Ch.drop run := by
          by_cases hre : run ≤ e
          · rw [show h = run by omega]; exact ⟨rfl, rfl⟩
          · rw [List.take_of_length_le (by omega), List.take_of_length_le (by omega), List.drop_of_length_le (by omega), List.drop_of_length_le (by omega)]; exact ⟨rfl, rfl⟩
        have hsort := HS.out.runs.halves j (c := Ch) (by rw [← hCh, hj, HD.out])
        rw [← hrt.1, ← hrt.2] at hsort
        obtain ⟨Rm, hRm⟩ : ∃ Rm, mergeL (Ch.take h) (Ch.drop h) = Rm := ⟨_, rfl⟩
        have hnone : Rm = none → ¬ OnceK ls := fun e ho' => by
          rw [e, hrt.1, hrt.2] at hRm
          exact halves_once hRm (once_part ho' HS.out.perm (by rw [← hCh]; exact (List.take_sublist _ _).trans (List.drop_sublist _ _)))
        have hsome : ∀ s, Rm = some s → M.length + s.length ≤ ls.length ∧ s.length = e ∧ (M ++ s).Perm (S.take (o + d)) ∧ RunsK d (M ++ s) := fun s e1 => by
          rw [e1] at hRm
          obtain ⟨s1, s2⟩ := mergeL_some _ (Nat.le_refl _) hsort.1 hsort.2 hRm
          rw [List.take_append_drop] at s2
          have hsl : s.length = e := by rw [s2.length_eq, hChl]
          refine ⟨by omega, hsl, ?_, h5.snoc j (by rw [hMl, hj]) s1 (by omega)⟩
          rw [List.take_add, hCh]
          exact h4.append s2
        have HRM := Lib.hid hRm
        have HNone := Lib.hid hnone
        have HSome := Lib.hid hsome
        have HJ9 := Lib.hid hj
        clear hj
        have m0 : Mov (fun k => k = g ∨ k = x ∨ k = x + 3 + 1) W1 (W'.putObj (x + 3 + 1) (rec .busy none)) :=
          h1.trans (T := fun k => k = x + 3 + 1) ⟨rfl, rfl, rfl, by simp, fun k _ hk => World.putObj_heap_other hk⟩ (fun i _ hi => .inr (.inr hi))
        have q4 := boxed_mov HP4.out m0 (by omega)
        have q5 := boxed_mov HP5.out m0 (by omega)
        have q6 := boxed_mov HP6.out m0 (by omega)
        have q7 := Boxed.other' h6 (rec .busy none) (l := x + 3 + 1) (by omega)
        have qO := OwnL.put h7 (rec .busy none) h2 (by rw [hrec]; intro cur fr e; cases e)
        have qL : LbAt (some ⟨G, 0, none⟩) S (W'.putObj (x + 3 + 1) (rec .busy none)) := (OwnL.mov HPO.out m0 (fun k hk hb => by cases hk; have hb : G = g ∨ G = x ∨ G = x + 3 + 1 := hb; omega)).lies (n := ls.length) HSH.out
        have ql : (W'.putObj (x + 3 + 1) (rec .busy none)).heap[x + 3 + 1]? = some (rec .busy none) := World.putObj_heap_same (Array.getElem?_eq_some_iff.1 h2).1
        refine round_two (id := 0) (a₁ := { tmps := #[.slice p ls.length c, undef, .slice none 0 0, .int .i64 0, .pointer (some ⟨b, 0, none⟩), .pointer (some ⟨b + 1, 0, none⟩), .pointer (some ⟨b6, 0, none⟩), .pointer (some ⟨x, 0, none⟩), .slice (some ⟨G, o * 2, none⟩) e e, u9, u10, u11, u12, u13, .int .i64 (run : Int), .slice p ls.length c, .int .i64 (ls.length : Int), .bool true, u18, u19, .slice p ls.length c, .int .i64 (ls.length : Int), .slice (some ⟨W.heap.size, 0, none⟩) 0 ls.length, .slice (some ⟨G, 0, none⟩) ls.length c9, .int .i64 (run : Int), .int .i64 (d : Int), .func (.func 38) #[] #[.pointer (some ⟨x + 1, 0, none⟩), .pointer (some ⟨x + 1 + 1, 0, none⟩)], .slice (some ⟨G, o * 2, none⟩) e e, u28, u29, u30, u31, u32, u33, u34, u35, u36, u37, u38, u39, u40, u41, u42, u43, u44, u45, u46, u47, undef, undef], defers := [] }) (R := Pass g x (x + 3 + 1) ls.length d w.heap.size S (rec .ready none) W1 (o + d)) (Rx := Left g x (x + 3 + 1) b ls (rec .done (some (.exit 0))) W1) hrec h2 rfl ?assign ?body
        case assign =>
          clear HRM HNone HSome m0 q4 q5 q6 q7 qO qL ql h1 h2 h4 h5 h6 h7 hsort hrt hRm hnone hsome hrec HP4 HP5 HP6 HPr HPO HW1 HDD hJ
          intro K hK
          gi_wp2
          exact hK
        case body =>
          clear h1 h2 h5 h6 h7 hsort hrt hRm hnone hsome
          generalize hX : W'.putObj (x + 3 + 1) (rec .busy none) = X at *
          have c6 := q6.cell
          obtain ⟨f, hf⟩ : ∃ f, e - h = f := ⟨_, rfl⟩
          rw [hf] at hbl
          obtain ⟨P, hP, hPn, hPL, hPO⟩ : ∃ P, (if e = h then some (⟨G, o * 2, none⟩ : Addr) else some ⟨G, o * 2 + h * 2, none⟩) = P ∧ (P = none → f = 0) ∧ LbAt P (Ch.drop h) X ∧ Off P g := by
            have hd1 : LbAt (some ⟨G, o * 2 + h * 2, none⟩) (Ch.drop h) X := by
              rw [← hCh]
              have := ((qL.drop o).take d).drop h
              rwa [Nat.zero_add] at this
            refine ⟨_, rfl, (fun e => by split at e <;> cases e), ?_, fun C off e => by
              split at e <;> (simp only [Option.some.injEq, Addr.mk.injEq] at e; omega)⟩
            split
            · rw [List.eq_nil_of_length_eq_zero (show (Ch.drop h).length = 0 by rw [hbl]; omega)]
              exact LbAt.nil _ _
            · exact hd1
          have hLa : LbAt (some ⟨G, o * 2, none⟩) (Ch.take h) X := by
            rw [← hCh]
            have := ((qL.drop o).take d).take h
            rwa [Nat.zero_add] at this
          rw [hMl] at q7
          have hmg := merge_any w.heap.size g ls.length M (some ⟨G, o * 2, none⟩) P e f (Ch.take h) (Ch.drop h) (fun e => by cases e) hPn (by rw [hal]; exact hhe) (by rw [hbl]; exact Nat.le_refl _) (by rw [hal, hbl, hMl]; show _ ≤ (4398046511104 : Nat); omega) (by rw [hal, hbl, hMl]; omega) X.drew qO (by have := m0.size; have := HW1.out.size; have := HNG.out; have := HGG.out; show w.heap.size ≤ X.heap.size; omega) hLa hPL (fun C off e => by simp only [Option.some.injEq, Addr.mk.injEq] at e; omega) hPO
          rw [hal, hbl, HRM.out] at hmg
          unfold MergeEnd at hmg
          rw [hMl] at hmg
          have HC7 := Lib.hid q7.cell
          have HMM := Lib.hid m0
          have Q4 := Lib.hid q4
          have Q5 := Lib.hid q5
          have Q7 := Lib.hid q7
          have QL := Lib.hid ql
          have HMl := Lib.hid hMl
          have HR := Lib.hid hrec
          clear hrec hX hCh hChl hal hbl hPn hPL hPO hLa qO qL m0 q4 q5 q6 q7 ql h4 he hMl hJ
          cases Rm with
          | none =>
            have HMG := Lib.hid hmg
            clear hmg
            gi_wp2
            refine wpIn_region_inv2 (m := 50) (SrtPsi g ls.length w.heap.size o M none X) (SrtPhi [.slice (some ⟨g, 0, none⟩) o ls.length, .slice (some ⟨G, o * 2, none⟩) e e, .int .i64 (h : Int), .slice (some ⟨G, o * 2, none⟩) h e, .slice (some ⟨G, o * 2, none⟩) e e, .int .i64 (h : Int), .slice P f f, .tuple #[.slice none 0 0, .bool false], .tuple #[.slice none 0 0, .bool false], .slice none 0 0, .bool false, .slice none 0 0, .bool false]) (by kernel_rfl) (by kernel_rfl) (by rintro ⟨_, _, h⟩; obtain ⟨_, ⟨h, _⟩ | ⟨h, _⟩⟩ := h <;> cases h) (by kernel_rfl) rfl (fun _ _ _ _ h => h) ⟨fun _ => rfl, (fun h => by cases h)⟩ ?_ ?_
            · refine ⟨?_, ?_, ?_, ?_, ?_, ?_, ?_, ?_, ?_, ?_, ?_, ?_, ?_, trivial⟩
              · intro ls2 cx wc hΨ hls hun hcl hpr hp hs
                have g7 : cx.tmps[7]? = some (.pointer (some ⟨x, 0, none⟩)) := (hs 7 (by kernel_rfl)).trans rfl
                have hnd : ls2[7]? = some false := Reg2.not_done hcl hls 13 7 0 _ rfl (by kernel_rfl) hun
                have hw := hΨ.1 hnd
                subst hw
                have k7 := HC7.out
                refine Reg2.ok_value (v := .slice (some ⟨g, 0, none⟩) o ls.length) (Reg.wanted_none rfl) ?_ (hΨ.stay 0 (by decide)) rfl
                go_simp
              · intro ls2 cx wc hΨ hls hun hcl hpr hp hs
                have g8 : cx.tmps[8]? = some (.slice (some ⟨G, o * 2, none⟩) e e) := (hs 8 (by kernel_rfl)).trans rfl
                refine Reg2.ok_value (v := .slice (some ⟨G, o * 2, none⟩) e e) (Reg.wanted_none rfl) ?_ (hΨ.stay 1 (by decide)) rfl
                go_simp
              · intro ls2 cx wc hΨ hls hun hcl hpr hp hs
                have g9 : cx.tmps[9]? = some (.int .i64 (h : Int)) := (hs 9 (by kernel_rfl)).trans rfl
                refine Reg2.ok_value (v := .int .i64 (h : Int)) (Reg.wanted_none rfl) ?_ (hΨ.stay 2 (by decide)) rfl
                go_simp
              · intro ls2 cx wc hΨ hls hun hcl hpr hp hs
                have g34 : cx.tmps[34]? = some (.slice (some ⟨G, o * 2, none⟩) e e) := by obtain ⟨_, g, hv⟩ := Reg.pred hp 1 34 (by kernel_rfl) rfl rfl; exact g.trans (congrArg some hv)
                have g35 : cx.tmps[35]? = some (.int .i64 (h : Int)) := by obtain ⟨_, g, hv⟩ := Reg.pred hp 2 35 (by kernel_rfl) rfl rfl; exact g.trans (congrArg some hv)
                refine Reg2.ok_value (v := .slice (some ⟨G, o * 2, none⟩) h e) (Reg.wanted_none rfl) ?_ (hΨ.stay 3 (by decide)) rfl
                go_simp
              · intro ls2 cx wc hΨ hls hun hcl hpr hp hs
                have g8 : cx.tmps[8]? = some (.slice (some ⟨G, o * 2, none⟩) e e) := (hs 8 (by kernel_rfl)).trans rfl
                refine Reg2.ok_value (v := .slice (some ⟨G, o * 2, none⟩) e e) (Reg.wanted_none rfl) ?_ (hΨ.stay 4 (by decide)) rfl
                go_simp
              · intro ls2 cx wc hΨ hls hun hcl hpr hp hs
                have g9 : cx.tmps[9]? = some (.int .i64 (h : Int)) := (hs 9 (by kernel_rfl)).trans rfl
                refine Reg2.ok_value (v := .int .i64 (h : Int)) (Reg.wanted_none rfl) ?_ (hΨ.stay 5 (by decide)) rfl
                go_simp
              · intro ls2 cx wc hΨ hls hun hcl hpr hp hs
                have g37 : cx.tmps[37]? = some (.slice (some ⟨G, o * 2, none⟩) e e) := by obtain ⟨_, g, hv⟩ := Reg.pred hp 4 37 (by kernel_rfl) rfl rfl; exact g.trans (congrArg some hv)
                have g38 : cx.tmps[38]? = some (.int .i64 (h : Int)) := by obtain ⟨_, g, hv⟩ := Reg.pred hp 5 38 (by kernel_rfl) rfl rfl; exact g.trans (congrArg some hv)
                refine Reg2.ok_value (v := .slice P f f) (Reg.wanted_none rfl) ?_ (hΨ.stay 6 (by decide)) rfl
                go_simp
              · intro ls2 cx wc hΨ hls hun hcl hpr hp hs
                have g33 : cx.tmps[33]? = some (.slice (some ⟨g, 0, none⟩) o ls.length) := by obtain ⟨_, g, hv⟩ := Reg.pred hp 0 33 (by kernel_rfl) rfl rfl; exact g.trans (congrArg some hv)
                have g36 : cx.tmps[36]? = some (.slice (some ⟨G, o * 2, none⟩) h e) := by obtain ⟨_, g, hv⟩ := Reg.pred hp 3 36 (by kernel_rfl) rfl rfl; exact g.trans (congrArg some hv)
                have g39 : cx.tmps[39]? = some (.slice P f f) := by obtain ⟨_, g, hv⟩ := Reg.pred hp 6 39 (by kernel_rfl) rfl rfl; exact g.trans (congrArg some hv)
                have hw := hΨ.1 hun
                subst hw
                refine Reg2.ok_call (f := 29) (args := #[.slice (some ⟨g, 0, none⟩) o ls.length, .slice (some ⟨G, o * 2, none⟩) h e, .slice P f f]) (Reg.wanted_none rfl) (by go_simp) (HMG.out.mono ?_)
                rintro e9 w9 ⟨rfl, hM9⟩
                exact ⟨_, rfl, ⟨(fun h => by rw [Array.getElem?_setIfInBounds_self_of_lt (by rw [hls]; decide)] at h; cases h), fun _ => ⟨(Mov.refl _ X).drew.trans hM9 (fun _ _ h => h), fun s' e => by cases e⟩⟩, rfl⟩
              · intro ls2 cx wc hΨ hls hun hcl hpr hp hs
                have g40 : cx.tmps[40]? = some (.tuple #[.slice none 0 0, .bool false]) := by obtain ⟨_, g, hv⟩ := Reg.pred hp 7 40 (by kernel_rfl) rfl rfl; exact g.trans (congrArg some hv)
                refine Reg2.ok_value (v := .tuple #[.slice none 0 0, .bool false]) (Reg.wanted_none rfl) ?_ (hΨ.stay 8 (by decide)) rfl
                go_simp
              · intro ls2 cx wc hΨ hls hun hcl hpr hp hs
                have g32 : cx.tmps[32]? = some (.tuple #[.slice none 0 0, .bool false]) := by obtain ⟨_, g, hv⟩ := Reg.pred hp 8 32 (by kernel_rfl) rfl rfl; exact g.trans (congrArg some hv)
                refine Reg2.ok_value (v := .slice none 0 0) (Reg.wanted_none rfl) ?_ (hΨ.stay 9 (by decide)) rfl
                go_simp
              · intro ls2 cx wc hΨ hls hun hcl hpr hp hs
                have g32 : cx.tmps[32]? = some (.tuple #[.slice none 0 0, .bool false]) := by obtain ⟨_, g, hv⟩ := Reg.pred hp 8 32 (by kernel_rfl) rfl rfl; exact g.trans (congrArg some hv)
                refine Reg2.ok_value (v := .bool false) (Reg.wanted_none rfl) ?_ (hΨ.stay 10 (by decide)) rfl
                go_simp
              · intro ls2 cx wc hΨ hls hun hcl hpr hp hs
                have g41 : cx.tmps[41]? = some (.slice none 0 0) := by obtain ⟨_, g, hv⟩ := Reg.pred hp 9 41 (by kernel_rfl) rfl rfl; exact g.trans (congrArg some hv)
                refine Reg2.ok_value (v := .slice none 0 0) (Reg.wanted_none rfl) ?_ (hΨ.stay 11 (by decide)) rfl
                go_simp
              · intro ls2 cx wc hΨ hls hun hcl hpr hp hs
                have g42 : cx.tmps[42]? = some (.bool false) := by obtain ⟨_, g, hv⟩ := Reg.pred hp 10 42 (by kernel_rfl) rfl rfl; exact g.trans (congrArg some hv)
                refine Reg2.ok_value (v := .bool false) (Reg.wanted_none rfl) ?_ (hΨ.stay 12 (by decide)) rfl
                go_simp
            · intro ls2 cx wc hΨ hls hall hsz hdf hv ho9
              obtain ⟨hM9, hO9⟩ := hΨ.2 (hall 7 (by decide))
              have hfr := Reg.frame_eq [_, _, _, _, _, _, _, _, _, _, .slice none 0 0, .bool false, _, _, _, _, _, _, _, _, _, _, _, _, _, _, _, _, _, _, _, _, .tuple #[.slice none 0 0, .bool false], .slice (some ⟨g, 0, none⟩) o ls.length, .slice (some ⟨G, o * 2, none⟩) e e, .int .i64 (h : Int), .slice (some ⟨G, o * 2, none⟩) h e, .slice (some ⟨G, o * 2, none⟩) e e, .int .i64 (h : Int), .slice P f f, .tuple #[.slice none 0 0, .bool false], .slice none 0 0, .bool false, _, _, _, _, _, _, _] (by simpa using hsz) hdf ⟨((kept_all ho9 0 (by kernel_rfl)).trans rfl), ((kept_all ho9 1 (by kernel_rfl)).trans rfl), ((kept_all ho9 2 (by kernel_rfl)).trans rfl), ((kept_all ho9 3 (by kernel_rfl)).trans rfl), ((kept_all ho9 4 (by kernel_rfl)).trans rfl), ((kept_all ho9 5 (by kernel_rfl)).trans rfl), ((kept_all ho9 6 (by kernel_rfl)).trans rfl), ((kept_all ho9 7 (by kernel_rfl)).trans rfl), ((kept_all ho9 8 (by kernel_rfl)).trans rfl), ((kept_all ho9 9 (by kernel_rfl)).trans rfl), (by obtain ⟨_, g, hx⟩ := hv 11 _ 10 rfl rfl; exact g.trans (congrArg some hx)), (by obtain ⟨_, g, hx⟩ := hv 12 _ 11 rfl rfl; exact g.trans (congrArg some hx)), ((kept_all ho9 12 (by kernel_rfl)).trans rfl), ((kept_all ho9 13 (by kernel_rfl)).trans rfl), ((kept_all ho9 14 (by kernel_rfl)).trans rfl), ((kept_all ho9 15 (by kernel_rfl)).trans rfl), ((kept_all ho9 16 (by kernel_rfl)).trans rfl), ((kept_all ho9 17 (by kernel_rfl)).trans rfl), ((kept_all ho9 18 (by kernel_rfl)).trans rfl), ((kept_all ho9 19 (by kernel_rfl)).trans rfl), ((kept_all ho9 20 (by kernel_rfl)).trans rfl), ((kept_all ho9 21 (by kernel_rfl)).trans rfl), ((kept_all ho9 22 (by kernel_rfl)).trans rfl), ((kept_all ho9 23 (by kernel_rfl)).trans rfl), ((kept_all ho9 24 (by kernel_rfl)).trans rfl), ((kept_all ho9 25 (by kernel_rfl)).trans rfl), ((kept_all ho9 26 (by kernel_rfl)).trans rfl), ((kept_all ho9 27 (by kernel_rfl)).trans rfl), ((kept_all ho9 28 (by kernel_rfl)).trans rfl), ((kept_all ho9 29 (by kernel_rfl)).trans rfl), ((kept_all ho9 30 (by kernel_rfl)).trans rfl), ((kept_all ho9 31 (by kernel_rfl)).trans rfl), (by obtain ⟨_, g, hx⟩ := hv 8 _ 32 rfl rfl; exact g.trans (congrArg some hx)), (by obtain ⟨_, g, hx⟩ := hv 0 _ 33 rfl rfl; exact g.trans (congrArg some hx)), (by obtain ⟨_, g, hx⟩ := hv 1 _ 34 rfl rfl; exact g.trans (congrArg some hx)), (by obtain ⟨_, g, hx⟩ := hv 2 _ 35 rfl rfl; exact g.trans (congrArg some hx)), (by obtain ⟨_, g, hx⟩ := hv 3 _ 36 rfl rfl; exact g.trans (congrArg some hx)), (by obtain ⟨_, g, hx⟩ := hv 4 _ 37 rfl rfl; exact g.trans (congrArg some hx)), (by obtain ⟨_, g, hx⟩ := hv 5 _ 38 rfl rfl; exact g.trans (congrArg some hx)), (by obtain ⟨_, g, hx⟩ := hv 6 _ 39 rfl rfl; exact g.trans (congrArg some hx)), (by obtain ⟨_, g, hx⟩ := hv 7 _ 40 rfl rfl; exact g.trans (congrArg some hx)), (by obtain ⟨_, g, hx⟩ := hv 9 _ 41 rfl rfl; exact g.trans (congrArg some hx)), (by obtain ⟨_, g, hx⟩ := hv 10 _ 42 rfl rfl; exact g.trans (congrArg some hx)), ((kept_all ho9 43 (by kernel_rfl)).trans rfl), ((kept_all ho9 44 (by kernel_rfl)).trans rfl), ((kept_all ho9 45 (by kernel_rfl)).trans rfl), ((kept_all ho9 46 (by kernel_rfl)).trans rfl), ((kept_all ho9 47 (by kernel_rfl)).trans rfl), ((kept_all ho9 48 (by kernel_rfl)).trans rfl), ((kept_all ho9 49 (by kernel_rfl)).trans rfl), trivial⟩
              subst hfr
              clear hv ho9 hall hΨ hsz hdf
              have q4 := boxed_mov Q4.out hM9 (by omega)
              have q5 := boxed_mov Q5.out hM9 (by omega)
              have ql : wc.heap[x + 3 + 1]? = some (rec .busy none) := (hM9.block (x + 3 + 1) (Array.getElem?_eq_some_iff.1 QL.out).1 (by omega)).trans QL.out
              have c4 := q4.cell
              have f4 := q4.frozen
              have c5 := q5.cell
              have f5 := q5.frozen
              have MW := Lib.hid (HMM.out.trans hM9 (fun i _ hi => .inl hi))
              have QL9 := Lib.hid ql
              have R4 := Lib.hid q4
              have R5 := Lib.hid q5
              clear q4 q5 ql hM9 hO9
              gi_wp2
              have hp : ∀ (Z : World) (o' : Obj), Mov (fun k => k = x + 3 + 1) Z (Z.putObj (x + 3 + 1) o') := fun Z o' => ⟨rfl, rfl, rfl, by simp, fun k _ hk => World.putObj_heap_other hk⟩
              have hl : ((wc.setCell ⟨b, 0, none⟩ (.slice none 0 0)).setCell ⟨b + 1, 0, none⟩ (.int .i64 11)).heap[x + 3 + 1]? = some (rec .busy none) := by
                rw [Below.heap_setCell _ _ _ _ (by show x + 3 + 1 ≠ b + 1; omega), Below.heap_setCell _ _ _ _ (by show x + 3 + 1 ≠ b; omega)]
                exact QL9.out
              refine ⟨hl, ?_, World.putObj_heap_same (Array.getElem?_eq_some_iff.1 hl).1, HNone.out (by trivial), Boxed.other' (Boxed.other (R4.out.set _) (by omega) _) _ (by omega), Boxed.other' ((Boxed.other R5.out (by omega) _).set _) _ (by omega)⟩
              exact ((mov_more (T := fun k => k = g ∨ k = x ∨ k = x + 3 + 1 ∨ k = b ∨ k = b + 1) MW.out (fun k h => by omega)).trans (T := fun k => k = b ∨ k = b + 1) (((Mov.refl (fun k => k = b ∨ k = b + 1) wc).set (Or.inl rfl) 0 _).set (Or.inr rfl) 0 _) (fun i _ hi => .inr (.inr (.inr hi)))).trans (hp _ _) (fun i _ hi => .inr (.inr (.inl hi)))
          | some s =>
            have HMG := Lib.hid hmg
            clear hmg
            gi_wp2
            refine wpIn_region_inv2 (m := 50) (SrtPsi g ls.length w.heap.size o M (some s) X) (SrtPhi [.slice (some ⟨g, 0, none⟩) o ls.length, .slice (some ⟨G, o * 2, none⟩) e e, .int .i64 (h : Int), .slice (some ⟨G, o * 2, none⟩) h e, .slice (some ⟨G, o * 2, none⟩) e e, .int .i64 (h : Int), .slice P f f, .tuple #[.slice (some ⟨g, 0, none⟩) (o + s.length) ls.length, .bool true], .tuple #[.slice (some ⟨g, 0, none⟩) (o + s.length) ls.length, .bool true], .slice (some ⟨g, 0, none⟩) (o + s.length) ls.length, .bool true, .slice (some ⟨g, 0, none⟩) (o + s.length) ls.length, .bool true]) (by kernel_rfl) (by kernel_rfl) (by rintro ⟨_, _, h⟩; obtain ⟨_, ⟨h, _⟩ | ⟨h, _⟩⟩ := h <;> cases h) (by kernel_rfl) rfl (fun _ _ _ _ h => h) ⟨fun _ => rfl, (fun h => by cases h)⟩ ?_ ?_
            · refine ⟨?_, ?_, ?_, ?_, ?_, ?_, ?_, ?_, ?_, ?_, ?_, ?_, ?_, trivial⟩
              · intro ls2 cx wc hΨ hls hun hcl hpr hp hs
                have g7 : cx.tmps[7]? = some (.pointer (some ⟨x, 0, none⟩)) := (hs 7 (by kernel_rfl)).trans rfl
                have hnd : ls2[7]? = some false := Reg2.not_done hcl hls 13 7 0 _ rfl (by kernel_rfl) hun
                have hw := hΨ.1 hnd
                subst hw
                have k7 := HC7.out
                refine Reg2.ok_value (v := .slice (some ⟨g, 0, none⟩) o ls.length) (Reg.wanted_none rfl) ?_ (hΨ.stay 0 (by decide)) rfl
                go_simp
              · intro ls2 cx wc hΨ hls hun hcl hpr hp hs
                have g8 : cx.tmps[8]? = some (.slice (some ⟨G, o * 2, none⟩) e e) := (hs 8 (by kernel_rfl)).trans rfl
                refine Reg2.ok_value (v := .slice (some ⟨G, o * 2, none⟩) e e) (Reg.wanted_none rfl) ?_ (hΨ.stay 1 (by decide)) rfl
                go_simp
              · intro ls2 cx wc hΨ hls hun hcl hpr hp hs
                have g9 : cx.tmps[9]? = some (.int .i64 (h : Int)) := (hs 9 (by kernel_rfl)).trans rfl
                refine Reg2.ok_value (v := .int .i64 (h : Int)) (Reg.wanted_none rfl) ?_ (hΨ.stay 2 (by decide)) rfl
                go_simp
              · intro ls2 cx wc hΨ hls hun hcl hpr hp hs
                have g34 : cx.tmps[34]? = some (.slice (some ⟨G, o * 2, none⟩) e e) := by obtain ⟨_, g, hv⟩ := Reg.pred hp 1 34 (by kernel_rfl) rfl rfl; exact g.trans (congrArg some hv)
                have g35 : cx.tmps[35]? = some (.int .i64 (h : Int)) := by obtain ⟨_, g, hv⟩ := Reg.pred hp 2 35 (by kernel_rfl) rfl rfl; exact g.trans (congrArg some hv)
                refine Reg2.ok_value (v := .slice (some ⟨G, o * 2, none⟩) h e) (Reg.wanted_none rfl) ?_ (hΨ.stay 3 (by decide)) rfl
                go_simp
              · intro ls2 cx wc hΨ hls hun hcl hpr hp hs
                have g8 : cx.tmps[8]? = some (.slice (some ⟨G, o * 2, none⟩) e e) := (hs 8 (by kernel_rfl)).trans rfl
                refine Reg2.ok_value (v := .slice (some ⟨G, o * 2, none⟩) e e) (Reg.wanted_none rfl) ?_ (hΨ.stay 4 (by decide)) rfl
                go_simp
              · intro ls2 cx wc hΨ hls hun hcl hpr hp hs
                have g9 : cx.tmps[9]? = some (.int .i64 (h : Int)) := (hs 9 (by kernel_rfl)).trans rfl
                refine Reg2.ok_value (v := .int .i64 (h : Int)) (Reg.wanted_none rfl) ?_ (hΨ.stay 5 (by decide)) rfl
                go_simp
              · intro ls2 cx wc hΨ hls hun hcl hpr hp hs
                have g37 : cx.tmps[37]? = some (.slice (some ⟨G, o * 2, none⟩) e e) := by obtain ⟨_, g, hv⟩ := Reg.pred hp 4 37 (by kernel_rfl) rfl rfl; exact g.trans (congrArg some hv)
                have g38 : cx.tmps[38]? = some (.int .i64 (h : Int)) := by obtain ⟨_, g, hv⟩ := Reg.pred hp 5 38 (by kernel_rfl) rfl rfl; exact g.trans (congrArg some hv)
                refine Reg2.ok_value (v := .slice P f f) (Reg.wanted_none rfl) ?_ (hΨ.stay 6 (by decide)) rfl
                go_simp
              · intro ls2 cx wc hΨ hls hun hcl hpr hp hs
                have g33 : cx.tmps[33]? = some (.slice (some ⟨g, 0, none⟩) o ls.length) := by obtain ⟨_, g, hv⟩ := Reg.pred hp 0 33 (by kernel_rfl) rfl rfl; exact g.trans (congrArg some hv)
                have g36 : cx.tmps[36]? = some (.slice (some ⟨G, o * 2, none⟩) h e) := by obtain ⟨_, g, hv⟩ := Reg.pred hp 3 36 (by kernel_rfl) rfl rfl; exact g.trans (congrArg some hv)
                have g39 : cx.tmps[39]? = some (.slice P f f) := by obtain ⟨_, g, hv⟩ := Reg.pred hp 6 39 (by kernel_rfl) rfl rfl; exact g.trans (congrArg some hv)
                have hw := hΨ.1 hun
                subst hw
                refine Reg2.ok_call (f := 29) (args := #[.slice (some ⟨g, 0, none⟩) o ls.length, .slice (some ⟨G, o * 2, none⟩) h e, .slice P f f]) (Reg.wanted_none rfl) (by go_simp) (HMG.out.mono ?_)
                rintro e9 w9 ⟨rfl, hO9, hM9⟩
                exact ⟨_, rfl, ⟨(fun h => by rw [Array.getElem?_setIfInBounds_self_of_lt (by rw [hls]; decide)] at h; cases h), fun _ => ⟨(Mov.refl _ X).drew.trans hM9 (fun _ _ h => h), fun s' e => by cases e; exact hO9⟩⟩, rfl⟩
              · intro ls2 cx wc hΨ hls hun hcl hpr hp hs
                have g40 : cx.tmps[40]? = some (.tuple #[.slice (some ⟨g, 0, none⟩) (o + s.length) ls.length, .bool true]) := by obtain ⟨_, g, hv⟩ := Reg.pred hp 7 40 (by kernel_rfl) rfl rfl; exact g.trans (congrArg some hv)
                refine Reg2.ok_value (v := .tuple #[.slice (some ⟨g, 0, none⟩) (o + s.length) ls.length, .bool true]) (Reg.wanted_none rfl) ?_ (hΨ.stay 8 (by decide)) rfl
                go_simp
              · intro ls2 cx wc hΨ hls hun hcl hpr hp hs
                have g32 : cx.tmps[32]? = some (.tuple #[.slice (some ⟨g, 0, none⟩) (o + s.length) ls.length, .bool true]) := by obtain ⟨_, g, hv⟩ := Reg.pred hp 8 32 (by kernel_rfl) rfl rfl; exact g.trans (congrArg some hv)
                refine Reg2.ok_value (v := .slice (some ⟨g, 0, none⟩) (o + s.length) ls.length) (Reg.wanted_none rfl) ?_ (hΨ.stay 9 (by decide)) rfl
                go_simp
              · intro ls2 cx wc hΨ hls hun hcl hpr hp hs
                have g32 : cx.tmps[32]? = some (.tuple #[.slice (some ⟨g, 0, none⟩) (o + s.length) ls.length, .bool true]) := by obtain ⟨_, g, hv⟩ := Reg.pred hp 8 32 (by kernel_rfl) rfl rfl; exact g.trans (congrArg some hv)
                refine Reg2.ok_value (v := .bool true) (Reg.wanted_none rfl) ?_ (hΨ.stay 10 (by decide)) rfl
                go_simp
              · intro ls2 cx wc hΨ hls hun hcl hpr hp hs
                have g41 : cx.tmps[41]? = some (.slice (some ⟨g, 0, none⟩) (o + s.length) ls.length) := by obtain ⟨_, g, hv⟩ := Reg.pred hp 9 41 (by kernel_rfl) rfl rfl; exact g.trans (congrArg some hv)
                refine Reg2.ok_value (v := .slice (some ⟨g, 0, none⟩) (o + s.length) ls.length) (Reg.wanted_none rfl) ?_ (hΨ.stay 11 (by decide)) rfl
                go_simp
              · intro ls2 cx wc hΨ hls hun hcl hpr hp hs
                have g42 : cx.tmps[42]? = some (.bool true) := by obtain ⟨_, g, hv⟩ := Reg.pred hp 10 42 (by kernel_rfl) rfl rfl; exact g.trans (congrArg some hv)
                refine Reg2.ok_value (v := .bool true) (Reg.wanted_none rfl) ?_ (hΨ.stay 12 (by decide)) rfl
                go_simp
            · intro ls2 cx wc hΨ hls hall hsz hdf hv ho9
              obtain ⟨hM9, hO9⟩ := hΨ.2 (hall 7 (by decide))
              have hfr := Reg.frame_eq [_, _, _, _, _, _, _, _, _, _, .slice (some ⟨g, 0, none⟩) (o + s.length) ls.length, .bool true, _, _, _, _, _, _, _, _, _, _, _, _, _, _, _, _, _, _, _, _, .tuple #[.slice (some ⟨g, 0, none⟩) (o + s.length) ls.length, .bool true], .slice (some ⟨g, 0, none⟩) o ls.length, .slice (some ⟨G, o * 2, none⟩) e e, .int .i64 (h : Int), .slice (some ⟨G, o * 2, none⟩) h e, .slice (some ⟨G, o * 2, none⟩) e e, .int .i64 (h : Int), .slice P f f, .tuple #[.slice (some ⟨g, 0, none⟩) (o + s.length) ls.length, .bool true], .slice (some ⟨g, 0, none⟩) (o + s.length) ls.length, .bool true, _, _, _, _, _, _, _] (by simpa using hsz) hdf ⟨((kept_all ho9 0 (by kernel_rfl)).trans rfl), ((kept_all ho9 1 (by kernel_rfl)).trans rfl), ((kept_all ho9 2 (by kernel_rfl)).trans rfl), ((kept_all ho9 3 (by kernel_rfl)).trans rfl), ((kept_all ho9 4 (by kernel_rfl)).trans rfl), ((kept_all ho9 5 (by kernel_rfl)).trans rfl), ((kept_all ho9 6 (by kernel_rfl)).trans rfl), ((kept_all ho9 7 (by kernel_rfl)).trans rfl), ((kept_all ho9 8 (by kernel_rfl)).trans rfl), ((kept_all ho9 9 (by kernel_rfl)).trans rfl), (by obtain ⟨_, g, hx⟩ := hv 11 _ 10 rfl rfl; exact g.trans (congrArg some hx)), (by obtain ⟨_, g, hx⟩ := hv 12 _ 11 rfl rfl; exact g.trans (congrArg some hx)), ((kept_all ho9 12 (by kernel_rfl)).trans rfl), ((kept_all ho9 13 (by kernel_rfl)).trans rfl), ((kept_all ho9 14 (by kernel_rfl)).trans rfl), ((kept_all ho9 15 (by kernel_rfl)).trans rfl), ((kept_all ho9 16 (by kernel_rfl)).trans rfl), ((kept_all ho9 17 (by kernel_rfl)).trans rfl), ((kept_all ho9 18 (by kernel_rfl)).trans rfl), ((kept_all ho9 19 (by kernel_rfl)).trans rfl), ((kept_all ho9 20 (by kernel_rfl)).trans rfl), ((kept_all ho9 21 (by kernel_rfl)).trans rfl), ((kept_all ho9 22 (by kernel_rfl)).trans rfl), ((kept_all ho9 23 (by kernel_rfl)).trans rfl), ((kept_all ho9 24 (by kernel_rfl)).trans rfl), ((kept_all ho9 25 (by kernel_rfl)).trans rfl), ((kept_all ho9 26 (by kernel_rfl)).trans rfl), ((kept_all ho9 27 (by kernel_rfl)).trans rfl), ((kept_all ho9 28 (by kernel_rfl)).trans rfl), ((kept_all ho9 29 (by kernel_rfl)).trans rfl), ((kept_all ho9 30 (by kernel_rfl)).trans rfl), ((kept_all ho9 31 (by kernel_rfl)).trans rfl), (by obtain ⟨_, g, hx⟩ := hv 8 _ 32 rfl rfl; exact g.trans (congrArg some hx)), (by obtain ⟨_, g, hx⟩ := hv 0 _ 33 rfl rfl; exact g.trans (congrArg some hx)), (by obtain ⟨_, g, hx⟩ := hv 1 _ 34 rfl rfl; exact g.trans (congrArg some hx)), (by obtain ⟨_, g, hx⟩ := hv 2 _ 35 rfl rfl; exact g.trans (congrArg some hx)), (by obtain ⟨_, g, hx⟩ := hv 3 _ 36 rfl rfl; exact g.trans (congrArg some hx)), (by obtain ⟨_, g, hx⟩ := hv 4 _ 37 rfl rfl; exact g.trans (congrArg some hx)), (by obtain ⟨_, g, hx⟩ := hv 5 _ 38 rfl rfl; exact g.trans (congrArg some hx)), (by obtain ⟨_, g, hx⟩ := hv 6 _ 39 rfl rfl; exact g.trans (congrArg some hx)), (by obtain ⟨_, g, hx⟩ := hv 7 _ 40 rfl rfl; exact g.trans (congrArg some hx)), (by obtain ⟨_, g, hx⟩ := hv 9 _ 41 rfl rfl; exact g.trans (congrArg some hx)), (by obtain ⟨_, g, hx⟩ := hv 10 _ 42 rfl rfl; exact g.trans (congrArg some hx)), ((kept_all ho9 43 (by kernel_rfl)).trans rfl), ((kept_all ho9 44 (by kernel_rfl)).trans rfl), ((kept_all ho9 45 (by kernel_rfl)).trans rfl), ((kept_all ho9 46 (by kernel_rfl)).trans rfl), ((kept_all ho9 47 (by kernel_rfl)).trans rfl), ((kept_all ho9 48 (by kernel_rfl)).trans rfl), ((kept_all ho9 49 (by kernel_rfl)).trans rfl), trivial⟩
              subst hfr
              clear hv ho9 hall hΨ hsz hdf
              have q7 := boxed_mov Q7.out hM9 (by omega)
              have ql : wc.heap[x + 3 + 1]? = some (rec .busy none) := (hM9.block (x + 3 + 1) (Array.getElem?_eq_some_iff.1 QL.out).1 (by omega)).trans QL.out
              have c7 := q7.cell
              have f7 := q7.frozen
              have MW := Lib.hid (HMM.out.trans hM9 (fun i _ hi => .inl hi))
              have QL9 := Lib.hid ql
              have R7 := Lib.hid q7
              have RO := Lib.hid (hO9 s rfl)
              clear q7 ql hM9 hO9
              gi_wp2
              have hp : ∀ (Z : World) (o' : Obj), Mov (fun k => k = x + 3 + 1) Z (Z.putObj (x + 3 + 1) o') := fun Z o' => ⟨rfl, rfl, rfl, by simp, fun k _ hk => World.putObj_heap_other hk⟩
              have hl : (wc.setCell ⟨x, 0, none⟩ (.slice (some ⟨g, 0, none⟩) (o + s.length) ls.length)).heap[x + 3 + 1]? = some (rec .busy none) := by
                rw [Below.heap_setCell _ _ _ _ (by show x + 3 + 1 ≠ x; omega)]
                exact QL9.out
              obtain ⟨_, _, s3, s4⟩ := HSome.out s rfl
              have hml : (M ++ s).length = o + s.length := by rw [List.length_append, HMl.out]
              refine ⟨hl, ?_, World.putObj_heap_same (Array.getElem?_eq_some_iff.1 hl).1, ⟨j + 1, by rw [Nat.add_mul, Nat.one_mul, ← HJ9.out]⟩, M ++ s, s3, s4, ?_, ?_⟩
              · exact (MW.out.trans (T := fun k => k = x) ((Mov.refl (fun k => k = x) wc).set rfl 0 _) (fun i _ hi => .inr (.inl hi))).trans (hp _ _) (fun i _ hi => .inr (.inr hi))
              · rw [hml]
                exact Boxed.other' (R7.out.set _) _ (by omega)
              · rw [hml]
                exact OwnL.put (OwnL.mov RO.out ((Mov.refl (fun k => k = x) wc).set rfl 0 _) (fun k hk hb => by cases hk; exact absurd (show g = x from hb) (by omega))) _ hl (by rw [HR.out]; intro cur fr e; cases e)
    · obtain ⟨pv, cv, rfl⟩ := HS.out.own.len
      have c4 := HS.out.box4.cell
      have c5 := HS.out.box5.cell
      have hk : sortK ls = some S := sortK_is (HS.out.runs.all (by rw [HSL.out]; omega)) HS.out.perm
      have HKK := Lib.hid hk
      clear hk hJ
      gi_wp2
      refine wpIn_wide.2 ?_
      go_quiet (fail)
      gi_wp2
      refine leaves_marks (N := w.heap.size) rs _ HS.out.once (fun r hr => ⟨by have := (HS.out.marks r hr).2.1; have := HS.out.hb.1; omega, (HS.out.marks r hr).2.2⟩) fun w' hM => ⟨.tuple #[.slice pv S.length cv, .int .i64 0], by simp [results, Try.results12, go_sem], ?_⟩
      have hM2 : Mov (fun k => k ∈ rs) W w' := (Mov.refl _ W).drewN _ |>.trans hM (fun _ _ h => h)
      show SortEnd w (sortK ls) _ _
      rw [HKK.out]
      refine ⟨_, rfl, HS.out.own.mov hM2 fun g hg hr => ?_, HS.out.below.trans (hM2.below (fun k hk => by have := (HS.out.marks k hk).2.1; have := HS.out.hb.1; omega) HS.out.below.size)⟩
      have h1 := (HS.out.marks g hr).2.2
      rcases HS.out.own.2 with ⟨h2, _⟩ | ⟨g', cap', cur, h2, _, h3, _⟩
      · rw [h2] at hg; cases hg
      · rw [h2] at hg
        cases hg
        rw [h1] at h3
        cases h3
end Go.Proofs.Ytlocjhnlemlnmaa.Lx
