/- The chapter's own side: texts cut at a byte. The chapter's own side: a policy of its numbers. -/
import Derived.Test.YtdhkonaebhpeeaaDoorPoU
import Derived.Test.YtdhkonaebhpeeaaDoorPoRd
import Derived.Test.YtdhkonaebhpeeaaDoorReg4
namespace Go.Proofs.YtdhkonaebhpeeaaDoor.Po
open Go Go.RowKit

theorem cutB_len (b : UInt8) : ∀ l : List UInt8, (cutB b l).length ≤ l.length + 1
  | [] => by simp [cutB]
  | c :: r => by
    have ih := cutB_len b r
    unfold cutB
    split
    · simp; omega
    · split
      · simp
      · rename_i h
        rw [h] at ih
        simp at ih ⊢
        omega
/-- What is cut so far, what has been met since, what is left. -/
def CutAt (b : UInt8) (s : List UInt8) (L : List (List UInt8)) (f i : Nat) : Prop :=
  f ≤ i ∧ b ∉ (s.drop f).take (i - f) ∧ cutB b s = L ++ cutB b ((s.drop f).take (i - f) ++ s.drop i)
theorem cutAt_start (b : UInt8) (s : List UInt8) : CutAt b s [] 0 0 := ⟨Nat.le_refl _, by simp, by simp⟩
theorem cutAt_len {b : UInt8} {s : List UInt8} {L : List (List UInt8)} {f i : Nat} (h : CutAt b s L f i) : L.length ≤ s.length := by
  have h1 := cutB_len b s
  rw [h.2.2, List.length_append] at h1
  have h2 : 0 < (cutB b ((s.drop f).take (i - f) ++ s.drop i)).length := List.length_pos_iff.2 (cutB_ne _ _)
  omega
theorem take_step {s : List UInt8} {f i : Nat} (hf : f ≤ i) (hi : i < s.length) : (s.drop f).take (i + 1 - f) = (s.drop f).take (i - f) ++ [s[i]] := by
  rw [show i + 1 - f = i - f + 1 by omega, List.take_succ_eq_append_getElem (by rw [List.length_drop]; omega), List.getElem_drop]
  congr 3
  omega
theorem cutAt_go {b : UInt8} {s : List UInt8} {L : List (List UInt8)} {f i : Nat} (h : CutAt b s L f i) (hi : i < s.length) (hb : s[i] ≠ b) : CutAt b s L f (i + 1) := by
  obtain ⟨h1, h2, h3⟩ := h
  refine ⟨by omega, ?_, ?_⟩
  · rw [take_step h1 hi]
    intro e
    rcases List.mem_append.1 e with e | e
    · exact h2 e
    · exact hb (List.mem_singleton.1 e).symm
  · rw [take_step h1 hi, List.append_assoc, h3]
    rw [List.drop_eq_getElem_cons hi]
    rfl
theorem cutAt_cut {b : UInt8} {s : List UInt8} {L : List (List UInt8)} {f i : Nat} (h : CutAt b s L f i) (hi : i < s.length) (hb : s[i] = b) : CutAt b s (L ++ [(s.drop f).take (i - f)]) (i + 1) (i + 1) := by
  obtain ⟨h1, h2, h3⟩ := h
  refine ⟨Nat.le_refl _, by simp, ?_⟩
  rw [h3, List.drop_eq_getElem_cons hi, hb, cutB_app _ h2]
  simp
theorem cutAt_end {b : UInt8} {s : List UInt8} {L : List (List UInt8)} {f : Nat} (h : CutAt b s L f s.length) : cutB b s = L ++ [(s.drop f).take (s.length - f)] := by
  obtain ⟨h1, h2, h3⟩ := h
  rw [h3, List.drop_length, List.append_nil, cutB_plain h2]
theorem ext_tx (S : ByteArray) (f i : Nat) : S.extract f i = tx ((S.data.toList.drop f).take (i - f)) := by
  rw [← tx_list (S.extract f i)]
  congr 1
  simp [ByteArray.data_extract, Array.toList_extract]
set_option maxRecDepth 100000 in
set_option maxHeartbeats 8000000 in
theorem cut_any (S : ByteArray) (b : UInt8) (hS : S.size ≤ 1099511627776) (w : World) :
    Calls Tryd.prog 42 #[.string S, .int .u8 (b.toNat : Int)] w fun e w' => ∃ v, e = .returned v ∧ OwnT w.heap.size v (cutB b S.data.toList) w' ∧ Below w.heap.size w w' := by
  have HO0 := Lib.hid (OwnT.nil w.heap.size w)
  have HB0 := Lib.hid (Below.refl w.heap.size w)
  have HC0 := Lib.hid (cutAt_start b S.data.toList)
  have hlen : S.data.toList.length = S.size := rfl
  obtain ⟨s, hs⟩ : ∃ s, S.data.toList = s := ⟨_, rfl⟩
  have HEX : Hid (∀ f i, S.extract f i = tx ((s.drop f).take (i - f))) := Lib.hid (fun f i => by rw [ext_tx, hs])
  have HAT : Hid (∀ (i : Nat) (h : i < S.size) (h2 : i < s.length), S[i] = s[i]) := Lib.hid (fun i h h2 => by subst hs; rfl)
  rw [hs] at HC0 hlen ⊢
  have HLN := Lib.hid hlen
  obtain ⟨n, hn⟩ : ∃ n, S.size = n := ⟨_, rfl⟩
  have HN := Lib.hid hn
  have hn2 : n ≤ 1099511627776 := by omega
  clear hs hlen hS
  go_enter Tryd.func42, Tryd.ntmps42
  go_wp2
  go_loopg [5, 6, 7] (n + 1) (fun g s5 s6 s7 wx => ∃ (i f : Nat) (L : List (List UInt8)), s6 = .int .i64 (f : Int) ∧ s7 = .int .i64 (i : Int) ∧ i + g = n + 1 ∧ f ≤ n + 1 ∧ Hid ((i ≤ n ∧ CutAt b s L f i) ∨ (i = n + 1 ∧ cutB b s = L)) ∧ Hid (OwnT w.heap.size s5 L wx) ∧ Hid (Below w.heap.size w wx))
  case atStart => exact ⟨0, 0, [], rfl, rfl, by omega, by omega, Lib.hid (.inl ⟨Nat.zero_le _, HC0.out⟩), HO0, HB0⟩
  case round =>
    clear HO0 HB0 HC0
    obtain ⟨i, f, L, rfl, rfl, hig, hfn, HC, HO, HB⟩ := hrel
    obtain ⟨q, d, rfl⟩ := HO.out.len
    cases gk with
    | zero =>
      obtain rfl : i = n + 1 := by omega
      have HE : Hid (cutB b s = L) := Lib.hid (by
        rcases HC.out with ⟨h, _⟩ | ⟨_, h⟩
        · omega
        · exact h)
      clear HC
      have hin : ((n + 1 : Nat) : Int) = (n : Int) + 1 := by omega
      rw [hin]
      go_wp2
      go_ret
      exact ⟨_, rfl, by rw [HE.out]; exact HO.out, HB.out⟩
    | succ g =>
      have hC : CutAt b s L f i := by
        rcases HC.out with ⟨_, h⟩ | ⟨h, _⟩
        · exact h
        · omega
      have hfi : f ≤ i := hC.1
      have hLl := cutAt_len hC
      have hLs : L.length ≤ n := by rw [HLN.out, HN.out] at hLl; exact hLl
      have hfi' : (f : Int) ≤ (i : Int) := by omega
      have hin : (i : Int) ≤ (n : Int) := by omega
      clear hLl
      by_cases hend : i = n
      · have hieq : (i : Int) = (n : Int) := by omega
        have hex := HEX.out f i
        obtain ⟨x, hx⟩ : ∃ x, (s.drop f).take (i - f) = x := ⟨_, rfl⟩
        rw [hx] at hex
        have HE : Hid (cutB b s = L ++ [x]) := Lib.hid (by
          have hl : s.length = i := by rw [HLN.out, HN.out]; exact hend.symm
          have := cutAt_end (b := b) (s := s) (L := L) (f := f) (by rw [hl]; exact hC)
          rw [this, ← hx, hl])
        obtain ⟨v', w', hr1, hG⟩ := append_T 56 HO.out x (by omega) HB.out.size
        have HB2 := Lib.hid (HB.out.trans (hG.low (N := w.heap.size) (fun g hg => (HO.out.lt hg).1) HB.out.size))
        have HO2 := Lib.hid hG.1
        have HR := Lib.hid hr1
        subst hend
        clear hx hC HC hr1 hG HO HB
        go_wp2_with (first | (at_builtin; refine Lib.wpList_append_run _ rfl _ _ _ _ rfl _ _ rfl rfl _ _ HR.out ?_))
        go_roundg g
        case measure => omega
        case rel => exact ⟨i + 1, i + 1, L ++ [x], by go_num, by go_num, by omega, by omega, Lib.hid (.inr ⟨rfl, HE.out⟩), HO2, HB2⟩
      · have hlt : i < n := by omega
        have hiS : i < S.size := by omega
        have his : i < s.length := by rw [HLN.out]; exact hiS
        have hat := HAT.out i hiS his
        have hni : ¬ (i : Int) = (n : Int) := by omega
        have hlti : (i : Int) < (n : Int) := by omega
        by_cases hb : s[i] = b
        · have hSb : S[i] = b := by rw [hat]; exact hb
          have hex := HEX.out f i
          have HE := Lib.hid (cutAt_cut hC his hb)
          obtain ⟨x, hx⟩ : ∃ x, (s.drop f).take (i - f) = x := ⟨_, rfl⟩
          rw [hx] at hex HE
          obtain ⟨v', w', hr1, hG⟩ := append_T 56 HO.out x (by omega) HB.out.size
          have HB2 := Lib.hid (HB.out.trans (hG.low (N := w.heap.size) (fun g hg => (HO.out.lt hg).1) HB.out.size))
          have HO2 := Lib.hid hG.1
          have HR := Lib.hid hr1
          clear hx hC HC hr1 hG HO HB hat hb his hend
          go_wp2_with (first | (at_builtin; refine Lib.wpList_append_run _ rfl _ _ _ _ rfl _ _ rfl rfl _ _ HR.out ?_))
          go_roundg g
          case measure => omega
          case rel => exact ⟨i + 1, i + 1, L ++ [x], by go_num, by go_num, by omega, by omega, Lib.hid (.inl ⟨by omega, HE.out⟩), HO2, HB2⟩
        · have hne : ¬ ((S[i]).toNat : Int) = (b.toNat : Int) := by
            rw [hat]
            intro e
            exact hb (UInt8.toNat_inj.1 (by omega))
          have hne2 : (((S[i]).toNat : Int) == (b.toNat : Int)) = false := by simpa using hne
          have HE := Lib.hid (cutAt_go hC his hb)
          clear hC HC hat hb his hend
          go_wp2
          go_roundg g
          case measure => omega
          case rel => exact ⟨i + 1, f, L, rfl, by go_num, by omega, by omega, Lib.hid (.inl ⟨by omega, HE.out⟩), HO, HB⟩
end Go.Proofs.YtdhkonaebhpeeaaDoor.Po

namespace Go.Proofs.YtdhkonaebhpeeaaDoor.Po
open Go Go.RowKit

def LiPhi (vs : List Value) : Nat → Value → World → Prop := fun i v _ => v = vs.getD i undef
theorem LiPhi.stays {vs : List Value} : ∀ i v w w', LiPhi vs i v w → Reg.Old w w' → LiPhi vs i v w' := fun _ _ _ _ h _ => h
theorem pv0 {l : List Oper} {o o' : Oper} {a : Act} {w : World} {vs : List Value} {v : Value} (hp : ∀ e ∈ o.after.toList, Region.binds .any e = true → ∀ o' d, l[e.on]? = some o' → o'.dst = some d → ∃ v, a.tmps[d]? = some v ∧ LiPhi vs e.on v w) (k d : Nat) (h1 : (o.after.any fun e => Region.binds .any e && (e.on == k)) = true) (h2 : l[k]? = some o') (h3 : o'.dst = some d) (h4 : vs.getD k undef = v) : a.tmps[d]? = some v := by
  obtain ⟨u, g, hv⟩ := Reg.pred hp k d h1 h2 h3
  exact g.trans (congrArg some (hv.trans h4))
theorem store_cells_then {P : Program} {o : Oper} {a : Act} {w : World} {Q : Exit → Act → World → Prop} (ty : TypeId) (x y : Operand) (ho : o.op = .store ty x y) (hd : o.dst = none)
    (g : Nat) (new old : Array Value) (hx : a.eval x = .pointer (some ⟨g, 0, none⟩)) (hy : a.eval y = .agg new) (hg : CellsAt g old w) (hi : (P.info? ty).map (·.size) = some new.size) (hold : old.size = new.size) (h1 : new.all (·.oneCell') = true)
    (h : Q .normal a (w.setCells g 0 new.toList)) : o.wp P a w (fun a' w' => Q .normal a' w') Q := by
  refine Reg.store_then (w2 := w.setCells g 0 new.toList) ?_ hd h
  unfold execOp
  simp only [ho, hx, hy, Instr.storeAt, Instr.sureAddr, Sem.run_bind, Sem.run_pure, Result.andThen_ok, run_store_cells hg hi hold h1]
set_option maxRecDepth 100000 in
set_option maxHeartbeats 16000000 in
theorem of_any (x0 x1 x2 x3 x4 x5 x6 x7 x8 x9 : Int) (G cap : Nat) (q : Option Addr) (l d : Nat) (w : World) (hG0 : G < w.heap.size) (hcap : 10 ≤ cap) (h0 : w.cell? ⟨G, 0, none⟩ = some (.int .i64 x0)) (h1 : w.cell? ⟨G, 1, none⟩ = some (.int .i64 x1)) (h2 : w.cell? ⟨G, 2, none⟩ = some (.int .i64 x2)) (h3 : w.cell? ⟨G, 3, none⟩ = some (.int .i64 x3)) (h4 : w.cell? ⟨G, 4, none⟩ = some (.int .i64 x4)) (h5 : w.cell? ⟨G, 5, none⟩ = some (.int .i64 x5)) (h6 : w.cell? ⟨G, 6, none⟩ = some (.int .i64 x6)) (h7 : w.cell? ⟨G, 7, none⟩ = some (.int .i64 x7)) (h8 : w.cell? ⟨G, 8, none⟩ = some (.int .i64 x8)) (h9 : w.cell? ⟨G, 9, none⟩ = some (.int .i64 x9)) :
    Calls Tryd.prog 44 #[.slice (some ⟨G, 0, none⟩) 10 cap, .slice q l d] w fun e w' => e = .returned (.agg (valsP [x0, x1, x2, x3, x4, x5, x6, x7, x8, x9] (.slice q l d))) ∧ Below w.heap.size w w' := by
  obtain ⟨C, hC⟩ : ∃ C, w.heap.size = C := ⟨_, rfl⟩
  have hB0 : Below C w (w.alloc (.cells #[.int .i64 0, .int .i64 0, .int .i64 0, .int .i64 0, .int .i64 0, .int .i64 0, .int .i64 0, .int .i64 0, .int .i64 0, .int .i64 0, .slice none 0 0] 33)) := (Below.refl _ _).alloc (by omega) _
  have hZ0 : PolAt C zeroN (.slice none 0 0) (w.alloc (.cells #[.int .i64 0, .int .i64 0, .int .i64 0, .int .i64 0, .int .i64 0, .int .i64 0, .int .i64 0, .int .i64 0, .int .i64 0, .int .i64 0, .slice none 0 0] 33)).drew := CellsAt.drew (CellsAt.newAt #[.int .i64 0, .int .i64 0, .int .i64 0, .int .i64 0, .int .i64 0, .int .i64 0, .int .i64 0, .int .i64 0, .int .i64 0, .int .i64 0, .slice none 0 0] 33 w C hC.symm)
  have hG : G < (w.alloc (.cells #[.int .i64 0, .int .i64 0, .int .i64 0, .int .i64 0, .int .i64 0, .int .i64 0, .int .i64 0, .int .i64 0, .int .i64 0, .int .i64 0, .slice none 0 0] 33)).drew.heap.size := by simp [World.drew]; omega
  have hB1 : Below w.heap.size w (w.alloc (.cells #[.int .i64 0, .int .i64 0, .int .i64 0, .int .i64 0, .int .i64 0, .int .i64 0, .int .i64 0, .int .i64 0, .int .i64 0, .int .i64 0, .slice none 0 0] 33)) := by rw [hC]; exact hB0
  have r0 : (w.alloc (.cells #[.int .i64 0, .int .i64 0, .int .i64 0, .int .i64 0, .int .i64 0, .int .i64 0, .int .i64 0, .int .i64 0, .int .i64 0, .int .i64 0, .slice none 0 0] 33)).drew.cell? ⟨G, 0, none⟩ = some (.int .i64 x0) := (hB1.cell (p := ⟨G, 0, none⟩) hG0).trans h0
  have r1 : (w.alloc (.cells #[.int .i64 0, .int .i64 0, .int .i64 0, .int .i64 0, .int .i64 0, .int .i64 0, .int .i64 0, .int .i64 0, .int .i64 0, .int .i64 0, .slice none 0 0] 33)).drew.cell? ⟨G, 1, none⟩ = some (.int .i64 x1) := (hB1.cell (p := ⟨G, 1, none⟩) hG0).trans h1
  have r2 : (w.alloc (.cells #[.int .i64 0, .int .i64 0, .int .i64 0, .int .i64 0, .int .i64 0, .int .i64 0, .int .i64 0, .int .i64 0, .int .i64 0, .int .i64 0, .slice none 0 0] 33)).drew.cell? ⟨G, 2, none⟩ = some (.int .i64 x2) := (hB1.cell (p := ⟨G, 2, none⟩) hG0).trans h2
  have r3 : (w.alloc (.cells #[.int .i64 0, .int .i64 0, .int .i64 0, .int .i64 0, .int .i64 0, .int .i64 0, .int .i64 0, .int .i64 0, .int .i64 0, .int .i64 0, .slice none 0 0] 33)).drew.cell? ⟨G, 3, none⟩ = some (.int .i64 x3) := (hB1.cell (p := ⟨G, 3, none⟩) hG0).trans h3
  have r4 : (w.alloc (.cells #[.int .i64 0, .int .i64 0, .int .i64 0, .int .i64 0, .int .i64 0, .int .i64 0, .int .i64 0, .int .i64 0, .int .i64 0, .int .i64 0, .slice none 0 0] 33)).drew.cell? ⟨G, 4, none⟩ = some (.int .i64 x4) := (hB1.cell (p := ⟨G, 4, none⟩) hG0).trans h4
  have r5 : (w.alloc (.cells #[.int .i64 0, .int .i64 0, .int .i64 0, .int .i64 0, .int .i64 0, .int .i64 0, .int .i64 0, .int .i64 0, .int .i64 0, .int .i64 0, .slice none 0 0] 33)).drew.cell? ⟨G, 5, none⟩ = some (.int .i64 x5) := (hB1.cell (p := ⟨G, 5, none⟩) hG0).trans h5
  have r6 : (w.alloc (.cells #[.int .i64 0, .int .i64 0, .int .i64 0, .int .i64 0, .int .i64 0, .int .i64 0, .int .i64 0, .int .i64 0, .int .i64 0, .int .i64 0, .slice none 0 0] 33)).drew.cell? ⟨G, 6, none⟩ = some (.int .i64 x6) := (hB1.cell (p := ⟨G, 6, none⟩) hG0).trans h6
  have r7 : (w.alloc (.cells #[.int .i64 0, .int .i64 0, .int .i64 0, .int .i64 0, .int .i64 0, .int .i64 0, .int .i64 0, .int .i64 0, .int .i64 0, .int .i64 0, .slice none 0 0] 33)).drew.cell? ⟨G, 7, none⟩ = some (.int .i64 x7) := (hB1.cell (p := ⟨G, 7, none⟩) hG0).trans h7
  have r8 : (w.alloc (.cells #[.int .i64 0, .int .i64 0, .int .i64 0, .int .i64 0, .int .i64 0, .int .i64 0, .int .i64 0, .int .i64 0, .int .i64 0, .int .i64 0, .slice none 0 0] 33)).drew.cell? ⟨G, 8, none⟩ = some (.int .i64 x8) := (hB1.cell (p := ⟨G, 8, none⟩) hG0).trans h8
  have r9 : (w.alloc (.cells #[.int .i64 0, .int .i64 0, .int .i64 0, .int .i64 0, .int .i64 0, .int .i64 0, .int .i64 0, .int .i64 0, .int .i64 0, .int .i64 0, .slice none 0 0] 33)).drew.cell? ⟨G, 9, none⟩ = some (.int .i64 x9) := (hB1.cell (p := ⟨G, 9, none⟩) hG0).trans h9
  have hBd : Below C w (w.alloc (.cells #[.int .i64 0, .int .i64 0, .int .i64 0, .int .i64 0, .int .i64 0, .int .i64 0, .int .i64 0, .int .i64 0, .int .i64 0, .int .i64 0, .slice none 0 0] 33)).drew := hB0.drew
  have hsz0 : C ≤ w.heap.size := by omega
  clear hB0 hB1 hG0 h0 h1 h2 h3 h4 h5 h6 h7 h8 h9
  rw [hC]
  go_enter Tryd.func44, Tryd.ntmps44
  go_wp2
  clear hC
  generalize w.alloc (.cells #[.int .i64 0, .int .i64 0, .int .i64 0, .int .i64 0, .int .i64 0, .int .i64 0, .int .i64 0, .int .i64 0, .int .i64 0, .int .i64 0, .slice none 0 0] 33) = W at *
  refine Reg.wp_region_last2 (n := 37) 32 (LiPhi [.slice (some ⟨G, 0, none⟩) 10 cap, .pointer (some ⟨G, 0, none⟩), .int .i64 x0, .slice (some ⟨G, 0, none⟩) 10 cap, .pointer (some ⟨G, 1, none⟩), .int .i64 x1, .slice (some ⟨G, 0, none⟩) 10 cap, .pointer (some ⟨G, 2, none⟩), .int .i64 x2, .slice (some ⟨G, 0, none⟩) 10 cap, .pointer (some ⟨G, 3, none⟩), .int .i64 x3, .slice (some ⟨G, 0, none⟩) 10 cap, .pointer (some ⟨G, 4, none⟩), .int .i64 x4, .slice (some ⟨G, 0, none⟩) 10 cap, .pointer (some ⟨G, 5, none⟩), .int .i64 x5, .slice (some ⟨G, 0, none⟩) 10 cap, .pointer (some ⟨G, 6, none⟩), .int .i64 x6, .slice (some ⟨G, 0, none⟩) 10 cap, .pointer (some ⟨G, 7, none⟩), .int .i64 x7, .slice (some ⟨G, 0, none⟩) 10 cap, .pointer (some ⟨G, 8, none⟩), .int .i64 x8, .slice (some ⟨G, 0, none⟩) 10 cap, .pointer (some ⟨G, 9, none⟩), .int .i64 x9, .slice q l d, .agg #[.int .i64 x0, .int .i64 x1, .int .i64 x2, .int .i64 x3, .int .i64 x4, .int .i64 x5, .int .i64 x6, .int .i64 x7, .int .i64 x8, .int .i64 x9, .slice q l d]]) (by kernel_rfl) rfl (by kernel_rfl) (by kernel_rfl) rfl LiPhi.stays ?_ ?_
  · refine ⟨?_, ?_, ?_, ?_, ?_, ?_, ?_, ?_, ?_, ?_, ?_, ?_, ?_, ?_, ?_, ?_, ?_, ?_, ?_, ?_, ?_, ?_, ?_, ?_, ?_, ?_, ?_, ?_, ?_, ?_, ?_, ?_, ?_, trivial⟩
    · intro _ cx wc hB hp hq
      have g0 : cx.tmps[0]? = some (.slice (some ⟨G, 0, none⟩) 10 cap) := (hq 0 (by kernel_rfl)).trans rfl
      refine Reg.ok_value Reg.Old.refl (v := .slice (some ⟨G, 0, none⟩) 10 cap) (Reg.wanted_none rfl) ?_ rfl
      go_simp
    · intro _ cx wc hB hp hq
      have g5 := pv0 (v := .slice (some ⟨G, 0, none⟩) 10 cap) hp 0 5 (by kernel_rfl) rfl rfl rfl
      refine Reg.ok_value Reg.Old.refl (v := .pointer (some ⟨G, 0, none⟩)) (Reg.wanted_none rfl) ?_ rfl
      go_simp
    · intro _ cx wc hB hp hq
      have g6 := pv0 (v := .pointer (some ⟨G, 0, none⟩)) hp 1 6 (by kernel_rfl) rfl rfl rfl
      have c0 := (Below.cell (p := ⟨G, 0, none⟩) hB hG).trans r0
      refine Reg.ok_value Reg.Old.refl (v := .int .i64 x0) (Reg.wanted_none rfl) ?_ rfl
      go_simp
    · intro _ cx wc hB hp hq
      have g0 : cx.tmps[0]? = some (.slice (some ⟨G, 0, none⟩) 10 cap) := (hq 0 (by kernel_rfl)).trans rfl
      refine Reg.ok_value Reg.Old.refl (v := .slice (some ⟨G, 0, none⟩) 10 cap) (Reg.wanted_none rfl) ?_ rfl
      go_simp
    · intro _ cx wc hB hp hq
      have g8 := pv0 (v := .slice (some ⟨G, 0, none⟩) 10 cap) hp 3 8 (by kernel_rfl) rfl rfl rfl
      refine Reg.ok_value Reg.Old.refl (v := .pointer (some ⟨G, 1, none⟩)) (Reg.wanted_none rfl) ?_ rfl
      go_simp
    · intro _ cx wc hB hp hq
      have g9 := pv0 (v := .pointer (some ⟨G, 1, none⟩)) hp 4 9 (by kernel_rfl) rfl rfl rfl
      have c1 := (Below.cell (p := ⟨G, 1, none⟩) hB hG).trans r1
      refine Reg.ok_value Reg.Old.refl (v := .int .i64 x1) (Reg.wanted_none rfl) ?_ rfl
      go_simp
    · intro _ cx wc hB hp hq
      have g0 : cx.tmps[0]? = some (.slice (some ⟨G, 0, none⟩) 10 cap) := (hq 0 (by kernel_rfl)).trans rfl
      refine Reg.ok_value Reg.Old.refl (v := .slice (some ⟨G, 0, none⟩) 10 cap) (Reg.wanted_none rfl) ?_ rfl
      go_simp
    · intro _ cx wc hB hp hq
      have g11 := pv0 (v := .slice (some ⟨G, 0, none⟩) 10 cap) hp 6 11 (by kernel_rfl) rfl rfl rfl
      refine Reg.ok_value Reg.Old.refl (v := .pointer (some ⟨G, 2, none⟩)) (Reg.wanted_none rfl) ?_ rfl
      go_simp
    · intro _ cx wc hB hp hq
      have g12 := pv0 (v := .pointer (some ⟨G, 2, none⟩)) hp 7 12 (by kernel_rfl) rfl rfl rfl
      have c2 := (Below.cell (p := ⟨G, 2, none⟩) hB hG).trans r2
      refine Reg.ok_value Reg.Old.refl (v := .int .i64 x2) (Reg.wanted_none rfl) ?_ rfl
      go_simp
    · intro _ cx wc hB hp hq
      have g0 : cx.tmps[0]? = some (.slice (some ⟨G, 0, none⟩) 10 cap) := (hq 0 (by kernel_rfl)).trans rfl
      refine Reg.ok_value Reg.Old.refl (v := .slice (some ⟨G, 0, none⟩) 10 cap) (Reg.wanted_none rfl) ?_ rfl
      go_simp
    · intro _ cx wc hB hp hq
      have g14 := pv0 (v := .slice (some ⟨G, 0, none⟩) 10 cap) hp 9 14 (by kernel_rfl) rfl rfl rfl
      refine Reg.ok_value Reg.Old.refl (v := .pointer (some ⟨G, 3, none⟩)) (Reg.wanted_none rfl) ?_ rfl
      go_simp
    · intro _ cx wc hB hp hq
      have g15 := pv0 (v := .pointer (some ⟨G, 3, none⟩)) hp 10 15 (by kernel_rfl) rfl rfl rfl
      have c3 := (Below.cell (p := ⟨G, 3, none⟩) hB hG).trans r3
      refine Reg.ok_value Reg.Old.refl (v := .int .i64 x3) (Reg.wanted_none rfl) ?_ rfl
      go_simp
    · intro _ cx wc hB hp hq
      have g0 : cx.tmps[0]? = some (.slice (some ⟨G, 0, none⟩) 10 cap) := (hq 0 (by kernel_rfl)).trans rfl
      refine Reg.ok_value Reg.Old.refl (v := .slice (some ⟨G, 0, none⟩) 10 cap) (Reg.wanted_none rfl) ?_ rfl
      go_simp
    · intro _ cx wc hB hp hq
      have g17 := pv0 (v := .slice (some ⟨G, 0, none⟩) 10 cap) hp 12 17 (by kernel_rfl) rfl rfl rfl
      refine Reg.ok_value Reg.Old.refl (v := .pointer (some ⟨G, 4, none⟩)) (Reg.wanted_none rfl) ?_ rfl
      go_simp
    · intro _ cx wc hB hp hq
      have g18 := pv0 (v := .pointer (some ⟨G, 4, none⟩)) hp 13 18 (by kernel_rfl) rfl rfl rfl
      have c4 := (Below.cell (p := ⟨G, 4, none⟩) hB hG).trans r4
      refine Reg.ok_value Reg.Old.refl (v := .int .i64 x4) (Reg.wanted_none rfl) ?_ rfl
      go_simp
    · intro _ cx wc hB hp hq
      have g0 : cx.tmps[0]? = some (.slice (some ⟨G, 0, none⟩) 10 cap) := (hq 0 (by kernel_rfl)).trans rfl
      refine Reg.ok_value Reg.Old.refl (v := .slice (some ⟨G, 0, none⟩) 10 cap) (Reg.wanted_none rfl) ?_ rfl
      go_simp
    · intro _ cx wc hB hp hq
      have g20 := pv0 (v := .slice (some ⟨G, 0, none⟩) 10 cap) hp 15 20 (by kernel_rfl) rfl rfl rfl
      refine Reg.ok_value Reg.Old.refl (v := .pointer (some ⟨G, 5, none⟩)) (Reg.wanted_none rfl) ?_ rfl
      go_simp
    · intro _ cx wc hB hp hq
      have g21 := pv0 (v := .pointer (some ⟨G, 5, none⟩)) hp 16 21 (by kernel_rfl) rfl rfl rfl
      have c5 := (Below.cell (p := ⟨G, 5, none⟩) hB hG).trans r5
      refine Reg.ok_value Reg.Old.refl (v := .int .i64 x5) (Reg.wanted_none rfl) ?_ rfl
      go_simp
    · intro _ cx wc hB hp hq
      have g0 : cx.tmps[0]? = some (.slice (some ⟨G, 0, none⟩) 10 cap) := (hq 0 (by kernel_rfl)).trans rfl
      refine Reg.ok_value Reg.Old.refl (v := .slice (some ⟨G, 0, none⟩) 10 cap) (Reg.wanted_none rfl) ?_ rfl
      go_simp
    · intro _ cx wc hB hp hq
      have g23 := pv0 (v := .slice (some ⟨G, 0, none⟩) 10 cap) hp 18 23 (by kernel_rfl) rfl rfl rfl
      refine Reg.ok_value Reg.Old.refl (v := .pointer (some ⟨G, 6, none⟩)) (Reg.wanted_none rfl) ?_ rfl
      go_simp
    · intro _ cx wc hB hp hq
      have g24 := pv0 (v := .pointer (some ⟨G, 6, none⟩)) hp 19 24 (by kernel_rfl) rfl rfl rfl
      have c6 := (Below.cell (p := ⟨G, 6, none⟩) hB hG).trans r6
      refine Reg.ok_value Reg.Old.refl (v := .int .i64 x6) (Reg.wanted_none rfl) ?_ rfl
      go_simp
    · intro _ cx wc hB hp hq
      have g0 : cx.tmps[0]? = some (.slice (some ⟨G, 0, none⟩) 10 cap) := (hq 0 (by kernel_rfl)).trans rfl
      refine Reg.ok_value Reg.Old.refl (v := .slice (some ⟨G, 0, none⟩) 10 cap) (Reg.wanted_none rfl) ?_ rfl
      go_simp
    · intro _ cx wc hB hp hq
      have g26 := pv0 (v := .slice (some ⟨G, 0, none⟩) 10 cap) hp 21 26 (by kernel_rfl) rfl rfl rfl
      refine Reg.ok_value Reg.Old.refl (v := .pointer (some ⟨G, 7, none⟩)) (Reg.wanted_none rfl) ?_ rfl
      go_simp
    · intro _ cx wc hB hp hq
      have g27 := pv0 (v := .pointer (some ⟨G, 7, none⟩)) hp 22 27 (by kernel_rfl) rfl rfl rfl
      have c7 := (Below.cell (p := ⟨G, 7, none⟩) hB hG).trans r7
      refine Reg.ok_value Reg.Old.refl (v := .int .i64 x7) (Reg.wanted_none rfl) ?_ rfl
      go_simp
    · intro _ cx wc hB hp hq
      have g0 : cx.tmps[0]? = some (.slice (some ⟨G, 0, none⟩) 10 cap) := (hq 0 (by kernel_rfl)).trans rfl
      refine Reg.ok_value Reg.Old.refl (v := .slice (some ⟨G, 0, none⟩) 10 cap) (Reg.wanted_none rfl) ?_ rfl
      go_simp
    · intro _ cx wc hB hp hq
      have g29 := pv0 (v := .slice (some ⟨G, 0, none⟩) 10 cap) hp 24 29 (by kernel_rfl) rfl rfl rfl
      refine Reg.ok_value Reg.Old.refl (v := .pointer (some ⟨G, 8, none⟩)) (Reg.wanted_none rfl) ?_ rfl
      go_simp
    · intro _ cx wc hB hp hq
      have g30 := pv0 (v := .pointer (some ⟨G, 8, none⟩)) hp 25 30 (by kernel_rfl) rfl rfl rfl
      have c8 := (Below.cell (p := ⟨G, 8, none⟩) hB hG).trans r8
      refine Reg.ok_value Reg.Old.refl (v := .int .i64 x8) (Reg.wanted_none rfl) ?_ rfl
      go_simp
    · intro _ cx wc hB hp hq
      have g0 : cx.tmps[0]? = some (.slice (some ⟨G, 0, none⟩) 10 cap) := (hq 0 (by kernel_rfl)).trans rfl
      refine Reg.ok_value Reg.Old.refl (v := .slice (some ⟨G, 0, none⟩) 10 cap) (Reg.wanted_none rfl) ?_ rfl
      go_simp
    · intro _ cx wc hB hp hq
      have g32 := pv0 (v := .slice (some ⟨G, 0, none⟩) 10 cap) hp 27 32 (by kernel_rfl) rfl rfl rfl
      refine Reg.ok_value Reg.Old.refl (v := .pointer (some ⟨G, 9, none⟩)) (Reg.wanted_none rfl) ?_ rfl
      go_simp
    · intro _ cx wc hB hp hq
      have g33 := pv0 (v := .pointer (some ⟨G, 9, none⟩)) hp 28 33 (by kernel_rfl) rfl rfl rfl
      have c9 := (Below.cell (p := ⟨G, 9, none⟩) hB hG).trans r9
      refine Reg.ok_value Reg.Old.refl (v := .int .i64 x9) (Reg.wanted_none rfl) ?_ rfl
      go_simp
    · intro _ cx wc hB hp hq
      have g1 : cx.tmps[1]? = some (.slice q l d) := (hq 1 (by kernel_rfl)).trans rfl
      refine Reg.ok_value Reg.Old.refl (v := .slice q l d) (Reg.wanted_none rfl) ?_ rfl
      go_simp
    · intro _ cx wc hB hp hq
      have g7 := pv0 (v := .int .i64 x0) hp 2 7 (by kernel_rfl) rfl rfl rfl
      have g10 := pv0 (v := .int .i64 x1) hp 5 10 (by kernel_rfl) rfl rfl rfl
      have g13 := pv0 (v := .int .i64 x2) hp 8 13 (by kernel_rfl) rfl rfl rfl
      have g16 := pv0 (v := .int .i64 x3) hp 11 16 (by kernel_rfl) rfl rfl rfl
      have g19 := pv0 (v := .int .i64 x4) hp 14 19 (by kernel_rfl) rfl rfl rfl
      have g22 := pv0 (v := .int .i64 x5) hp 17 22 (by kernel_rfl) rfl rfl rfl
      have g25 := pv0 (v := .int .i64 x6) hp 20 25 (by kernel_rfl) rfl rfl rfl
      have g28 := pv0 (v := .int .i64 x7) hp 23 28 (by kernel_rfl) rfl rfl rfl
      have g31 := pv0 (v := .int .i64 x8) hp 26 31 (by kernel_rfl) rfl rfl rfl
      have g34 := pv0 (v := .int .i64 x9) hp 29 34 (by kernel_rfl) rfl rfl rfl
      have g35 := pv0 (v := .slice q l d) hp 30 35 (by kernel_rfl) rfl rfl rfl
      refine Reg.ok_value Reg.Old.refl (v := .agg #[.int .i64 x0, .int .i64 x1, .int .i64 x2, .int .i64 x3, .int .i64 x4, .int .i64 x5, .int .i64 x6, .int .i64 x7, .int .i64 x8, .int .i64 x9, .slice q l d]) (Reg.wanted_none rfl) ?_ rfl
      go_simp
    · exact fun h => absurd rfl h
  · intro cc wc hB hsz hdf hv ho
    have hfr := Reg.frame_eq [.slice (some ⟨G, 0, none⟩) 10 cap, .slice q l d, _, _, .pointer (some ⟨C, 0, none⟩), .slice (some ⟨G, 0, none⟩) 10 cap, .pointer (some ⟨G, 0, none⟩), .int .i64 x0, .slice (some ⟨G, 0, none⟩) 10 cap, .pointer (some ⟨G, 1, none⟩), .int .i64 x1, .slice (some ⟨G, 0, none⟩) 10 cap, .pointer (some ⟨G, 2, none⟩), .int .i64 x2, .slice (some ⟨G, 0, none⟩) 10 cap, .pointer (some ⟨G, 3, none⟩), .int .i64 x3, .slice (some ⟨G, 0, none⟩) 10 cap, .pointer (some ⟨G, 4, none⟩), .int .i64 x4, .slice (some ⟨G, 0, none⟩) 10 cap, .pointer (some ⟨G, 5, none⟩), .int .i64 x5, .slice (some ⟨G, 0, none⟩) 10 cap, .pointer (some ⟨G, 6, none⟩), .int .i64 x6, .slice (some ⟨G, 0, none⟩) 10 cap, .pointer (some ⟨G, 7, none⟩), .int .i64 x7, .slice (some ⟨G, 0, none⟩) 10 cap, .pointer (some ⟨G, 8, none⟩), .int .i64 x8, .slice (some ⟨G, 0, none⟩) 10 cap, .pointer (some ⟨G, 9, none⟩), .int .i64 x9, .slice q l d, .agg #[.int .i64 x0, .int .i64 x1, .int .i64 x2, .int .i64 x3, .int .i64 x4, .int .i64 x5, .int .i64 x6, .int .i64 x7, .int .i64 x8, .int .i64 x9, .slice q l d]] (by simpa using hsz) hdf ⟨((Reg.kept_but ho 0 (by kernel_rfl)).trans rfl), ((Reg.kept_but ho 1 (by kernel_rfl)).trans rfl), ((Reg.kept_but ho 2 (by kernel_rfl)).trans rfl), ((Reg.kept_but ho 3 (by kernel_rfl)).trans rfl), ((Reg.kept_but ho 4 (by kernel_rfl)).trans rfl), (by obtain ⟨_, g, hx⟩ := hv 0 _ 5 (by decide) rfl rfl; exact g.trans (congrArg some hx)), (by obtain ⟨_, g, hx⟩ := hv 1 _ 6 (by decide) rfl rfl; exact g.trans (congrArg some hx)), (by obtain ⟨_, g, hx⟩ := hv 2 _ 7 (by decide) rfl rfl; exact g.trans (congrArg some hx)), (by obtain ⟨_, g, hx⟩ := hv 3 _ 8 (by decide) rfl rfl; exact g.trans (congrArg some hx)), (by obtain ⟨_, g, hx⟩ := hv 4 _ 9 (by decide) rfl rfl; exact g.trans (congrArg some hx)), (by obtain ⟨_, g, hx⟩ := hv 5 _ 10 (by decide) rfl rfl; exact g.trans (congrArg some hx)), (by obtain ⟨_, g, hx⟩ := hv 6 _ 11 (by decide) rfl rfl; exact g.trans (congrArg some hx)), (by obtain ⟨_, g, hx⟩ := hv 7 _ 12 (by decide) rfl rfl; exact g.trans (congrArg some hx)), (by obtain ⟨_, g, hx⟩ := hv 8 _ 13 (by decide) rfl rfl; exact g.trans (congrArg some hx)), (by obtain ⟨_, g, hx⟩ := hv 9 _ 14 (by decide) rfl rfl; exact g.trans (congrArg some hx)), (by obtain ⟨_, g, hx⟩ := hv 10 _ 15 (by decide) rfl rfl; exact g.trans (congrArg some hx)), (by obtain ⟨_, g, hx⟩ := hv 11 _ 16 (by decide) rfl rfl; exact g.trans (congrArg some hx)), (by obtain ⟨_, g, hx⟩ := hv 12 _ 17 (by decide) rfl rfl; exact g.trans (congrArg some hx)), (by obtain ⟨_, g, hx⟩ := hv 13 _ 18 (by decide) rfl rfl; exact g.trans (congrArg some hx)), (by obtain ⟨_, g, hx⟩ := hv 14 _ 19 (by decide) rfl rfl; exact g.trans (congrArg some hx)), (by obtain ⟨_, g, hx⟩ := hv 15 _ 20 (by decide) rfl rfl; exact g.trans (congrArg some hx)), (by obtain ⟨_, g, hx⟩ := hv 16 _ 21 (by decide) rfl rfl; exact g.trans (congrArg some hx)), (by obtain ⟨_, g, hx⟩ := hv 17 _ 22 (by decide) rfl rfl; exact g.trans (congrArg some hx)), (by obtain ⟨_, g, hx⟩ := hv 18 _ 23 (by decide) rfl rfl; exact g.trans (congrArg some hx)), (by obtain ⟨_, g, hx⟩ := hv 19 _ 24 (by decide) rfl rfl; exact g.trans (congrArg some hx)), (by obtain ⟨_, g, hx⟩ := hv 20 _ 25 (by decide) rfl rfl; exact g.trans (congrArg some hx)), (by obtain ⟨_, g, hx⟩ := hv 21 _ 26 (by decide) rfl rfl; exact g.trans (congrArg some hx)), (by obtain ⟨_, g, hx⟩ := hv 22 _ 27 (by decide) rfl rfl; exact g.trans (congrArg some hx)), (by obtain ⟨_, g, hx⟩ := hv 23 _ 28 (by decide) rfl rfl; exact g.trans (congrArg some hx)), (by obtain ⟨_, g, hx⟩ := hv 24 _ 29 (by decide) rfl rfl; exact g.trans (congrArg some hx)), (by obtain ⟨_, g, hx⟩ := hv 25 _ 30 (by decide) rfl rfl; exact g.trans (congrArg some hx)), (by obtain ⟨_, g, hx⟩ := hv 26 _ 31 (by decide) rfl rfl; exact g.trans (congrArg some hx)), (by obtain ⟨_, g, hx⟩ := hv 27 _ 32 (by decide) rfl rfl; exact g.trans (congrArg some hx)), (by obtain ⟨_, g, hx⟩ := hv 28 _ 33 (by decide) rfl rfl; exact g.trans (congrArg some hx)), (by obtain ⟨_, g, hx⟩ := hv 29 _ 34 (by decide) rfl rfl; exact g.trans (congrArg some hx)), (by obtain ⟨_, g, hx⟩ := hv 30 _ 35 (by decide) rfl rfl; exact g.trans (congrArg some hx)), (by obtain ⟨_, g, hx⟩ := hv 31 _ 36 (by decide) rfl rfl; exact g.trans (congrArg some hx)), trivial⟩
    subst hfr
    have hZ := CellsAt.below hZ0 hB
    have hBc := hBd.trans (Below.mono hB (Nat.le_trans hsz0 hBd.size))
    refine store_cells_then 33 (.tmp 4) (.tmp 36) rfl rfl C (valsP [x0, x1, x2, x3, x4, x5, x6, x7, x8, x9] (.slice q l d)) (valsP zeroN (.slice none 0 0)) rfl rfl hZ (by kernel_rfl) rfl (by simp [valsP, Value.oneCell']) ?_
    have HZ := Lib.hid hZ
    have HB := Lib.hid hBc
    clear hv ho hB hZ0 hG hBd hBc hZ r0 r1 r2 r3 r4 r5 r6 r7 r8 r9
    go_wp2
    refine bodyPost_ret (result_cell rfl rfl (load_ref (pol_put (n := [x0, x1, x2, x3, x4, x5, x6, x7, x8, x9]) (v := .slice q l d) HZ.out rfl rfl) rfl)) rfl ?_
    exact ⟨rfl, below_sets (Nat.le_refl _) _ 0 w _ HB.out⟩
end Go.Proofs.YtdhkonaebhpeeaaDoor.Po

