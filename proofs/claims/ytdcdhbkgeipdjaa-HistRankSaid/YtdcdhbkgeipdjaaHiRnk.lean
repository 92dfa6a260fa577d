/- HistRank, walked. -/
import Derived.Test.YtdcdhbkgeipdjaaHiLng
import Derived.Test.YtdcdhbkgeipdjaaHiRk
import Derived.Test.YtdcdhbkgeipdjaaHiMrg
import Derived.BigQuiet
import Derived.Deep.RegionLaw
namespace Go.Proofs.Ytdcdhbkgeipdjaa
open Go Go.RowKit

/-- An append of which the run is known, as one step of a region that draws. -/
theorem step_append_run {P : Program} {ops : Array Oper} {o : Oper} {a : Act} {w : World} {K : Act → World → Prop} {Q : Exit → Act → World → Prop} {E : Prop}
    (hg : o.guard = none) (s x : Operand) (t : TypeId) (ho : o.op = .call { callee := .builtin .append, args := #[s, x], argTypes := #[t, t] })
    (v u : Value) (hs : a.eval s = v) (hx : a.eval x = u) {v' : Value} {w' : World} (hr : (Builtin.append_ #[t, t] o.type #[v, u]).run P w = .ok v' w') (hK : K (a.put o.dst v') w') :
    if Region.wanted o (yielded ops a.tmps) = true then Oper.wp P o a w K Q else E := by
  have hw : Region.wanted o (yielded ops a.tmps) = true := by simp [Region.wanted, hg]
  rw [if_pos hw]
  unfold Oper.wp
  simp [execOp, ho, resolve, invoke, builtin, hs, hx, hr, Result.andThen]
  exact hK
theorem OwnL.src_take {B : Nat} {p : Option Addr} {cap : Nat} {xs : List Int} {w : World} (h : OwnL B (.slice p xs.length cap) xs w) (k : Nat) (_ : k ≤ xs.length) : SrcL w p cap (xs.take k) := by
  rcases h.form with ⟨e, rfl⟩ | ⟨g, c', e, _, _, _, _, hc⟩
  · simp only [Value.slice.injEq] at e
    obtain ⟨rfl, _, rfl⟩ := e
    exact .inl ⟨rfl, by simp, rfl⟩
  · simp only [Value.slice.injEq] at e
    obtain ⟨rfl, _, rfl⟩ := e
    refine .inr ⟨_, rfl, fun j u hu => ?_⟩
    unfold longV at hu
    rw [List.getElem?_map, List.getElem?_take] at hu
    split at hu
    · rename_i hjk
      have hj : j < xs.length := by omega
      rw [List.getElem?_eq_getElem hj] at hu
      rw [Addr.add_lit, Nat.zero_add, hc j hj, getElem!_pos xs j hj]
      simpa using hu
    · simp at hu
/-- Where a row's rest begins. -/
def past (p : Option Addr) (k : Nat) : Option Addr := p.map fun a => a.add k
theorem OwnL.src_drop {B : Nat} {g cap : Nat} {xs : List Int} {w : World} (h : OwnL B (.slice (some ⟨g, 0, none⟩) xs.length cap) xs w) (k c : Nat) : SrcL w (some ⟨g, k, none⟩) c (xs.drop k) := by
  rcases h.form with ⟨e, rfl⟩ | ⟨g', c', e, _, _, _, _, hc⟩
  · cases e
  · simp only [Value.slice.injEq, Option.some.injEq, Addr.mk.injEq, and_true, true_and] at e
    obtain ⟨rfl, rfl⟩ := e
    refine .inr ⟨_, rfl, fun j u hu => ?_⟩
    unfold longV at hu
    rw [List.getElem?_map, List.getElem?_drop] at hu
    cases hx : xs[k + j]? with
    | none => rw [hx] at hu; cases hu
    | some y =>
      obtain ⟨hj, rfl⟩ := List.getElem?_eq_some_iff.1 hx
      rw [hx] at hu
      rw [Addr.add_lit, hc (k + j) hj, getElem!_pos xs (k + j) hj]
      simpa using hu
/-- What an append onto a row leaves. -/
def Lng (N : Nat) (xs : List Int) (w0 w : World) (v : Value) (w' : World) : Prop := OwnL N v xs w' ∧ Below N w0 w'
/-- append(append(append(nil, T1..), y), T2..): the runs, in both orders in which the row of y may be made. -/
theorem ins_runs {N : Nat} {W : World} (hN : N ≤ W.heap.size) {p q : Option Addr} {c d : Nat} {T1 T2 : List Int} (y : Int) (hl : T1.length + T2.length ≤ 1000)
    (h1 : ∀ W', Below W.heap.size W W' → SrcL W' p c T1) (h2 : ∀ W', Below W.heap.size W W' → SrcL W' q d T2) (ty : TypeId) :
    (∃ v1 w1 v2 w2 v3 w3, (Builtin.append_ #[32, 32] ty #[.slice none 0 0, .slice p T1.length c]).run Try.prog W = .ok v1 w1 ∧
      (Builtin.append_ #[32, 32] ty #[v1, .slice (some ⟨w1.heap.size, 0, none⟩) 1 1]).run Try.prog (w1.alloc (.cells #[.int .i64 y] 2)) = .ok v2 w2 ∧
      (Builtin.append_ #[32, 32] ty #[v2, .slice q T2.length d]).run Try.prog w2 = .ok v3 w3 ∧ OwnL N v3 (T1 ++ [y] ++ T2) w3 ∧ Below N W w3 ∧ Below W.heap.size W w1) ∧
    (∃ v1 w1 v2 w2 v3 w3, (Builtin.append_ #[32, 32] ty #[.slice none 0 0, .slice p T1.length c]).run Try.prog (W.alloc (.cells #[.int .i64 y] 2)) = .ok v1 w1 ∧
      (Builtin.append_ #[32, 32] ty #[v1, .slice (some ⟨W.heap.size, 0, none⟩) 1 1]).run Try.prog w1 = .ok v2 w2 ∧
      (Builtin.append_ #[32, 32] ty #[v2, .slice q T2.length d]).run Try.prog w2 = .ok v3 w3 ∧ OwnL N v3 (T1 ++ [y] ++ T2) w3 ∧ Below N W w3) := by
  constructor
  · obtain ⟨v1, w1, r1, o1, m1, a1⟩ := append_longs ty (OwnL.nil N W) (h1 W (Below.refl _ _)) (by simp; omega) hN
    rw [List.nil_append] at o1
    have b1 : Below W.heap.size W w1 := m1.below (by intro k hk; cases hk) (Nat.le_refl _)
    have s1 := b1.size
    have f1 : ∀ g, v1.ownBlock = some g → W.heap.size ≤ g := fun g hg => by
      rcases a1 g hg with e | e
      · cases e
      · exact e
    obtain ⟨v2, w2, r2, o2, m2, a2⟩ := append_long ty o1 y (by omega) (Nat.le_trans hN s1)
    have b2 : Below W.heap.size W w2 := below_mov b1 m2 f1 (Nat.le_refl _)
    have f2 : ∀ g, v2.ownBlock = some g → W.heap.size ≤ g := fun g hg => by
      rcases a2 g hg with e | e
      · exact f1 g e
      · exact Nat.le_trans s1 e
    obtain ⟨v3, w3, r3, o3, m3, _⟩ := append_longs ty o2 (h2 w2 b2) (by simp; omega) (Nat.le_trans hN b2.size)
    exact ⟨v1, w1, v2, w2, v3, w3, r1, r2, r3, o3, (below_mov b2 m3 f2 (Nat.le_refl _)).mono hN, b1⟩
  · have bA := (Below.refl W.heap.size W).alloc (Nat.le_refl _) (.cells #[.int .i64 y] 2)
    have hX := CellsAt.new #[.int .i64 y] 2 W
    have sA : (W.alloc (.cells #[.int .i64 y] 2)).heap.size = W.heap.size + 1 := by simp
    obtain ⟨v1, w1, r1, o1, m1, a1⟩ := append_longs ty (OwnL.nil N _) (h1 _ bA) (by simp; omega) (by omega)
    rw [List.nil_append] at o1
    have b1 : Below W.heap.size W w1 := below_mov bA m1 (by intro k hk; cases hk) (Nat.le_refl _)
    have hX1 := hX.mov m1 (by intro e; cases e)
    have s1 := b1.size
    have f1 : ∀ g, v1.ownBlock = some g → W.heap.size ≤ g := fun g hg => by
      rcases a1 g hg with e | e
      · cases e
      · omega
    have hs : SrcL w1 (some ⟨W.heap.size, 0, none⟩) 1 [y] := .inr ⟨_, rfl, fun j u hj => by
      rw [Addr.add_lit, Nat.zero_add]
      exact hX1.cell j u (by simpa [longV] using hj)⟩
    obtain ⟨v2, w2, r2, o2, m2, a2⟩ := append_longs ty o1 hs (by simp; omega) (Nat.le_trans hN s1)
    have b2 : Below W.heap.size W w2 := below_mov b1 m2 f1 (Nat.le_refl _)
    have f2 : ∀ g, v2.ownBlock = some g → W.heap.size ≤ g := fun g hg => by
      rcases a2 g hg with e | e
      · exact f1 g e
      · exact Nat.le_trans s1 e
    obtain ⟨v3, w3, r3, o3, m3, _⟩ := append_longs ty o2 (h2 w2 b2) (by simp; omega) (Nat.le_trans hN b2.size)
    exact ⟨v1, w1, v2, w2, v3, w3, r1, r2, r3, o3, (below_mov b2 m3 f2 (Nat.le_refl _)).mono hN⟩
theorem sortL_take {L : List Int} {i : Nat} (h : i < L.length) : sortL (L.take (i + 1)) = (sortL (L.take i)).take (cutAt L[i] (sortL (L.take i))) ++ [L[i]] ++ (sortL (L.take i)).drop (cutAt L[i] (sortL (L.take i))) := by
  rw [List.take_add_one, List.getElem?_eq_getElem h]
  show sortL (L.take i ++ [L[i]]) = _
  rw [sortL_snoc]
  unfold putIn
  rw [List.append_assoc]
  rfl
set_option maxRecDepth 100000 in
set_option maxHeartbeats 4000000 in
theorem HistRank_core (x : Nat) (hx : x < 256) (p : Option Addr) (xs : List Int) (cap : Nat) (hc : xs.length ≤ cap) (hcap : cap ≤ 9223372036854775807) (num den : Nat) (hnum : num < 65536) (hden : den < 65536)
    (w : World) (hN : Ints p xs w) :
    Calls Try.prog 5 #[.int .u8 x, .slice p xs.length cap, .int .u16 num, .int .u16 den] w fun e w' => e = .returned (.bool true) ∧ Below w.heap.size w w' := by
  have HN := Lib.hid (hN.take 60)
  obtain ⟨k, hk⟩ : ∃ k, x % 5 = k := ⟨_, rfl⟩
  have hk4 : k ≤ 4 := by omega
  have hki : (x : Int) % 5 = (k : Int) := by omega
  have HK := Lib.hid hk4
  have hkk : (k : Int) ≤ 4 := by omega
  have hlL : (xs.take 60).length = min xs.length 60 := by rw [List.length_take]; omega
  generalize xs.take 60 = L at *
  generalize xs.length = nn at *
  obtain ⟨m, hm⟩ : ∃ m, L.length = m := ⟨_, rfl⟩
  have HM := Lib.hid hm
  rw [hm] at hlL
  have hm1i : min (nn : Int) 60 = (m : Int) := by omega
  have hm60 : m ≤ 60 := by omega
  have hmc : m ≤ cap := by omega
  have HD := Lib.hid hden
  have hof := fun (W : World) (hW : Ints p L W) => of_items k hk4 p L cap (by rw [hm]; omega) W hW
  rw [hm] at hof
  have HOF := Lib.hid hof
  clear hN hk hlL hm hk4 hof
  go_enter Try.func5, Try.ntmps5
  go_wp2_with fail
  refine (examples_any _).mono ?_
  rintro e W1 ⟨rfl, hB⟩
  have ho := HOF.out _ (HN.out.below hB)
  go_wp2_with fail
  refine ho.mono ?_
  rintro e W2 ⟨B, vh, rfl, hH, hB2⟩
  have HH := Lib.hid (hH.mono hB.size)
  have HB := Lib.hid (below_on hB hB2 (Nat.le_refl _))
  have HN2 := Lib.hid (HN.out.below HB.out)
  clear hB hB2 hH ho HOF
  obtain ⟨N, hNN⟩ : ∃ N, W2.heap.size = N := ⟨_, rfl⟩
  have HO : Hid (OwnL N (.slice none 0 0) (sortL (L.take 0)) W2) := Lib.hid (OwnL.nil _ _)
  have HBW : Hid (Below N W2 W2) := Lib.hid (Below.refl _ _)
  have HNN := Lib.hid hNN
  clear hNN
  go_wp2
  try rw [hki]
  go_loopg [12, 13] m (fun g s12 s13 wx => ∃ i : Nat, i + g = m ∧ s13 = .int .i64 i ∧ Hid (OwnL N s12 (sortL (L.take i)) wx) ∧ Hid (Below N W2 wx))
  case atStart => exact ⟨0, by omega, rfl, HO, HBW⟩
  case round =>
    clear HO HBW
    obtain ⟨i, hig, rfl, HO, HBW⟩ := hrel
    generalize wr = wo at *
    cases gk with
    | succ g =>
      have him : i < m := by omega
      have hiL : i < L.length := by rw [HM.out]; exact him
      obtain ⟨C, off, rfl, hC, hcell, hx64⟩ := HN2.out i hiL
      have hst := sortL_take hiL
      have HSL : Hid ((sortL (L.take i)).length = i) := Lib.hid (by rw [sortL_length, List.length_take, HM.out]; omega)
      obtain ⟨S, hS⟩ : ∃ S, sortL (L.take i) = S := ⟨_, rfl⟩
      obtain ⟨y, hy⟩ : ∃ y, L[i] = y := ⟨_, rfl⟩
      rw [hS] at HO hst HSL
      rw [hy] at hst hcell hx64
      have hcl := cutAt_le y S
      have h1 := cutAt_lt y S
      have h2 := cutAt_ge y S
      obtain ⟨c, hcc⟩ : ∃ c, cutAt y S = c := ⟨_, rfl⟩
      rw [hcc] at hst hcl h1 h2
      have hlen := HSL.out
      rw [hlen] at hcl
      have HST := Lib.hid hst
      have H1 := Lib.hid h1
      have H2 := Lib.hid h2
      have HCELL := Lib.hid hcell
      have HCN : Hid (C < N) := Lib.hid (by rw [← HNN.out]; exact hC)
      obtain ⟨q, hq⟩ : ∃ q, c = q := ⟨_, rfl⟩
      have hv := HO.out.form
      rw [hlen] at hv
      have HV := Lib.hid hv
      clear hS hy hcc h1 h2 hlen hst hcell hq hv
      go_wp2
      go_loopg [14] c (fun g2 s14 wy => ∃ j : Nat, j + g2 = c ∧ s14 = .int .i64 j ∧ Hid (Below wo.heap.size wo wy))
      case atStart => exact ⟨0, by omega, rfl, Lib.hid (Below.refl _ _)⟩
      case round =>
        obtain ⟨j, hjg, rfl, HBy⟩ := hrel
        have hC2 : C < W2.heap.size := by rw [HNN.out]; exact HCN.out
        have hCr : C < wo.heap.size := Nat.lt_of_lt_of_le hC2 HBW.out.size
        clear hC2
        have dx := (HBy.out.cell (p := ⟨C, off + i, none⟩) hCr).trans ((HBW.out.cell (p := ⟨C, off + i, none⟩) HCN.out).trans HCELL.out)
        cases gk with
        | succ g2 =>
          have hjc : j < c := by omega
          obtain ⟨hjS, hlt⟩ := H1.out j hjc
          have hji : j < i := by have := HSL.out; omega
          rcases HV.out with ⟨_, h0⟩ | ⟨g', c', rfl, _, hg', _, _, hcs⟩
          · exact absurd hjS (by rw [h0]; simp)
          · have d0 := (HBy.out.cell (p := ⟨g', j, none⟩) hg').trans (hcs j hji)
            rw [getElem!_pos S j hjS] at d0
            obtain ⟨z, hz⟩ : ∃ z, S[j] = z := ⟨_, rfl⟩
            rw [hz] at d0 hlt
            have t1 : decide ((j : Int) < (i : Int)) = true := decide_eq_true (by omega)
            have t2 : decide (j < i) = true := decide_eq_true (by omega)
            have t3 : decide (z < y) = true := decide_eq_true hlt
            have hii : (i : Int) < (m : Int) := by omega
            clear hcs hz hlt
            go_wp2
            go_quiet (fail)
            have HBz := Lib.hid (below_drewN' HBy.out nq)
            clear d0 dx HBy
            go_wp2
            go_roundg g2
            case measure => omega
            case rel => exact ⟨j + 1, by omega, by go_num, HBz⟩
        | zero =>
          obtain rfl : j = c := by omega
          rcases HV.out with ⟨rfl, rfl⟩ | ⟨g', c', rfl, hgN, hg', hic, hcm, hcs⟩
          · have hi0 : i = 0 := by have := HSL.out; simpa using this.symm
            obtain rfl : j = 0 := by omega
            have hii : (i : Int) < (m : Int) := by omega
            clear hi0
            go_wp2
            go_quiet (fail)
            have HBz := Lib.hid (below_drewN' HBy.out nq)
            have dx2 := (HBz.out.cell (p := ⟨C, off + i, none⟩) hCr).trans ((HBW.out.cell (p := ⟨C, off + i, none⟩) HCN.out).trans HCELL.out)
            clear dx HBy
            generalize wr.drewN nq = W at *
            have hNW : N ≤ W.drew.heap.size := Nat.le_trans (by rw [← HNN.out]; exact HBW.out.size) HBz.out.size
            have hbd : ∀ W', Below W.drew.heap.size W.drew W' → Below wo.heap.size wo W' := fun W' h => (HBz.out.drew).trans (h.mono HBz.out.size)
            obtain ⟨⟨v1, w1, v2, w2, v3, w3, r1, r2, r3, o3, b3, b31⟩, ⟨u1, z1, u2, z2, u3, z3, s1, s2, s3, o4, b4⟩⟩ := ins_runs (W := W.drew) (p := none) (q := none) (c := 0) (d := 0) (T1 := ([] : List Int)) (T2 := ([] : List Int)) hNW y (by simp)
              (fun W' _ => .inl ⟨rfl, rfl, rfl⟩) (fun W' _ => .inl ⟨rfl, rfl, rfl⟩) 32
            rw [List.length_nil] at r1 s1 r3 s3
            have hT := HST.out
            simp only [List.take_nil, List.drop_nil] at hT
            rw [← hT] at o3 o4
            clear hT
            have HO3 := Lib.hid o3
            have HO4 := Lib.hid o4
            have hbo := HBW.out.trans (HBz.out.drew.mono (Nat.le_trans (Nat.le_of_eq HNN.out.symm) HBW.out.size))
            have HB3 := Lib.hid (hbo.trans (b3.mono (Nat.le_refl _)))
            have HB4 := Lib.hid (hbo.trans (b4.mono (Nat.le_refl _)))
            have dx3 := (b31.cell (p := ⟨C, off + i, none⟩) (show C < W.drew.heap.size from Nat.lt_of_lt_of_le hCr HBz.out.size)).trans dx2
            clear hbd hNW o3 o4 b3 b4 hbo b31
            go_wp2
            go_region_law (first
              | (refine step_append_run rfl (.const (.slice none 0 0)) (.tmp 72) 32 rfl (.slice none 0 0) (.slice (none) 0 0) (by simp [Act.eval]) (by simp [Act.eval, Act.put]) r1 ?_)
              | (refine step_append_run rfl (.const (.slice none 0 0)) (.tmp 72) 32 rfl (.slice none 0 0) (.slice (none) 0 0) (by simp [Act.eval]) (by simp [Act.eval, Act.put]) s1 ?_)
              | (refine step_append_run rfl (.tmp 73) (.tmp 78) 32 rfl v1 (.slice (some ⟨w1.heap.size, 0, none⟩) 1 1) (by simp [Act.eval, Act.put]) (by simp [Act.eval, Act.put]) r2 ?_)
              | (refine step_append_run rfl (.tmp 73) (.tmp 78) 32 rfl u1 (.slice (some ⟨W.drew.heap.size, 0, none⟩) 1 1) (by simp [Act.eval, Act.put]) (by simp [Act.eval, Act.put]) s2 ?_)
              | (refine step_append_run rfl (.tmp 79) (.tmp 82) 32 rfl v2 (.slice (none) 0 0) (by simp [Act.eval, Act.put]) (by simp [Act.eval, Act.put]) r3 ?_)
              | (refine step_append_run rfl (.tmp 79) (.tmp 82) 32 rfl u2 (.slice (none) 0 0) (by simp [Act.eval, Act.put]) (by simp [Act.eval, Act.put]) s3 ?_))
            all_goals
              clear r1 r2 r3 s1 s2 s3 dx2 dx3
              go_wp2
              go_roundg g
              case measure => omega
              case rel => first | exact ⟨i + 1, by omega, by go_num, HO3, HB3⟩ | exact ⟨i + 1, by omega, by go_num, HO4, HB4⟩
          · unfold maxLen at hcm
            have hii : (i : Int) < (m : Int) := by omega
            by_cases hji : j < i
            · have hjS : j < S.length := by have := HSL.out; omega
              have hnlt := H2.out hjS
              have d0 := (HBy.out.cell (p := ⟨g', j, none⟩) hg').trans (hcs j hji)
              rw [getElem!_pos S j hjS] at d0
              obtain ⟨z, hz⟩ : ∃ z, S[j] = z := ⟨_, rfl⟩
              rw [hz] at d0 hnlt
              have t1 : decide ((j : Int) < (i : Int)) = true := decide_eq_true (by omega)
              have t2 : decide (j < i) = true := decide_eq_true (by omega)
              have t3 : decide (z < y) = false := decide_eq_false (by omega)
              clear hcs hz hnlt
              go_wp2
              go_quiet (fail)
              have HBz := Lib.hid (below_drewN' HBy.out nq)
              have dx2 := (HBz.out.cell (p := ⟨C, off + i, none⟩) hCr).trans ((HBW.out.cell (p := ⟨C, off + i, none⟩) HCN.out).trans HCELL.out)
              clear dx HBy
              generalize wr.drewN nq = W at *
              obtain ⟨dl, hdl⟩ : ∃ dl, i - j = dl := ⟨_, rfl⟩
              obtain ⟨dc, hdc⟩ : ∃ dc, c' - j = dc := ⟨_, rfl⟩
              have hjS2 : j ≤ S.length := by have := HSL.out; omega
              have hOS : Hid (OwnL N (.slice (some ⟨g', 0, none⟩) S.length c') S wo) := Lib.hid (by rw [HSL.out]; exact HO.out)
              have hNW : N ≤ W.drew.heap.size := Nat.le_trans (by rw [← HNN.out]; exact HBW.out.size) HBz.out.size
              have hbd : ∀ W', Below W.drew.heap.size W.drew W' → Below wo.heap.size wo W' := fun W' h => (HBz.out.drew).trans (h.mono HBz.out.size)
              obtain ⟨⟨v1, w1, v2, w2, v3, w3, r1, r2, r3, o3, b3, b31⟩, ⟨u1, z1, u2, z2, u3, z3, s1, s2, s3, o4, b4⟩⟩ := ins_runs (W := W.drew) (p := some ⟨g', 0, none⟩) (q := some ⟨g', j, none⟩) (c := c') (d := dc) (T1 := S.take j) (T2 := S.drop j) hNW y (by have := HSL.out; rw [List.length_take, List.length_drop]; omega)
                (fun W' h => (hOS.out.below (hbd W' h)).src_take j hjS2) (fun W' h => (hOS.out.below (hbd W' h)).src_drop j _) 32
              rw [List.length_take, HSL.out, Nat.min_eq_left (by omega)] at r1 s1
              rw [List.length_drop, HSL.out, hdl] at r3 s3
              rw [← HST.out] at o3 o4
              have HO3 := Lib.hid o3
              have HO4 := Lib.hid o4
              have hbo := HBW.out.trans (HBz.out.drew.mono (Nat.le_trans (Nat.le_of_eq HNN.out.symm) HBW.out.size))
              have HB3 := Lib.hid (hbo.trans (b3.mono (Nat.le_refl _)))
              have HB4 := Lib.hid (hbo.trans (b4.mono (Nat.le_refl _)))
              have dx3 := (b31.cell (p := ⟨C, off + i, none⟩) (show C < W.drew.heap.size from Nat.lt_of_lt_of_le hCr HBz.out.size)).trans dx2
              have hic2 : (i : Int) ≤ (c' : Int) := by omega
              have hnn : ¬ (c' = j) := by omega
              have hjc' : (j : Int) ≤ (c' : Int) := by omega
              have hji' : (j : Int) ≤ (i : Int) := by omega
              clear hjS2 hOS d0
              clear hbd hNW o3 o4 b3 b4 hbo b31
              go_wp2
              go_region_law (first
                | (refine step_append_run rfl (.const (.slice none 0 0)) (.tmp 72) 32 rfl (.slice none 0 0) (.slice (some ⟨g', 0, none⟩) j c') (by simp [Act.eval]) (by simp [Act.eval, Act.put]) r1 ?_)
                | (refine step_append_run rfl (.const (.slice none 0 0)) (.tmp 72) 32 rfl (.slice none 0 0) (.slice (some ⟨g', 0, none⟩) j c') (by simp [Act.eval]) (by simp [Act.eval, Act.put]) s1 ?_)
                | (refine step_append_run rfl (.tmp 73) (.tmp 78) 32 rfl v1 (.slice (some ⟨w1.heap.size, 0, none⟩) 1 1) (by simp [Act.eval, Act.put]) (by simp [Act.eval, Act.put]) r2 ?_)
                | (refine step_append_run rfl (.tmp 73) (.tmp 78) 32 rfl u1 (.slice (some ⟨W.drew.heap.size, 0, none⟩) 1 1) (by simp [Act.eval, Act.put]) (by simp [Act.eval, Act.put]) s2 ?_)
                | (refine step_append_run rfl (.tmp 79) (.tmp 82) 32 rfl v2 (.slice (some ⟨g', j, none⟩) dl dc) (by simp [Act.eval, Act.put]) (by simp [Act.eval, Act.put]) r3 ?_)
                | (refine step_append_run rfl (.tmp 79) (.tmp 82) 32 rfl u2 (.slice (some ⟨g', j, none⟩) dl dc) (by simp [Act.eval, Act.put]) (by simp [Act.eval, Act.put]) s3 ?_))
              all_goals
                clear r1 r2 r3 s1 s2 s3 dx2 dx3
                go_wp2
                go_roundg g
                case measure => omega
                case rel => first | exact ⟨i + 1, by omega, by go_num, HO3, HB3⟩ | exact ⟨i + 1, by omega, by go_num, HO4, HB4⟩
            · obtain rfl : j = i := by omega
              have t1 : decide ((j : Int) < (j : Int)) = false := decide_eq_false (by omega)
              have t2 : decide (j < j) = false := decide_eq_false (by omega)
              clear hcs
              have hTk : S.take j = S := List.take_of_length_le (by rw [HSL.out]; exact Nat.le_refl _)
              have hTd : S.drop j = [] := List.drop_eq_nil_of_le (by rw [HSL.out]; exact Nat.le_refl _)
              have hst2 := HST.out
              rw [hTk, hTd] at hst2
              have HST2 := Lib.hid hst2
              clear hst2 hTk hTd
              by_cases hcc : c' = j
              · subst hcc
                go_wp2
                go_quiet (fail)
                have HBz := Lib.hid (below_drewN' HBy.out nq)
                have dx2 := (HBz.out.cell (p := ⟨C, off + c', none⟩) hCr).trans ((HBW.out.cell (p := ⟨C, off + c', none⟩) HCN.out).trans HCELL.out)
                clear dx HBy
                generalize wr.drewN nq = W at *
                have hOS : Hid (OwnL N (.slice (some ⟨g', 0, none⟩) S.length c') S wo) := Lib.hid (by rw [HSL.out]; exact HO.out)
                have hNW : N ≤ W.drew.heap.size := Nat.le_trans (by rw [← HNN.out]; exact HBW.out.size) HBz.out.size
                have hbd : ∀ W', Below W.drew.heap.size W.drew W' → Below wo.heap.size wo W' := fun W' h => (HBz.out.drew).trans (h.mono HBz.out.size)
                obtain ⟨⟨v1, w1, v2, w2, v3, w3, r1, r2, r3, o3, b3, b31⟩, ⟨u1, z1, u2, z2, u3, z3, s1, s2, s3, o4, b4⟩⟩ := ins_runs (W := W.drew) (p := some ⟨g', 0, none⟩) (q := some ⟨g', 0, none⟩) (c := c') (d := 0) (T1 := S) (T2 := ([] : List Int)) hNW y (by have := HSL.out; rw [this]; simp; omega)
                  (fun W' h => by have := (hOS.out.below (hbd W' h)).src_take S.length (Nat.le_refl _); rw [List.take_length] at this; exact this) (fun W' h => .inr ⟨_, rfl, fun j u hu => by simp [longV] at hu⟩) 32
                rw [HSL.out] at r1 s1
                rw [List.length_nil] at r3 s3
                rw [← HST2.out] at o3 o4
                have HO3 := Lib.hid o3
                have HO4 := Lib.hid o4
                have hbo := HBW.out.trans (HBz.out.drew.mono (Nat.le_trans (Nat.le_of_eq HNN.out.symm) HBW.out.size))
                have HB3 := Lib.hid (hbo.trans (b3.mono (Nat.le_refl _)))
                have HB4 := Lib.hid (hbo.trans (b4.mono (Nat.le_refl _)))
                have dx3 := (b31.cell (p := ⟨C, off + c', none⟩) (show C < W.drew.heap.size from Nat.lt_of_lt_of_le hCr HBz.out.size)).trans dx2
                clear hOS
                clear hbd hNW o3 o4 b3 b4 hbo b31
                go_wp2
                go_region_law (first
                  | (refine step_append_run rfl (.const (.slice none 0 0)) (.tmp 72) 32 rfl (.slice none 0 0) (.slice (some ⟨g', 0, none⟩) c' c') (by simp [Act.eval]) (by simp [Act.eval, Act.put]) r1 ?_)
                  | (refine step_append_run rfl (.const (.slice none 0 0)) (.tmp 72) 32 rfl (.slice none 0 0) (.slice (some ⟨g', 0, none⟩) c' c') (by simp [Act.eval]) (by simp [Act.eval, Act.put]) s1 ?_)
                  | (refine step_append_run rfl (.tmp 73) (.tmp 78) 32 rfl v1 (.slice (some ⟨w1.heap.size, 0, none⟩) 1 1) (by simp [Act.eval, Act.put]) (by simp [Act.eval, Act.put]) r2 ?_)
                  | (refine step_append_run rfl (.tmp 73) (.tmp 78) 32 rfl u1 (.slice (some ⟨W.drew.heap.size, 0, none⟩) 1 1) (by simp [Act.eval, Act.put]) (by simp [Act.eval, Act.put]) s2 ?_)
                  | (refine step_append_run rfl (.tmp 79) (.tmp 82) 32 rfl v2 (.slice (some ⟨g', 0, none⟩) 0 0) (by simp [Act.eval, Act.put]) (by simp [Act.eval, Act.put]) r3 ?_)
                  | (refine step_append_run rfl (.tmp 79) (.tmp 82) 32 rfl u2 (.slice (some ⟨g', 0, none⟩) 0 0) (by simp [Act.eval, Act.put]) (by simp [Act.eval, Act.put]) s3 ?_))
                all_goals
                  clear r1 r2 r3 s1 s2 s3 dx2 dx3
                  go_wp2
                  go_roundg g
                  case measure => omega
                  case rel => first | exact ⟨c' + 1, by omega, by go_num, HO3, HB3⟩ | exact ⟨c' + 1, by omega, by go_num, HO4, HB4⟩
              · obtain ⟨dc, hdc⟩ : ∃ dc, c' - j = dc := ⟨_, rfl⟩
                go_wp2
                go_quiet (fail)
                have HBz := Lib.hid (below_drewN' HBy.out nq)
                have dx2 := (HBz.out.cell (p := ⟨C, off + j, none⟩) hCr).trans ((HBW.out.cell (p := ⟨C, off + j, none⟩) HCN.out).trans HCELL.out)
                clear dx HBy
                generalize wr.drewN nq = W at *
                have hOS : Hid (OwnL N (.slice (some ⟨g', 0, none⟩) S.length c') S wo) := Lib.hid (by rw [HSL.out]; exact HO.out)
                have hNW : N ≤ W.drew.heap.size := Nat.le_trans (by rw [← HNN.out]; exact HBW.out.size) HBz.out.size
                have hbd : ∀ W', Below W.drew.heap.size W.drew W' → Below wo.heap.size wo W' := fun W' h => (HBz.out.drew).trans (h.mono HBz.out.size)
                obtain ⟨⟨v1, w1, v2, w2, v3, w3, r1, r2, r3, o3, b3, b31⟩, ⟨u1, z1, u2, z2, u3, z3, s1, s2, s3, o4, b4⟩⟩ := ins_runs (W := W.drew) (p := some ⟨g', 0, none⟩) (q := some ⟨g', j, none⟩) (c := c') (d := dc) (T1 := S) (T2 := ([] : List Int)) hNW y (by have := HSL.out; rw [this]; simp; omega)
                  (fun W' h => by have := (hOS.out.below (hbd W' h)).src_take S.length (Nat.le_refl _); rw [List.take_length] at this; exact this) (fun W' h => .inr ⟨_, rfl, fun j u hu => by simp [longV] at hu⟩) 32
                rw [HSL.out] at r1 s1
                rw [List.length_nil] at r3 s3
                rw [← HST2.out] at o3 o4
                have HO3 := Lib.hid o3
                have HO4 := Lib.hid o4
                have hbo := HBW.out.trans (HBz.out.drew.mono (Nat.le_trans (Nat.le_of_eq HNN.out.symm) HBW.out.size))
                have HB3 := Lib.hid (hbo.trans (b3.mono (Nat.le_refl _)))
                have HB4 := Lib.hid (hbo.trans (b4.mono (Nat.le_refl _)))
                have dx3 := (b31.cell (p := ⟨C, off + j, none⟩) (show C < W.drew.heap.size from Nat.lt_of_lt_of_le hCr HBz.out.size)).trans dx2
                have hjc' : (j : Int) ≤ (c' : Int) := by omega
                have hnn : ¬ (c' = j) := hcc
                clear hOS
                clear hbd hNW o3 o4 b3 b4 hbo b31
                go_wp2
                go_region_law (first
                  | (refine step_append_run rfl (.const (.slice none 0 0)) (.tmp 72) 32 rfl (.slice none 0 0) (.slice (some ⟨g', 0, none⟩) j c') (by simp [Act.eval]) (by simp [Act.eval, Act.put]) r1 ?_)
                  | (refine step_append_run rfl (.const (.slice none 0 0)) (.tmp 72) 32 rfl (.slice none 0 0) (.slice (some ⟨g', 0, none⟩) j c') (by simp [Act.eval]) (by simp [Act.eval, Act.put]) s1 ?_)
                  | (refine step_append_run rfl (.tmp 73) (.tmp 78) 32 rfl v1 (.slice (some ⟨w1.heap.size, 0, none⟩) 1 1) (by simp [Act.eval, Act.put]) (by simp [Act.eval, Act.put]) r2 ?_)
                  | (refine step_append_run rfl (.tmp 73) (.tmp 78) 32 rfl u1 (.slice (some ⟨W.drew.heap.size, 0, none⟩) 1 1) (by simp [Act.eval, Act.put]) (by simp [Act.eval, Act.put]) s2 ?_)
                  | (refine step_append_run rfl (.tmp 79) (.tmp 82) 32 rfl v2 (.slice (some ⟨g', j, none⟩) 0 dc) (by simp [Act.eval, Act.put]) (by simp [Act.eval, Act.put]) r3 ?_)
                  | (refine step_append_run rfl (.tmp 79) (.tmp 82) 32 rfl u2 (.slice (some ⟨g', j, none⟩) 0 dc) (by simp [Act.eval, Act.put]) (by simp [Act.eval, Act.put]) s3 ?_))
                all_goals
                  clear r1 r2 r3 s1 s2 s3 dx2 dx3
                  go_wp2
                  go_roundg g
                  case measure => omega
                  case rel => first | exact ⟨j + 1, by omega, by go_num, HO3, HB3⟩ | exact ⟨j + 1, by omega, by go_num, HO4, HB4⟩
    | zero =>
      obtain rfl : i = m := by omega
      have hE : L.take i = L := List.take_of_length_le (by rw [HM.out]; exact Nat.le_refl _)
      rw [hE] at HO
      have h64 : ∀ y ∈ L, In64 y := HN2.out.in64
      have hs64 : ∀ y ∈ sortL L, In64 y := fun y hy => h64 y ((sortL_perm L).mem_iff.1 hy)
      obtain ⟨pS, cS, rfl, hcS, hmS, hI⟩ := HO.out.ints hs64
      have hrk := fun j => rank_in64 k h64 (sortL_perm L) (sortL_sorted L) j
      have hsl : (sortL L).length = i := by rw [sortL_length, HM.out]
      have hH2 : Hs w.heap.size 62 B k vh (itemsN k L) wo := HH.out.below (by rw [HNN.out]; exact HBW.out)
      have hcn : countH (itemsN k L) = i := by rw [itemsN_count]; exact HM.out
      generalize itemsN k L = l at *
      generalize sortL L = S at *
      have hsI := hsl
      rw [hsl] at hcS ⊢
      have HI := Lib.hid hI
      have HRK := Lib.hid hrk
      have HSL := Lib.hid hsl
      have HS64 := Lib.hid hs64
      have HHo := Lib.hid hH2
      have HCN := Lib.hid hcn
      have HBo : Hid (Below w.heap.size w wo) := Lib.hid (HB.out.trans (HBW.out.mono (Nat.le_trans HB.out.size (Nat.le_of_eq HNN.out))))
      unfold maxLen at hmS
      clear hE h64 hs64 hrk hsl hH2 hcn hI hsI HO HH HBW HN2 HN HB
      go_wp2
      go_loopg [15] i (fun g s15 wx => ∃ j : Nat, j + g = i ∧ s15 = .int .i64 j ∧ Hid (Below wo.heap.size wo wx))
      case atStart => exact ⟨0, by omega, rfl, Lib.hid (Below.refl _ _)⟩
      case round =>
        obtain ⟨j, hjg, rfl, HBx⟩ := hrel
        cases gk with
        | succ g =>
          have hji : j < i := by omega
          have hjS : j < S.length := by rw [HSL.out]; exact hji
          obtain ⟨gS, oS, rfl, hgS, hcell, hx64⟩ := HI.out j hjS
          have hrk := HRK.out j
          rw [List.getElem?_eq_getElem hjS, Option.map_some] at hrk
          obtain ⟨y, hy⟩ : ∃ y, S[j] = y := ⟨_, rfl⟩
          rw [hy] at hcell hx64 hrk
          have d0 := (HBx.out.cell (p := ⟨gS, oS + j, none⟩) hgS).trans hcell
          have hra := rank_any (HHo.out.below HBx.out) (j + 1) (by omega) (by omega)
          rw [hrk] at hra
          simp only [rkV] at hra
          obtain ⟨J1, hJ1⟩ : ∃ J1, j + 1 = J1 := ⟨_, rfl⟩
          rw [hJ1] at hra
          have hJi : (j : Int) + 1 = (J1 : Int) := by omega
          have hJb : J1 ≤ 61 := by omega
          have hof := fun W => of_any k HK.out y hx64 W
          have HCL := Lib.hid hcell
          have HGS := Lib.hid hgS
          clear hrk hy hJ1 hx64 hcell
          go_wp2_with fail
          refine hra.mono ?_
          rintro e V1 ⟨rfl, hB1⟩
          have HB1 := Lib.hid (below_on HBx.out hB1 (Nat.le_refl _))
          have d1 := (HB1.out.cell (p := ⟨gS, oS + j, none⟩) HGS.out).trans HCL.out
          clear hra hB1 d0
          go_wp2_with fail
          refine (hof _).mono ?_
          rintro e V2 ⟨rfl, hB2⟩
          have HB2 := Lib.hid (below_on HB1.out hB2 (Nat.le_refl _))
          clear hof hB2 d1
          generalize ofI k y = A at *
          go_wp2
          go_roundg g
          case measure => omega
          case rel => exact ⟨j + 1, by omega, by rw [← hJi]; go_num, HB2⟩
        | zero =>
          obtain rfl : j = i := by omega
          have HH3 := Lib.hid (HHo.out.below HBx.out)
          have HB3 := Lib.hid (below_on HBo.out HBx.out (Nat.le_refl _))
          have hden := HD.out
          obtain ⟨D, hD⟩ : ∃ D, 1 + den = D := ⟨_, rfl⟩
          obtain ⟨D1, hD1⟩ : ∃ D1, D + 1 = D1 := ⟨_, rfl⟩
          obtain ⟨Q, hQ⟩ : ∃ Q, num % D1 = Q := ⟨_, rfl⟩
          have hDi : (1 : Int) + (den : Int) = (D : Int) := by omega
          have hD1i : (D : Int) + 1 = (D1 : Int) := by omega
          have hQi : (num : Int) % (D1 : Int) = (Q : Int) := by rw [← hQ]; rfl
          have hQi' : (num : Int).tmod (D1 : Int) = (Q : Int) := by rw [← hQ]; rfl
          have hD1z : ¬ ((D1 : Int) = 0) := by omega
          have hQD1 : Q < D1 := by rw [← hQ]; exact Nat.mod_lt _ (by omega)
          have hQD : Q ≤ D := by omega
          have hDa : 1 ≤ D := by omega
          have hDb : D ≤ 65536 := by omega
          have hD1b : D1 ≤ 65537 := by omega
          obtain ⟨R1, hR1⟩ : ∃ R1, j + 1 = R1 := ⟨_, rfl⟩
          have hR1i : (j : Int) + 1 = (R1 : Int) := by omega
          have hR1b : R1 ≤ 61 := by omega
          have hro := fun (W : World) (hW : Hs w.heap.size 62 B k vh l W) => rank_any hW R1 (by omega) (by omega)
          rw [rank_over (l := l) (n := R1) (by omega) (by rw [HCN.out]; omega)] at hro
          simp only [rkV] at hro
          have HRO := Lib.hid hro
          have hrz := fun (W : World) (hW : Hs w.heap.size 62 B k vh l W) => rank_zero hW
          have HRZ := Lib.hid hrz
          clear hro hrz hD hQ hR1 hden
          by_cases hj0 : j = 0
          · have HJ0 := Lib.hid hj0
            have hqn := quant_none HH3.out Q D hDa (by omega) hQD (by rw [HCN.out]; exact hj0)
            clear hj0
            go_wp2_with fail
            refine hqn.mono ?_
            rintro e V1 ⟨rfl, hB1⟩
            replace HH3 := Lib.hid (HH3.out.below hB1)
            replace HB3 := Lib.hid (below_on HB3.out hB1 (Nat.le_refl _))
            have hz := HRZ.out _ HH3.out
            clear hqn hB1
            go_wp2_with fail
            refine hz.mono ?_
            rintro e V2 ⟨rfl, rfl⟩
            have ho := HRO.out _ HH3.out
            clear hz
            go_wp2_with fail
            refine ho.mono ?_
            rintro e V3 ⟨rfl, hB1⟩
            replace HB3 := Lib.hid (below_on HB3.out hB1 (Nat.le_refl _))
            clear ho hB1
            have hjI : (j : Int) = 0 := by have := HJ0.out; omega
            go_wp2
            go_ret
            exact ⟨rfl, HB3.out⟩
          · have hjI : ¬ ((j : Int) = 0) := by omega
            have hj1 : 1 ≤ j := by omega
            obtain ⟨R, hR⟩ : ∃ R, rkN j Q D = R := ⟨_, rfl⟩
            have hRj : R ≤ j := by rw [← hR]; exact rkN_le hDa hQD hj1
            have hR1 : 1 ≤ R := by rw [← hR]; exact Nat.le_max_left _ _
            obtain ⟨ri, hri⟩ : ∃ ri, R - 1 = ri := ⟨_, rfl⟩
            have hrS : ri < S.length := by rw [HSL.out]; omega
            obtain ⟨gS, oS, rfl, hgS, hcell, hx64⟩ := HI.out ri hrS
            have hrk := HRK.out ri
            rw [List.getElem?_eq_getElem hrS, Option.map_some, show ri + 1 = R by omega, ← hR] at hrk
            obtain ⟨y, hy⟩ : ∃ y, S[ri] = y := ⟨_, rfl⟩
            rw [hy] at hcell hx64 hrk
            obtain ⟨hlo, hhi⟩ := in_bounds HK.out hx64
            have hqa := quant_any HH3.out Q D hDa (by omega) hQD (by rw [HCN.out]; exact hj1) (ofI k y) (by rw [HCN.out]; exact hrk)
            obtain ⟨lo, hloe⟩ : ∃ lo, lowI k (ofI k y) = lo := ⟨_, rfl⟩
            obtain ⟨hi, hhie⟩ : ∃ hi, highI k (ofI k y) = hi := ⟨_, rfl⟩
            rw [hloe] at hlo hqa
            rw [hhie] at hhi hqa
            have hrd : R = max 1 ((j * Q + D - 1) / D) := by rw [← hR]; rfl
            have hPb : j * Q ≤ 60 * 65536 := Nat.mul_le_mul hm60 (by omega)
            obtain ⟨P, hPe⟩ : ∃ P, j * Q = P := ⟨_, rfl⟩
            have hw : IntKind.u64.wrap ((j : Int) * (Q : Int)) = (P : Int) := by rw [← Int.natCast_mul, hPe, IntKind.wrap_u64]; omega
            have hw2 : (j : Int) * (Q : Int) = (P : Int) := by rw [← Int.natCast_mul, hPe]
            rw [hPe] at hrd hPb
            obtain ⟨Z, hZ⟩ : ∃ Z, (P + D - 1) / D = Z := ⟨_, rfl⟩
            rw [hZ] at hrd
            have e0 : ((P : Int) + D - 1) = ((P + D - 1 : Nat) : Int) := by omega
            have e1 : ((P : Int) + D - 1) / (D : Int) = (Z : Int) := by rw [e0, ← hZ]; rfl
            have e2 : ((P : Int) + D - 1).tdiv (D : Int) = (Z : Int) := by rw [e0, ← hZ]; rfl
            have hmx : max (Z : Int) 1 = (R : Int) := by rw [hrd]; omega
            have hmx2 : (if Z < 1 then (1 : Int) else (Z : Int)) = (R : Int) := by rw [hrd]; split <;> omega
            have hRi : (R : Int) - 1 = (ri : Int) := by omega
            have hriJ : (ri : Int) < (j : Int) := by omega
            have hDz : ¬ ((D : Int) = 0) := by omega
            have hZ60 : Z ≤ 60 := by omega
            have HCL := Lib.hid hcell
            have HGS := Lib.hid hgS
            have hR60 : R ≤ 60 := by omega
            clear hrk hy hloe hhie hcell hR hri hrd hPe hZ e0 hj0 hx64
            go_wp2_with fail
            refine hqa.mono ?_
            rintro e V1 ⟨rfl, hB1⟩
            replace HH3 := Lib.hid (HH3.out.below hB1)
            replace HB3 := Lib.hid (below_on HB3.out hB1 (Nat.le_refl _))
            replace HBx := Lib.hid (below_on HBx.out hB1 (Nat.le_refl _))
            have hz := HRZ.out _ HH3.out
            clear hqa hB1
            go_wp2_with fail
            refine hz.mono ?_
            rintro e V2 ⟨rfl, rfl⟩
            have ho := HRO.out _ HH3.out
            clear hz
            go_wp2_with fail
            refine ho.mono ?_
            rintro e V3 ⟨rfl, hB1⟩
            replace HB3 := Lib.hid (below_on HB3.out hB1 (Nat.le_refl _))
            replace HBx := Lib.hid (below_on HBx.out hB1 (Nat.le_refl _))
            have d1 := (HBx.out.cell (p := ⟨gS, oS + ri, none⟩) HGS.out).trans HCL.out
            clear ho hB1
            go_wp2
            go_ret
            exact ⟨rfl, HB3.out⟩
theorem HistRank_walk (a0 : Int) (h0 : (Lit.int .u8 a0).wf = true) (p1 : Option Addr) (xs1 : List Int) (cap1 : Nat) (hl1 : xs1.length ≤ cap1) (hm1 : cap1 ≤ maxLen) (a2 : Int) (h2 : (Lit.int .u16 a2).wf = true) (a3 : Int) (h3 : (Lit.int .u16 a3).wf = true) (W : World) (hn1 : Ints p1 xs1 W) :
    Calls Try.prog 5 #[.int .u8 a0, .slice p1 xs1.length cap1, .int .u16 a2, .int .u16 a3] W fun e w' => e = .returned (.bool true) ∧ Below W.heap.size W w' := by
  obtain ⟨x, rfl, hx⟩ := wf_u8 h0
  obtain ⟨n, rfl, hn⟩ := wf_u16 h2
  obtain ⟨d, rfl, hd⟩ := wf_u16 h3
  exact HistRank_core x hx p1 xs1 cap1 hl1 hm1 n d hn hd W hn1
end Go.Proofs.Ytdcdhbkgeipdjaa
