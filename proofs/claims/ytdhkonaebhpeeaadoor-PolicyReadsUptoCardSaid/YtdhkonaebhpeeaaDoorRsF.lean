/- Where a word's head stands, word after word: what the chapter's own side goes by. The chapter's own side: a word's head against a name. -/
import Derived.Test.YtdhkonaebhpeeaaDoorPoRead
import Derived.Test.YtdhkonaebhpeeaaDoorRtD
namespace Go.Proofs.YtdhkonaebhpeeaaDoor.Po
open Go

/-- The last of the first k names that is a; else -1. -/
def atN (a : List UInt8) : Nat → Int
  | 0 => -1
  | k + 1 => if nameN k = a then (k : Int) else atN a k
def atT (a : List UInt8) : Int := if nameN 10 = a then 10 else atN a 10
theorem atN_none {a : List UInt8} : ∀ k, (∀ j, j < k → nameN j ≠ a) → atN a k = -1
  | 0, _ => rfl
  | k + 1, h => by
    rw [atN, if_neg (h k (by omega))]
    exact atN_none k fun j hj => h j (by omega)
theorem atN_some {a : List UInt8} {j : Nat} (hn : nameN j = a) : ∀ k, k ≤ 11 → j < k → atN a k = (j : Int)
  | 0, _, h => by omega
  | k + 1, hk, h => by
    rw [atN]
    by_cases e : k = j
    · rw [e, if_pos hn]
    · rw [if_neg (fun e2 => e (name_inj (by omega) (by omega) (e2.trans hn.symm))), atN_some hn k (by omega) (by omega)]
theorem at_pos (a : List UInt8) : atT a = match posZ a with | some k => (k : Int) | none => -1 := by
  cases h : posZ a with
  | none =>
    have hn := pos_none h
    unfold atT
    rw [if_neg (hn 10 (by omega))]
    exact atN_none 10 fun j hj => hn j (by omega)
  | some k =>
    obtain ⟨hk, he⟩ := pos_some h
    have h11 := atN_some he 11 (by omega) hk
    exact h11
theorem at_bound (a : List UInt8) : -1 ≤ atT a ∧ atT a < 11 := by
  rw [at_pos]
  cases h : posZ a with
  | none => exact ⟨by decide, by decide⟩
  | some k =>
    have := (pos_some h).1
    exact ⟨by show (-1 : Int) ≤ (k : Int); omega, by show (k : Int) < 11; omega⟩
theorem wholes_snoc : ∀ (l : List (List UInt8)) (t : List Int) (x : List UInt8), wholesZ l = some t → wholesZ (l ++ [x]) = if (wholeF x).2 = 0 then some (t ++ [(wholeF x).1]) else none
  | [], t, x, h => by
    cases h
    rw [List.nil_append, wholesZ]
    rfl
  | y :: r, t, x, h => by
    rw [wholesZ] at h
    by_cases hy : (wholeF y).2 = 0
    · rw [if_pos hy] at h
      obtain ⟨t', h1, rfl⟩ := Option.map_eq_some_iff.1 h
      rw [List.cons_append, wholesZ, if_pos hy, wholes_snoc r t' x h1]
      split <;> rfl
    · rw [if_neg hy] at h
      cases h
theorem word_form {s : StZ} {w : List UInt8} (h : (cutB 61 w).length ≠ 2) : wordZ s w = none := by
  unfold wordZ
  split
  · rename_i e
    rw [e] at h
    exact absurd rfl h
  · rfl
theorem word_at {s : StZ} {w a v : List UInt8} (hc : cutB 61 w = [a, v]) : wordZ s w = if atT a < 0 then none else if (atT a).toNat ∈ s.met then none else
    if atT a = 10 then (wholesZ (cutB 47 v)).map fun t => ⟨s.n, t, 10 :: s.met⟩
    else if (wholeF v).2 = 0 then some ⟨s.n.set (atT a).toNat (wholeF v).1, s.t, (atT a).toNat :: s.met⟩ else none := by
  unfold wordZ
  rw [hc, at_pos]
  dsimp only
  obtain ⟨p, hp⟩ : ∃ p, posZ a = p := ⟨_, rfl⟩
  rw [hp]
  cases p with
  | none => rfl
  | some k =>
    dsimp only
    rw [if_neg (by omega : ¬ (k : Int) < 0), Int.toNat_natCast]
    by_cases h1 : k ∈ s.met
    · rw [if_pos h1, if_pos h1]
    · rw [if_neg h1, if_neg h1]
      by_cases h2 : k = 10
      · rw [if_pos h2, if_pos (by omega : (k : Int) = 10), h2]
      · rw [if_neg h2, if_neg (by omega : ¬ (k : Int) = 10)]
theorem words_drop {s : StZ} {ws : List (List UInt8)} {i : Nat} (h : i < ws.length) : wordsZ s (ws.drop i) = match wordZ s ws[i] with | none => none | some s' => wordsZ s' (ws.drop (i + 1)) := by
  rw [List.drop_eq_getElem_cons h, wordsZ]
  cases wordZ s ws[i] <;> rfl
end Go.Proofs.YtdhkonaebhpeeaaDoor.Po

namespace Go.Proofs.YtdhkonaebhpeeaaDoor.Po
open Go Go.RowKit

/-- What each operation of the test yields. -/
def RdPhi (NM : ByteArray) (i : Nat) (vs : List Value) : Nat → Value → World → Prop
  | 3, v, w => ∃ h, v = .slice (some ⟨h, 0, none⟩) 10 10 ∧ h < w.heap.size ∧ w.cell? ⟨h, i, none⟩ = some (.string NM)
  | 5, v, w => ∃ h, v = .pointer (some ⟨h, i, none⟩) ∧ h < w.heap.size ∧ w.cell? ⟨h, i, none⟩ = some (.string NM)
  | k, v, _ => v = vs.getD k undef
theorem RdPhi.stays {NM : ByteArray} {i : Nat} {vs : List Value} : ∀ k v w w', RdPhi NM i vs k v w → Reg.Old w w' → RdPhi NM i vs k v w' := by
  intro k v w w' h hB
  unfold RdPhi at *
  split at h
  · obtain ⟨g, h1, h2, h3⟩ := h
    exact ⟨g, h1, Nat.lt_of_lt_of_le h2 (Below.size hB), (Below.cell (p := ⟨g, i, none⟩) hB h2).trans h3⟩
  · obtain ⟨g, h1, h2, h3⟩ := h
    exact ⟨g, h1, Nat.lt_of_lt_of_le h2 (Below.size hB), (Below.cell (p := ⟨g, i, none⟩) hB h2).trans h3⟩
  · exact h
set_option maxRecDepth 100000 in
set_option maxHeartbeats 16000000 in
theorem read_sixteen (C0 : Code) (hC0 : Tryd.f24.body.bind (findG 16) = some C0) (Q : Exit → Act → World → Prop) (W : World) (G lp cp i : Nat) (A NM : ByteArray) (b : Bool) (hi : i < 10) (hlp : (0 : Int) < (lp : Int)) (hNM : tx (nameN i) = NM) (hb : (A.toList == NM.toList) = b) (hG0 : G < W.heap.size) (hc0 : W.cell? ⟨G, 0, none⟩ = some (.string A)) (s0 s1 s2 s3 s4 s5 s6 s7 s8 s9 s11 s13 s14 s15 s16 s17 s18 s19 s20 s21 s22 s23 s24 s25 s26 s27 s28 s29 s30 s31 s32 s33 s34 s35 s36 s37 s38 s39 s40 s41 s42 s43 s44 s45 s46 s47 s48 s49 s50 s51 s52 s53 s54 s55 s56 s57 s58 s59 s60 s61 s62 s63 s64 s65 s66 s67 s68 s69 s70 s71 s72 s73 s74 s75 s76 s77 s78 s79 s80 s81 s82 s83 s84 s85 s86 s87 s88 s89 s90 s91 s92 s93 s94 s95 s96 s97 s98 s99 s100 s101 s102 s103 s104 s105 s106 s107 s108 s109 s110 s111 s112 s113 s114 s115 s116 : Value)
    (hQ : ∀ (W' : World) (z43 z44 z45 z46 z47 z48 z49 : Value), Below W.heap.size W W' → Q .normal { tmps := (s0 :: s1 :: s2 :: s3 :: s4 :: s5 :: s6 :: s7 :: s8 :: s9 :: .slice (some ⟨G, 0, none⟩) lp cp :: s11 :: .int .i64 (i : Int) :: s13 :: s14 :: s15 :: s16 :: s17 :: s18 :: s19 :: s20 :: s21 :: s22 :: s23 :: s24 :: s25 :: s26 :: s27 :: s28 :: s29 :: s30 :: s31 :: s32 :: s33 :: s34 :: s35 :: s36 :: s37 :: s38 :: s39 :: s40 :: s41 :: s42 :: z43 :: z44 :: z45 :: z46 :: z47 :: z48 :: z49 :: .bool b :: s51 :: s52 :: s53 :: s54 :: s55 :: s56 :: s57 :: s58 :: s59 :: s60 :: s61 :: s62 :: s63 :: s64 :: s65 :: s66 :: s67 :: s68 :: s69 :: s70 :: s71 :: s72 :: s73 :: s74 :: s75 :: s76 :: s77 :: s78 :: s79 :: s80 :: s81 :: s82 :: s83 :: s84 :: s85 :: s86 :: s87 :: s88 :: s89 :: s90 :: s91 :: s92 :: s93 :: s94 :: s95 :: s96 :: s97 :: s98 :: s99 :: s100 :: s101 :: s102 :: s103 :: s104 :: s105 :: s106 :: s107 :: s108 :: s109 :: s110 :: s111 :: s112 :: s113 :: s114 :: s115 :: s116 :: []).toArray, defers := [] } W') :
    Code.wp Tryd.prog C0 Q { tmps := (s0 :: s1 :: s2 :: s3 :: s4 :: s5 :: s6 :: s7 :: s8 :: s9 :: .slice (some ⟨G, 0, none⟩) lp cp :: s11 :: .int .i64 (i : Int) :: s13 :: s14 :: s15 :: s16 :: s17 :: s18 :: s19 :: s20 :: s21 :: s22 :: s23 :: s24 :: s25 :: s26 :: s27 :: s28 :: s29 :: s30 :: s31 :: s32 :: s33 :: s34 :: s35 :: s36 :: s37 :: s38 :: s39 :: s40 :: s41 :: s42 :: s43 :: s44 :: s45 :: s46 :: s47 :: s48 :: s49 :: s50 :: s51 :: s52 :: s53 :: s54 :: s55 :: s56 :: s57 :: s58 :: s59 :: s60 :: s61 :: s62 :: s63 :: s64 :: s65 :: s66 :: s67 :: s68 :: s69 :: s70 :: s71 :: s72 :: s73 :: s74 :: s75 :: s76 :: s77 :: s78 :: s79 :: s80 :: s81 :: s82 :: s83 :: s84 :: s85 :: s86 :: s87 :: s88 :: s89 :: s90 :: s91 :: s92 :: s93 :: s94 :: s95 :: s96 :: s97 :: s98 :: s99 :: s100 :: s101 :: s102 :: s103 :: s104 :: s105 :: s106 :: s107 :: s108 :: s109 :: s110 :: s111 :: s112 :: s113 :: s114 :: s115 :: s116 :: []).toArray, defers := [] } W := by
  cases hC0
  have hnam : ∀ w, Calls Tryd.prog 38 #[] w fun e w' => ∃ h, e = .returned (.slice (some ⟨h, 0, none⟩) 10 10) ∧ h < w'.heap.size ∧ w'.cell? ⟨h, i, none⟩ = some (.string NM) ∧ Below w.heap.size w w' := fun w => by
    have := names_at i hi w
    rwa [hNM] at this
  have hG : G < W.drew.heap.size := hG0
  have hcell : W.drew.cell? ⟨G, 0, none⟩ = some (.string A) := hc0
  clear hNM hG0 hc0
  refine Reg.wp_region_inv (n := 117) (RdPhi NM i [.slice (some ⟨G, 0, none⟩) lp cp, .pointer (some ⟨G, 0, none⟩), .string A, undef, .int .i64 (i : Int), undef, .string NM, .bool b]) (by kernel_rfl) (by kernel_rfl) rfl RdPhi.stays ?_ ?_
  · refine ⟨?_, ?_, ?_, ?_, ?_, ?_, ?_, ?_, trivial⟩
    · intro cx wc hB hp hq
      have g10 : cx.tmps[10]? = some (.slice (some ⟨G, 0, none⟩) lp cp) := (hq 10 (by kernel_rfl)).trans rfl
      refine Reg.ok_value Reg.Old.refl (v := .slice (some ⟨G, 0, none⟩) lp cp) (Reg.wanted_none rfl) ?_ rfl
      go_simp
    · intro cx wc hB hp hq
      have g43 : cx.tmps[43]? = some (.slice (some ⟨G, 0, none⟩) lp cp) := by obtain ⟨_, g, hv⟩ := Reg.pred hp 0 43 (by kernel_rfl) rfl rfl; exact g.trans (congrArg some hv)
      have hp1 : ¬ lp = 0 := by omega
      refine Reg.ok_value Reg.Old.refl (v := .pointer (some ⟨G, 0, none⟩)) (Reg.wanted_none rfl) ?_ rfl
      go_simp
    · intro cx wc hB hp hq
      have g44 : cx.tmps[44]? = some (.pointer (some ⟨G, 0, none⟩)) := by obtain ⟨_, g, hv⟩ := Reg.pred hp 1 44 (by kernel_rfl) rfl rfl; exact g.trans (congrArg some hv)
      have c1 := (Below.cell (p := ⟨G, 0, none⟩) hB hG).trans hcell
      refine Reg.ok_value Reg.Old.refl (v := .string A) (Reg.wanted_none rfl) ?_ rfl
      go_simp
    · intro cx wc hB hp hq
      refine Reg.ok_call (f := 38) (args := #[]) (Reg.wanted_none rfl) (by go_simp) ((hnam wc).mono ?_)
      rintro e w' ⟨h, rfl, hc1, hc2, hB2⟩
      exact ⟨_, rfl, hB2, h, rfl, hc1, hc2⟩
    · intro cx wc hB hp hq
      have g12 : cx.tmps[12]? = some (.int .i64 (i : Int)) := (hq 12 (by kernel_rfl)).trans rfl
      refine Reg.ok_value Reg.Old.refl (v := .int .i64 (i : Int)) (Reg.wanted_none rfl) ?_ rfl
      go_simp
    · intro cx wc hB hp hq
      obtain ⟨v46, g46, h, hv, h1, h2⟩ := Reg.pred hp 3 46 (by kernel_rfl) rfl rfl
      subst hv
      have g47 : cx.tmps[47]? = some (.int .i64 (i : Int)) := by obtain ⟨_, g, hv⟩ := Reg.pred hp 4 47 (by kernel_rfl) rfl rfl; exact g.trans (congrArg some hv)
      have i0 : (0 : Int) ≤ (i : Int) := by omega
      have i1 : (i : Int) < 10 := by omega
      refine Reg.ok_value Reg.Old.refl (v := .pointer (some ⟨h, i, none⟩)) (Reg.wanted_none rfl) ?_ ⟨h, rfl, h1, h2⟩
      go_simp
    · intro cx wc hB hp hq
      obtain ⟨v48, g48, h, hv, h1, h2⟩ := Reg.pred hp 5 48 (by kernel_rfl) rfl rfl
      subst hv
      refine Reg.ok_value Reg.Old.refl (v := .string NM) (Reg.wanted_none rfl) ?_ rfl
      go_simp
    · intro cx wc hB hp hq
      have g45 : cx.tmps[45]? = some (.string A) := by obtain ⟨_, g, hv⟩ := Reg.pred hp 2 45 (by kernel_rfl) rfl rfl; exact g.trans (congrArg some hv)
      have g49 : cx.tmps[49]? = some (.string NM) := by obtain ⟨_, g, hv⟩ := Reg.pred hp 6 49 (by kernel_rfl) rfl rfl; exact g.trans (congrArg some hv)
      have e1 := hb
      refine Reg.ok_value Reg.Old.refl (v := .bool b) (Reg.wanted_none rfl) ?_ rfl
      go_simp
  · intro cx w1 hB hsz hdf hv ho
    obtain ⟨R46, g46, _⟩ := hv 3 _ 46 rfl rfl
    obtain ⟨R48, g48, _⟩ := hv 5 _ 48 rfl rfl
    have hcx := Reg.frame_eq [s0, s1, s2, s3, s4, s5, s6, s7, s8, s9, .slice (some ⟨G, 0, none⟩) lp cp, s11, .int .i64 (i : Int), s13, s14, s15, s16, s17, s18, s19, s20, s21, s22, s23, s24, s25, s26, s27, s28, s29, s30, s31, s32, s33, s34, s35, s36, s37, s38, s39, s40, s41, s42, .slice (some ⟨G, 0, none⟩) lp cp, .pointer (some ⟨G, 0, none⟩), .string A, R46, .int .i64 (i : Int), R48, .string NM, .bool b, s51, s52, s53, s54, s55, s56, s57, s58, s59, s60, s61, s62, s63, s64, s65, s66, s67, s68, s69, s70, s71, s72, s73, s74, s75, s76, s77, s78, s79, s80, s81, s82, s83, s84, s85, s86, s87, s88, s89, s90, s91, s92, s93, s94, s95, s96, s97, s98, s99, s100, s101, s102, s103, s104, s105, s106, s107, s108, s109, s110, s111, s112, s113, s114, s115, s116] (by simpa using hsz) hdf ⟨((Reg.kept ho 0 (by kernel_rfl)).trans rfl), ((Reg.kept ho 1 (by kernel_rfl)).trans rfl), ((Reg.kept ho 2 (by kernel_rfl)).trans rfl), ((Reg.kept ho 3 (by kernel_rfl)).trans rfl), ((Reg.kept ho 4 (by kernel_rfl)).trans rfl), ((Reg.kept ho 5 (by kernel_rfl)).trans rfl), ((Reg.kept ho 6 (by kernel_rfl)).trans rfl), ((Reg.kept ho 7 (by kernel_rfl)).trans rfl), ((Reg.kept ho 8 (by kernel_rfl)).trans rfl), ((Reg.kept ho 9 (by kernel_rfl)).trans rfl), ((Reg.kept ho 10 (by kernel_rfl)).trans rfl), ((Reg.kept ho 11 (by kernel_rfl)).trans rfl), ((Reg.kept ho 12 (by kernel_rfl)).trans rfl), ((Reg.kept ho 13 (by kernel_rfl)).trans rfl), ((Reg.kept ho 14 (by kernel_rfl)).trans rfl), ((Reg.kept ho 15 (by kernel_rfl)).trans rfl), ((Reg.kept ho 16 (by kernel_rfl)).trans rfl), ((Reg.kept ho 17 (by kernel_rfl)).trans rfl), ((Reg.kept ho 18 (by kernel_rfl)).trans rfl), ((Reg.kept ho 19 (by kernel_rfl)).trans rfl), ((Reg.kept ho 20 (by kernel_rfl)).trans rfl), ((Reg.kept ho 21 (by kernel_rfl)).trans rfl), ((Reg.kept ho 22 (by kernel_rfl)).trans rfl), ((Reg.kept ho 23 (by kernel_rfl)).trans rfl), ((Reg.kept ho 24 (by kernel_rfl)).trans rfl), ((Reg.kept ho 25 (by kernel_rfl)).trans rfl), ((Reg.kept ho 26 (by kernel_rfl)).trans rfl), ((Reg.kept ho 27 (by kernel_rfl)).trans rfl), ((Reg.kept ho 28 (by kernel_rfl)).trans rfl), ((Reg.kept ho 29 (by kernel_rfl)).trans rfl), ((Reg.kept ho 30 (by kernel_rfl)).trans rfl), ((Reg.kept ho 31 (by kernel_rfl)).trans rfl), ((Reg.kept ho 32 (by kernel_rfl)).trans rfl), ((Reg.kept ho 33 (by kernel_rfl)).trans rfl), ((Reg.kept ho 34 (by kernel_rfl)).trans rfl), ((Reg.kept ho 35 (by kernel_rfl)).trans rfl), ((Reg.kept ho 36 (by kernel_rfl)).trans rfl), ((Reg.kept ho 37 (by kernel_rfl)).trans rfl), ((Reg.kept ho 38 (by kernel_rfl)).trans rfl), ((Reg.kept ho 39 (by kernel_rfl)).trans rfl), ((Reg.kept ho 40 (by kernel_rfl)).trans rfl), ((Reg.kept ho 41 (by kernel_rfl)).trans rfl), ((Reg.kept ho 42 (by kernel_rfl)).trans rfl), (by obtain ⟨_, g, hx⟩ := hv 0 _ 43 rfl rfl; exact g.trans (congrArg some hx)), (by obtain ⟨_, g, hx⟩ := hv 1 _ 44 rfl rfl; exact g.trans (congrArg some hx)), (by obtain ⟨_, g, hx⟩ := hv 2 _ 45 rfl rfl; exact g.trans (congrArg some hx)), g46, (by obtain ⟨_, g, hx⟩ := hv 4 _ 47 rfl rfl; exact g.trans (congrArg some hx)), g48, (by obtain ⟨_, g, hx⟩ := hv 6 _ 49 rfl rfl; exact g.trans (congrArg some hx)), (by obtain ⟨_, g, hx⟩ := hv 7 _ 50 rfl rfl; exact g.trans (congrArg some hx)), ((Reg.kept ho 51 (by kernel_rfl)).trans rfl), ((Reg.kept ho 52 (by kernel_rfl)).trans rfl), ((Reg.kept ho 53 (by kernel_rfl)).trans rfl), ((Reg.kept ho 54 (by kernel_rfl)).trans rfl), ((Reg.kept ho 55 (by kernel_rfl)).trans rfl), ((Reg.kept ho 56 (by kernel_rfl)).trans rfl), ((Reg.kept ho 57 (by kernel_rfl)).trans rfl), ((Reg.kept ho 58 (by kernel_rfl)).trans rfl), ((Reg.kept ho 59 (by kernel_rfl)).trans rfl), ((Reg.kept ho 60 (by kernel_rfl)).trans rfl), ((Reg.kept ho 61 (by kernel_rfl)).trans rfl), ((Reg.kept ho 62 (by kernel_rfl)).trans rfl), ((Reg.kept ho 63 (by kernel_rfl)).trans rfl), ((Reg.kept ho 64 (by kernel_rfl)).trans rfl), ((Reg.kept ho 65 (by kernel_rfl)).trans rfl), ((Reg.kept ho 66 (by kernel_rfl)).trans rfl), ((Reg.kept ho 67 (by kernel_rfl)).trans rfl), ((Reg.kept ho 68 (by kernel_rfl)).trans rfl), ((Reg.kept ho 69 (by kernel_rfl)).trans rfl), ((Reg.kept ho 70 (by kernel_rfl)).trans rfl), ((Reg.kept ho 71 (by kernel_rfl)).trans rfl), ((Reg.kept ho 72 (by kernel_rfl)).trans rfl), ((Reg.kept ho 73 (by kernel_rfl)).trans rfl), ((Reg.kept ho 74 (by kernel_rfl)).trans rfl), ((Reg.kept ho 75 (by kernel_rfl)).trans rfl), ((Reg.kept ho 76 (by kernel_rfl)).trans rfl), ((Reg.kept ho 77 (by kernel_rfl)).trans rfl), ((Reg.kept ho 78 (by kernel_rfl)).trans rfl), ((Reg.kept ho 79 (by kernel_rfl)).trans rfl), ((Reg.kept ho 80 (by kernel_rfl)).trans rfl), ((Reg.kept ho 81 (by kernel_rfl)).trans rfl), ((Reg.kept ho 82 (by kernel_rfl)).trans rfl), ((Reg.kept ho 83 (by kernel_rfl)).trans rfl), ((Reg.kept ho 84 (by kernel_rfl)).trans rfl), ((Reg.kept ho 85 (by kernel_rfl)).trans rfl), ((Reg.kept ho 86 (by kernel_rfl)).trans rfl), ((Reg.kept ho 87 (by kernel_rfl)).trans rfl), ((Reg.kept ho 88 (by kernel_rfl)).trans rfl), ((Reg.kept ho 89 (by kernel_rfl)).trans rfl), ((Reg.kept ho 90 (by kernel_rfl)).trans rfl), ((Reg.kept ho 91 (by kernel_rfl)).trans rfl), ((Reg.kept ho 92 (by kernel_rfl)).trans rfl), ((Reg.kept ho 93 (by kernel_rfl)).trans rfl), ((Reg.kept ho 94 (by kernel_rfl)).trans rfl), ((Reg.kept ho 95 (by kernel_rfl)).trans rfl), ((Reg.kept ho 96 (by kernel_rfl)).trans rfl), ((Reg.kept ho 97 (by kernel_rfl)).trans rfl), ((Reg.kept ho 98 (by kernel_rfl)).trans rfl), ((Reg.kept ho 99 (by kernel_rfl)).trans rfl), ((Reg.kept ho 100 (by kernel_rfl)).trans rfl), ((Reg.kept ho 101 (by kernel_rfl)).trans rfl), ((Reg.kept ho 102 (by kernel_rfl)).trans rfl), ((Reg.kept ho 103 (by kernel_rfl)).trans rfl), ((Reg.kept ho 104 (by kernel_rfl)).trans rfl), ((Reg.kept ho 105 (by kernel_rfl)).trans rfl), ((Reg.kept ho 106 (by kernel_rfl)).trans rfl), ((Reg.kept ho 107 (by kernel_rfl)).trans rfl), ((Reg.kept ho 108 (by kernel_rfl)).trans rfl), ((Reg.kept ho 109 (by kernel_rfl)).trans rfl), ((Reg.kept ho 110 (by kernel_rfl)).trans rfl), ((Reg.kept ho 111 (by kernel_rfl)).trans rfl), ((Reg.kept ho 112 (by kernel_rfl)).trans rfl), ((Reg.kept ho 113 (by kernel_rfl)).trans rfl), ((Reg.kept ho 114 (by kernel_rfl)).trans rfl), ((Reg.kept ho 115 (by kernel_rfl)).trans rfl), ((Reg.kept ho 116 (by kernel_rfl)).trans rfl), trivial⟩
    rw [hcx]
    exact hQ _ _ _ _ _ _ _ _ hB
end Go.Proofs.YtdhkonaebhpeeaaDoor.Po

