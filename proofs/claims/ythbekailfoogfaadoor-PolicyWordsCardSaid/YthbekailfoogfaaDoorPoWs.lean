/- PolicyWords walked. -/
import Derived.Test.YthbekailfoogfaaDoorPoWr
namespace Go.Proofs.YthbekailfoogfaaDoor.Po
open Go Go.RowKit

theorem words_in1 : ∀ a : Fin 11, (readZ (wordAt a)).1.length = 10 ∧ ∀ x ∈ (readZ (wordAt a)).1, In64 x := by decide +kernel
theorem words_in2 : ∀ a b : Fin 11, (readZ (wordAt a ++ 32 :: wordAt b)).1.length = 10 ∧ ∀ x ∈ (readZ (wordAt a ++ 32 :: wordAt b)).1, In64 x := by decide +kernel
theorem words_len : ∀ a : Fin 11, (wordAt a).length ≤ 12 := by decide +kernel
theorem three_eta {α β γ : Type} (x : α × β × γ) {c : γ} (h : x.2.2 = c) : x = (x.1, x.2.1, c) := by rw [← h]
/-- What each operation yields. -/
def WsPhi (_Q2 _Q3 _Q4 : Nat) (p2 p3 p4 : Option Addr) (c2 c3 c4 : Nat) (a0 a1 a2 a3 a4 a5 a6 a7 a8 a9 m0 m1 m2 m3 m4 m5 m6 m7 m8 m9 : Int) (t r : List Int) : Nat → Value → World → Prop
  | 20, v, w => BaseAt v w
  | i, v, _ => v = ([.bool true, .bool true, .int .i64 0, .bool true, .bool true, .bool true, .int .i64 0, .bool true, .bool true, .bool true, .int .i64 0, .bool true, .bool true, .bool true, .agg #[.int .i64 a0, .int .i64 a1, .int .i64 a2, .int .i64 a3, .int .i64 a4, .int .i64 a5, .int .i64 a6, .int .i64 a7, .int .i64 a8, .int .i64 a9, .slice p2 t.length c2], .agg #[.int .i64 a0, .int .i64 a1, .int .i64 a2, .int .i64 a3, .int .i64 a4, .int .i64 a5, .int .i64 a6, .int .i64 a7, .int .i64 a8, .int .i64 a9, .slice p3 t.length c3], .bool true, .bool true, .bool true, .agg #[.int .i64 m0, .int .i64 m1, .int .i64 m2, .int .i64 m3, .int .i64 m4, .int .i64 m5, .int .i64 m6, .int .i64 m7, .int .i64 m8, .int .i64 m9, .slice p4 r.length c4], undef, .bool false, .bool true, .bool true, .bool true, .agg #[.int .i64 a0, .int .i64 a1, .int .i64 a2, .int .i64 a3, .int .i64 a4, .int .i64 a5, .int .i64 a6, .int .i64 a7, .int .i64 a8, .int .i64 a9, .slice p2 t.length c2], .agg #[.int .i64 m0, .int .i64 m1, .int .i64 m2, .int .i64 m3, .int .i64 m4, .int .i64 m5, .int .i64 m6, .int .i64 m7, .int .i64 m8, .int .i64 m9, .slice p4 r.length c4], .bool false, .bool true, .bool true, .bool true] : List Value).getD i undef
theorem WsPhi.stays {Q2 Q3 Q4 : Nat} {p2 p3 p4 : Option Addr} {c2 c3 c4 : Nat} {a0 a1 a2 a3 a4 a5 a6 a7 a8 a9 m0 m1 m2 m3 m4 m5 m6 m7 m8 m9 : Int} {t r : List Int} : ∀ i v w w', WsPhi Q2 Q3 Q4 p2 p3 p4 c2 c3 c4 a0 a1 a2 a3 a4 a5 a6 a7 a8 a9 m0 m1 m2 m3 m4 m5 m6 m7 m8 m9 t r i v w → Reg.Old w w' → WsPhi Q2 Q3 Q4 p2 p3 p4 c2 c3 c4 a0 a1 a2 a3 a4 a5 a6 a7 a8 a9 m0 m1 m2 m3 m4 m5 m6 m7 m8 m9 t r i v w' := by
  intro i v w w' hv hB
  unfold WsPhi at *
  split at hv
  · obtain ⟨u, rfl, hu⟩ := hv
    exact ⟨u, rfl, hu.below hB⟩
  · exact hv
set_option maxRecDepth 100000 in
set_option maxHeartbeats 16000000 in
theorem PolicyWords_walk (a : Int) (ha : (Lit.int .u8 a).wf = true) (b : Int) (hb : (Lit.int .u8 b).wf = true) (w : World) (hX : Tens w) :
    Calls Tryd.prog 6 #[.int .u8 a, .int .u8 b] w fun e w' => e = .returned (.bool true) ∧ Below w.heap.size w w' := by
  have ga : 0 ≤ a ∧ a ≤ 255 := by simpa [Lit.wf, IntKind.min, IntKind.max, IntKind.signed, IntKind.bits] using ha
  have gb : 0 ≤ b ∧ b ≤ 255 := by simpa [Lit.wf, IntKind.min, IntKind.max, IntKind.signed, IntKind.bits] using hb
  obtain ⟨x, rfl⟩ : ∃ x : Nat, a = x := ⟨a.toNat, by omega⟩
  obtain ⟨y, rfl⟩ : ∃ y : Nat, b = y := ⟨b.toNat, by omega⟩
  obtain ⟨i, hi, hi11⟩ : ∃ k, x % 11 = k ∧ k < 11 := ⟨_, rfl, by omega⟩
  obtain ⟨j, hj, hj11⟩ : ∃ k, y % 11 = k ∧ k < 11 := ⟨_, rfl, by omega⟩
  have hii : (x : Int) % 11 = (i : Int) := by omega
  have hji : (y : Int) % 11 = (j : Int) := by omega
  have hex := examples_any w hX
  have hcell : ∀ W : World, (W.alloc (.cells #[.string ⟨#[115, 108, 111, 116, 115, 61, 57]⟩, .string ⟨#[108, 111, 119, 61, 51]⟩, .string ⟨#[104, 105, 103, 104, 61, 55, 48]⟩, .string ⟨#[116, 111, 112, 61, 50]⟩, .string ⟨#[115, 107, 101, 116, 99, 104, 61, 53]⟩, .string ⟨#[102, 105, 110, 101, 61, 49]⟩, .string ⟨#[105, 100, 108, 101, 61, 51]⟩, .string ⟨#[119, 105, 110, 100, 111, 119, 61, 55]⟩, .string ⟨#[108, 97, 116, 101, 61, 49]⟩, .string ⟨#[102, 117, 116, 117, 114, 101, 61, 50]⟩, .string ⟨#[116, 105, 101, 114, 115, 61, 51, 47, 57]⟩] 9)).cell? ⟨W.heap.size, i, none⟩ = some (.string (tx (wordAt i))) := fun W =>
    (CellsAt.new #[.string ⟨#[115, 108, 111, 116, 115, 61, 57]⟩, .string ⟨#[108, 111, 119, 61, 51]⟩, .string ⟨#[104, 105, 103, 104, 61, 55, 48]⟩, .string ⟨#[116, 111, 112, 61, 50]⟩, .string ⟨#[115, 107, 101, 116, 99, 104, 61, 53]⟩, .string ⟨#[102, 105, 110, 101, 61, 49]⟩, .string ⟨#[105, 100, 108, 101, 61, 51]⟩, .string ⟨#[119, 105, 110, 100, 111, 119, 61, 55]⟩, .string ⟨#[108, 97, 116, 101, 61, 49]⟩, .string ⟨#[102, 117, 116, 117, 114, 101, 61, 50]⟩, .string ⟨#[116, 105, 101, 114, 115, 61, 51, 47, 57]⟩] 9 W).cell i _ (row_at wordL i hi11)
  have hcell' : ∀ W : World, (W.alloc (.cells #[.string ⟨#[115, 108, 111, 116, 115, 61, 57]⟩, .string ⟨#[108, 111, 119, 61, 51]⟩, .string ⟨#[104, 105, 103, 104, 61, 55, 48]⟩, .string ⟨#[116, 111, 112, 61, 50]⟩, .string ⟨#[115, 107, 101, 116, 99, 104, 61, 53]⟩, .string ⟨#[102, 105, 110, 101, 61, 49]⟩, .string ⟨#[105, 100, 108, 101, 61, 51]⟩, .string ⟨#[119, 105, 110, 100, 111, 119, 61, 55]⟩, .string ⟨#[108, 97, 116, 101, 61, 49]⟩, .string ⟨#[102, 117, 116, 117, 114, 101, 61, 50]⟩, .string ⟨#[116, 105, 101, 114, 115, 61, 51, 47, 57]⟩] 9)).cell? ⟨W.heap.size, j, none⟩ = some (.string (tx (wordAt j))) := fun W =>
    (CellsAt.new #[.string ⟨#[115, 108, 111, 116, 115, 61, 57]⟩, .string ⟨#[108, 111, 119, 61, 51]⟩, .string ⟨#[104, 105, 103, 104, 61, 55, 48]⟩, .string ⟨#[116, 111, 112, 61, 50]⟩, .string ⟨#[115, 107, 101, 116, 99, 104, 61, 53]⟩, .string ⟨#[102, 105, 110, 101, 61, 49]⟩, .string ⟨#[105, 100, 108, 101, 61, 51]⟩, .string ⟨#[119, 105, 110, 100, 111, 119, 61, 55]⟩, .string ⟨#[108, 97, 116, 101, 61, 49]⟩, .string ⟨#[102, 117, 116, 117, 114, 101, 61, 50]⟩, .string ⟨#[116, 105, 101, 114, 115, 61, 51, 47, 57]⟩] 9 W).cell j _ (row_at wordL j hj11)
  have e1 : tx (wordAt i) ++ ⟨#[32]⟩ ++ tx (wordAt j) = tx (wordAt i ++ 32 :: wordAt j) := by
    rw [show (⟨#[32]⟩ : ByteArray) = tx [32] from rfl, tx_append, tx_append, List.append_assoc]
    rfl
  have e2 : tx (wordAt j) ++ ⟨#[32]⟩ ++ tx (wordAt i) = tx (wordAt j ++ 32 :: wordAt i) := by
    rw [show (⟨#[32]⟩ : ByteArray) = tx [32] from rfl, tx_append, tx_append, List.append_assoc]
    rfl
  have l1 := words_len ⟨i, hi11⟩
  have l2 := words_len ⟨j, hj11⟩
  have lx : (wordAt i ++ 32 :: wordAt j).length ≤ 1099511627776 := by rw [List.length_append, List.length_cons]; simp only at l1 l2; omega
  have ly : (wordAt j ++ 32 :: wordAt i).length ≤ 1099511627776 := by rw [List.length_append, List.length_cons]; simp only at l1 l2; omega
  have lz : (wordAt i).length ≤ 1099511627776 := by simp only at l1; omega
  have o1 := words_one ⟨i, hi11⟩
  have o2 := words_in1 ⟨i, hi11⟩
  have z1 : (tx (wordAt i)).size ≤ 12 := by rw [tx_len]; exact l1
  have z2 : (tx (wordAt j)).size ≤ 12 := by rw [tx_len]; exact l2
  have r4' := read_at _ _ _ _ (three_eta (readZ (wordAt i)) o1.1) lz
  have hne : ¬ ((readZ (wordAt i)).1 = baseZ.n ∧ (readZ (wordAt i)).2.1 = baseZ.t) := by
    rintro ⟨h1, h2⟩
    refine o1.2 ?_
    rw [three_eta (readZ (wordAt i)) o1.1, h1, h2]
    rfl
  by_cases hij : i = j
  · subst hij
    have hw0 := words_same ⟨i, hi11⟩
    simp only at hw0 o2
    obtain ⟨m, hm⟩ : ∃ m, (readZ (wordAt i)).1 = m := ⟨_, rfl⟩
    obtain ⟨r, hr⟩ : ∃ m, (readZ (wordAt i)).2.1 = m := ⟨_, rfl⟩
    rw [hm] at o2
    obtain ⟨m0, m1, m2, m3, m4, m5, m6, m7, m8, m9, hme⟩ := ten_of o2.1
    subst hme
    rw [hm, hr] at r4'
    have r2 : ∀ W : World, Calls Tryd.prog 23 #[.string (tx (wordAt i) ++ ⟨#[32]⟩ ++ tx (wordAt i))] W fun e w' => ∃ p c, e = .returned (.tuple #[.agg #[.int .i64 0, .int .i64 0, .int .i64 0, .int .i64 0, .int .i64 0, .int .i64 0, .int .i64 0, .int .i64 0, .int .i64 0, .int .i64 0, .slice p 0 c], .int .i64 2]) ∧ Tr (fun _ => False) (.slice p 0 c) [] w' ∧ Below W.heap.size W w' := fun W => by rw [e1]; exact read_at _ _ _ _ hw0 lx W
    have r4 : ∀ W : World, Calls Tryd.prog 23 #[.string (tx (wordAt i))] W fun e w' => ∃ p c, e = .returned (.tuple #[.agg #[.int .i64 m0, .int .i64 m1, .int .i64 m2, .int .i64 m3, .int .i64 m4, .int .i64 m5, .int .i64 m6, .int .i64 m7, .int .i64 m8, .int .i64 m9, .slice p r.length c], .int .i64 0]) ∧ Tr (fun _ => False) (.slice p r.length c) r w' ∧ Below W.heap.size W w' := fun W => r4' W
    have r3 := r2
    obtain ⟨S, hS⟩ : ∃ S, tx (wordAt i) = S := ⟨_, rfl⟩
    rw [hS] at hcell r2 r3 r4 z1
    have y1 : (9223372036854775807 < S.size + 1) = False := eq_false (by omega)
    have y2 : (9223372036854775807 < S.size + 1 + S.size) = False := eq_false (by omega)
    clear z1 z2
    clear ha hb hi hj hw0 hS hX r4' hne hm hr o1 o2 l1 l2 lx ly lz e1 e2 hcell'
    go_enter Tryd.func6, Tryd.ntmps6
    go_wp2_with fail
    refine hex.mono ?_
    rintro e w1 ⟨rfl, hB1⟩
    have hcell1 := hcell w1
    have HB1 : Hid (Below w.heap.size w (w1.alloc (.cells #[.string ⟨#[115, 108, 111, 116, 115, 61, 57]⟩, .string ⟨#[108, 111, 119, 61, 51]⟩, .string ⟨#[104, 105, 103, 104, 61, 55, 48]⟩, .string ⟨#[116, 111, 112, 61, 50]⟩, .string ⟨#[115, 107, 101, 116, 99, 104, 61, 53]⟩, .string ⟨#[102, 105, 110, 101, 61, 49]⟩, .string ⟨#[105, 100, 108, 101, 61, 51]⟩, .string ⟨#[119, 105, 110, 100, 111, 119, 61, 55]⟩, .string ⟨#[108, 97, 116, 101, 61, 49]⟩, .string ⟨#[102, 117, 116, 117, 114, 101, 61, 50]⟩, .string ⟨#[116, 105, 101, 114, 115, 61, 51, 47, 57]⟩] 9))) := Lib.hid (hB1.alloc hB1.size _)
    clear hex hB1 hcell
    go_wp2_with fail
    refine (r2 _).mono ?_
    rintro e w2 ⟨p2, c2, rfl, hT2, hB2⟩
    have HB2 : Hid (Below w.heap.size w (w2.alloc (.cells #[.int .i64 0, .int .i64 0, .int .i64 0, .int .i64 0, .int .i64 0, .int .i64 0, .int .i64 0, .int .i64 0, .int .i64 0, .int .i64 0, .slice p2 0 c2] 24))) := Lib.hid ((HB1.out.trans (hB2.mono HB1.out.size)).alloc (Below.size (HB1.out.trans (hB2.mono HB1.out.size))) _)
    clear hT2 hB2 HB1 r2
    go_wp2_with fail
    refine (r3 _).mono ?_
    rintro e w3 ⟨p3, c3, rfl, hT3, hB3⟩
    have HB3 : Hid (Below w.heap.size w (w3.alloc (.cells #[.int .i64 0, .int .i64 0, .int .i64 0, .int .i64 0, .int .i64 0, .int .i64 0, .int .i64 0, .int .i64 0, .int .i64 0, .int .i64 0, .slice p3 0 c3] 24))) := Lib.hid ((HB2.out.trans (hB3.mono HB2.out.size)).alloc (Below.size (HB2.out.trans (hB3.mono HB2.out.size))) _)
    clear hT3 hB3 HB2 r3
    go_wp2_with fail
    refine (r4 _).mono ?_
    rintro e w4 ⟨p4, c4, rfl, hT4, hB4⟩
    have HB4 : Hid (Below w.heap.size w (w4.alloc (.cells #[.int .i64 m0, .int .i64 m1, .int .i64 m2, .int .i64 m3, .int .i64 m4, .int .i64 m5, .int .i64 m6, .int .i64 m7, .int .i64 m8, .int .i64 m9, .slice p4 r.length c4] 24))) := Lib.hid ((HB3.out.trans (hB4.mono HB3.out.size)).alloc (Below.size (HB3.out.trans (hB4.mono HB3.out.size))) _)
    clear hT4 hB4 HB3 r4
    go_wp2
    go_ret
    exact ⟨rfl, HB4.out⟩
  · have hijd2 : decide ((i : Int) = (j : Int)) = false := by rw [decide_eq_false_iff_not]; omega
    have hw0 := words_two ⟨i, hi11⟩ ⟨j, hj11⟩ (by simpa using hij)
    have o3 := words_in2 ⟨i, hi11⟩ ⟨j, hj11⟩
    simp only at hw0 o2 o3
    obtain ⟨m, hm⟩ : ∃ m, (readZ (wordAt i)).1 = m := ⟨_, rfl⟩
    obtain ⟨r, hr⟩ : ∃ m, (readZ (wordAt i)).2.1 = m := ⟨_, rfl⟩
    obtain ⟨n, hn⟩ : ∃ m, (readZ (wordAt i ++ 32 :: wordAt j)).1 = m := ⟨_, rfl⟩
    obtain ⟨t, ht⟩ : ∃ m, (readZ (wordAt i ++ 32 :: wordAt j)).2.1 = m := ⟨_, rfl⟩
    have e5 := three_eta (readZ (wordAt i ++ 32 :: wordAt j)) hw0.1
    have hne2 : ¬ (n = m ∧ t = r) := by
      rintro ⟨h1, h2⟩
      refine hw0.2.2 ?_
      rw [e5, three_eta (readZ (wordAt i)) o1.1, hn, ht, hm, hr, h1, h2]
    have e6 := hw0.2.1.symm.trans e5
    rw [hn, ht] at e5 e6
    rw [hm, hr] at hne r4'
    rw [hm] at o2
    rw [hn] at o3
    have HS1 : Hid (∀ (W : World) (v u : Value), Tr (fun _ => False) v t W → Tr (fun _ => False) u t W → Calls Tryd.prog 17 #[.agg (valsP n v), .agg (valsP n u)] W fun e w' => e = .returned (.bool true) ∧ Below W.heap.size W w') := Lib.hid (fun W v u h1 h2 => by
      have := same_any _ _ n t n t v u W o3.1 o3.2 h1 o3.1 o3.2 h2
      rwa [decide_eq_true (And.intro rfl rfl)] at this)
    have HS2 : Hid (∀ (W : World) (v u : Value), Tr (fun _ => False) v r W → Tr (fun _ => False) u baseZ.t W → Calls Tryd.prog 17 #[.agg (valsP m v), .agg (valsP baseZ.n u)] W fun e w' => e = .returned (.bool false) ∧ Below W.heap.size W w') := Lib.hid (fun W v u h1 h2 => by
      have := same_any _ _ m r baseZ.n baseZ.t v u W o2.1 o2.2 h1 rfl (by decide) h2
      rwa [decide_eq_false hne] at this)
    have HS3 : Hid (∀ (W : World) (v u : Value), Tr (fun _ => False) v t W → Tr (fun _ => False) u r W → Calls Tryd.prog 17 #[.agg (valsP n v), .agg (valsP m u)] W fun e w' => e = .returned (.bool false) ∧ Below W.heap.size W w') := Lib.hid (fun W v u h1 h2 => by
      have := same_any _ _ n t m r v u W o3.1 o3.2 h1 o2.1 o2.2 h2
      rwa [decide_eq_false hne2] at this)
    obtain ⟨m0, m1, m2, m3, m4, m5, m6, m7, m8, m9, hme⟩ := ten_of o2.1
    obtain ⟨a0, a1, a2, a3, a4, a5, a6, a7, a8, a9, hae⟩ := ten_of o3.1
    subst hme hae
    have r2 : ∀ W : World, Calls Tryd.prog 23 #[.string (tx (wordAt i) ++ ⟨#[32]⟩ ++ tx (wordAt j))] W fun e w' => ∃ p c, e = .returned (.tuple #[.agg #[.int .i64 a0, .int .i64 a1, .int .i64 a2, .int .i64 a3, .int .i64 a4, .int .i64 a5, .int .i64 a6, .int .i64 a7, .int .i64 a8, .int .i64 a9, .slice p t.length c], .int .i64 0]) ∧ Tr (fun _ => False) (.slice p t.length c) t w' ∧ Below W.heap.size W w' := fun W => by rw [e1]; exact read_at _ _ _ _ e5 lx W
    have r3 : ∀ W : World, Calls Tryd.prog 23 #[.string (tx (wordAt j) ++ ⟨#[32]⟩ ++ tx (wordAt i))] W fun e w' => ∃ p c, e = .returned (.tuple #[.agg #[.int .i64 a0, .int .i64 a1, .int .i64 a2, .int .i64 a3, .int .i64 a4, .int .i64 a5, .int .i64 a6, .int .i64 a7, .int .i64 a8, .int .i64 a9, .slice p t.length c], .int .i64 0]) ∧ Tr (fun _ => False) (.slice p t.length c) t w' ∧ Below W.heap.size W w' := fun W => by rw [e2]; exact read_at _ _ _ _ e6 ly W
    have r4 : ∀ W : World, Calls Tryd.prog 23 #[.string (tx (wordAt i))] W fun e w' => ∃ p c, e = .returned (.tuple #[.agg #[.int .i64 m0, .int .i64 m1, .int .i64 m2, .int .i64 m3, .int .i64 m4, .int .i64 m5, .int .i64 m6, .int .i64 m7, .int .i64 m8, .int .i64 m9, .slice p r.length c], .int .i64 0]) ∧ Tr (fun _ => False) (.slice p r.length c) r w' ∧ Below W.heap.size W w' := fun W => r4' W
    obtain ⟨S, hS⟩ : ∃ S, tx (wordAt i) = S := ⟨_, rfl⟩
    obtain ⟨S', hS'⟩ : ∃ S, tx (wordAt j) = S := ⟨_, rfl⟩
    rw [hS] at hcell r2 r3 r4 z1
    rw [hS'] at hcell' r2 r3 z2
    have y1 : (9223372036854775807 < S.size + 1) = False := eq_false (by omega)
    have y2 : (9223372036854775807 < S.size + 1 + S'.size) = False := eq_false (by omega)
    have y3 : (9223372036854775807 < S'.size + 1) = False := eq_false (by omega)
    have y4 : (9223372036854775807 < S'.size + 1 + S.size) = False := eq_false (by omega)
    clear z1 z2
    have HS1 : Hid (∀ W : World, ∀ {p2 c2 p3 c3}, Tr (fun _ => False) (.slice p2 t.length c2) t W → Tr (fun _ => False) (.slice p3 t.length c3) t W → Calls Tryd.prog 17 #[.agg #[.int .i64 a0, .int .i64 a1, .int .i64 a2, .int .i64 a3, .int .i64 a4, .int .i64 a5, .int .i64 a6, .int .i64 a7, .int .i64 a8, .int .i64 a9, .slice p2 t.length c2], .agg #[.int .i64 a0, .int .i64 a1, .int .i64 a2, .int .i64 a3, .int .i64 a4, .int .i64 a5, .int .i64 a6, .int .i64 a7, .int .i64 a8, .int .i64 a9, .slice p3 t.length c3]] W fun e w' => e = .returned (.bool true) ∧ Below W.heap.size W w') := Lib.hid (fun W p2 c2 p3 c3 h1 h2 => HS1.out W _ _ h1 h2)
    have HS2 : Hid (∀ (W : World) (u : Value), ∀ {p4 c4}, Tr (fun _ => False) (.slice p4 r.length c4) r W → Tr (fun _ => False) u baseZ.t W → Calls Tryd.prog 17 #[.agg #[.int .i64 m0, .int .i64 m1, .int .i64 m2, .int .i64 m3, .int .i64 m4, .int .i64 m5, .int .i64 m6, .int .i64 m7, .int .i64 m8, .int .i64 m9, .slice p4 r.length c4], .agg #[.int .i64 64, .int .i64 32, .int .i64 64, .int .i64 8, .int .i64 6, .int .i64 2, .int .i64 2, .int .i64 60, .int .i64 30, .int .i64 5, u]] W fun e w' => e = .returned (.bool false) ∧ Below W.heap.size W w') := Lib.hid (fun W u p4 c4 h1 h2 => HS2.out W _ _ h1 h2)
    have HS3 : Hid (∀ W : World, ∀ {p2 c2 p4 c4}, Tr (fun _ => False) (.slice p2 t.length c2) t W → Tr (fun _ => False) (.slice p4 r.length c4) r W → Calls Tryd.prog 17 #[.agg #[.int .i64 a0, .int .i64 a1, .int .i64 a2, .int .i64 a3, .int .i64 a4, .int .i64 a5, .int .i64 a6, .int .i64 a7, .int .i64 a8, .int .i64 a9, .slice p2 t.length c2], .agg #[.int .i64 m0, .int .i64 m1, .int .i64 m2, .int .i64 m3, .int .i64 m4, .int .i64 m5, .int .i64 m6, .int .i64 m7, .int .i64 m8, .int .i64 m9, .slice p4 r.length c4]] W fun e w' => e = .returned (.bool false) ∧ Below W.heap.size W w') := Lib.hid (fun W p2 c2 p4 c4 h1 h2 => HS3.out W _ _ h1 h2)
    clear ha hb hi hj hw0 hS hS' hX r4' hne hne2 hm hr hn ht o1 o2 o3 l1 l2 lx ly lz e1 e2 e5 e6
    go_enter Tryd.func6, Tryd.ntmps6
    go_wp2_with fail
    refine hex.mono ?_
    rintro e w1 ⟨rfl, hB1⟩
    have hcell1 := hcell w1
    have hcell2 := hcell' w1
    have HB1 : Hid (Below w.heap.size w (w1.alloc (.cells #[.string ⟨#[115, 108, 111, 116, 115, 61, 57]⟩, .string ⟨#[108, 111, 119, 61, 51]⟩, .string ⟨#[104, 105, 103, 104, 61, 55, 48]⟩, .string ⟨#[116, 111, 112, 61, 50]⟩, .string ⟨#[115, 107, 101, 116, 99, 104, 61, 53]⟩, .string ⟨#[102, 105, 110, 101, 61, 49]⟩, .string ⟨#[105, 100, 108, 101, 61, 51]⟩, .string ⟨#[119, 105, 110, 100, 111, 119, 61, 55]⟩, .string ⟨#[108, 97, 116, 101, 61, 49]⟩, .string ⟨#[102, 117, 116, 117, 114, 101, 61, 50]⟩, .string ⟨#[116, 105, 101, 114, 115, 61, 51, 47, 57]⟩] 9))) := Lib.hid (hB1.alloc hB1.size _)
    clear hex hB1 hcell hcell'
    go_wp2_with fail
    refine (r2 _).mono ?_
    rintro e w2 ⟨p2, c2, rfl, hT2, hB2⟩
    have HB2 : Hid (Below w.heap.size w (w2.alloc (.cells #[.int .i64 a0, .int .i64 a1, .int .i64 a2, .int .i64 a3, .int .i64 a4, .int .i64 a5, .int .i64 a6, .int .i64 a7, .int .i64 a8, .int .i64 a9, .slice p2 t.length c2] 24))) := Lib.hid ((HB1.out.trans (hB2.mono HB1.out.size)).alloc (Below.size (HB1.out.trans (hB2.mono HB1.out.size))) _)
    have HT2 := Lib.hid (hT2.below ((Below.refl _ _).alloc (Nat.le_refl _) (.cells #[.int .i64 a0, .int .i64 a1, .int .i64 a2, .int .i64 a3, .int .i64 a4, .int .i64 a5, .int .i64 a6, .int .i64 a7, .int .i64 a8, .int .i64 a9, .slice p2 t.length c2] 24)))
    have HC2 := Lib.hid (CellsAt.new #[.int .i64 a0, .int .i64 a1, .int .i64 a2, .int .i64 a3, .int .i64 a4, .int .i64 a5, .int .i64 a6, .int .i64 a7, .int .i64 a8, .int .i64 a9, .slice p2 t.length c2] 24 w2)
    obtain ⟨Q2, hQ2⟩ : ∃ Q, w2.heap.size = Q := ⟨_, rfl⟩
    rw [hQ2] at HC2
    clear hT2 hB2 HB1 r2
    clear hcell1 hcell2
    go_wp2_with fail
    refine (r3 _).mono ?_
    rintro e w3 ⟨p3, c3, rfl, hT3, hB3⟩
    have HB3 : Hid (Below w.heap.size w (w3.alloc (.cells #[.int .i64 a0, .int .i64 a1, .int .i64 a2, .int .i64 a3, .int .i64 a4, .int .i64 a5, .int .i64 a6, .int .i64 a7, .int .i64 a8, .int .i64 a9, .slice p3 t.length c3] 24))) := Lib.hid ((HB2.out.trans (hB3.mono HB2.out.size)).alloc (Below.size (HB2.out.trans (hB3.mono HB2.out.size))) _)
    have HT2x3 := Lib.hid ((HT2.out.below hB3).below ((Below.refl _ _).alloc (Nat.le_refl _) (.cells #[.int .i64 a0, .int .i64 a1, .int .i64 a2, .int .i64 a3, .int .i64 a4, .int .i64 a5, .int .i64 a6, .int .i64 a7, .int .i64 a8, .int .i64 a9, .slice p3 t.length c3] 24)))
    clear HT2
    have HC2x3 := Lib.hid ((HC2.out.below hB3).below ((Below.refl _ _).alloc (Nat.le_refl _) (.cells #[.int .i64 a0, .int .i64 a1, .int .i64 a2, .int .i64 a3, .int .i64 a4, .int .i64 a5, .int .i64 a6, .int .i64 a7, .int .i64 a8, .int .i64 a9, .slice p3 t.length c3] 24)))
    clear HC2
    have HT3 := Lib.hid (hT3.below ((Below.refl _ _).alloc (Nat.le_refl _) (.cells #[.int .i64 a0, .int .i64 a1, .int .i64 a2, .int .i64 a3, .int .i64 a4, .int .i64 a5, .int .i64 a6, .int .i64 a7, .int .i64 a8, .int .i64 a9, .slice p3 t.length c3] 24)))
    have HC3 := Lib.hid (CellsAt.new #[.int .i64 a0, .int .i64 a1, .int .i64 a2, .int .i64 a3, .int .i64 a4, .int .i64 a5, .int .i64 a6, .int .i64 a7, .int .i64 a8, .int .i64 a9, .slice p3 t.length c3] 24 w3)
    obtain ⟨Q3, hQ3⟩ : ∃ Q, w3.heap.size = Q := ⟨_, rfl⟩
    rw [hQ3] at HC3
    clear hT3 hB3 HB2 r3
    go_wp2_with fail
    refine (r4 _).mono ?_
    rintro e w4 ⟨p4, c4, rfl, hT4, hB4⟩
    have HB4 : Hid (Below w.heap.size w (w4.alloc (.cells #[.int .i64 m0, .int .i64 m1, .int .i64 m2, .int .i64 m3, .int .i64 m4, .int .i64 m5, .int .i64 m6, .int .i64 m7, .int .i64 m8, .int .i64 m9, .slice p4 r.length c4] 24))) := Lib.hid ((HB3.out.trans (hB4.mono HB3.out.size)).alloc (Below.size (HB3.out.trans (hB4.mono HB3.out.size))) _)
    have HT2x3x4 := Lib.hid ((HT2x3.out.below hB4).below ((Below.refl _ _).alloc (Nat.le_refl _) (.cells #[.int .i64 m0, .int .i64 m1, .int .i64 m2, .int .i64 m3, .int .i64 m4, .int .i64 m5, .int .i64 m6, .int .i64 m7, .int .i64 m8, .int .i64 m9, .slice p4 r.length c4] 24)))
    clear HT2x3
    have HC2x3x4 := Lib.hid ((HC2x3.out.below hB4).below ((Below.refl _ _).alloc (Nat.le_refl _) (.cells #[.int .i64 m0, .int .i64 m1, .int .i64 m2, .int .i64 m3, .int .i64 m4, .int .i64 m5, .int .i64 m6, .int .i64 m7, .int .i64 m8, .int .i64 m9, .slice p4 r.length c4] 24)))
    clear HC2x3
    have HT3x4 := Lib.hid ((HT3.out.below hB4).below ((Below.refl _ _).alloc (Nat.le_refl _) (.cells #[.int .i64 m0, .int .i64 m1, .int .i64 m2, .int .i64 m3, .int .i64 m4, .int .i64 m5, .int .i64 m6, .int .i64 m7, .int .i64 m8, .int .i64 m9, .slice p4 r.length c4] 24)))
    clear HT3
    have HC3x4 := Lib.hid ((HC3.out.below hB4).below ((Below.refl _ _).alloc (Nat.le_refl _) (.cells #[.int .i64 m0, .int .i64 m1, .int .i64 m2, .int .i64 m3, .int .i64 m4, .int .i64 m5, .int .i64 m6, .int .i64 m7, .int .i64 m8, .int .i64 m9, .slice p4 r.length c4] 24)))
    clear HC3
    have HT4 := Lib.hid (hT4.below ((Below.refl _ _).alloc (Nat.le_refl _) (.cells #[.int .i64 m0, .int .i64 m1, .int .i64 m2, .int .i64 m3, .int .i64 m4, .int .i64 m5, .int .i64 m6, .int .i64 m7, .int .i64 m8, .int .i64 m9, .slice p4 r.length c4] 24)))
    have HC4 := Lib.hid (CellsAt.new #[.int .i64 m0, .int .i64 m1, .int .i64 m2, .int .i64 m3, .int .i64 m4, .int .i64 m5, .int .i64 m6, .int .i64 m7, .int .i64 m8, .int .i64 m9, .slice p4 r.length c4] 24 w4)
    obtain ⟨Q4, hQ4⟩ : ∃ Q, w4.heap.size = Q := ⟨_, rfl⟩
    rw [hQ4] at HC4
    clear hT4 hB4 HB3 r4
    go_wp2_with fail
    obtain ⟨W0, hW0⟩ : ∃ W0, (w4.alloc (.cells #[.int .i64 m0, .int .i64 m1, .int .i64 m2, .int .i64 m3, .int .i64 m4, .int .i64 m5, .int .i64 m6, .int .i64 m7, .int .i64 m8, .int .i64 m9, .slice p4 r.length c4] 24)) = W0 := ⟨_, rfl⟩
    rw [hW0] at HT2x3x4 HC2x3x4 HT3x4 HC3x4 HT4 HC4 HB4 ⊢
    clear hW0 hQ2 hQ3 hQ4
    refine Reg.wp_region_inv (n := 98) (WsPhi Q2 Q3 Q4 p2 p3 p4 c2 c3 c4 a0 a1 a2 a3 a4 a5 a6 a7 a8 a9 m0 m1 m2 m3 m4 m5 m6 m7 m8 m9 t r) (by kernel_rfl) (by kernel_rfl) rfl WsPhi.stays ?_ ?_
    · refine ⟨?_, ?_, ?_, ?_, ?_, ?_, ?_, ?_, ?_, ?_, ?_, ?_, ?_, ?_, ?_, ?_, ?_, ?_, ?_, ?_, ?_, ?_, ?_, ?_, ?_, ?_, ?_, ?_, ?_, ?_, ?_, trivial⟩
      · intro cx wc hB hp hs
        have g5 : cx.tmps[5]? = some (.bool true) := (hs 5 (by kernel_rfl)).trans rfl
        refine Reg.ok_value Reg.Old.refl (v := .bool true) (Reg.wanted_none rfl) ?_ rfl
        go_simp
      · intro cx wc hB hp hs
        have g68 : cx.tmps[68]? = some (.bool true) := by obtain ⟨_, g, hv⟩ := Reg.pred hp 0 68 (by kernel_rfl) rfl rfl; exact g.trans (congrArg some hv)
        refine Reg.ok_value Reg.Old.refl (v := .bool true) (Reg.wanted_none rfl) ?_ rfl
        go_simp
      · intro cx wc hB hp hs
        have g10 : cx.tmps[10]? = some (.int .i64 0) := (hs 10 (by kernel_rfl)).trans rfl
        have g69 : cx.tmps[69]? = some (.bool true) := by obtain ⟨_, g, hv⟩ := Reg.pred hp 1 69 (by kernel_rfl) rfl rfl; exact g.trans (congrArg some hv)
        refine Reg.ok_value Reg.Old.refl (v := .int .i64 0) (Reg.wanted_at (j := 1) (d := 69) rfl rfl rfl g69) ?_ rfl
        go_simp
      · intro cx wc hB hp hs
        have g70 : cx.tmps[70]? = some (.int .i64 0) := by obtain ⟨_, g, hv⟩ := Reg.pred hp 2 70 (by kernel_rfl) rfl rfl; exact g.trans (congrArg some hv)
        have g69 : cx.tmps[69]? = some (.bool true) := by obtain ⟨_, g, hv⟩ := Reg.pred hp 1 69 (by kernel_rfl) rfl rfl; exact g.trans (congrArg some hv)
        refine Reg.ok_value Reg.Old.refl (v := .bool true) (Reg.wanted_at (j := 1) (d := 69) rfl rfl rfl g69) ?_ rfl
        go_simp
      · intro cx wc hB hp hs
        have g69 : cx.tmps[69]? = some (.bool true) := by obtain ⟨_, g, hv⟩ := Reg.pred hp 1 69 (by kernel_rfl) rfl rfl; exact g.trans (congrArg some hv)
        have g71 : cx.tmps[71]? = some (.bool true) := by obtain ⟨_, g, hv⟩ := Reg.pred hp 3 71 (by kernel_rfl) rfl rfl; exact g.trans (congrArg some hv)
        refine Reg.ok_value Reg.Old.refl (v := .bool true) (Reg.wanted_none rfl) ?_ rfl
        go_simp
      · intro cx wc hB hp hs
        have g72 : cx.tmps[72]? = some (.bool true) := by obtain ⟨_, g, hv⟩ := Reg.pred hp 4 72 (by kernel_rfl) rfl rfl; exact g.trans (congrArg some hv)
        refine Reg.ok_value Reg.Old.refl (v := .bool true) (Reg.wanted_none rfl) ?_ rfl
        go_simp
      · intro cx wc hB hp hs
        have g12 : cx.tmps[12]? = some (.int .i64 0) := (hs 12 (by kernel_rfl)).trans rfl
        have g73 : cx.tmps[73]? = some (.bool true) := by obtain ⟨_, g, hv⟩ := Reg.pred hp 5 73 (by kernel_rfl) rfl rfl; exact g.trans (congrArg some hv)
        refine Reg.ok_value Reg.Old.refl (v := .int .i64 0) (Reg.wanted_at (j := 5) (d := 73) rfl rfl rfl g73) ?_ rfl
        go_simp
      · intro cx wc hB hp hs
        have g74 : cx.tmps[74]? = some (.int .i64 0) := by obtain ⟨_, g, hv⟩ := Reg.pred hp 6 74 (by kernel_rfl) rfl rfl; exact g.trans (congrArg some hv)
        have g73 : cx.tmps[73]? = some (.bool true) := by obtain ⟨_, g, hv⟩ := Reg.pred hp 5 73 (by kernel_rfl) rfl rfl; exact g.trans (congrArg some hv)
        refine Reg.ok_value Reg.Old.refl (v := .bool true) (Reg.wanted_at (j := 5) (d := 73) rfl rfl rfl g73) ?_ rfl
        go_simp
      · intro cx wc hB hp hs
        have g73 : cx.tmps[73]? = some (.bool true) := by obtain ⟨_, g, hv⟩ := Reg.pred hp 5 73 (by kernel_rfl) rfl rfl; exact g.trans (congrArg some hv)
        have g75 : cx.tmps[75]? = some (.bool true) := by obtain ⟨_, g, hv⟩ := Reg.pred hp 7 75 (by kernel_rfl) rfl rfl; exact g.trans (congrArg some hv)
        refine Reg.ok_value Reg.Old.refl (v := .bool true) (Reg.wanted_none rfl) ?_ rfl
        go_simp
      · intro cx wc hB hp hs
        have g76 : cx.tmps[76]? = some (.bool true) := by obtain ⟨_, g, hv⟩ := Reg.pred hp 8 76 (by kernel_rfl) rfl rfl; exact g.trans (congrArg some hv)
        refine Reg.ok_value Reg.Old.refl (v := .bool true) (Reg.wanted_none rfl) ?_ rfl
        go_simp
      · intro cx wc hB hp hs
        have g14 : cx.tmps[14]? = some (.int .i64 0) := (hs 14 (by kernel_rfl)).trans rfl
        have g77 : cx.tmps[77]? = some (.bool true) := by obtain ⟨_, g, hv⟩ := Reg.pred hp 9 77 (by kernel_rfl) rfl rfl; exact g.trans (congrArg some hv)
        refine Reg.ok_value Reg.Old.refl (v := .int .i64 0) (Reg.wanted_at (j := 9) (d := 77) rfl rfl rfl g77) ?_ rfl
        go_simp
      · intro cx wc hB hp hs
        have g78 : cx.tmps[78]? = some (.int .i64 0) := by obtain ⟨_, g, hv⟩ := Reg.pred hp 10 78 (by kernel_rfl) rfl rfl; exact g.trans (congrArg some hv)
        have g77 : cx.tmps[77]? = some (.bool true) := by obtain ⟨_, g, hv⟩ := Reg.pred hp 9 77 (by kernel_rfl) rfl rfl; exact g.trans (congrArg some hv)
        refine Reg.ok_value Reg.Old.refl (v := .bool true) (Reg.wanted_at (j := 9) (d := 77) rfl rfl rfl g77) ?_ rfl
        go_simp
      · intro cx wc hB hp hs
        have g77 : cx.tmps[77]? = some (.bool true) := by obtain ⟨_, g, hv⟩ := Reg.pred hp 9 77 (by kernel_rfl) rfl rfl; exact g.trans (congrArg some hv)
        have g79 : cx.tmps[79]? = some (.bool true) := by obtain ⟨_, g, hv⟩ := Reg.pred hp 11 79 (by kernel_rfl) rfl rfl; exact g.trans (congrArg some hv)
        refine Reg.ok_value Reg.Old.refl (v := .bool true) (Reg.wanted_none rfl) ?_ rfl
        go_simp
      · intro cx wc hB hp hs
        have g80 : cx.tmps[80]? = some (.bool true) := by obtain ⟨_, g, hv⟩ := Reg.pred hp 12 80 (by kernel_rfl) rfl rfl; exact g.trans (congrArg some hv)
        refine Reg.ok_value Reg.Old.refl (v := .bool true) (Reg.wanted_none rfl) ?_ rfl
        go_simp
      · intro cx wc hB hp hs
        have g9 : cx.tmps[9]? = some (.pointer (some ⟨Q2, 0, none⟩)) := (hs 9 (by kernel_rfl)).trans rfl
        have g81 : cx.tmps[81]? = some (.bool true) := by obtain ⟨_, g, hv⟩ := Reg.pred hp 13 81 (by kernel_rfl) rfl rfl; exact g.trans (congrArg some hv)
        have hc := HC2x3x4.out.drew.below hB
        have k0 := hc.cell 0 (.int .i64 a0) rfl
        have k1 := hc.cell 1 (.int .i64 a1) rfl
        have k2 := hc.cell 2 (.int .i64 a2) rfl
        have k3 := hc.cell 3 (.int .i64 a3) rfl
        have k4 := hc.cell 4 (.int .i64 a4) rfl
        have k5 := hc.cell 5 (.int .i64 a5) rfl
        have k6 := hc.cell 6 (.int .i64 a6) rfl
        have k7 := hc.cell 7 (.int .i64 a7) rfl
        have k8 := hc.cell 8 (.int .i64 a8) rfl
        have k9 := hc.cell 9 (.int .i64 a9) rfl
        have k10 := hc.cell 10 (.slice p2 t.length c2) rfl
        refine Reg.ok_value Reg.Old.refl (v := .agg #[.int .i64 a0, .int .i64 a1, .int .i64 a2, .int .i64 a3, .int .i64 a4, .int .i64 a5, .int .i64 a6, .int .i64 a7, .int .i64 a8, .int .i64 a9, .slice p2 t.length c2]) (Reg.wanted_at (j := 13) (d := 81) rfl rfl rfl g81) ?_ rfl
        go_simp
      · intro cx wc hB hp hs
        have g11 : cx.tmps[11]? = some (.pointer (some ⟨Q3, 0, none⟩)) := (hs 11 (by kernel_rfl)).trans rfl
        have g81 : cx.tmps[81]? = some (.bool true) := by obtain ⟨_, g, hv⟩ := Reg.pred hp 13 81 (by kernel_rfl) rfl rfl; exact g.trans (congrArg some hv)
        have hc := HC3x4.out.drew.below hB
        have k0 := hc.cell 0 (.int .i64 a0) rfl
        have k1 := hc.cell 1 (.int .i64 a1) rfl
        have k2 := hc.cell 2 (.int .i64 a2) rfl
        have k3 := hc.cell 3 (.int .i64 a3) rfl
        have k4 := hc.cell 4 (.int .i64 a4) rfl
        have k5 := hc.cell 5 (.int .i64 a5) rfl
        have k6 := hc.cell 6 (.int .i64 a6) rfl
        have k7 := hc.cell 7 (.int .i64 a7) rfl
        have k8 := hc.cell 8 (.int .i64 a8) rfl
        have k9 := hc.cell 9 (.int .i64 a9) rfl
        have k10 := hc.cell 10 (.slice p3 t.length c3) rfl
        refine Reg.ok_value Reg.Old.refl (v := .agg #[.int .i64 a0, .int .i64 a1, .int .i64 a2, .int .i64 a3, .int .i64 a4, .int .i64 a5, .int .i64 a6, .int .i64 a7, .int .i64 a8, .int .i64 a9, .slice p3 t.length c3]) (Reg.wanted_at (j := 13) (d := 81) rfl rfl rfl g81) ?_ rfl
        go_simp
      · intro cx wc hB hp hs
        have g82 : cx.tmps[82]? = some (.agg #[.int .i64 a0, .int .i64 a1, .int .i64 a2, .int .i64 a3, .int .i64 a4, .int .i64 a5, .int .i64 a6, .int .i64 a7, .int .i64 a8, .int .i64 a9, .slice p2 t.length c2]) := by obtain ⟨_, g, hv⟩ := Reg.pred hp 14 82 (by kernel_rfl) rfl rfl; exact g.trans (congrArg some hv)
        have g83 : cx.tmps[83]? = some (.agg #[.int .i64 a0, .int .i64 a1, .int .i64 a2, .int .i64 a3, .int .i64 a4, .int .i64 a5, .int .i64 a6, .int .i64 a7, .int .i64 a8, .int .i64 a9, .slice p3 t.length c3]) := by obtain ⟨_, g, hv⟩ := Reg.pred hp 15 83 (by kernel_rfl) rfl rfl; exact g.trans (congrArg some hv)
        have g81 : cx.tmps[81]? = some (.bool true) := by obtain ⟨_, g, hv⟩ := Reg.pred hp 13 81 (by kernel_rfl) rfl rfl; exact g.trans (congrArg some hv)
        refine Reg.ok_call (f := 17) (args := #[.agg #[.int .i64 a0, .int .i64 a1, .int .i64 a2, .int .i64 a3, .int .i64 a4, .int .i64 a5, .int .i64 a6, .int .i64 a7, .int .i64 a8, .int .i64 a9, .slice p2 t.length c2], .agg #[.int .i64 a0, .int .i64 a1, .int .i64 a2, .int .i64 a3, .int .i64 a4, .int .i64 a5, .int .i64 a6, .int .i64 a7, .int .i64 a8, .int .i64 a9, .slice p3 t.length c3]]) (Reg.wanted_at (j := 13) (d := 81) rfl rfl rfl g81) (by go_simp) ((HS1.out wc (HT2x3x4.out.below ((Below.refl _ _).drew.trans hB)) (HT3x4.out.below ((Below.refl _ _).drew.trans hB))).mono ?_)
        rintro e w' ⟨rfl, hB2⟩
        exact ⟨_, rfl, hB2, rfl⟩
      · intro cx wc hB hp hs
        have g81 : cx.tmps[81]? = some (.bool true) := by obtain ⟨_, g, hv⟩ := Reg.pred hp 13 81 (by kernel_rfl) rfl rfl; exact g.trans (congrArg some hv)
        have g84 : cx.tmps[84]? = some (.bool true) := by obtain ⟨_, g, hv⟩ := Reg.pred hp 16 84 (by kernel_rfl) rfl rfl; exact g.trans (congrArg some hv)
        refine Reg.ok_value Reg.Old.refl (v := .bool true) (Reg.wanted_none rfl) ?_ rfl
        go_simp
      · intro cx wc hB hp hs
        have g85 : cx.tmps[85]? = some (.bool true) := by obtain ⟨_, g, hv⟩ := Reg.pred hp 17 85 (by kernel_rfl) rfl rfl; exact g.trans (congrArg some hv)
        refine Reg.ok_value Reg.Old.refl (v := .bool true) (Reg.wanted_none rfl) ?_ rfl
        go_simp
      · intro cx wc hB hp hs
        have g13 : cx.tmps[13]? = some (.pointer (some ⟨Q4, 0, none⟩)) := (hs 13 (by kernel_rfl)).trans rfl
        have g86 : cx.tmps[86]? = some (.bool true) := by obtain ⟨_, g, hv⟩ := Reg.pred hp 18 86 (by kernel_rfl) rfl rfl; exact g.trans (congrArg some hv)
        have hc := HC4.out.drew.below hB
        have k0 := hc.cell 0 (.int .i64 m0) rfl
        have k1 := hc.cell 1 (.int .i64 m1) rfl
        have k2 := hc.cell 2 (.int .i64 m2) rfl
        have k3 := hc.cell 3 (.int .i64 m3) rfl
        have k4 := hc.cell 4 (.int .i64 m4) rfl
        have k5 := hc.cell 5 (.int .i64 m5) rfl
        have k6 := hc.cell 6 (.int .i64 m6) rfl
        have k7 := hc.cell 7 (.int .i64 m7) rfl
        have k8 := hc.cell 8 (.int .i64 m8) rfl
        have k9 := hc.cell 9 (.int .i64 m9) rfl
        have k10 := hc.cell 10 (.slice p4 r.length c4) rfl
        refine Reg.ok_value Reg.Old.refl (v := .agg #[.int .i64 m0, .int .i64 m1, .int .i64 m2, .int .i64 m3, .int .i64 m4, .int .i64 m5, .int .i64 m6, .int .i64 m7, .int .i64 m8, .int .i64 m9, .slice p4 r.length c4]) (Reg.wanted_at (j := 18) (d := 86) rfl rfl rfl g86) ?_ rfl
        go_simp
      · intro cx wc hB hp hs
        have g86 : cx.tmps[86]? = some (.bool true) := by obtain ⟨_, g, hv⟩ := Reg.pred hp 18 86 (by kernel_rfl) rfl rfl; exact g.trans (congrArg some hv)
        refine Reg.ok_call (f := 27) (args := #[]) (Reg.wanted_at (j := 18) (d := 86) rfl rfl rfl g86) (by go_simp) ((base_of wc).mono ?_)
        rintro e w' ⟨u, rfl, hu, hB2⟩
        exact ⟨_, rfl, hB2, u, rfl, hu.tr (fun _ _ h => h) (by decide)⟩
      · intro cx wc hB hp hs
        have g86 : cx.tmps[86]? = some (.bool true) := by obtain ⟨_, g, hv⟩ := Reg.pred hp 18 86 (by kernel_rfl) rfl rfl; exact g.trans (congrArg some hv)
        have g87 : cx.tmps[87]? = some (.agg #[.int .i64 m0, .int .i64 m1, .int .i64 m2, .int .i64 m3, .int .i64 m4, .int .i64 m5, .int .i64 m6, .int .i64 m7, .int .i64 m8, .int .i64 m9, .slice p4 r.length c4]) := by obtain ⟨_, g, hv⟩ := Reg.pred hp 19 87 (by kernel_rfl) rfl rfl; exact g.trans (congrArg some hv)
        obtain ⟨_, gb, hvb⟩ := Reg.pred hp 20 88 (by kernel_rfl) rfl rfl
        obtain ⟨u, rfl, hu⟩ := hvb
        refine Reg.ok_call (f := 17) (args := #[.agg #[.int .i64 m0, .int .i64 m1, .int .i64 m2, .int .i64 m3, .int .i64 m4, .int .i64 m5, .int .i64 m6, .int .i64 m7, .int .i64 m8, .int .i64 m9, .slice p4 r.length c4], .agg #[.int .i64 64, .int .i64 32, .int .i64 64, .int .i64 8, .int .i64 6, .int .i64 2, .int .i64 2, .int .i64 60, .int .i64 30, .int .i64 5, u]]) (Reg.wanted_at (j := 18) (d := 86) rfl rfl rfl g86) (by go_simp) ((HS2.out wc u (HT4.out.below ((Below.refl _ _).drew.trans hB)) hu).mono ?_)
        rintro e w' ⟨rfl, hB2⟩
        exact ⟨_, rfl, hB2, rfl⟩
      · intro cx wc hB hp hs
        have g89 : cx.tmps[89]? = some (.bool false) := by obtain ⟨_, g, hv⟩ := Reg.pred hp 21 89 (by kernel_rfl) rfl rfl; exact g.trans (congrArg some hv)
        have g86 : cx.tmps[86]? = some (.bool true) := by obtain ⟨_, g, hv⟩ := Reg.pred hp 18 86 (by kernel_rfl) rfl rfl; exact g.trans (congrArg some hv)
        refine Reg.ok_value Reg.Old.refl (v := .bool true) (Reg.wanted_at (j := 18) (d := 86) rfl rfl rfl g86) ?_ rfl
        go_simp
      · intro cx wc hB hp hs
        have g86 : cx.tmps[86]? = some (.bool true) := by obtain ⟨_, g, hv⟩ := Reg.pred hp 18 86 (by kernel_rfl) rfl rfl; exact g.trans (congrArg some hv)
        have g90 : cx.tmps[90]? = some (.bool true) := by obtain ⟨_, g, hv⟩ := Reg.pred hp 22 90 (by kernel_rfl) rfl rfl; exact g.trans (congrArg some hv)
        refine Reg.ok_value Reg.Old.refl (v := .bool true) (Reg.wanted_none rfl) ?_ rfl
        go_simp
      · intro cx wc hB hp hs
        have g91 : cx.tmps[91]? = some (.bool true) := by obtain ⟨_, g, hv⟩ := Reg.pred hp 23 91 (by kernel_rfl) rfl rfl; exact g.trans (congrArg some hv)
        refine Reg.ok_value Reg.Old.refl (v := .bool true) (Reg.wanted_none rfl) ?_ rfl
        go_simp
      · intro cx wc hB hp hs
        have g9 : cx.tmps[9]? = some (.pointer (some ⟨Q2, 0, none⟩)) := (hs 9 (by kernel_rfl)).trans rfl
        have g92 : cx.tmps[92]? = some (.bool true) := by obtain ⟨_, g, hv⟩ := Reg.pred hp 24 92 (by kernel_rfl) rfl rfl; exact g.trans (congrArg some hv)
        have hc := HC2x3x4.out.drew.below hB
        have k0 := hc.cell 0 (.int .i64 a0) rfl
        have k1 := hc.cell 1 (.int .i64 a1) rfl
        have k2 := hc.cell 2 (.int .i64 a2) rfl
        have k3 := hc.cell 3 (.int .i64 a3) rfl
        have k4 := hc.cell 4 (.int .i64 a4) rfl
        have k5 := hc.cell 5 (.int .i64 a5) rfl
        have k6 := hc.cell 6 (.int .i64 a6) rfl
        have k7 := hc.cell 7 (.int .i64 a7) rfl
        have k8 := hc.cell 8 (.int .i64 a8) rfl
        have k9 := hc.cell 9 (.int .i64 a9) rfl
        have k10 := hc.cell 10 (.slice p2 t.length c2) rfl
        refine Reg.ok_value Reg.Old.refl (v := .agg #[.int .i64 a0, .int .i64 a1, .int .i64 a2, .int .i64 a3, .int .i64 a4, .int .i64 a5, .int .i64 a6, .int .i64 a7, .int .i64 a8, .int .i64 a9, .slice p2 t.length c2]) (Reg.wanted_at (j := 24) (d := 92) rfl rfl rfl g92) ?_ rfl
        go_simp
      · intro cx wc hB hp hs
        have g13 : cx.tmps[13]? = some (.pointer (some ⟨Q4, 0, none⟩)) := (hs 13 (by kernel_rfl)).trans rfl
        have g92 : cx.tmps[92]? = some (.bool true) := by obtain ⟨_, g, hv⟩ := Reg.pred hp 24 92 (by kernel_rfl) rfl rfl; exact g.trans (congrArg some hv)
        have hc := HC4.out.drew.below hB
        have k0 := hc.cell 0 (.int .i64 m0) rfl
        have k1 := hc.cell 1 (.int .i64 m1) rfl
        have k2 := hc.cell 2 (.int .i64 m2) rfl
        have k3 := hc.cell 3 (.int .i64 m3) rfl
        have k4 := hc.cell 4 (.int .i64 m4) rfl
        have k5 := hc.cell 5 (.int .i64 m5) rfl
        have k6 := hc.cell 6 (.int .i64 m6) rfl
        have k7 := hc.cell 7 (.int .i64 m7) rfl
        have k8 := hc.cell 8 (.int .i64 m8) rfl
        have k9 := hc.cell 9 (.int .i64 m9) rfl
        have k10 := hc.cell 10 (.slice p4 r.length c4) rfl
        refine Reg.ok_value Reg.Old.refl (v := .agg #[.int .i64 m0, .int .i64 m1, .int .i64 m2, .int .i64 m3, .int .i64 m4, .int .i64 m5, .int .i64 m6, .int .i64 m7, .int .i64 m8, .int .i64 m9, .slice p4 r.length c4]) (Reg.wanted_at (j := 24) (d := 92) rfl rfl rfl g92) ?_ rfl
        go_simp
      · intro cx wc hB hp hs
        have g93 : cx.tmps[93]? = some (.agg #[.int .i64 a0, .int .i64 a1, .int .i64 a2, .int .i64 a3, .int .i64 a4, .int .i64 a5, .int .i64 a6, .int .i64 a7, .int .i64 a8, .int .i64 a9, .slice p2 t.length c2]) := by obtain ⟨_, g, hv⟩ := Reg.pred hp 25 93 (by kernel_rfl) rfl rfl; exact g.trans (congrArg some hv)
        have g94 : cx.tmps[94]? = some (.agg #[.int .i64 m0, .int .i64 m1, .int .i64 m2, .int .i64 m3, .int .i64 m4, .int .i64 m5, .int .i64 m6, .int .i64 m7, .int .i64 m8, .int .i64 m9, .slice p4 r.length c4]) := by obtain ⟨_, g, hv⟩ := Reg.pred hp 26 94 (by kernel_rfl) rfl rfl; exact g.trans (congrArg some hv)
        have g92 : cx.tmps[92]? = some (.bool true) := by obtain ⟨_, g, hv⟩ := Reg.pred hp 24 92 (by kernel_rfl) rfl rfl; exact g.trans (congrArg some hv)
        refine Reg.ok_call (f := 17) (args := #[.agg #[.int .i64 a0, .int .i64 a1, .int .i64 a2, .int .i64 a3, .int .i64 a4, .int .i64 a5, .int .i64 a6, .int .i64 a7, .int .i64 a8, .int .i64 a9, .slice p2 t.length c2], .agg #[.int .i64 m0, .int .i64 m1, .int .i64 m2, .int .i64 m3, .int .i64 m4, .int .i64 m5, .int .i64 m6, .int .i64 m7, .int .i64 m8, .int .i64 m9, .slice p4 r.length c4]]) (Reg.wanted_at (j := 24) (d := 92) rfl rfl rfl g92) (by go_simp) ((HS3.out wc (HT2x3x4.out.below ((Below.refl _ _).drew.trans hB)) (HT4.out.below ((Below.refl _ _).drew.trans hB))).mono ?_)
        rintro e w' ⟨rfl, hB2⟩
        exact ⟨_, rfl, hB2, rfl⟩
      · intro cx wc hB hp hs
        have g95 : cx.tmps[95]? = some (.bool false) := by obtain ⟨_, g, hv⟩ := Reg.pred hp 27 95 (by kernel_rfl) rfl rfl; exact g.trans (congrArg some hv)
        have g92 : cx.tmps[92]? = some (.bool true) := by obtain ⟨_, g, hv⟩ := Reg.pred hp 24 92 (by kernel_rfl) rfl rfl; exact g.trans (congrArg some hv)
        refine Reg.ok_value Reg.Old.refl (v := .bool true) (Reg.wanted_at (j := 24) (d := 92) rfl rfl rfl g92) ?_ rfl
        go_simp
      · intro cx wc hB hp hs
        have g92 : cx.tmps[92]? = some (.bool true) := by obtain ⟨_, g, hv⟩ := Reg.pred hp 24 92 (by kernel_rfl) rfl rfl; exact g.trans (congrArg some hv)
        have g96 : cx.tmps[96]? = some (.bool true) := by obtain ⟨_, g, hv⟩ := Reg.pred hp 28 96 (by kernel_rfl) rfl rfl; exact g.trans (congrArg some hv)
        refine Reg.ok_value Reg.Old.refl (v := .bool true) (Reg.wanted_none rfl) ?_ rfl
        go_simp
      · intro cx wc hB hp hs
        have g97 : cx.tmps[97]? = some (.bool true) := by obtain ⟨_, g, hv⟩ := Reg.pred hp 29 97 (by kernel_rfl) rfl rfl; exact g.trans (congrArg some hv)
        refine Reg.ok_value Reg.Old.refl (v := .bool true) (Reg.wanted_none rfl) ?_ rfl
        go_simp
    · intro d wc hB hsz hdf hv ho
      have gr : d.tmps[4]? = some (.bool true) := by obtain ⟨_, g, hv⟩ := hv 30 _ 4 rfl rfl; exact g.trans (congrArg some hv)
      have hF := HB4.out.trans (Below.mono hB HB4.out.size)
      clear hv ho hB
      go_wp2
      refine bodyPost_ret (v := .bool true) ?_ hdf ⟨rfl, hF⟩
      simp [results, Tryd.results6, go_sem, gr]
end Go.Proofs.YthbekailfoogfaaDoor.Po
