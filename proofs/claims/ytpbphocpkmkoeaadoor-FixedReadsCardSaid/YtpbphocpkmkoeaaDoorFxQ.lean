/- A number by its parts that comes in, opened. -/
import Derived.Test.YtpbphocpkmkoeaaDoorFxNu
import Derived.Test.YtpbphocpkmkoeaaDoorFxP
namespace Go.Proofs.YtpbphocpkmkoeaaDoor
open Go Go.RowKit Go.ChangeShapes Go.WideShapes Go.Deep

theorem nine_of {α : Type} {l : List α} (h : l.length = 9) : ∃ a b c d e f g i j, l = [a, b, c, d, e, f, g, i, j] := by
  match l, h with
  | [a, b, c, d, e, f, g, i, j], _ => exact ⟨a, b, c, d, e, f, g, i, j, rfl⟩
set_option maxRecDepth 100000 in
theorem hone_number : ∃ f0 f1 f2 f3 f4 f5 f6 f7 f8 : Field, Tryd.prog.underlying 26 = some (.struct #[f0, f1, f2, f3, f4, f5, f6, f7, f8]) ∧
    f0.offset = 0 ∧ f1.offset = 1 ∧ f2.offset = 2 ∧ f3.offset = 3 ∧ f4.offset = 4 ∧ f5.offset = 5 ∧ f6.offset = 6 ∧ f7.offset = 7 ∧ f8.offset = 8 ∧
    f0.type = 9 ∧ f1.type = 4 ∧ f2.type = 5 ∧ f3.type = 22 ∧ f4.type = 5 ∧ f5.type = 23 ∧ f6.type = 5 ∧ f7.type = 24 ∧ f8.type = 5 :=
  ⟨_, _, _, _, _, _, _, _, _, Tryd.underlying26, rfl, rfl, rfl, rfl, rfl, rfl, rfl, rfl, rfl, rfl, rfl, rfl, rfl, rfl, rfl, rfl, rfl, rfl⟩
set_option maxRecDepth 100000 in
theorem number_of {H : Type} {enc : TypeId × Value → H} {W : World} {base : Nat} {spare : Nat → Bool} {held : Bool} {r : Reach} {b0 : Nat} {v : Value} {d : DataW H} {ps : List MemPlace}
    (hv : Value.okWide Tryd.prog W r b0 26 v) (h : DataW.Trod enc Tryd.prog W base spare held 26 v d ps) :
    ∃ x : NumV, v = .agg x.vals ∧ x.fits := by
  obtain ⟨f0, f1, f2, f3, f4, f5, f6, f7, f8, hu, o0, o1, o2, o3, o4, o5, o6, o7, o8, t0, t1, t2, t3, t4, t5, t6, t7, t8⟩ := hone_number
  have c9 : Tryd.prog.cellsOf 26 = 9 := by kernel_rfl
  obtain ⟨cs, rfl, hsz⟩ := okWide_struct hu hv
  rw [c9] at hsz
  obtain ⟨v0, v1, v2, v3, v4, v5, v6, v7, v8, hl⟩ := nine_of (l := cs.toList) (by simpa using hsz)
  obtain ⟨fuel, hf⟩ := h
  obtain ⟨xs, n', _, hxx, _, hxl, hfl⟩ := DataW.trod_struct hu hf
  obtain ⟨x0, x1, x2, x3, x4, x5, x6, x7, x8, rfl⟩ := nine_of (l := xs) hxl
  have g0 := hfl 0 f0 rfl
  have g1 := hfl 1 f1 rfl
  have g2 := hfl 2 f2 rfl
  have g3 := hfl 3 f3 rfl
  have g4 := hfl 4 f4 rfl
  have g5 := hfl 5 f5 rfl
  have g6 := hfl 6 f6 rfl
  have g7 := hfl 7 f7 rfl
  have g8 := hfl 8 f8 rfl
  have k8 : Tryd.prog.cellsOf 5 = 1 := by kernel_rfl
  rw [o0, t0, show Tryd.prog.cellsOf 9 = 1 by kernel_rfl] at g0
  rw [o1, t1, show Tryd.prog.cellsOf 4 = 1 by kernel_rfl] at g1
  rw [o2, t2, k8] at g2
  rw [o3, t3, show Tryd.prog.cellsOf 22 = 1 by kernel_rfl] at g3
  rw [o4, t4, k8] at g4
  rw [o5, t5, show Tryd.prog.cellsOf 23 = 1 by kernel_rfl] at g5
  rw [o6, t6, k8] at g6
  rw [o7, t7, show Tryd.prog.cellsOf 24 = 1 by kernel_rfl] at g7
  rw [o8, t8, k8] at g8
  have hcl : (Value.cells (.agg cs)).toList = [v0, v1, v2, v3, v4, v5, v6, v7, v8] := by simpa [Value.cells] using hl
  rw [hcl] at g0 g1 g2 g3 g4 g5 g6 g7 g8
  obtain ⟨a0, e0, _, w0⟩ := DataW.trod_string Tryd.underlying9 g0
  obtain ⟨a1, e1, _⟩ := DataW.trod_bool Tryd.underlying4 g1
  obtain ⟨a2, e2, _, w2⟩ := DataW.trod_int Tryd.underlying5 g2
  obtain ⟨a3, e3, _, w3⟩ := DataW.trod_int Tryd.underlying22 g3
  obtain ⟨a4, e4, _, w4⟩ := DataW.trod_int Tryd.underlying5 g4
  obtain ⟨a5, e5, _, w5⟩ := DataW.trod_int Tryd.underlying23 g5
  obtain ⟨a6, e6, _, w6⟩ := DataW.trod_int Tryd.underlying5 g6
  obtain ⟨a7, e7, _, w7⟩ := DataW.trod_int Tryd.underlying24 g7
  obtain ⟨a8, e8, _, w8⟩ := DataW.trod_int Tryd.underlying5 g8
  simp only [List.drop_zero, List.drop_succ_cons, List.take_succ_cons, List.take_zero, List.cons.injEq, and_true] at e0 e1 e2 e3 e4 e5 e6 e7 e8
  subst e0 e1 e2 e3 e4 e5 e6 e7 e8
  simp [Lit.wf, IntKind.min, IntKind.max, IntKind.signed, IntKind.bits] at w2 w3 w4 w5 w6 w7 w8
  refine ⟨⟨a0, a1, a2.toNat, a3.toNat, a4.toNat, a5.toNat, a6.toNat, a7, a8.toNat⟩, ?_, ⟨w0, ?_, ?_, ?_, ?_, ?_, w7, ?_⟩⟩
  · have hc : cs = #[.string a0, .bool a1, .int .u8 a2, .int .u64 a3, .int .u8 a4, .int .u32 a5, .int .u8 a6, .int .i16 a7, .int .u8 a8] := by
      rw [← Array.toList_inj, hl]
    rw [hc]
    unfold NumV.vals
    simp only [Int.toNat_of_nonneg w2.1, Int.toNat_of_nonneg w3.1, Int.toNat_of_nonneg w4.1, Int.toNat_of_nonneg w5.1, Int.toNat_of_nonneg w6.1, Int.toNat_of_nonneg w8.1]
  all_goals (dsimp only; omega)
end Go.Proofs.YtpbphocpkmkoeaaDoor
