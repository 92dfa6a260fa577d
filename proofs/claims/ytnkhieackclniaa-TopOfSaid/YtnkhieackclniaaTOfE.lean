/- TopOf, over its parameters as they come in. -/
import Derived.Test.YtnkhieackclniaaTOfW
import Derived.Test.YtnkhieackclniaaTDi
import Derived.SizedLaws
namespace Go.Proofs.Ytnkhieackclniaa
open Go Go.RowKit

/-- As many as a slice that came in has, its datum lists. -/
theorem rows_len {H : Type} {enc : TypeId × Value → H} {W : World} {spare : Nat → Bool} {held : Bool} {p : Option Addr} {n cap : Nat} {d : DataW H} {ps : List MemPlace} {T E : TypeId}
    (uT : Try.prog.underlying T = some (.slice E)) (h : DataW.Trod enc Try.prog W 0 spare held T (.slice p n cap) d ps) : n = 0 ∨ ∃ elems rest : List (DataW H), d = .slice elems rest ∧ elems.length = n := by
  obtain ⟨fuel, hf⟩ := h
  rcases Deep.open_slice uT hf with ⟨hcs, hx⟩ | ⟨a, len', cap', m, k, D, Pl, hcs, _, hl, hm, hmm, hx, hi⟩
  · simp [Value.cells] at hcs
    exact .inl hcs.2.1
  · simp [Value.cells] at hcs
    obtain ⟨rfl, rfl, rfl⟩ := hcs
    simp only [Prod.mk.injEq] at hx
    obtain ⟨rfl, rfl⟩ := hx
    exact .inr ⟨_, _, rfl, by simp⟩
theorem item_bytes : Try.prog.bytesOf 51 = 32 := by kernel_rfl
theorem TopOf_walk (a0 : Int) (h0 : (Lit.int .i64 a0).wf = true) (a1 : Int) (h1 : (Lit.int .u64 a1).wf = true) (p : Option Addr) (l : List Itm) (cap : Nat) (hlc : l.length ≤ cap) (hcm : cap ≤ maxLen) (hb32 : l.length * 32 ≤ 140737488355328) (hf : Fit l) (q : Option Addr) (n c : Nat) (hn : n ≤ 9223372036854775807) (own : Bool) (a5 : Int) (h5 : (Lit.int .u8 a5).wf = true) (a6 : Int) (h6 : (Lit.int .i64 a6).wf = true) (w : World) (hr : Rd p l w) (hD : Deeds q n w) :
    Calls Try.prog 4 #[.int .i64 a0, .int .u64 a1, .slice p l.length cap, .slice q n c, .bool own, .int .u8 a5, .int .i64 a6] w fun e w' => e = .returned (.bool true) ∧ Below w.heap.size w w' := by
  have hx := wf_i64 h0
  obtain ⟨sn, rfl, hsn⟩ := wf_u64 h1
  obtain ⟨how, rfl, hhow⟩ := wf_u8 h5
  have hpos := wf_i64 h6
  exact of_in a0 hx sn hsn p l cap hlc hcm hb32 hf q n c hn own how hhow a6 hpos w hr hD
end Go.Proofs.Ytnkhieackclniaa
