/- A line that is made, printed and parsed. -/
import Derived.Test.YtdmkiiggpelmaaaDoorLnM
namespace Go.Proofs.YtdmkiiggpelmaaaDoor.Lx
open Go Go.RowKit

/-- A name and labels that are short, and right. -/
structure Fine (n : List UInt8) (ls : List Lab) : Prop where
  hn : namedL n = true
  n13 : n.length ≤ 13
  l5 : ls.length ≤ 5
  la : ∀ x ∈ ls, namedL x.1 = true ∧ namedL x.2 = true ∧ x.1.length ≤ 13 ∧ x.2.length ≤ 13
theorem pairsM_fine : ∀ (k : Nat) (l : List (List Nat)), (pairsM k l).length ≤ k ∧ ∀ x ∈ pairsM k l, namedL x.1 = true ∧ namedL x.2 = true ∧ x.1.length ≤ 13 ∧ x.2.length ≤ 13
  | k + 1, a :: b :: r => by
    obtain ⟨h1, h2⟩ := pairsM_fine k r
    simp only [pairsM, List.length_cons, List.mem_cons]
    refine ⟨by omega, fun x hx => ?_⟩
    rcases hx with rfl | hx
    · exact ⟨wordS_named a, wordS_named b, wordS_len a, wordS_len b⟩
    · exact h2 x hx
  | 0, l => by cases l <;> simp [pairsM]
  | k + 1, [] => by simp [pairsM]
  | k + 1, [_] => by simp [pairsM]
theorem labs13 : ∀ (ls : List Lab), (∀ x ∈ ls, x.1.length ≤ 13 ∧ x.2.length ≤ 13) → (ls.flatMap labelP).length ≤ 54 * ls.length
  | [], _ => by simp
  | x :: r, h => by
    have ih := labs13 r fun y hy => h y (by simp [hy])
    obtain ⟨h1, h2⟩ := h x (by simp)
    have e1 := escL_le x.1
    have e2 := escL_le x.2
    simp only [List.flatMap_cons, List.length_append, labelP, List.length_cons]
    omega
section
variable {n : List UInt8} {ls : List Lab} {a b : Int}
theorem Fine.right (h : Fine n ls) (hb : 0 ≤ b) : rightF ⟨n, ls, a, b⟩ = true := by
  rw [rightF_eq]
  simp only [Bool.and_eq_true, decide_eq_true_eq, List.all_eq_true]
  have := h.l5
  exact ⟨hb, by omega, h.hn, fun x hx => by obtain ⟨h1, h2, _⟩ := h.la x hx; unfold okL; rw [h1, h2]; rfl⟩
theorem Fine.short (h : Fine n ls) (ha : In64 a) (hb : b ≤ 9223372036854775807) : (printF ⟨n, ls, a, b⟩).length ≤ 1024 := by
  have h1 := escL_le n
  have h2 := labs13 ls fun x hx => (h.la x hx).2.2
  have h3 := (text_len ha).1
  have h4 := dec_19 (m := b.toNat) (by omega)
  have h5 := h.n13
  have h6 := h.l5
  simp only [printF, List.length_append, List.length_cons, valueL, List.length_nil]
  omega
theorem Fine.told (h : Fine n ls) (ha : In64 a) (hb0 : 0 ≤ b) (hb : b ≤ 9223372036854775807) : parseP (printF ⟨n, ls, a, b⟩) = .ok ⟨n, ls, a, b⟩ :=
  parse_print _ (h.right hb0) ha hb (h.short ha hb)
theorem Fine.nmax (h : Fine n ls) : n.length ≤ maxLen := by have := h.n13; unfold maxLen; omega
theorem Fine.lmax (h : Fine n ls) : ls.length ≤ maxLen := by have := h.l5; unfold maxLen; omega
theorem Fine.lbl (h : Fine n ls) : ∀ x ∈ ls, x.1.length ≤ maxLen ∧ x.2.length ≤ maxLen := fun x hx => by
  obtain ⟨_, _, h1, h2⟩ := h.la x hx
  unfold maxLen
  omega
theorem Fine.prints (h : Fine n ls) (ha : In64 a) (hb0 : 0 ≤ b) (hb : b ≤ 9223372036854775807) (p : Option Addr) (cap : Nat) (w : World) (hT : Tens w) (hL : LbAt p ls w) :
    Calls Tryd.prog 10 #[.agg (lineC (tx n) (.slice p ls.length cap) a b)] w fun e w' => e = .returned (.tuple #[.string (tx (printF ⟨n, ls, a, b⟩)), .bool true]) ∧ Below w.heap.size w w' := by
  have := print_any n h.nmax p cap ls a b ha hb h.lmax w hT hL
  rwa [show printB ⟨n, ls, a, b⟩ = true by unfold printB; rw [h.right hb0, decide_eq_true (h.short ha hb)]; rfl] at this
theorem Fine.parses (h : Fine n ls) (ha : In64 a) (hb0 : 0 ≤ b) (hb : b ≤ 9223372036854775807) (w : World) :
    Calls Tryd.prog 15 #[.string (tx (printF ⟨n, ls, a, b⟩))] w fun e w' => ∃ p cap, e = .returned (.tuple #[.agg (lineC (tx n) (.slice p ls.length cap) a b), .int .i64 0]) ∧ OwnL w.heap.size (.slice p ls.length cap) ls w' ∧ Below w.heap.size w w' := by
  have := parse_any (tx (printF ⟨n, ls, a, b⟩)) (by rw [tx_len]; have := h.short ha hb; unfold maxLen; omega) w
  rw [list_tx, h.told ha hb0 hb] at this
  refine this.mono ?_
  rintro e w' ⟨v, rfl, hO, hB⟩
  obtain ⟨p, cap, rfl⟩ := hO.len
  exact ⟨p, cap, rfl, hO, hB⟩
theorem Fine.inj (h : Fine n ls) {a' b' : Int} (ha : In64 a) (hb0 : 0 ≤ b) (hb : b ≤ 9223372036854775807) (ha' : In64 a') (hb0' : 0 ≤ b') (hb' : b' ≤ 9223372036854775807) (he : printF ⟨n, ls, a, b⟩ = printF ⟨n, ls, a', b'⟩) : a = a' ∧ b = b' := by
  have h1 := h.told ha hb0 hb
  rw [he, h.told ha' hb0' hb'] at h1
  simp only [Except.ok.injEq, LineV.mk.injEq, true_and] at h1
  exact ⟨h1.1.symm, h1.2.symm⟩
theorem Fine.rights (h : Fine n ls) (hb0 : 0 ≤ b) (p : Option Addr) (cap : Nat) (w : World) (hL : LbAt p ls w) :
    Calls Tryd.prog 13 #[.agg (lineC (tx n) (.slice p ls.length cap) a b)] w fun e w' => e = .returned (.bool true) ∧ Below w.heap.size w w' := by
  have := right_any n h.nmax p cap ls a b h.lmax w hL
  rwa [h.right hb0] at this
end
/-- What is made of parts that are the line's own. -/
theorem made_some (x : MadeV) (ho : x.own = true) (_hv : In64 x.value) (ht : In64 x.time) : ∃ (n : List UInt8) (ls : List Lab) (t : Int), Fine n ls ∧ 0 ≤ t ∧ t ≤ 9223372036854775807 ∧
    ∀ w, x.fits w → Calls Tryd.prog 9 #[.agg x.vals] w fun e w' => ∃ p cap, e = .returned (.agg (lineC (tx n) (.slice p ls.length cap) x.value t)) ∧ OwnL w.heap.size (.slice p ls.length cap) ls w' ∧ Below w.heap.size w w' := by
  obtain ⟨h1, h2⟩ := pairsM_fine 5 (x.it.map (·.xs))
  unfold In64 at ht
  refine ⟨wordS x.nm, pairsM 5 (x.it.map (·.xs)), timeM x.time, ⟨wordS_named _, wordS_len _, h1, h2⟩, ?_, ?_, fun w hx => ?_⟩
  · unfold timeM; split <;> omega
  · unfold timeM; split <;> omega
  · refine (made_any x ho w hx).mono ?_
    rintro e w' ⟨v, rfl, hO, hB⟩
    obtain ⟨p, cap, rfl⟩ := hO.len
    exact ⟨p, cap, rfl, hO, hB⟩
theorem MadeV.fits.own {x : MadeV} {w : World} (h : x.fits w) (b : Bool) : MadeV.fits { x with own := b } w := ⟨h.hn, h.hl, h.lb, h.hv, h.ht, h.hm, h.oc, h.hi, h.rw⟩
theorem LbAt.drew {p : Option Addr} {ls : List Lab} {w : World} (h : LbAt p ls w) : LbAt p ls w.drew := h.below (belowD (Below.refl _ _))
end Go.Proofs.YtdmkiiggpelmaaaDoor.Lx
