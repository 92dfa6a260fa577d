/- Slices of bytes, of rows of bytes, of labels that come in, opened. -/
import Derived.Test.YtlocjhnlemlnmaaLbZ
import Derived.Test.YtlocjhnlemlnmaaLaw
import Derived.Deep.Slices
import Derived.Deep.SlicePairs
import Derived.Deep.Fields
import Derived.Lib.SmallJoins
import Derived.ChangeArms
import Derived.ChangeSlices
import Derived.ChangeSame
import Derived.SizedLaws
namespace Go.Proofs.Ytlocjhnlemlnmaa.Lx
open Go Go.RowKit Go.ChangeShapes Go.WideShapes Go.Deep

theorem octs_core {H : Type} {enc : TypeId × Value → H} {P : Program} {W : World} {spare : Nat → Bool} {held : Bool} {t e : TypeId} {fuel : Nat} {cs : List Value} {x : DataW H × List MemPlace} (ht : P.underlying t = some (.slice e)) (he : P.underlying e = some (.int .u8)) (hc : P.cellsOf e = 1)
    (h : DataW.trod enc P W 0 spare held fuel t cs = some x) (hlt : ∀ y ∈ x.2, y.block < W.heap.size) :
    ∃ (p : Option Addr) (hs : List Nat) (cap : Nat), cs = [.slice p hs.length cap] ∧ hs.length ≤ maxLen ∧ hs.length ≤ cap ∧ (p = none → cap = 0) ∧ Octs p hs W := by
  rcases ChangeShapes.open_ints ht he hc h with ⟨rfl, rfl⟩ | ⟨a, len, cap, zs, rfl, _, hl, hm, hz, rfl, hcell, hwz⟩
  · exact ⟨none, [], 0, rfl, Nat.zero_le _, Nat.zero_le _, fun _ => rfl, fun k hk => by simp at hk⟩
  · have hzl : len ≤ zs.length := by rw [hz]; split <;> omega
    have hlen : ((zs.take len).map Int.toNat).length = len := by rw [List.length_map, List.length_take]; omega
    refine ⟨some a, (zs.take len).map Int.toNat, cap, by rw [hlen], by rw [hlen]; omega, by rw [hlen]; exact hl, (fun e => by cases e), fun k hk => ?_⟩
    rw [hlen] at hk
    obtain ⟨b, off, spot⟩ := a
    have hspot : spot = none := by simpa [Addr.add] using World.cell?_spot (hcell 0 (by omega))
    subst hspot
    have e : (((zs.take len).map Int.toNat)[k]'(by omega) : Nat) = (zs.getD k 0).toNat := by
      rw [List.getElem_map, List.getElem_take, List.getD_eq_getElem?_getD, List.getElem?_eq_getElem (by omega)]; rfl
    have g4 := hwz (zs.getD k 0) (by rw [List.getD_eq_getElem?_getD, List.getElem?_eq_getElem (by omega)]; simp)
    have hx : 0 ≤ zs.getD k 0 ∧ zs.getD k 0 ≤ 255 := by simpa [Lit.wf, IntKind.min, IntKind.max, IntKind.signed, IntKind.bits] using g4
    refine ⟨b, off, rfl, hlt (.cell b off) (MemPlace.mem_row.2 ⟨0, by omega, by simp⟩), ?_, by rw [e]; omega⟩
    rw [← Addr.add_lit, hcell k (by omega), e]
    exact congrArg (fun n => some (Value.int .u8 n)) (by omega)
set_option maxRecDepth 100000 in
theorem hone_label : ∃ f0 f1 : Field, Try.prog.underlying 47 = some (.struct #[f0, f1]) ∧ f0.offset = 0 ∧ f1.offset = 1 ∧ f0.type = 9 ∧ f1.type = 9 :=
  ⟨_, _, Try.underlying47, rfl, rfl, rfl, rfl⟩
set_option maxRecDepth 100000 in
theorem labs_core {H : Type} {enc : TypeId × Value → H} {W : World} {spare : Nat → Bool} {held : Bool} {fuel : Nat} {cs : List Value} {x : DataW H × List MemPlace}
    (h : DataW.trod enc Try.prog W 0 spare held fuel 23 cs = some x) (hlt : ∀ y ∈ x.2, y.block < W.heap.size) :
    ∃ (p : Option Addr) (ls : List LabB) (cap : Nat), cs = [.slice p ls.length cap] ∧ ls.length ≤ maxLen ∧ ls.length ≤ cap ∧ (p = none → cap = 0) ∧ LbAt p ls W := by
  obtain ⟨f0, f1, hu, o0, o1, t0, t1⟩ := hone_label
  have c1 : Try.prog.cellsOf 9 = 1 := by kernel_rfl
  rcases Deep.open_slice_pairs Try.underlying23 hu (by kernel_rfl) o0 o1 (by rw [t0]; exact c1) (by rw [t1]; exact c1) h with ⟨rfl, rfl⟩ | ⟨a, len, cap, m, n, V0, V1, D0, D1, P0, P1, rfl, _, hl, hm, hmm, rfl, hi⟩
  · exact ⟨none, [], 0, rfl, Nat.zero_le _, Nat.zero_le _, fun _ => rfl, LbAt.nil _ _⟩
  · have hlm : len ≤ m := by rw [hmm]; split <;> omega
    have hall : ∀ k, ∃ y : LabB, k < len → (∃ C off, a = ⟨C, off, none⟩ ∧ C < W.heap.size ∧ W.cell? ⟨C, off + k * 2, none⟩ = some (.string (tx y.1)) ∧ W.cell? ⟨C, off + k * 2 + 1, none⟩ = some (.string (tx y.2))) ∧ y.1.length ≤ maxLen ∧ y.2.length ≤ maxLen := by
      intro k
      by_cases hk : k < len
      · obtain ⟨h0, h1, g0, g1⟩ := hi k (by omega)
        rw [t0] at g0
        rw [t1] at g1
        obtain ⟨s0, e0, _, w0⟩ := DataW.trod_string Try.underlying9 g0
        obtain ⟨s1, e1, _, w1⟩ := DataW.trod_string Try.underlying9 g1
        simp only [List.cons.injEq, and_true] at e0 e1
        obtain ⟨b, off, spot⟩ := a
        have hspot : spot = none := by simpa [Addr.add] using World.cell?_spot (hi 0 (by omega)).1
        subst hspot
        rw [Addr.add_lit, e0] at h0
        rw [Addr.add_lit, e1] at h1
        refine ⟨(s0.data.toList, s1.data.toList), fun _ => ⟨⟨b, off, rfl, hlt (.cell b off) (List.mem_append.2 (.inl (MemPlace.mem_row.2 ⟨0, by omega, by simp⟩))), ?_, ?_⟩, ?_, ?_⟩⟩
        · rw [tx_list]; exact h0
        · rw [tx_list]; exact h1
        · rw [size_list]; exact w0
        · rw [size_list]; exact w1
      · exact ⟨([], []), fun h => absurd h hk⟩
    obtain ⟨f, hf2⟩ := Classical.axiomOfChoice hall
    have hlr : ((List.range len).map f).length = len := by simp
    refine ⟨some a, (List.range len).map f, cap, by rw [hlr], by rw [hlr]; omega, by rw [hlr]; exact hl, (fun e => by cases e), fun k hk => ?_⟩
    rw [hlr] at hk
    obtain ⟨⟨C, off, e, hC, hc0, hc1⟩, hs0, hs1⟩ := hf2 k hk
    have hg : ((List.range len).map f)[k]'(by rw [hlr]; exact hk) = f k := by simp
    exact ⟨C, off, by rw [e], hC, by rw [hg]; exact hc0, by rw [hg]; exact hc1, by rw [hg]; exact hs0, by rw [hg]; exact hs1⟩
set_option maxRecDepth 100000 in
theorem items_core {H : Type} {enc : TypeId × Value → H} {W : World} {spare : Nat → Bool} {held : Bool} {fuel : Nat} {cs : List Value} {x : DataW H × List MemPlace}
    (h : DataW.trod enc Try.prog W 0 spare held fuel 22 cs = some x) (hlt : ∀ y ∈ x.2, y.block < W.heap.size) :
    ∃ (p : Option Addr) (l : List ItemV) (cap : Nat), cs = [.slice p l.length cap] ∧ l.length ≤ maxLen ∧ l.length ≤ cap ∧ (p = none → cap = 0) ∧ Rows9 p l W := by
  rcases Deep.open_slice1 Try.underlying22 (by kernel_rfl) h with ⟨rfl, rfl⟩ | ⟨a, len, cap, m, n, V, D, Pl, rfl, _, hl, hm, hmm, rfl, hi⟩
  · exact ⟨none, [], 0, rfl, Nat.zero_le _, Nat.zero_le _, fun _ => rfl, fun k hk => by simp at hk⟩
  · have hlm : len ≤ m := by rw [hmm]; split <;> omega
    have hall : ∀ k, ∃ y : ItemV, k < len → (∃ C off, a = ⟨C, off, none⟩ ∧ C < W.heap.size ∧ W.cell? ⟨C, off + k, none⟩ = some y.val) ∧ Octs y.p y.xs W ∧ y.xs.length ≤ maxLen := by
      intro k
      by_cases hk : k < len
      · obtain ⟨h0, g0⟩ := hi k (by omega)
        obtain ⟨p, hs, c, e0, hn, _, _, hO⟩ := octs_core Try.underlying24 Try.underlying5 (by kernel_rfl) g0 (fun y hy => hlt y (List.mem_append.2 (.inr (List.mem_flatMap.2 ⟨k, List.mem_range.2 (by omega), hy⟩))))
        simp only [List.cons.injEq, and_true] at e0
        obtain ⟨b, off, spot⟩ := a
        have hspot : spot = none := by simpa [Addr.add] using World.cell?_spot (hi 0 (by omega)).1
        subst hspot
        rw [Addr.add_lit, e0] at h0
        exact ⟨⟨p, hs, c⟩, fun _ => ⟨⟨b, off, rfl, hlt (.cell b off) (List.mem_append.2 (.inl (MemPlace.mem_row.2 ⟨0, by omega, by simp⟩))), h0⟩, hO, hn⟩⟩
      · exact ⟨⟨none, [], 0⟩, fun h => absurd h hk⟩
    obtain ⟨f, hf2⟩ := Classical.axiomOfChoice hall
    have hlr : ((List.range len).map f).length = len := by simp
    refine ⟨some a, (List.range len).map f, cap, by rw [hlr], by rw [hlr]; omega, by rw [hlr]; exact hl, (fun e => by cases e), fun k hk => ?_⟩
    rw [hlr] at hk
    obtain ⟨⟨C, off, e, hC, hc0⟩, hO, hs0⟩ := hf2 k hk
    have hg : ((List.range len).map f)[k]'(by rw [hlr]; exact hk) = f k := by simp
    exact ⟨C, off, by rw [e], hC, by rw [hg]; exact hc0, by rw [hg]; exact hO, by rw [hg]; exact hs0⟩
theorem octs_of {H : Type} {enc : TypeId × Value → H} {W : World} {spare : Nat → Bool} {held : Bool} {v : Value} {d : DataW H} {ps : List MemPlace}
    (hv : ∃ p len cap, v = .slice p len cap) (h : DataW.Trod enc Try.prog W 0 spare held 24 v d ps) (hlt : ∀ x ∈ ps, x.block < W.heap.size) :
    ∃ (p : Option Addr) (l : List Nat) (cap : Nat), v = .slice p l.length cap ∧ l.length ≤ maxLen ∧ l.length ≤ cap ∧ (p = none → cap = 0) ∧ Octs p l W := by
  obtain ⟨p, len, cap, rfl⟩ := hv
  obtain ⟨fuel, hf⟩ := h
  obtain ⟨p', l, cap', hcs, h1, h2, h3, h4⟩ := octs_core Try.underlying24 Try.underlying5 (by kernel_rfl) hf hlt
  simp [Value.cells] at hcs
  obtain ⟨rfl, rfl, rfl⟩ := hcs
  exact ⟨p, l, cap, rfl, h1, h2, h3, h4⟩
theorem rows_of {H : Type} {enc : TypeId × Value → H} {W : World} {spare : Nat → Bool} {held : Bool} {v : Value} {d : DataW H} {ps : List MemPlace}
    (hv : ∃ p len cap, v = .slice p len cap) (h : DataW.Trod enc Try.prog W 0 spare held 22 v d ps) (hlt : ∀ x ∈ ps, x.block < W.heap.size) :
    ∃ (p : Option Addr) (l : List ItemV) (cap : Nat), v = .slice p l.length cap ∧ l.length ≤ maxLen ∧ l.length ≤ cap ∧ (p = none → cap = 0) ∧ Rows9 p l W := by
  obtain ⟨p, len, cap, rfl⟩ := hv
  obtain ⟨fuel, hf⟩ := h
  obtain ⟨p', l, cap', hcs, h1, h2, h3, h4⟩ := items_core hf hlt
  simp [Value.cells] at hcs
  obtain ⟨rfl, rfl, rfl⟩ := hcs
  exact ⟨p, l, cap, rfl, h1, h2, h3, h4⟩
theorem labs_of {H : Type} {enc : TypeId × Value → H} {W : World} {spare : Nat → Bool} {held : Bool} {v : Value} {d : DataW H} {ps : List MemPlace}
    (hv : ∃ p len cap, v = .slice p len cap) (h : DataW.Trod enc Try.prog W 0 spare held 23 v d ps) (hlt : ∀ x ∈ ps, x.block < W.heap.size) :
    ∃ (p : Option Addr) (l : List LabB) (cap : Nat), v = .slice p l.length cap ∧ l.length ≤ maxLen ∧ l.length ≤ cap ∧ (p = none → cap = 0) ∧ LbAt p l W := by
  obtain ⟨p, len, cap, rfl⟩ := hv
  obtain ⟨fuel, hf⟩ := h
  obtain ⟨p', l, cap', hcs, h1, h2, h3, h4⟩ := labs_core hf hlt
  simp [Value.cells] at hcs
  obtain ⟨rfl, rfl, rfl⟩ := hcs
  exact ⟨p, l, cap, rfl, h1, h2, h3, h4⟩
theorem rows_len {H : Type} {enc : TypeId × Value → H} {W : World} {spare : Nat → Bool} {held : Bool} {p : Option Addr} {n cap : Nat} {d : DataW H} {ps : List MemPlace} {T E : TypeId}
    (uT : Try.prog.underlying T = some (.slice E)) (h : DataW.Trod enc Try.prog W 0 spare held T (.slice p n cap) d ps) : n = 0 ∨ ∃ elems rest : List (DataW H), d = .slice elems rest ∧ elems.length = n := by
  obtain ⟨fuel, hf⟩ := h
  rcases Deep.open_slice uT hf with ⟨hcs, hx⟩ | ⟨a, len', cap', m, k, D, Pl, hcs, _, hl, hm, hmm, hx, hi⟩
  · simp [Value.cells] at hcs
    exact .inl hcs.2.1
  · simp [Value.cells] at hcs
    obtain ⟨rfl, rfl, rfl⟩ := hcs
    simp only [Prod.mk.injEq] at hx
    obtain ⟨rfl, rfl⟩ := hx
    exact .inr ⟨_, _, rfl, by simp⟩
theorem text_small {H : Type} {P : Program} {ts : List TypeId} {ds : List (DataW H)} (h : (DataW.weightsEach P ts ds).all (· ≤ reachBytes) = true) (j : Nat) {t : TypeId} {s : ByteArray} (ht : ts[j]? = some t) (hd : ds[j]? = some (.lit (.string s.data.toList))) : s.size ≤ 140737488355328 :=
  Nat.le_trans (show s.data.toList.length ≤ reachBytes from sized_string h ht hd) (Nat.le_of_lt reachBytes_lt)
theorem label_bytes : Try.prog.bytesOf 47 = 32 := by kernel_rfl
end Go.Proofs.Ytlocjhnlemlnmaa.Lx
