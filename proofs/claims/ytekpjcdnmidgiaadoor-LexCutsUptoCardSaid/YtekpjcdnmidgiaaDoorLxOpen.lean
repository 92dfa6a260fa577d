/- A slice of texts that comes in, opened. -/
import Derived.Test.YtekpjcdnmidgiaaDoorLxW
import Derived.Test.YtekpjcdnmidgiaaDoorLaw
import Derived.Deep.Slices
import Derived.Deep.Fields
import Derived.SizedLaws
namespace Go.Proofs.YtekpjcdnmidgiaaDoor
open Go Go.RowKit

/-- A slice of texts that lies somewhere. -/
def Tx (p : Option Addr) (l : List ByteArray) (w : World) : Prop :=
  ∀ k (hk : k < l.length), ∃ C off, p = some ⟨C, off, none⟩ ∧ C < w.heap.size ∧ w.cell? ⟨C, off + k, none⟩ = some (.string l[k]) ∧ l[k].size ≤ maxLen
theorem texts_of {H : Type} {enc : TypeId × Value → H} {W : World} {spare : Nat → Bool} {held : Bool} {v : Value} {d : DataW H} {ps : List MemPlace}
    (hv : ∃ p len cap, v = .slice p len cap) (h : DataW.Trod enc Tryd.prog W 0 spare held 31 v d ps) (hlt : ∀ x ∈ ps, x.block < W.heap.size) :
    ∃ (p : Option Addr) (l : List ByteArray) (cap : Nat), v = .slice p l.length cap ∧ l.length ≤ cap ∧ cap ≤ maxLen ∧ Tx p l W := by
  obtain ⟨p, len, cap, rfl⟩ := hv
  obtain ⟨fuel, hf⟩ := h
  have c1 : Tryd.prog.cellsOf 9 = 1 := by kernel_rfl
  rcases Deep.open_slice Tryd.underlying31 hf with ⟨hcs, hx⟩ | ⟨a, len', cap', m, n, D, Pl, hcs, _, hl, hm, hmm, hx, hi⟩
  · simp [Value.cells] at hcs
    obtain ⟨rfl, rfl, rfl⟩ := hcs
    exact ⟨none, [], 0, rfl, Nat.le_refl _, Nat.zero_le _, fun k hk => by simp at hk⟩
  · simp [Value.cells] at hcs
    obtain ⟨rfl, rfl, rfl⟩ := hcs
    simp only [Prod.mk.injEq] at hx
    obtain ⟨rfl, rfl⟩ := hx
    have hall : ∀ k, ∃ s : ByteArray, k < len → (∃ C off, a = ⟨C, off, none⟩ ∧ C < W.heap.size ∧ W.cell? ⟨C, off + k, none⟩ = some (.string s)) ∧ s.size ≤ maxLen := by
      intro k
      by_cases hk : k < len
      · have hkm : k < m := by rw [hmm]; split <;> omega
        obtain ⟨cs', hc, hd⟩ := hi k hkm
        rw [c1] at hc
        obtain ⟨_, hlen, hcell⟩ := World.cells?_some hc
        obtain ⟨s, e0, _, w0⟩ := DataW.trod_string Tryd.underlying9 hd
        subst e0
        have hk0 := hcell 0 (by decide)
        obtain ⟨b, off, spot⟩ := a
        obtain ⟨cs0, hcs0, _⟩ := hi 0 (by omega)
        rw [c1] at hcs0
        obtain ⟨_, hlen0, hcell0⟩ := World.cells?_some hcs0
        obtain ⟨y0, rfl⟩ := List.length_eq_one_iff.1 hlen0
        have hspot : spot = none := by simpa [Addr.add] using World.cell?_spot (hcell0 0 (by decide))
        subst hspot
        refine ⟨s, fun _ => ⟨⟨b, off, rfl, hlt (.cell b off) (List.mem_append.2 (.inl (MemPlace.mem_row.2 ⟨0, by rw [c1]; omega, by simp⟩))), ?_⟩, w0⟩⟩
        rw [Addr.add_lit, Addr.add_lit, Nat.mul_one, Nat.add_zero] at hk0
        exact hk0
      · exact ⟨⟨#[]⟩, fun h => absurd h hk⟩
    obtain ⟨f, hf2⟩ := Classical.axiomOfChoice hall
    have hlr : ((List.range len).map f).length = len := by simp
    refine ⟨some a, (List.range len).map f, cap, by rw [hlr], by rw [hlr]; exact hl, hm, fun k hk => ?_⟩
    rw [hlr] at hk
    obtain ⟨⟨C, off, e, hC, hcell⟩, hs⟩ := hf2 k hk
    have hg : ((List.range len).map f)[k]'(by rw [hlr]; exact hk) = f k := by simp
    exact ⟨C, off, by rw [e], hC, by rw [hg]; exact hcell, by rw [hg]; exact hs⟩
theorem Tx.at_ {p : Option Addr} {l : List ByteArray} {w w' : World} (h : Tx p l w) (hB : Below w.heap.size w w') {k : Nat} (hk : k < l.length) :
    ∃ C off, p = some ⟨C, off, none⟩ ∧ w'.cell? ⟨C, off + k, none⟩ = some (.string l[k]) ∧ l[k].size ≤ maxLen := by
  obtain ⟨C, off, h1, h2, h3, h4⟩ := h k hk
  exact ⟨C, off, h1, (hB.cell (p := ⟨C, off + k, none⟩) h2).trans h3, h4⟩
theorem text_reach {H : Type} {P : Program} {ts : List TypeId} {ds : List (DataW H)} (h : (DataW.weightsEach P ts ds).all (· ≤ reachBytes) = true) (j : Nat) {t : TypeId} {s : ByteArray} (ht : ts[j]? = some t) (hd : ds[j]? = some (.lit (.string s.data.toList))) : s.size ≤ 140737488355328 :=
  Nat.le_trans (show s.data.toList.length ≤ reachBytes from sized_string h ht hd) (Nat.le_of_lt reachBytes_lt)
end Go.Proofs.YtekpjcdnmidgiaaDoor
