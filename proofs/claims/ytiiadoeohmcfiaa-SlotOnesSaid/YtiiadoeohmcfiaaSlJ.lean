/- Tables whose keys are told slot by slot: what is found, added, dropped, how many stand there. No walk in this text. -/
import Derived.Test.YtiiadoeohmcfiaaSlI
namespace Go.Proofs.Ytiiadoeohmcfiaa
open Go Go.RowKit

def tabF (n : Nat) (f : Nat → Key) : List Key := (List.range n).map f
section
variable {n s : Nat} {f g : Nat → Key} {k : Key}
theorem tabF_len (n : Nat) (f : Nat → Key) : (tabF n f).length = n := by unfold tabF; simp
theorem keyOf_tabF {j : Nat} (h : j < n) : keyOf (tabF n f) j = f j := by
  rw [keyOf_at _ (by rw [tabF_len]; exact h)]
  unfold tabF
  simp
theorem tabF_congr (h : ∀ j, j < n → f j = g j) : tabF n f = tabF n g := List.map_congr_left fun j hj => h j (by simpa using hj)
theorem tabF_set (hs : s < n) : (tabF n f).set s k = tabF n (Sl.putK f s k) := by
  apply List.ext_getElem (by rw [List.length_set, tabF_len, tabF_len])
  intro j h1 h2
  rw [List.length_set, tabF_len] at h1
  have e1 : ((tabF n f).set s k)[j]'(by rw [List.length_set, tabF_len]; exact h1) = keyOf ((tabF n f).set s k) j := (keyOf_at _ _).symm
  have e2 : (tabF n (Sl.putK f s k))[j]'(by rw [tabF_len]; exact h1) = keyOf (tabF n (Sl.putK f s k)) j := (keyOf_at _ _).symm
  rw [e1, e2, keyOf_set k (by rw [tabF_len]; exact hs), keyOf_tabF h1]
  unfold Sl.putK
  split
  · rfl
  · exact keyOf_tabF h1
theorem tabF_rep (n : Nat) : List.replicate n ([] : Key) = tabF n fun _ => [] := by
  unfold tabF
  induction n with
  | zero => rfl
  | succ n ih => rw [List.replicate_succ', ih, List.range_succ, List.map_append]; rfl
theorem findF (hk : k ≠ []) (hs : s < n) (hf : f s = k) (hu : ∀ j, j < s → f j ≠ k) : findK (tabF n f) k = some s := by
  unfold findK
  rw [if_neg hk]
  exact idx_is (by rw [tabF_len]; exact hs) (by rw [keyOf_tabF hs]; exact hf) fun j hj => by rw [keyOf_tabF (by omega)]; exact hu j hj
theorem findF_no (h : ∀ j, j < n → f j ≠ k) : findK (tabF n f) k = none := by
  unfold findK
  split
  · rfl
  · exact idx_not fun j hj => by rw [tabF_len] at hj; rw [keyOf_tabF hj]; exact h j hj
theorem addF (hk : k ≠ []) (h4 : k.length ≤ 4096) (hno : ∀ j, j < n → f j ≠ k) (hs : s < n) (h0 : f s = []) (hlow : ∀ j, j < s → f j ≠ []) :
    addK (tabF n f) k = (s, 0, tabF n (Sl.putK f s k)) := by
  unfold addK
  rw [if_neg (by rintro (h | h); exact hk h; omega), findF_no hno, if_neg (by simp),
    idx_is (L := tabF n f) (k := []) (s := s) (by rw [tabF_len]; exact hs) (by rw [keyOf_tabF hs]; exact h0) (fun j hj => by rw [keyOf_tabF (by omega)]; exact hlow j hj)]
  simp only [tabF_set hs]
theorem addF_full (hk : k ≠ []) (h4 : k.length ≤ 4096) (hno : ∀ j, j < n → f j ≠ k) (hall : ∀ j, j < n → f j ≠ []) : addK (tabF n f) k = (0, 4, tabF n f) := by
  unfold addK
  rw [if_neg (by rintro (h | h); exact hk h; omega), findF_no hno, if_neg (by simp),
    idx_not (L := tabF n f) (k := []) (fun j hj => by rw [tabF_len] at hj; rw [keyOf_tabF hj]; exact hall j hj)]
theorem addK_nil (L : List Key) : addK L [] = (0, 1, L) := by
  unfold addK
  rw [if_pos (.inl rfl)]
theorem dropF (hk : k ≠ []) (hs : s < n) (hf : f s = k) (hu : ∀ j, j < s → f j ≠ k) : dropK (tabF n f) k = tabF n (Sl.putK f s []) := by
  unfold dropK
  rw [findF hk hs hf hu]
  exact tabF_set hs
theorem slotsF (n : Nat) (f : Nat → Key) : slotsK (tabF n f) = (List.range n).filter fun s => !decide (f s = []) := by
  unfold slotsK slotsTo
  rw [tabF_len]
  exact List.filter_congr fun j hj => by rw [keyOf_tabF (by simpa using hj)]
theorem slots_all (h : ∀ j, j < n → f j ≠ []) : (slotsK (tabF n f)).length = n := by
  rw [slotsF, List.filter_eq_self.2 (fun j hj => by simp [h j (by simpa using hj)]), List.length_range]
theorem slots_below {m : Nat} (hm : m ≤ n) (h1 : ∀ j, j < m → f j ≠ []) (h2 : ∀ j, m ≤ j → f j = []) : (slotsK (tabF n f)).length = m := by
  rw [slotsF]
  obtain ⟨d, rfl⟩ : ∃ d, n = m + d := ⟨n - m, by omega⟩
  clear hm
  induction d with
  | zero => rw [Nat.add_zero, List.filter_eq_self.2 (fun j hj => by simp [h1 j (by simpa using hj)]), List.length_range]
  | succ d ih =>
    rw [← Nat.add_assoc, List.range_succ, List.filter_append, List.length_append, ih]
    simp [h2 (m + d) (by omega)]
end
theorem byte_in (c : UInt8) (W : World) (g : Nat) (h : W.cell? ⟨g, 0, none⟩ = some (.int .u8 (c.toNat : Int))) : (convert 50 9 (.slice (some ⟨g, 0, none⟩) 1 1)).run Try.prog W = .ok (.string (tx [c])) W :=
  run_convert_bytes_back (P := Try.prog) W 50 9 5 ⟨g, 0, none⟩ 1 [c] Try.underlying50 Try.underlying5 Try.underlying9 (fun j hj => by
    have : j = 0 := by simpa using hj
    subst this
    rw [Addr.add_lit, Nat.zero_add]
    exact h)
theorem ofNat_small {n : Nat} (h : n ≤ 255) : (UInt8.ofNat n).toNat = n := by
  rw [UInt8.toNat_ofNat']
  omega
theorem byte_inj {a b : Nat} (ha : a ≤ 255) (hb : b ≤ 255) (h : UInt8.ofNat a = UInt8.ofNat b) : a = b := by
  have := congrArg UInt8.toNat h
  rwa [ofNat_small ha, ofNat_small hb] at this
end Go.Proofs.Ytiiadoeohmcfiaa
