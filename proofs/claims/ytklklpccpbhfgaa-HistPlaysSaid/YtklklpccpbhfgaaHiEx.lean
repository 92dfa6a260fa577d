/- The chapter's examples; a histogram of numbers; what is put is got. -/
import Derived.Test.YtklklpccpbhfgaaHiGoR
import Derived.Test.YtklklpccpbhfgaaHiMrg
import Derived.Test.YtklklpccpbhfgaaHiQua
namespace Go.Proofs.Ytklklpccpbhfgaa
open Go Go.RowKit

/-- A change of a histogram that is the call's own. -/
theorem Left.step {N B k : Nat} {v : Value} {l l' : List Hit} {code : Value} {w0 w w' : World} {e : Ending} (h : Hs N 62 B k v l w) (hB : Below w0.heap.size w0 w) (hN : w0.heap.size ≤ N) (hL : Left N 62 B k v l' code w e w') :
    e = .returned code ∧ Below w0.heap.size w0 w' ∧ ∃ v', Hs N 62 B k v' l' w' := by
  obtain ⟨rfl, v', h', hM, _⟩ := hL
  refine ⟨rfl, below_mov hB hM (fun j hj => ?_) (Nat.le_refl _), v', h'⟩
  rcases hj with rfl | e
  · exact Nat.le_trans hN h.lo
  · exact Nat.le_trans hN (h.row.lt e).1
theorem getF_put {k : Nat} {l : List Hit} (h : Inv k l) (t : List UInt8) : getF (putH k l ++ t) = some (k, l, t) := by
  refine getH_put okF k h.hk l (by have := h.len; omega) h.ris.1 (fun x hx => ?_) h.sum t
  have := fits_small k h.hk _ (h.fit x hx)
  exact ⟨decide_eq_true (h.fit x hx), by omega, by omega, h.ris.2 x hx⟩
theorem getF_cut {k : Nat} {l : List Hit} (h : Inv k l) (n : Nat) (hn : n < (putH k l).length) : getF ((putH k l).take n) = none :=
  getH_cut okF k h.hk l (by have := h.len; omega) n hn
theorem tx_append_list (l : List UInt8) (s : ByteArray) : (tx l ++ s).data.toList = l ++ s.data.toList := by
  simp [tx, ByteArray.data_append]
theorem get_put_any {k : Nat} {l : List Hit} (h : Inv k l) (s : ByteArray) (hs : (tx (putH k l) ++ s).size ≤ maxLen) (w : World) :
    Calls Try.prog 26 #[.string (tx (putH k l) ++ s)] w fun e w' => ∃ B v, e = .returned (.tuple #[.pointer (some ⟨B, 0, none⟩), .string s, .int .i64 0]) ∧ Hs w.heap.size 62 B k v l w' ∧ Below w.heap.size w w' := by
  refine (get_any _ hs w).mono ?_
  rintro e w' ⟨h1, h2⟩
  rw [tx_append_list, getF_put h] at h1
  obtain ⟨B, v, h3, h4⟩ := h1
  exact ⟨B, v, by rw [h3, tx_list], h4, h2⟩
theorem ex_items : more ⟨ofI 1 100, 1⟩ (more ⟨ofI 1 7, 1⟩ (more ⟨ofI 1 6, 1⟩ [])) = [⟨5, 2⟩, ⟨13, 1⟩] := by decide
theorem x120 : (ByteArray.mk #[120]).size = 1 := rfl
set_option maxRecDepth 100000 in
set_option maxHeartbeats 8000000 in
theorem examples_any (w : World) :
    Calls Try.prog 10 #[] w fun e w' => e = .returned (.bool true) ∧ Below w.heap.size w w' := by
  have h5 := fun w => new_out 5 (.inr (by decide)) w
  have h1 := fun w => new_any 1 (by decide) w
  have i6 : In64 6 := by constructor <;> decide
  have i7 : In64 7 := by constructor <;> decide
  have i100 : In64 100 := by constructor <;> decide
  obtain ⟨L1, hL1⟩ : ∃ L1, more ⟨ofI 1 6, 1⟩ [] = L1 := ⟨_, rfl⟩
  obtain ⟨L2, hL2⟩ : ∃ L2, more ⟨ofI 1 7, 1⟩ L1 = L2 := ⟨_, rfl⟩
  have hL3 : more ⟨ofI 1 100, 1⟩ L2 = [⟨5, 2⟩, ⟨13, 1⟩] := by rw [← hL2, ← hL1]; exact ex_items
  have c1 : countH L1 < 1099511627776 := by rw [← hL1]; decide
  have c2 : countH L2 < 1099511627776 := by rw [← hL2, ← hL1]; decide
  go_enter Try.func10, Try.ntmps10
  go_wp2_with fail
  refine (h5 _).mono ?_
  rintro e w1 ⟨rfl, b1⟩
  go_wp2_with fail
  refine (h1 _).mono ?_
  rintro e w2 ⟨B, rfl, b2, hlo, hH⟩
  have hw1 := b1.size
  replace b1 := below_on b1 b2 (Nat.le_refl _)
  replace hH : Hs w.heap.size 62 B 1 (.slice none 0 0) [] w2 := hH.mono hw1
  clear h5 h1 b2 hlo hw1
  have hq := quant_none hH 1 2 (by decide) (by decide) (by decide) rfl
  go_wp2_with fail
  refine hq.mono ?_
  rintro e w3 ⟨rfl, b2⟩
  replace b1 := below_on b1 b2 (Nat.le_refl _)
  replace hH := hH.below b2
  clear hq b2
  have ha := add_any b1.size hH 6 i6 (by decide)
  go_wp2_with fail
  refine ha.mono ?_
  intro e w4 hle
  obtain ⟨rfl, b2, v4, hH4⟩ := hle.step hH b1 (Nat.le_refl _)
  rw [hL1] at hH4
  clear ha hle hH b1
  have ha := add_any b2.size hH4 7 i7 c1
  go_wp2_with fail
  refine ha.mono ?_
  intro e w5 hle
  obtain ⟨rfl, b1, v5, hH5⟩ := hle.step hH4 b2 (Nat.le_refl _)
  rw [hL2] at hH5
  clear ha hle hH4 b2
  have ha := add_any b1.size hH5 100 i100 c2
  go_wp2_with fail
  refine ha.mono ?_
  intro e w6 hle
  obtain ⟨rfl, b2, v6, hH6⟩ := hle.step hH5 b1 (Nat.le_refl _)
  rw [hL3] at hH6
  clear ha hle hH5 b1 hL1 hL2 hL3 c1 c2 i6 i7 i100
  have hr := rank_any hH6 2 (by decide) (by decide)
  rw [show rankH [⟨5, 2⟩, ⟨13, 1⟩] 2 = some 5 from rfl] at hr
  simp only [rkV] at hr
  go_wp2_with fail
  refine hr.mono ?_
  rintro e w7 ⟨rfl, b3⟩
  replace b2 := below_on b2 b3 (Nat.le_refl _)
  replace hH6 := hH6.below b3
  clear hr b3
  have hq := quant_any hH6 1 2 (by decide) (by decide) (by decide) (by decide) 5 (by decide)
  rw [show lowI 1 5 = 6 by decide, show highI 1 5 = 7 by decide] at hq
  go_wp2_with fail
  refine hq.mono ?_
  rintro e w8 ⟨rfl, b3⟩
  replace b2 := below_on b2 b3 (Nat.le_refl _)
  replace hH6 := hH6.below b3
  clear hq b3
  have hp := put_any hH6
  go_wp2_with fail
  refine hp.mono ?_
  rintro e w9 ⟨rfl, b3⟩
  replace b2 := below_on b2 b3 (Nat.le_refl _)
  replace hH6 := hH6.below b3
  clear hp b3
  have hg := get_put_any hH6.inv ⟨#[120]⟩ (by unfold maxLen; rw [ByteArray.size_append, tx_size, putH_length]; decide) w9
  have hit := fun (W : World) (hW : Hs w.heap.size 62 B 1 v6 [⟨5, 2⟩, ⟨13, 1⟩] W) => items_any hW
  have hct := fun (W : World) (hW : Hs w.heap.size 62 B 1 v6 [⟨5, 2⟩, ⟨13, 1⟩] W) => count_any hW
  have hbt := fun (W : World) (hW : Hs w.heap.size 62 B 1 v6 [⟨5, 2⟩, ⟨13, 1⟩] W) => bits_any hW
  have H6 := Lib.hid hH6
  have HI := Lib.hid hit
  have HC := Lib.hid hct
  have HBT := Lib.hid hbt
  clear hH6 hit hct hbt
  go_wp2_with fail
  refine hg.mono ?_
  rintro e w10 ⟨B', v', rfl, _, b3⟩
  have H7 := Lib.hid (H6.out.below b3)
  replace b2 := below_on b2 b3 (Nat.le_refl _)
  have hi := HI.out _ H7.out
  clear hg b3
  go_wp2_with fail
  refine hi.mono ?_
  rintro e w11 ⟨vi, rfl, hIt, b3⟩
  obtain ⟨pi, capi, rfl, _, _⟩ := hIt.cap
  have H8 := Lib.hid (H7.out.below b3)
  replace b2 := below_on b2 b3 (Nat.le_refl _)
  have hc := HC.out _ H8.out
  clear hi b3 hIt
  rw [show countH [⟨5, 2⟩, ⟨13, 1⟩] = 3 from rfl] at hc
  rw [show [(⟨5, 2⟩ : Hit), ⟨13, 1⟩].length = 2 from rfl]
  go_wp2_with fail
  refine hc.mono ?_
  rintro e w12 ⟨rfl, b3⟩
  have H9 := Lib.hid (H8.out.below b3)
  replace b2 := below_on b2 b3 (Nat.le_refl _)
  have hb := HBT.out _ H9.out
  clear hc b3
  go_wp2_with fail
  refine hb.mono ?_
  rintro e w13 ⟨rfl, rfl⟩
  clear hb
  go_wp2
  go_ret
  exact ⟨rfl, b2⟩
end Go.Proofs.Ytklklpccpbhfgaa
