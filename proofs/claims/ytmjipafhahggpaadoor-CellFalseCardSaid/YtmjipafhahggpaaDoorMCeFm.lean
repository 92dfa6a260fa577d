/- Bytes that tell a sum, a least, or a most that may not be, on lists. -/
import Derived.Test.YtmjipafhahggpaaDoorMCeP
namespace Go.Proofs.YtmjipafhahggpaaDoor.Ce
open Go Go.RowKit Hi

theorem getC_parts {k : Nat} {l : List Hit} (hI : Inv k l) {f z lo hi : Int} (hf : In64 f) (hz : Wi.InS z) (hlo : In64 lo) (hhi : In64 hi) (t : List UInt8) :
    getC (n8 f ++ (Wi.sput z ++ (n8 lo ++ (n8 hi ++ (putH k l ++ t))))) =
      if okC k l z lo hi then some (⟨k, f, l, z, if countH l = 0 then 9223372036854775807 else lo, if countH l = 0 then -9223372036854775808 else hi⟩, t) else none := by
  have l8 := n8_length
  have l16 := Wi.sput_length
  obtain ⟨s, hs⟩ : ∃ s, n8 f ++ (Wi.sput z ++ (n8 lo ++ (n8 hi ++ (putH k l ++ t)))) = s := ⟨_, rfl⟩
  have hl : 40 ≤ s.length := by
    rw [← hs]
    simp only [List.length_append, l8, l16]
    omega
  have e0 : num8 s = f := by rw [← hs]; exact num8_n8 hf _
  have d8 : s.drop 8 = Wi.sput z ++ (n8 lo ++ (n8 hi ++ (putH k l ++ t))) := by rw [← hs]; exact List.drop_left' (l8 _)
  have d24 : s.drop 24 = n8 lo ++ (n8 hi ++ (putH k l ++ t)) := by
    rw [show (24 : Nat) = 8 + 16 from rfl, ← List.drop_drop, d8]
    exact List.drop_left' (l16 _)
  have d32 : s.drop 32 = n8 hi ++ (putH k l ++ t) := by
    rw [show (32 : Nat) = 24 + 8 from rfl, ← List.drop_drop, d24]
    exact List.drop_left' (l8 _)
  have d40 : s.drop 40 = putH k l ++ t := by
    rw [show (40 : Nat) = 32 + 8 from rfl, ← List.drop_drop, d32]
    exact List.drop_left' (l8 _)
  have e1 : sumB s = z := by
    unfold sumB
    rw [d8, List.take_left' (l16 _)]
    exact Wi.getS_put hz
  have e2 : lowB s = lo := by unfold lowB; rw [d24]; exact num8_n8 hlo _
  have e3 : topB s = hi := by unfold topB; rw [d32]; exact num8_n8 hhi _
  rw [hs]
  unfold getC
  rw [if_neg (by omega), d40, getF_put hI t]
  simp only []
  unfold celB
  rw [e0, e1, e2, e3]
theorem cut_tx (l : List UInt8) (i j : Nat) : (tx l).extract i j = tx ((l.drop i).take (j - i)) := by
  rw [← tx_list ((tx l).extract i j), extract_toList, list_tx]
/-- The pieces of a cell's bytes. -/
theorem put_pieces (c : Cel) :
    (c.put.drop 0).take 24 = n8 c.frm ++ Wi.sput c.sum ∧ (c.put.drop 0).take 8 = n8 c.frm ∧ (c.put.drop 24).take 8 = n8 c.lowT ∧ (c.put.drop 32).take 8 = n8 c.topT ∧
      c.put.drop 40 = putH c.k c.its ∧ c.put.drop 24 = n8 c.lowT ++ (n8 c.topT ++ putH c.k c.its) := by
  have l8 := n8_length
  have l16 := Wi.sput_length
  have h0 : c.put = n8 c.frm ++ (Wi.sput c.sum ++ (n8 c.lowT ++ (n8 c.topT ++ putH c.k c.its))) := by
    unfold Cel.put
    simp only [List.append_assoc]
  have d8 : c.put.drop 8 = Wi.sput c.sum ++ (n8 c.lowT ++ (n8 c.topT ++ putH c.k c.its)) := by rw [h0]; exact List.drop_left' (l8 _)
  have d24 : c.put.drop 24 = n8 c.lowT ++ (n8 c.topT ++ putH c.k c.its) := by
    rw [show (24 : Nat) = 8 + 16 from rfl, ← List.drop_drop, d8]
    exact List.drop_left' (l16 _)
  have d32 : c.put.drop 32 = n8 c.topT ++ putH c.k c.its := by
    rw [show (32 : Nat) = 24 + 8 from rfl, ← List.drop_drop, d24]
    exact List.drop_left' (l8 _)
  have d40 : c.put.drop 40 = putH c.k c.its := by
    rw [show (40 : Nat) = 32 + 8 from rfl, ← List.drop_drop, d32]
    exact List.drop_left' (l8 _)
  refine ⟨?_, ?_, ?_, ?_, d40, d24⟩
  · rw [List.drop_zero, h0, ← List.append_assoc]
    exact List.take_left' (by rw [List.length_append, l8, l16])
  · rw [List.drop_zero, h0]
    exact List.take_left' (l8 _)
  · rw [d24]
    exact List.take_left' (l8 _)
  · rw [d32]
    exact List.take_left' (l8 _)
/-- With another sum: none, if it may not be. -/
theorem false_sum {c : Cel} (h : c.Ok) {z : Int} (hz : Wi.InS z) (hn : ¬ okC c.k c.its z c.lowT c.topT) :
    getC (n8 c.frm ++ Wi.sput z ++ (n8 c.lowT ++ (n8 c.topT ++ putH c.k c.its))) = none := by
  have := getC_parts h.inv h.frm hz h.lowT h.topT []
  rw [List.append_nil, if_neg hn] at this
  rw [List.append_assoc]
  exact this
/-- With the least and the most turned round. -/
theorem false_turn {c : Cel} (h : c.Fit) (h0 : 0 < countH c.its) :
    (c.low = c.top → ∃ d, getC (n8 c.frm ++ Wi.sput c.sum ++ n8 c.topT ++ n8 c.lowT ++ putH c.k c.its) = some (d, [])) ∧
    (c.low ≠ c.top → getC (n8 c.frm ++ Wi.sput c.sum ++ n8 c.topT ++ n8 c.lowT ++ putH c.k c.its) = none) := by
  have hp := getC_parts h.ok.inv h.ok.frm h.ok.insum h.ok.topT h.ok.lowT []
  rw [List.append_nil] at hp
  have e : n8 c.frm ++ Wi.sput c.sum ++ n8 c.topT ++ n8 c.lowT ++ putH c.k c.its = n8 c.frm ++ (Wi.sput c.sum ++ (n8 c.topT ++ (n8 c.lowT ++ putH c.k c.its))) := by simp only [List.append_assoc]
  rw [e, hp]
  have hf := h.fit
  have hl : c.lowT = c.low := by unfold Cel.lowT; rw [if_neg (by omega)]
  have ht : c.topT = c.top := by unfold Cel.topT; rw [if_neg (by omega)]
  rw [hl, ht] at hf ⊢
  constructor
  · intro he
    rw [he] at hf ⊢
    rw [if_pos hf]
    exact ⟨_, rfl⟩
  · intro hne
    rw [if_neg]
    intro hg
    unfold okC at hf hg
    rw [if_neg (by omega)] at hf hg
    have h1 := hf.2.2.1
    have h2 := hf.2.2.2
    have h3 := hg.2.2.1
    have h4 := hg.2.2.2
    have h5 : (countH c.its : Int) * c.low = (countH c.its : Int) * c.top := by omega
    exact hne (Int.eq_of_mul_eq_mul_left (by omega) h5)
end Go.Proofs.YtmjipafhahggpaaDoor.Ce

