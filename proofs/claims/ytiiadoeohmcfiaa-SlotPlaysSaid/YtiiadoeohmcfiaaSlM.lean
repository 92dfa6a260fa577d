/- The chapter's own table. -/
import Derived.Test.YtiiadoeohmcfiaaSlI
namespace Go.Proofs.Ytiiadoeohmcfiaa
open Go Go.RowKit

theorem txt_ne {l : List UInt8} (h : l ≠ []) : (!(tx l).toList.isEmpty) = true := by rw [txt_no h]; rfl
/-- Block X is the chapter's table, whose keys L lie in block Y. -/
structure RTab (X Y : Nat) (L : List Key) (w : World) : Prop where
  ltX : X < w.heap.size
  ltY : Y < w.heap.size
  ne : X ≠ Y
  ptr : w.cell? ⟨X, 0, none⟩ = some (.slice (some ⟨Y, 0, none⟩) L.length L.length)
  key : ∀ s, s < L.length → w.cell? ⟨Y, s, none⟩ = some (.string (tx (keyOf L s)))
  fro : ∀ s, s < L.length → w.frozen? ⟨Y, s, none⟩ = false
  room : L.length ≤ 256
section
variable {X Y : Nat} {L : List Key} {w w' : World}
theorem RTab.belowAt (h : RTab X Y L w) {C : Nat} (hB : Below C w w') (hX : X < C) (hY : Y < C) : RTab X Y L w' :=
  ⟨Nat.lt_of_lt_of_le h.ltX hB.size, Nat.lt_of_lt_of_le h.ltY hB.size, h.ne, (hB.cell (p := ⟨X, 0, none⟩) hX).trans h.ptr, fun s hs => (hB.cell (p := ⟨Y, s, none⟩) hY).trans (h.key s hs), fun s hs => (hB.frozen (p := ⟨Y, s, none⟩) hY).trans (h.fro s hs), h.room⟩
theorem RTab.below (h : RTab X Y L w) (hB : Below w.heap.size w w') : RTab X Y L w' := h.belowAt hB h.ltX h.ltY
theorem RTab.chg (h : RTab X Y L w) {C : Nat} (hC : Chg C w w') (hX : X ≠ C) (hY : Y ≠ C) : RTab X Y L w' :=
  ⟨Nat.lt_of_lt_of_le h.ltX hC.size, Nat.lt_of_lt_of_le h.ltY hC.size, h.ne, (hC.cell h.ltX hX).trans h.ptr, fun s hs => (hC.cell h.ltY hY).trans (h.key s hs), fun s hs => (hC.frozen h.ltY hY).trans (h.fro s hs), h.room⟩
theorem RTab.set (h : RTab X Y L w) (s : Nat) (hs : s < L.length) (k : Key) : RTab X Y (L.set s k) (w.setCell ⟨Y, s, none⟩ (.string (tx k))) := by
  refine ⟨by have := h.ltX; simpa using this, by have := h.ltY; simpa using this, h.ne, ?_, fun t ht => ?_, fun t ht => ?_, by rw [List.length_set]; exact h.room⟩
  · rw [List.length_set, World.cell?_setCell_other (h := by intro e; exact h.ne (congrArg Addr.block e).symm)]
    exact h.ptr
  · rw [List.length_set] at ht
    rw [keyOf_set k hs]
    by_cases hst : t = s
    · subst hst
      rw [Sl.putK_same]
      exact World.cell?_setCell_same w ⟨Y, t, none⟩ _ (h.key t ht)
    · rw [Sl.putK_other _ _ hst, World.cell?_setCell_other (h := by intro e; have := congrArg Addr.off e; simp at this; omega)]
      exact h.key t ht
  · rw [List.length_set] at ht
    rw [World.frozen?_setCell]
    exact h.fro t ht
/-- What Find tells. -/
def findV (o : Option Nat) : Value := .tuple #[.int .i64 ((o.getD 0 : Nat) : Int), .bool o.isSome]

set_option maxRecDepth 100000 in
set_option maxHeartbeats 4000000 in
theorem find_r (k : Key) (h : RTab X Y L w) :
    Calls Try.prog 14 #[.pointer (some ⟨X, 0, none⟩), .string (tx k)] w fun e w' => e = .returned (findV (findK L k)) ∧ w = w' := by
  have cp := h.ptr
  have hr := h.room
  have HK := Lib.hid h.key
  have z1 := h.ltX
  have z2 := h.ltY
  by_cases hk : k = []
  · have hF : Hid (findK L k = none) := Lib.hid (by unfold findK; rw [if_pos hk])
    subst hk
    have he := txt_empty
    have HQ : Hid (∀ s, ((tx (keyOf L s)).toList == (tx []).toList) = decide (keyOf L s = [])) := Lib.hid (fun s => tx_eq _ _)
    obtain ⟨n, hn⟩ : ∃ n, L.length = n := ⟨_, rfl⟩
    rw [hn] at cp hr HK
    obtain ⟨T, hT⟩ : ∃ T, tx [] = T := ⟨_, rfl⟩
    rw [hT] at he HQ ⊢
    clear h hT hn
    go_enter Try.func14, Try.ntmps14
    go_wp2
    go_loopg [6] n (fun g s6 wx => ∃ j : Nat, s6 = .int .i64 (j : Int) ∧ j + g = n ∧ wx = w)
    case atStart => exact ⟨0, rfl, by omega, rfl⟩
    case round =>
      obtain ⟨j, rfl, hj, rfl⟩ := hrel
      cases gk with
      | zero =>
        obtain rfl : j = n := by omega
        go_wp2
        go_ret2
        exact ⟨by rw [hF.out]; rfl, rfl⟩
      | succ g =>
        have hjn : j < n := by omega
        have ck := HK.out j hjn
        have hq := HQ.out j
        obtain ⟨T2, hT2⟩ : ∃ T, tx (keyOf L j) = T := ⟨_, rfl⟩
        rw [hT2] at ck hq
        by_cases hkj : keyOf L j = []
        · rw [decide_eq_true hkj] at hq
          have he2 : T2.toList.isEmpty = true := by rw [← hT2, hkj, txt_empty]; rfl
          clear hkj hT2
          go_wp2
          go_roundg g
          case measure => omega
          case rel => exact ⟨j + 1, by go_num, by omega, rfl⟩
        · rw [decide_eq_false hkj] at hq
          have he2 : T2.toList.isEmpty = false := by rw [← hT2]; exact txt_no hkj
          clear hkj hT2
          go_wp2
          go_roundg g
          case measure => omega
          case rel => exact ⟨j + 1, by go_num, by omega, rfl⟩
  · have he := txt_no hk
    have HQ : Hid (∀ s, ((tx (keyOf L s)).toList == (tx k).toList) = decide (keyOf L s = k)) := Lib.hid (fun s => tx_eq _ _)
    have HS : Hid (∀ s, s < L.length → keyOf L s = k → (∀ j, j < s → keyOf L j ≠ k) → findK L k = some s) := Lib.hid (fun s a b c => by unfold findK; rw [if_neg hk]; exact idx_is a b c)
    have HN : Hid ((∀ j, j < L.length → keyOf L j ≠ k) → findK L k = none) := Lib.hid (fun a => by unfold findK; rw [if_neg hk]; exact idx_not a)
    obtain ⟨n, hn⟩ : ∃ n, L.length = n := ⟨_, rfl⟩
    rw [hn] at cp hr HK HS HN
    obtain ⟨T, hT⟩ : ∃ T, tx k = T := ⟨_, rfl⟩
    rw [hT] at he HQ ⊢
    clear h hT hk hn
    go_enter Try.func14, Try.ntmps14
    go_wp2
    go_loopg [6] n (fun g s6 wx => ∃ j : Nat, s6 = .int .i64 (j : Int) ∧ j + g = n ∧ wx = w ∧ Hid (∀ i, i < j → keyOf L i ≠ k))
    case atStart => exact ⟨0, rfl, by omega, rfl, Lib.hid (fun i hi => absurd hi (Nat.not_lt_zero _))⟩
    case round =>
      obtain ⟨j, rfl, hj, rfl, HJ⟩ := hrel
      cases gk with
      | zero =>
        obtain rfl : j = n := by omega
        have hE := Lib.hid (HN.out HJ.out)
        go_wp2
        go_ret2
        exact ⟨by rw [hE.out]; rfl, rfl⟩
      | succ g =>
        have hjn : j < n := by omega
        have ck := HK.out j hjn
        have hq := HQ.out j
        obtain ⟨T2, hT2⟩ : ∃ T, tx (keyOf L j) = T := ⟨_, rfl⟩
        rw [hT2] at ck hq
        clear hT2
        by_cases hkj : keyOf L j = k
        · rw [decide_eq_true hkj] at hq
          have hE := Lib.hid (HS.out j hjn hkj HJ.out)
          clear hkj
          go_wp2
          go_ret2
          exact ⟨by rw [hE.out]; rfl, rfl⟩
        · rw [decide_eq_false hkj] at hq
          have HJ2 : Hid (∀ i, i < j + 1 → keyOf L i ≠ k) := Lib.hid (fun i hi => by
            rcases Nat.lt_succ_iff_lt_or_eq.1 hi with h1 | rfl
            · exact HJ.out i h1
            · exact hkj)
          clear hkj
          go_wp2
          go_roundg g
          case measure => omega
          case rel => exact ⟨j + 1, by go_num, by omega, rfl, HJ2⟩
set_option maxRecDepth 100000 in
set_option maxHeartbeats 4000000 in
theorem drop_r (k : Key) (h : RTab X Y L w) :
    Calls Try.prog 12 #[.pointer (some ⟨X, 0, none⟩), .string (tx k)] w fun e w' => e = .returned (.bool (findK L k).isSome) ∧ Chg Y w w' ∧ RTab X Y (dropK L k) w' := by
  have hf := find_r k h
  have HT := Lib.hid h
  have cp := h.ptr
  have hr := h.room
  have z1 := h.ltX
  have z2 := h.ltY
  unfold dropK
  cases hs : findK L k with
  | none =>
    rw [hs] at hf
    rw [show findV none = .tuple #[.int .i64 0, .bool false] from rfl] at hf
    obtain ⟨T, hT⟩ : ∃ T, tx k = T := ⟨_, rfl⟩
    rw [hT] at hf ⊢
    clear h hT hs
    go_enter Try.func12, Try.ntmps12
    go_wp2_with fail
    refine hf.mono ?_
    rintro e w1 ⟨rfl, rfl⟩
    go_wp2
    go_ret
    exact ⟨rfl, Chg.refl _ _, HT.out⟩
  | some s =>
    rw [hs] at hf
    rw [show findV (some s) = .tuple #[.int .i64 (s : Int), .bool true] from rfl] at hf
    obtain ⟨_, hsL, _⟩ := findK_some hs
    have ck := h.key s hsL
    have fk := h.fro s hsL
    have HS : Hid (RTab X Y (L.set s []) (w.setCell ⟨Y, s, none⟩ (.string ⟨#[]⟩))) := Lib.hid (h.set s hsL [])
    have HC : Hid (Chg Y w (w.setCell ⟨Y, s, none⟩ (.string ⟨#[]⟩))) := Lib.hid ((Chg.refl _ _).set _ _)
    obtain ⟨T, hT⟩ : ∃ T, tx k = T := ⟨_, rfl⟩
    rw [hT] at hf ⊢
    obtain ⟨T2, hT2⟩ : ∃ T, tx (keyOf L s) = T := ⟨_, rfl⟩
    rw [hT2] at ck
    obtain ⟨n, hn⟩ : ∃ n, L.length = n := ⟨_, rfl⟩
    rw [hn] at cp hr hsL
    clear h hT hT2 hs hn HT
    go_enter Try.func12, Try.ntmps12
    go_wp2_with fail
    refine hf.mono ?_
    rintro e w1 ⟨rfl, rfl⟩
    go_wp2
    go_ret
    exact ⟨rfl, HC.out, HS.out⟩
/-- What Add tells. -/
def addR (x : Nat × Nat × List Key) : Value := .tuple #[.int .i64 (x.1 : Int), .int .i64 (x.2.1 : Int)]
set_option maxRecDepth 100000 in
set_option maxHeartbeats 8000000 in
theorem add_r (k : Key) (hk : k.length ≤ maxLen) (h : RTab X Y L w) :
    Calls Try.prog 16 #[.pointer (some ⟨X, 0, none⟩), .string (tx k)] w fun e w' => e = .returned (addR (addK L k)) ∧ Chg Y w w' ∧ RTab X Y (addK L k).2.2 w' := by
  have HT := Lib.hid h
  by_cases h0 : k = []
  · subst h0
    have hE : addK L [] = (0, 1, L) := by unfold addK; rw [if_pos (.inl rfl)]
    rw [hE]
    have he := txt_empty
    obtain ⟨T, hT⟩ : ∃ T, tx [] = T := ⟨_, rfl⟩
    rw [hT] at he ⊢
    clear hT h hk hE
    go_enter Try.func16, Try.ntmps16
    go_wp2
    go_ret2
    exact ⟨rfl, Chg.refl _ _, HT.out⟩
  have he := txt_no h0
  have hz : (tx k).size = k.length := tx_len k
  by_cases h4 : 4096 < k.length
  · have hE : addK L k = (0, 1, L) := by unfold addK; rw [if_pos (.inr h4)]
    rw [hE]
    obtain ⟨T, hT⟩ : ∃ T, tx k = T := ⟨_, rfl⟩
    rw [hT] at he hz ⊢
    have h1 : 4096 < T.size := by omega
    have h2 : T.size ≤ 9223372036854775807 := by unfold maxLen at hk; omega
    clear hT h hk hE h4 hz h0
    go_enter Try.func16, Try.ntmps16
    go_wp2
    go_ret2
    exact ⟨rfl, Chg.refl _ _, HT.out⟩
  have hf := find_r k h
  have cp := h.ptr
  have hr := h.room
  have z1 := h.ltX
  have z2 := h.ltY
  cases hs : findK L k with
  | some s =>
    have hE : addK L k = (0, 6, L) := by unfold addK; rw [if_neg (by rintro (h | h); exact h0 h; exact h4 h), hs]; rfl
    rw [hE]
    rw [hs] at hf
    rw [show findV (some s) = .tuple #[.int .i64 (s : Int), .bool true] from rfl] at hf
    obtain ⟨T, hT⟩ : ∃ T, tx k = T := ⟨_, rfl⟩
    rw [hT] at he hz hf ⊢
    have h1 : T.size ≤ 4096 := by omega
    clear hT h hk hE h4 hz h0 hs
    go_enter Try.func16, Try.ntmps16
    go_wp2_with fail
    refine hf.mono ?_
    rintro e w1 ⟨rfl, rfl⟩
    go_wp2
    go_ret2
    exact ⟨rfl, Chg.refl _ _, HT.out⟩
  | none =>
    have HI : Hid (∀ s, s < L.length → keyOf L s = [] → (∀ j, j < s → keyOf L j ≠ []) → addK L k = (s, 0, L.set s k)) := Lib.hid (fun s a b c => by
      unfold addK
      rw [if_neg (by rintro (h | h); exact h0 h; exact h4 h), hs, if_neg (by simp), idx_is a b c])
    have HN : Hid ((∀ j, j < L.length → keyOf L j ≠ []) → addK L k = (0, 4, L)) := Lib.hid (fun a => by
      unfold addK
      rw [if_neg (by rintro (h | h); exact h0 h; exact h4 h), hs, if_neg (by simp), idx_not a])
    have HK := Lib.hid h.key
    have HF := Lib.hid h.fro
    have HS : Hid (∀ s, s < L.length → RTab X Y (L.set s k) (w.setCell ⟨Y, s, none⟩ (.string (tx k)))) := Lib.hid (fun s hs => h.set s hs k)
    rw [hs] at hf
    rw [show findV none = .tuple #[.int .i64 0, .bool false] from rfl] at hf
    obtain ⟨n, hn⟩ : ∃ n, L.length = n := ⟨_, rfl⟩
    rw [hn] at cp hr HK HF HI HN HS
    obtain ⟨T, hT⟩ : ∃ T, tx k = T := ⟨_, rfl⟩
    rw [hT] at he hz hf HS ⊢
    have h1 : T.size ≤ 4096 := by omega
    clear hT h hk h4 hz h0 hs hn
    go_enter Try.func16, Try.ntmps16
    go_wp2_with fail
    refine hf.mono ?_
    rintro e w1 ⟨rfl, rfl⟩
    go_wp2
    go_loopg [8] n (fun g s8 wx => ∃ j : Nat, s8 = .int .i64 (j : Int) ∧ j + g = n ∧ wx = w ∧ Hid (∀ i, i < j → keyOf L i ≠ []))
    case atStart => exact ⟨0, rfl, by omega, rfl, Lib.hid (fun i hi => absurd hi (Nat.not_lt_zero _))⟩
    case round =>
      obtain ⟨j, rfl, hj, rfl, HJ⟩ := hrel
      cases gk with
      | zero =>
        obtain rfl : j = n := by omega
        have hE := Lib.hid (HN.out HJ.out)
        go_wp2
        go_ret2
        exact ⟨by rw [hE.out]; rfl, Chg.refl _ _, by rw [hE.out]; exact HT.out⟩
      | succ g =>
        have hjn : j < n := by omega
        have ck := HK.out j hjn
        have fk := HF.out j hjn
        by_cases hkj : keyOf L j = []
        · have hE := Lib.hid (HI.out j hjn hkj HJ.out)
          have HS2 := Lib.hid (HS.out j hjn)
          rw [hkj] at ck
          have he2 := txt_empty
          obtain ⟨T2, hT2⟩ : ∃ T, tx [] = T := ⟨_, rfl⟩
          rw [hT2] at ck he2
          clear hT2 hkj
          go_wp2
          go_ret2
          exact ⟨by rw [hE.out]; rfl, (Chg.refl _ _).set _ _, by rw [hE.out]; exact HS2.out⟩
        · have he2 := txt_no hkj
          have HJ2 : Hid (∀ i, i < j + 1 → keyOf L i ≠ []) := Lib.hid (fun i hi => by
            rcases Nat.lt_succ_iff_lt_or_eq.1 hi with h1 | rfl
            · exact HJ.out i h1
            · exact hkj)
          obtain ⟨T2, hT2⟩ : ∃ T, tx (keyOf L j) = T := ⟨_, rfl⟩
          rw [hT2] at ck he2
          clear hT2 hkj
          go_wp2
          go_roundg g
          case measure => omega
          case rel => exact ⟨j + 1, by go_num, by omega, rfl, HJ2⟩
set_option maxRecDepth 100000 in
set_option maxHeartbeats 4000000 in
theorem key_r (s : Nat) (hs : s < L.length) (h : RTab X Y L w) :
    Calls Try.prog 22 #[.pointer (some ⟨X, 0, none⟩), .int .i64 (s : Int)] w fun e w' => e = .returned (.tuple #[.string (tx (keyOf L s)), .bool (!decide (keyOf L s = []))]) ∧ w = w' := by
  have cp := h.ptr
  have hr := h.room
  have z1 := h.ltX
  have z2 := h.ltY
  have ck := h.key s hs
  obtain ⟨n, hn⟩ : ∃ n, L.length = n := ⟨_, rfl⟩
  rw [hn] at cp hr hs
  clear hn h
  by_cases hk : keyOf L s = []
  · rw [hk, decide_eq_true rfl]
    rw [hk] at ck
    have he : (⟨#[]⟩ : ByteArray).toList = [] := txt_empty
    have ht : tx [] = ⟨#[]⟩ := rfl
    rw [ht] at ck ⊢
    clear hk ht
    go_enter Try.func22, Try.ntmps22
    go_wp2
    go_ret2
    exact ⟨rfl, rfl⟩
  · rw [decide_eq_false hk]
    have he := txt_no hk
    obtain ⟨T, hT⟩ : ∃ T, tx (keyOf L s) = T := ⟨_, rfl⟩
    rw [hT] at ck he ⊢
    clear hk hT
    go_enter Try.func22, Try.ntmps22
    go_wp2
    go_ret2
    exact ⟨rfl, rfl⟩
set_option maxRecDepth 100000 in
set_option maxHeartbeats 4000000 in
theorem slots_r (h : RTab X Y L w) :
    Calls Try.prog 18 #[.pointer (some ⟨X, 0, none⟩)] w fun e w' => ∃ v, e = .returned v ∧ OwnI w.heap.size v (slotsK L) w' ∧ Below w.heap.size w w' := by
  have hr := h.room
  have HT := Lib.hid h
  have HO : Hid (OwnI w.heap.size (.slice none 0 0) (slotsTo L 0) w) := Lib.hid (OwnI.nil _ _)
  have HB := Lib.hid (Below.refl w.heap.size w)
  obtain ⟨n, hn⟩ : ∃ n, L.length = n := ⟨_, rfl⟩
  have HN := Lib.hid hn
  rw [hn] at hr
  clear h hn
  go_enter Try.func18, Try.ntmps18
  go_wp2
  go_loopg [3, 4] n (fun g s3 s4 wx => ∃ j : Nat, s4 = .int .i64 (j : Int) ∧ j + g = n ∧ Hid (OwnI w.heap.size s3 (slotsTo L j) wx) ∧ Hid (Below w.heap.size w wx))
  case atStart => exact ⟨0, rfl, by omega, HO, HB⟩
  case round =>
    clear HO HB
    obtain ⟨j, rfl, hj, HO, HB⟩ := hrel
    have hT := HT.out.below HB.out
    have cp := hT.ptr
    rw [HN.out] at cp
    have z1 := hT.ltX
    have z2 := hT.ltY
    cases gk with
    | zero =>
      obtain rfl : j = n := by omega
      obtain ⟨p, cap, rfl⟩ := HO.out.len
      clear hT
      go_wp2
      go_ret
      exact ⟨_, rfl, by unfold slotsK; rw [HN.out]; exact HO.out, HB.out⟩
    | succ g =>
      have hjn : j < n := by omega
      have ck := hT.key j (by rw [HN.out]; exact hjn)
      obtain ⟨p, cap, rfl⟩ := HO.out.len
      obtain ⟨m, hm⟩ : ∃ m, (slotsTo L j).length = m := ⟨_, rfl⟩
      have hm2 := slotsTo_len L j
      rw [hm] at hm2 ⊢
      have HM := Lib.hid hm
      clear hT hm
      by_cases hk : keyOf L j = []
      · have HO2 : Hid (OwnI w.heap.size (.slice p m cap) (slotsTo L (j + 1)) wr) := Lib.hid (by rw [slotsTo_no hk, ← HM.out]; exact HO.out)
        rw [hk] at ck
        have he := txt_empty
        obtain ⟨T, hT⟩ : ∃ T, tx [] = T := ⟨_, rfl⟩
        rw [hT] at ck he
        clear hk hT HO
        go_wp2
        go_roundg g
        case measure => omega
        case rel => exact ⟨j + 1, by go_num, by omega, HO2, HB⟩
      · obtain ⟨v', w', hr1, hG⟩ := append_int 42 HO.out j (by rw [HM.out]; omega) HB.out.size
        rw [HM.out] at hr1
        have HR1 := Lib.hid hr1
        have HO2 : Hid (OwnI w.heap.size v' (slotsTo L (j + 1)) w') := Lib.hid (by rw [slotsTo_yes hk]; exact hG.1)
        have HB2 : Hid (Below w.heap.size w w') := Lib.hid (HB.out.trans (hG.2.1.below (fun g hg => (HO.out.lt hg).1) HB.out.size))
        have he := txt_ne hk
        have he' := txt_no hk
        obtain ⟨T, hT⟩ : ∃ T, tx (keyOf L j) = T := ⟨_, rfl⟩
        rw [hT] at ck he he'
        clear hk hT HO hr1 hG HB
        go_wp2_with (first | (at_builtin; refine Lib.wpList_append_run _ rfl _ _ _ _ rfl _ _ rfl rfl _ _ HR1.out ?_))
        go_roundg g
        case measure => omega
        case rel => exact ⟨j + 1, by go_num, by omega, HO2, HB2⟩
end
theorem info_str : (Try.prog.info? 9).map (fun i => (i.zero, i.size, i.bytes)) = some (some (.string ⟨#[]⟩), 1, 16) := by kernel_rfl
/-- A row of texts that is made. -/
theorem make_str (n : Nat) (hn : n ≤ 256) (w : World) : ∃ w', (Instr.makeSlice 60 (.int .i64 n) (.int .i64 n)).run Try.prog w = .ok (.slice (some ⟨w.heap.size, 0, none⟩) n n) w' ∧ Below w.heap.size w w' ∧ w.heap.size < w'.heap.size ∧
    (∀ s, s < n → w'.cell? ⟨w.heap.size, s, none⟩ = some (.string ⟨#[]⟩)) ∧ ∀ s, s < n → w'.frozen? ⟨w.heap.size, s, none⟩ = false := by
  obtain ⟨i, hi, hz0, hz1, hz2⟩ := info_parts2 info_str
  obtain ⟨w', h1, h2, h3⟩ := run_make_full (P := Try.prog) w w.heap.size 60 9 i (.string ⟨#[]⟩) 1 Try.underlying60 hi hz0 hz1 .i64 .i64 n (by rw [hz2]; omega) (by unfold maxLen; omega) (Nat.le_refl _)
  have hc : ∀ j, j < n → (madeCells (Value.string ⟨#[]⟩).cells (n * 1)).toList[j]? = some (.string ⟨#[]⟩) := fun j hj => by
    simp [madeCells, Value.cells, Nat.mod_one, hj]
  refine ⟨w', h1, (Below.refl _ _).grown h3 (Nat.le_refl _) (fun k hk => by cases hk), ?_, fun j hj => ?_, fun j hj => World.ownsRow.frozenAt h2 j⟩
  · rcases h2.2 with ⟨h, _⟩ | ⟨g, cap, cur, h, _, hg, _⟩
    · cases h
    · cases h
      exact (Array.getElem?_eq_some_iff.1 hg).1
  · rw [World.ownsRow.cellAt h2 j (by omega)]
    exact hc j hj
end Go.Proofs.Ytiiadoeohmcfiaa
