/- HistBack, walked. -/
import Derived.Test.YtdcdhbkgeipdjaaHiOpen
namespace Go.Proofs.Ytdcdhbkgeipdjaa
open Go Go.RowKit

theorem cut_list (t : ByteArray) (q : Nat) : (t.extract 0 q).data.toList = t.data.toList.take q := by rw [extract_toList]; rfl
theorem loop_len (bs : ByteArray) : ∀ (n i : Nat) (r : List UInt8), bs.size - i = n → (ByteArray.toList.loop bs i r).length = r.length + n
  | 0, i, r, h => by
    unfold ByteArray.toList.loop
    rw [if_neg (by omega), List.length_reverse]
    rfl
  | n + 1, i, r, h => by
    unfold ByteArray.toList.loop
    rw [if_pos (by omega), loop_len bs n (i + 1) _ (by omega), List.length_cons]
    omega
theorem not_empty {t : ByteArray} (h : 0 < t.size) : t.toList.isEmpty = false := by
  have h1 := loop_len t t.size 0 [] rfl
  have h2 : t.toList.length = t.size := by unfold ByteArray.toList; rw [h1]; simp
  cases h3 : t.toList with
  | nil => rw [h3] at h2; simp at h2; omega
  | cons a l => rfl
theorem tx_toList (l : List UInt8) : (tx l).data.toList = l := by simp [tx]
set_option maxRecDepth 100000 in
set_option maxHeartbeats 8000000 in
theorem HistBack_core (x : Nat) (hx : x < 256) (p : Option Addr) (xs : List Int) (cap : Nat) (hc : xs.length ≤ cap) (hcap : cap ≤ 9223372036854775807) (s : ByteArray) (hs : s.size ≤ 140737488355328) (c : Nat) (hcut : c < 65536)
    (w : World) (hN : Ints p xs w) :
    Calls Try.prog 7 #[.int .u8 x, .slice p xs.length cap, .string s, .int .u16 c] w fun e w' => e = .returned (.bool true) ∧ Below w.heap.size w w' := by
  have HN := Lib.hid (hN.take 40)
  obtain ⟨k, hk⟩ : ∃ k, x % 5 = k := ⟨_, rfl⟩
  have hk4 : k ≤ 4 := by omega
  have hki : (x : Int) % 5 = (k : Int) := by omega
  have hlL : (xs.take 40).length = min xs.length 40 := by rw [List.length_take]; omega
  generalize xs.take 40 = L at *
  generalize xs.length = n at *
  have hm1i : min (n : Int) 40 = L.length := by omega
  have hL100 : L.length ≤ 40 := by omega
  have hLn : L.length ≤ cap := by omega
  have hof := fun W hW => of_items k hk4 p L cap (by omega) W hW
  clear hN hk hlL
  go_enter Try.func7, Try.ntmps7
  go_wp2_with fail
  refine (examples_any _).mono ?_
  rintro e W1 ⟨rfl, hB⟩
  have ho := hof W1 (HN.out.below hB)
  go_wp2_with fail
  refine ho.mono ?_
  rintro e W2 ⟨B, v, rfl, hH, hB2⟩
  replace hH := hH.mono hB.size
  replace hB := below_on hB hB2 (Nat.le_refl _)
  have hI := hH.inv
  clear ho hof hB2
  generalize itemsN k L = l at *
  have hgp := fun W => get_put_any hI s (by unfold maxLen; rw [ByteArray.size_append, tx_size, putH_length]; have := hI.len; omega) W
  have hsz : (tx (putH k l)).size = 3 + 10 * l.length := by rw [tx_size, putH_length]
  have hll := hI.len
  obtain ⟨t, ht⟩ : ∃ t, tx (putH k l) = t := ⟨_, rfl⟩
  rw [ht] at hgp hsz
  obtain ⟨T, hT⟩ : ∃ T, t.size = T := ⟨_, rfl⟩
  obtain ⟨q, hq⟩ : ∃ q, c % T = q := ⟨_, rfl⟩
  have hT1 : 3 ≤ T := by omega
  have hT2 : T ≤ 20013 := by omega
  have hqT : q < T := by rw [← hq]; exact Nat.mod_lt _ (by omega)
  have hqi : (c : Int) % (T : Int) = (q : Int) := by rw [← hq]; rfl
  have hgc := fun W => get_any (t.extract 0 q) (by unfold maxLen; simp [ByteArray.size_extract]; omega) W
  have hcl : getF (t.extract 0 q).data.toList = none := by
    rw [cut_list, ← ht, tx_toList]
    exact getF_cut hI q (by rw [putH_length]; omega)
  rw [hcl] at hgc
  have hte := not_empty (t := t) (by omega)
  have hput := fun (W : World) (hW : Hs w.heap.size 62 B k v l W) => put_any hW
  have hputx := fun (N B' : Nat) (v' : Value) (W : World) (hW : Hs N 62 B' k v' l W) => put_any hW
  rw [ht] at hput hputx
  have HH := Lib.hid hH
  have HP := Lib.hid hput
  have HPX := Lib.hid hputx
  have HGP := Lib.hid hgp
  have HGC := Lib.hid hgc
  clear hH hput hputx hgp hgc hcl hI hsz hll ht hq
  have hp := HP.out _ HH.out
  go_wp2_with fail
  refine hp.mono ?_
  rintro e W3 ⟨rfl, hB2⟩
  replace hB := below_on hB hB2 (Nat.le_refl _)
  replace HH := Lib.hid (HH.out.below hB2)
  replace hp := HP.out _ HH.out
  clear hB2
  go_wp2_with fail
  refine hp.mono ?_
  rintro e W4 ⟨rfl, hB2⟩
  replace hB := below_on hB hB2 (Nat.le_refl _)
  replace HH := Lib.hid (HH.out.below hB2)
  clear hB2 hp
  have hg := HGP.out W4
  go_wp2_with fail
  refine hg.mono ?_
  rintro e W5 ⟨B', v', rfl, hX, hB2⟩
  have HX := Lib.hid hX
  replace hB := below_on hB hB2 (Nat.le_refl _)
  replace HH := Lib.hid (HH.out.below hB2)
  have hp := HP.out _ HH.out
  clear hB2 hg hX
  go_wp2_with fail
  refine hp.mono ?_
  rintro e W6 ⟨rfl, hB2⟩
  replace hB := below_on hB hB2 (Nat.le_refl _)
  replace HH := Lib.hid (HH.out.below hB2)
  replace HX := Lib.hid (HX.out.below hB2)
  replace hp := HP.out _ HH.out
  clear hB2
  go_wp2_with fail
  refine hp.mono ?_
  rintro e W7 ⟨rfl, hB2⟩
  replace hB := below_on hB hB2 (Nat.le_refl _)
  replace HH := Lib.hid (HH.out.below hB2)
  replace HX := Lib.hid (HX.out.below hB2)
  clear hB2 hp
  have hg := HGC.out W7
  go_wp2_with fail
  refine hg.mono ?_
  rintro e W8 ⟨he, hB2⟩
  obtain rfl : e = .returned noneV := he
  unfold noneV
  replace hB := below_on hB hB2 (Nat.le_refl _)
  replace HH := Lib.hid (HH.out.below hB2)
  replace HX := Lib.hid (HX.out.below hB2)
  have hp := HPX.out _ _ _ _ HX.out
  clear hB2 hg
  go_wp2_with fail
  refine hp.mono ?_
  rintro e W9 ⟨rfl, hB2⟩
  replace hB := below_on hB hB2 (Nat.le_refl _)
  replace HH := Lib.hid (HH.out.below hB2)
  replace hp := HP.out _ HH.out
  clear hB2
  go_wp2_with fail
  refine hp.mono ?_
  rintro e W10 ⟨rfl, hB2⟩
  replace hB := below_on hB hB2 (Nat.le_refl _)
  clear hB2 hp
  go_wp2
  go_ret
  exact ⟨rfl, hB⟩
theorem HistBack_walk (a0 : Int) (h0 : (Lit.int .u8 a0).wf = true) (p1 : Option Addr) (xs1 : List Int) (cap1 : Nat) (hl1 : xs1.length ≤ cap1) (hm1 : cap1 ≤ maxLen) (a2 : ByteArray) (h2 : a2.size ≤ maxLen) (hz2 : a2.size ≤ 140737488355328) (a3 : Int) (h3 : (Lit.int .u16 a3).wf = true) (W : World) (hn1 : Ints p1 xs1 W) :
    Calls Try.prog 7 #[.int .u8 a0, .slice p1 xs1.length cap1, .string a2, .int .u16 a3] W fun e w' => e = .returned (.bool true) ∧ Below W.heap.size W w' := by
  obtain ⟨x, rfl, hx⟩ := wf_u8 h0
  obtain ⟨c, rfl, hc⟩ := wf_u16 h3
  exact HistBack_core x hx p1 xs1 cap1 hl1 hm1 a2 hz2 c hc W hn1
end Go.Proofs.Ytdcdhbkgeipdjaa
