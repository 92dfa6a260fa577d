/- Labels are sorted, searched, and a key, or none, with any name. -/
import Derived.Test.YtlocjhnlemlnmaaLbEx
namespace Go.Proofs.Ytlocjhnlemlnmaa.Lx
open Go Go.RowKit

theorem wordS_max (l : List Nat) : (wordS l).length ≤ maxLen := by have := wordS_len l; unfold maxLen; omega
theorem fewS_short (l : List ItemV) : Short (fewS l) := fun x hx => by
  unfold fewS at hx
  obtain ⟨k, _, rfl⟩ := List.mem_map.1 hx
  unfold fewAt
  split
  · rename_i x y _ _
    refine ⟨?_, wordS_max _⟩
    rw [List.length_take]
    have := wordS_max x.xs
    omega
  · unfold maxLen; simp
theorem fewS_len (l : List ItemV) : (fewS l).length ≤ 18 := by
  unfold fewS
  rw [List.length_map, List.length_range]
  omega

/-- What few tells: some labels. -/
def FewEnd (w : World) (e : Ending) (w' : World) : Prop := ∃ (P : Option Addr) (ls : List LabB) (C : Nat), e = .returned (.slice P ls.length C) ∧ (P = none → C = 0) ∧ ls.length ≤ maxLab ∧ LbAt P ls w' ∧ Below w.heap.size w w'
theorem few_all (p : Option Addr) (l : List ItemV) (c : Nat) (hl : l.length ≤ maxLen) (q : Option Addr) (raw : List LabB) (d : Nat) (hq : q = none → d = 0) (hr : raw.length ≤ maxLab) (own : Bool) (w : World) (hR : Rows9 p l w) (hL : LbAt q raw w) :
    Calls Try.prog 10 #[.slice p l.length c, .slice q raw.length d, .bool own] w (FewEnd w) := by
  cases own with
  | false =>
    refine (few_raw p l.length c _ w).mono ?_
    rintro e w' ⟨rfl, hB⟩
    exact ⟨q, raw, d, rfl, hq, hr, hL.below hB, hB⟩
  | true =>
    refine (few_any p l c hl _ w hR).mono ?_
    rintro e w' ⟨v, rfl, hO, hB⟩
    obtain ⟨P, C, rfl⟩ := hO.len
    exact ⟨P, fewS l, C, rfl, hO.none, by have := fewS_len l; unfold maxLab; omega, hO.lies (fewS_short l), hB⟩

/-- Two sorts told, held against one another. -/
theorem sort_ends {w : World} {R : Option (List LabB)} (h : ∀ s, R = some s → s.length ≤ maxLab ∧ Short s) {e : Ending} {w' : World} (hE : SortEnd w R e w') :
    ∃ (P : Option Addr) (s : List LabB) (C : Nat) (n : Int), e = .returned (.tuple #[.slice P s.length C, .int .i64 n]) ∧ s = R.getD [] ∧ n = (if R = none then 11 else 0) ∧ s.length ≤ maxLab ∧ LbAt P s w' ∧ Below w.heap.size w w' := by
  cases R with
  | none =>
    obtain ⟨rfl, hB⟩ := hE
    exact ⟨none, [], 0, 11, rfl, rfl, rfl, Nat.zero_le _, LbAt.nil _ _, hB⟩
  | some s =>
    obtain ⟨v, rfl, hO, hB⟩ := hE
    obtain ⟨h1, h2⟩ := h s rfl
    obtain ⟨P, C, rfl⟩ := hO.len
    exact ⟨P, s, C, 0, rfl, rfl, rfl, h1, hO.lies h2, hB⟩
theorem sort_fits {ls : List LabB} (hl : ls.length ≤ maxLab) (hs : Short ls) : ∀ s, sortK ls = some s → s.length ≤ maxLab ∧ Short s := fun s h => by
  obtain ⟨_, h2⟩ := sortK_some h
  exact ⟨by rw [h2.length_eq]; exact hl, hs.perm h2⟩

/-- What is told of a key, parts. -/
theorem keyV_parts (r : Except Nat (List UInt8)) : ∃ (k : ByteArray) (n : Int), keyV r = .tuple #[.string k, .int .i64 n] := by
  cases r with
  | ok k => exact ⟨_, _, rfl⟩
  | error c => exact ⟨_, _, rfl⟩
theorem getV_parts (r : Option (List UInt8)) : ∃ (k : ByteArray) (b : Bool), getV r = .tuple #[.string k, .bool b] := by
  cases r with
  | some k => exact ⟨_, _, rfl⟩
  | none => exact ⟨_, _, rfl⟩

set_option maxRecDepth 100000 in
set_option maxHeartbeats 8000000 in
theorem keys_true (hT : TextOk) (p : Option Addr) (l : List ItemV) (c : Nat) (hl : l.length ≤ maxLen) (q : Option Addr) (raw : List LabB) (d : Nat) (hq : q = none → d = 0) (hr : raw.length ≤ maxLab) (own : Bool) (name : List UInt8) (hn : name.length ≤ maxLen) (pw : Option Addr) (ws : List Nat) (cw : Nat) (hw : ws.length ≤ maxLen) (near : Bool) (w : World) (hR : Rows9 p l w) (hL : LbAt q raw w) (hO : Octs pw ws w) :
    Calls Try.prog 3 #[.slice p l.length c, .slice q raw.length d, .bool own, .string (tx name), .slice pw ws.length cw, .bool near] w fun e w' => e = .returned (.bool true) ∧ Below w.heap.size w w' := by
  have hex := fun w => examples_of hT w
  have HF := Lib.hid (fun W h1 h2 => few_all p l c hl q raw d hq hr own W h1 h2)
  have HW := Lib.hid (fun W h => word_any pw ws cw hw W h)
  have HR := Lib.hid hR
  have HL := Lib.hid hL
  have HO := Lib.hid hO
  have HNM := Lib.hid hn
  clear hT hR hL hO hn hl hr hw hq
  go_enter Try.func3, Try.ntmps3
  go_wp2_with fail
  refine (hex _).mono ?_
  rintro e w1 ⟨rfl, hB⟩
  have HB1 := Lib.hid hB
  clear hB hex
  go_wp2_with fail
  refine (HF.out _ (HR.out.below HB1.out) (HL.out.below HB1.out)).mono ?_
  rintro e w2 ⟨P, ls, C, rfl, hPC, hls, hLb, hB⟩
  have HB2 := Lib.hid (HB1.out.trans (hB.mono HB1.out.size))
  have HLB := Lib.hid hLb
  have HPC := Lib.hid hPC
  have HLS := Lib.hid hls
  clear hB HB1 hLb hPC hls HF
  cases near
  case' true =>
    go_wp2_with fail
    refine (HW.out _ (HO.out.below HB2.out)).mono ?_
    rintro e w3 ⟨rfl, hB⟩
    have HB3 := Lib.hid (HB2.out.trans (hB.mono HB2.out.size))
    have HLB3 := Lib.hid (HLB.out.below hB)
    have HNM3 := Lib.hid (wordS_max ws)
    clear hB HB2 HLB HNM
    generalize wordS ws = N at *
  case' false =>
    have HB3 := HB2
    have HLB3 := HLB
    have HNM3 := HNM
    clear HB2 HLB HNM
    generalize name = N at *
    generalize w2 = w3 at *
  all_goals
    clear HW HR HL HO
    go_wp2_with fail
    refine (sort_any P C ls HPC.out HLS.out _ HLB3.out).mono ?_
    intro e w4 hE
    obtain ⟨P1, s1, C1, n1, rfl, hs1, hn1, hl1, hlb1, hB⟩ := sort_ends (sort_fits HLS.out HLB3.out.short) hE
    have HB4 := Lib.hid (HB3.out.trans (hB.mono HB3.out.size))
    have HLB4 := Lib.hid (HLB3.out.below hB)
    have HS4 := Lib.hid hlb1
    have HH := Lib.hid hl1
    have HQ1 := Lib.hid hs1
    have HQ2 := Lib.hid hn1
    clear hE hB HB3 HLB3 hlb1 hl1 hs1 hn1
    go_wp2_with fail
    refine (ref_sort P C ls HLS.out _ HLB4.out).mono ?_
    intro e w5 hE
    obtain ⟨P2, s2, C2, n2, rfl, hs2, hn2, -, hlb2, hB⟩ := sort_ends (sort_fits HLS.out HLB4.out.short) hE
    rw [← HQ1.out] at hs2
    rw [← HQ2.out] at hn2
    subst hs2 hn2
    have HB5 := Lib.hid (HB4.out.trans (hB.mono HB4.out.size))
    have HLB5 := Lib.hid (HLB4.out.below hB)
    have HS5 := Lib.hid (HS4.out.below hB)
    have HT5 := Lib.hid hlb2
    clear hE hB HB4 HLB4 HS4 hlb2 HQ1 HQ2
    go_wp2_with fail
    refine (same_any P1 P2 s2 s2 C1 C2 HH.out HH.out _ HS5.out HT5.out).mono ?_
    intro e w6 hE
    rw [decide_eq_true rfl] at hE
    obtain ⟨rfl, hB⟩ := hE
    have HB6 := Lib.hid (HB5.out.trans (hB.mono HB5.out.size))
    have HLB6 := Lib.hid (HLB5.out.below hB)
    clear hB HB5 HLB5 HS5 HT5 HH
    have hk1 := key_any N HNM3.out P C ls HPC.out HLS.out w6 HLB6.out
    obtain ⟨K1, m1, hkv⟩ := keyV_parts (keyE N ls)
    rw [hkv] at hk1
    have HKV := Lib.hid hkv
    clear hkv
    go_wp2_with fail
    refine hk1.mono ?_
    rintro e w7 ⟨rfl, hB⟩
    have HB7 := Lib.hid (HB6.out.trans (hB.mono HB6.out.size))
    have HLB7 := Lib.hid (HLB6.out.below hB)
    clear hB HB6 HLB6 hk1
    have hk2 := ref_key N HNM3.out P C ls HLS.out w7 HLB7.out
    rw [HKV.out] at hk2
    go_wp2_with fail
    refine hk2.mono ?_
    rintro e w8 ⟨rfl, hB⟩
    have HB8 := Lib.hid (HB7.out.trans (hB.mono HB7.out.size))
    have HLB8 := Lib.hid (HLB7.out.below hB)
    clear hB HB7 HLB7 hk2 HKV
    have hg1 := get_any P C ls HLS.out N w8 HLB8.out
    obtain ⟨G1, b1, hgv⟩ := getV_parts (getK ls N)
    rw [hgv] at hg1
    have HGV := Lib.hid hgv
    clear hgv
    go_wp2_with fail
    refine hg1.mono ?_
    rintro e w9 ⟨rfl, hB⟩
    have HB9 := Lib.hid (HB8.out.trans (hB.mono HB8.out.size))
    have HLB9 := Lib.hid (HLB8.out.below hB)
    clear hB HB8 HLB8 hg1
    have hg2 := ref_get P C ls HLS.out N w9 HLB9.out
    rw [HGV.out] at hg2
    go_wp2_with fail
    refine hg2.mono ?_
    rintro e w10 ⟨rfl, hB⟩
    have HB10 := Lib.hid (HB9.out.trans (hB.mono HB9.out.size))
    clear hB HB9 HLB9 hg2 HGV
    generalize tx N = TN at *
    go_wp2
    go_ret
    exact ⟨rfl, HB10.out⟩
end Go.Proofs.Ytlocjhnlemlnmaa.Lx
