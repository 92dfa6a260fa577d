/- LexCuts: any text is cut, escaped, told to be plain, or not, and cut in lines, as the chapter says. -/
import Derived.Test.YtekpjcdnmidgiaaDoorLxN
import Derived.Test.YtekpjcdnmidgiaaDoorLxRc
import Derived.Test.YtekpjcdnmidgiaaDoorLxRl
namespace Go.Proofs.YtekpjcdnmidgiaaDoor
open Go Go.RowKit

/-- Both cut alike. -/
theorem both_cut (s st : ByteArray) (hs : s.size ≤ 2199023255552) (hst : st.size ≤ 2199023255552) : ∃ (a r : ByteArray) (b e : Int),
    (∀ w, Calls Tryd.prog 11 #[.string s, .string st] w fun x w' => x = .returned (.tuple #[.string a, .string r, .int .u8 b, .int .i64 e]) ∧ Below w.heap.size w w') ∧
    (∀ w, Calls Tryd.prog 12 #[.string s, .string st] w fun x w' => x = .returned (.tuple #[.string a, .string r, .int .u8 b, .int .i64 e]) ∧ Below w.heap.size w w') := by
  have hm : st.size ≤ maxLen := by unfold maxLen; omega
  by_cases h92 : (92 : UInt8) ∈ st.data.toList
  · exact ⟨_, _, _, _, fun w => (cut_arg s st h92 w).mono (by rintro x w' ⟨rfl, rfl⟩; exact ⟨rfl, Below.refl _ _⟩), fun w => (ref_arg s st hm h92 w).mono (by rintro x w' ⟨rfl, rfl⟩; exact ⟨rfl, Below.refl _ _⟩)⟩
  · have h1 := fun w => cut_ok s st (by omega) h92 (by have := goneL_le st.data.toList s.data.toList; rw [size_list] at this; omega) w
    have h2 := fun w => ref_cut s st hm (by omega) h92 w
    generalize cutL st.data.toList s.data.toList = y at h1 h2
    rcases y with _ | ⟨a, r, _ | b⟩
    · exact ⟨_, _, _, _, h1, h2⟩
    · exact ⟨_, _, _, _, h1, h2⟩
    · exact ⟨_, _, _, _, h1, h2⟩
theorem lines_le : ∀ (n : Nat) (l : List UInt8), l.length ≤ n → (linesL l).length ≤ l.length + 1
  | n, l, hn => by
    rcases hb : brk l with ⟨a, o⟩
    cases o with
    | none =>
      rw [lines_none hb]
      have := one_le a
      omega
    | some r =>
      have hr := brk_len l r (by rw [hb])
      match n, hn with
      | 0, hn => omega
      | n + 1, hn =>
        rw [lines_some hb, List.length_append]
        have h1 := one_le a
        have h2 := lines_le n r (by omega)
        omega

set_option maxRecDepth 100000 in
set_option maxHeartbeats 16000000 in
theorem LexCuts_walk (s : ByteArray) (hs : s.size ≤ 1048576) (st : ByteArray) (hst : st.size ≤ 1048576) (p : Option Addr) (xs : List Nat) (cp : Nat) (hl : xs.length ≤ cp) (hm : cp ≤ maxLen) (q : Option Addr) (ys : List Nat) (cq : Nat) (hl2 : ys.length ≤ cq) (hm2 : cq ≤ maxLen) (own : Bool) (w : World) (hN : Octs p xs w) (hN2 : Octs q ys w) :
    Calls Tryd.prog 3 #[.string s, .string st, .slice p xs.length cp, .slice q ys.length cq, .bool own] w fun e w' => e = .returned (.bool true) ∧ Below w.heap.size w w' := by
  have hex := fun w => ex_ok w
  cases own
  · clear hN hN2 hl hm hl2 hm2
    go_enter Tryd.func3, Tryd.ntmps3
    go_wp2_with fail
    refine (hex _).mono ?_
    rintro e w1 ⟨rfl, hB1⟩
    clear hex
    obtain ⟨ca, cr, cb, ce, hc1, hc2⟩ := both_cut s st (by omega) (by omega)
    have hl1 := fun w => lines_ok s (by omega) w
    have hl2' := fun w => ref_lines s (by omega) w
    have he1 := fun w => escape_ok s (by omega) w
    have he2 := fun w => ref_escape s (by omega) w
    have hp1 := fun w => plains_ok s (by unfold maxLen; omega) w
    have hp2 := fun w => ref_plain s (by unfold maxLen; omega) w
    have hll := lines_le _ s.data.toList (Nat.le_refl _)
    rw [size_list] at hll
    generalize plainL s.data.toList = K at hp1 hp2
    generalize tx (escL s.data.toList) = E at he1 he2
    generalize linesL s.data.toList = L at hl1 hl2' hll
    go_wp2_with fail
    refine (hc1 _).mono ?_
    rintro e u1 ⟨rfl, hU1⟩
    have hV1 := hB1.trans (hU1.mono hB1.size)
    clear hB1 hU1 hc1
    go_wp2_with fail
    refine (hc2 _).mono ?_
    rintro e u2 ⟨rfl, hU2⟩
    have hV2 := hV1.trans (hU2.mono hV1.size)
    clear hV1 hU2 hc2
    go_wp2_with fail
    refine (hl1 _).mono ?_
    rintro e u3 ⟨v3, rfl, hO3, hU3⟩
    have hV3 := hV2.trans (hU3.mono hV2.size)
    clear hV2 hU3 hl1
    go_wp2_with fail
    refine (hl2' _).mono ?_
    rintro e u4 ⟨v4, rfl, hO4, hU4⟩
    have hsm := same_ok (by omega) (hO3.below hU4) hO4
    have hV4 := hV3.trans (hU4.mono hV3.size)
    clear hV3 hU4 hl2' hO3 hO4
    go_wp2_with fail
    refine hsm.mono ?_
    rintro e u5 ⟨rfl, hU5⟩
    have hV5 := hV4.trans (hU5.mono hV4.size)
    clear hV4 hU5 hsm
    go_wp2_with fail
    refine (he1 _).mono ?_
    rintro e u6 ⟨rfl, hU6⟩
    have hV6 := hV5.trans (hU6.mono hV5.size)
    clear hV5 hU6 he1
    go_wp2_with fail
    refine (he2 _).mono ?_
    rintro e u7 ⟨rfl, hU7⟩
    have hV7 := hV6.trans (hU7.mono hV6.size)
    clear hV6 hU7 he2
    go_wp2_with fail
    refine (hp1 _).mono ?_
    rintro e u8 ⟨rfl, rfl⟩
    go_wp2_with fail
    refine (hp2 _).mono ?_
    rintro e u9 ⟨rfl, rfl⟩
    go_wp2
    go_ret
    exact ⟨rfl, hV7⟩
  · have hn1 := fun w h => near_ok p xs cp hl hm w h
    obtain ⟨m, hmm⟩ : ∃ m : Nat, m = min ys.length 3 := ⟨_, rfl⟩
    have hmin : min (ys.length : Int) 3 = (m : Int) := by omega
    have htl : (ys.take m).length = m := by rw [List.length_take]; omega
    have hn2 := fun w h => near_ok q (ys.take m) cq (by omega) hm2 w h
    rw [htl] at hn2
    have hmy : m ≤ ys.length := by omega
    have hmc : m ≤ cq := by omega
    unfold maxLen at hm hm2
    generalize xs.length = nx at *
    generalize ys.length = ny at *
    clear hmm htl
    have HN := Lib.hid hN
    have HN2 := Lib.hid hN2
    clear hN hN2
    go_enter Tryd.func3, Tryd.ntmps3
    go_wp2_with fail
    refine (hex _).mono ?_
    rintro e w1 ⟨rfl, hB1⟩
    clear hex
    have hq1 := hn1 w1 (HN.out.below hB1)
    clear hn1 HN
    go_wp2_with fail
    refine hq1.mono ?_
    rintro e w2 ⟨la, rfl, hla, hB2⟩
    have hC2 := hB1.trans (hB2.mono hB1.size)
    have hq2 := hn2 w2 ((HN2.out.below hC2).take m)
    clear hn2 HN2 hB1 hB2 hq1
    go_wp2_with fail
    refine hq2.mono ?_
    rintro e w3 ⟨lb, rfl, hlb, hB3⟩
    have hC3 := hC2.trans (hB3.mono hC2.size)
    clear hC2 hB3 hq2 hs hst
    have hs : (tx la).size ≤ 60 := by rw [tx_len]; exact hla
    have hst : (tx lb).size ≤ 60 := by rw [tx_len]; exact hlb
    generalize tx la = s1 at *
    generalize tx lb = t1 at *
    clear hla hlb
    obtain ⟨ca, cr, cb, ce, hc1, hc2⟩ := both_cut s1 t1 (by omega) (by omega)
    have hl1 := fun w => lines_ok s1 (by omega) w
    have hl2' := fun w => ref_lines s1 (by omega) w
    have he1 := fun w => escape_ok s1 (by omega) w
    have he2 := fun w => ref_escape s1 (by omega) w
    have hp1 := fun w => plains_ok s1 (by unfold maxLen; omega) w
    have hp2 := fun w => ref_plain s1 (by unfold maxLen; omega) w
    have hll := lines_le _ s1.data.toList (Nat.le_refl _)
    rw [size_list] at hll
    generalize plainL s1.data.toList = K at hp1 hp2
    generalize tx (escL s1.data.toList) = E at he1 he2
    generalize linesL s1.data.toList = L at hl1 hl2' hll
    go_wp2_with fail
    refine (hc1 _).mono ?_
    rintro e u1 ⟨rfl, hU1⟩
    have hV1 := hC3.trans (hU1.mono hC3.size)
    clear hC3 hU1 hc1
    go_wp2_with fail
    refine (hc2 _).mono ?_
    rintro e u2 ⟨rfl, hU2⟩
    have hV2 := hV1.trans (hU2.mono hV1.size)
    clear hV1 hU2 hc2
    go_wp2_with fail
    refine (hl1 _).mono ?_
    rintro e u3 ⟨v3, rfl, hO3, hU3⟩
    have hV3 := hV2.trans (hU3.mono hV2.size)
    clear hV2 hU3 hl1
    go_wp2_with fail
    refine (hl2' _).mono ?_
    rintro e u4 ⟨v4, rfl, hO4, hU4⟩
    have hsm := same_ok (by omega) (hO3.below hU4) hO4
    have hV4 := hV3.trans (hU4.mono hV3.size)
    clear hV3 hU4 hl2' hO3 hO4
    go_wp2_with fail
    refine hsm.mono ?_
    rintro e u5 ⟨rfl, hU5⟩
    have hV5 := hV4.trans (hU5.mono hV4.size)
    clear hV4 hU5 hsm
    go_wp2_with fail
    refine (he1 _).mono ?_
    rintro e u6 ⟨rfl, hU6⟩
    have hV6 := hV5.trans (hU6.mono hV5.size)
    clear hV5 hU6 he1
    go_wp2_with fail
    refine (he2 _).mono ?_
    rintro e u7 ⟨rfl, hU7⟩
    have hV7 := hV6.trans (hU7.mono hV6.size)
    clear hV6 hU7 he2
    go_wp2_with fail
    refine (hp1 _).mono ?_
    rintro e u8 ⟨rfl, rfl⟩
    go_wp2_with fail
    refine (hp2 _).mono ?_
    rintro e u9 ⟨rfl, rfl⟩
    go_wp2
    go_ret
    exact ⟨rfl, hV7⟩
end Go.Proofs.YtekpjcdnmidgiaaDoor
