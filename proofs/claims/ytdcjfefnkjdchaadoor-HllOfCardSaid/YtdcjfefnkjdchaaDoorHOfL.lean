/- HllOf, walked. -/
import Derived.Test.YtdcjfefnkjdchaaDoorHRefF
import Derived.Test.YtdcjfefnkjdchaaDoorHRefO
import Derived.Test.YtdcjfefnkjdchaaDoorHBend
namespace Go.Proofs.YtdcjfefnkjdchaaDoor
open Go Go.RowKit

theorem tx_data (s : ByteArray) : tx s.data.toList = s := rfl
set_option maxRecDepth 100000 in
set_option maxHeartbeats 8000000 in
theorem HllOf_plain (s : ByteArray) (hs : s.size ≤ 9223372036854775807) (x : Int) (p0 z : Int) (w : World) (hT : Tab w) :
    Calls Tryd.prog 4 #[.string s, .int .u8 x, .bool false, .int .i64 p0, .int .u8 z] w fun e w' => e = .returned (.bool true) ∧ Below w.heap.size w w' := by
  have HT := Lib.hid hT
  have HSZ := Lib.hid hs
  clear hT hs
  go_enter Tryd.func4, Tryd.ntmps4
  go_wp2_with fail
  refine (examples_any _ HT.out).mono ?_
  rintro e W1 ⟨rfl, hB⟩
  by_cases hr : ∃ b, Regd b s
  · obtain ⟨b, hr⟩ := hr
    have HR := Lib.hid hr
    clear hr
    go_wp2_with fail
    refine (of_good s b HR.out _).mono ?_
    rintro e W2 ⟨rfl, hB2, hS⟩
    replace hB := below_on hB hB2 (Nat.le_refl _)
    generalize W1.heap.size = R at hS hB2
    clear hB2
    go_wp2_with fail
    refine (ref_of_any s HSZ.out _).mono ?_
    rintro e W3 ⟨hB2, ⟨c, P, A, hrc, rfl, hQ, _, _⟩ | ⟨hno, _⟩⟩
    · obtain rfl : c = b := by
        have h1 := hrc.2.2.1
        have h2 := HR.out.2.2.1
        rcases Nat.lt_trichotomy c b with h | h | h
        · have := Nat.pow_lt_pow_right (show 1 < 2 by decide) h; omega
        · exact h
        · have := Nat.pow_lt_pow_right (show 1 < 2 by decide) h; omega
      replace hS := hS.below hB2
      replace hB := below_on hB hB2 (Nat.le_refl _)
      have hL := HR.out.2.2.2
      have HLW := Lib.hid hL
      have htx := tx_data s
      have HTX := Lib.hid htx
      clear hB2 hrc hL htx
      generalize (s).data.toList = l at *
      go_wp2_with fail
      refine (registers_any hS).mono ?_
      rintro e W4 ⟨rfl, rfl⟩
      rw [HTX.out]
      obtain ⟨E, hE⟩ : ∃ E, estOf c l = E := ⟨_, rfl⟩
      have HE := Lib.hid hE
      clear hE
      go_wp2_with fail
      refine (est_is hS HLW.out HE.out).mono ?_
      rintro e W5 ⟨rfl, hB2⟩
      replace hS := hS.below hB2
      replace hQ := hQ.below hB2
      replace hB := below_on hB hB2 (Nat.le_refl _)
      clear hB2
      have hre := ref_est_any hQ HLW.out
      rw [HE.out] at hre
      go_wp2_with fail
      refine hre.mono ?_
      rintro e W6 ⟨rfl, nq, rfl⟩
      replace hS := hS.drewN nq
      replace hQ := hQ.drewN nq
      replace hB : Below w.heap.size w (W5.drewN nq) := hB.trans ⟨rfl, rfl, rfl, Nat.le_refl _, fun _ _ => rfl⟩
      clear hre
      generalize W5.drewN nq = W6 at *
      go_wp2_with fail
      refine (bits_any R c _ hS.bits).mono ?_
      rintro e W7 ⟨rfl, rfl⟩
      go_wp2_with fail
      refine (ref_bits_any hQ).mono ?_
      rintro e W8 ⟨rfl, nr, rfl⟩
      replace hB : Below w.heap.size w (W6.drewN nr) := hB.trans ⟨rfl, rfl, rfl, Nat.le_refl _, fun _ _ => rfl⟩
      go_wp2
      go_ret
      exact ⟨rfl, hB⟩
    · exact absurd HR.out (hno b)
  · have hno : ∀ b, ¬ Regd b s := fun b h => hr ⟨b, h⟩
    have HNO := Lib.hid hno
    clear hr hno
    go_wp2_with fail
    refine (of_bad s HSZ.out HNO.out _).mono ?_
    rintro e W2 ⟨rfl, hB2⟩
    replace hB := below_on hB hB2 (Nat.le_refl _)
    clear hB2
    go_wp2_with fail
    refine (ref_of_any s HSZ.out _).mono ?_
    rintro e W3 ⟨hB2, ⟨c, P, A, hrc, _, _, _, _⟩ | ⟨_, rfl⟩⟩
    · exact absurd hrc (HNO.out c)
    · replace hB := below_on hB hB2 (Nat.le_refl _)
      clear hB2
      go_wp2
      go_ret
      exact ⟨rfl, hB⟩
/-- What holds at the head of a round: n bytes, any. -/
def ByRel (R n : Nat) (w wx : World) : Prop := (∃ l : List UInt8, l.length = n ∧ BytesAt R l wx) ∧ Below w.heap.size w wx
set_option maxRecDepth 100000 in
set_option maxHeartbeats 8000000 in
theorem HllOf_own (s : ByteArray) (hs : s.size ≤ 9223372036854775807) (x : Nat) (hx : x < 256) (p0 z : Int) (hp0 : -9223372036854775808 ≤ p0) (hp1 : p0 ≤ 9223372036854775807) (z0 : 0 ≤ z) (z1 : z < 256) (w : World) (hT : Tab w) :
    Calls Tryd.prog 4 #[.string s, .int .u8 x, .bool true, .int .i64 p0, .int .u8 z] w fun e w' => e = .returned (.bool true) ∧ Below w.heap.size w w' := by
  have HT := Lib.hid hT
  obtain ⟨b, hb⟩ : ∃ b, 4 + x % 7 = b := ⟨_, rfl⟩
  have lo : 4 ≤ b := by omega
  have hi : b ≤ 10 := by omega
  have hM := pow_hi lo hi
  have hbi : (4 : Int) + (x : Int) % 7 = b := by omega
  obtain ⟨n, hMe⟩ : ∃ M, 2 ^ b = M := ⟨_, rfl⟩
  have hpw : IntKind.i64.wrap ((2 : Int) ^ b) = (n : Int) := by
    rw [show (2 : Int) ^ b = ((2 ^ b : Nat) : Int) by push_cast; rfl, hMe]
    exact IntWalk.i64_in _ (by omega)
  rw [hMe] at hM
  obtain ⟨hM1, hM2⟩ := hM
  clear hT hb hMe
  go_enter Tryd.func4, Tryd.ntmps4
  go_wp2_with fail
  refine (examples_any _ HT.out).mono ?_
  rintro e W1 ⟨rfl, hB⟩
  obtain ⟨W2, hmk, hBk, hA⟩ := make_u8 n (by omega) W1
  have hR : w.heap.size ≤ W1.heap.size := hB.size
  have hrel0 : ByRel W1.heap.size n w W2 := ⟨⟨_, List.length_replicate, hA⟩, below_on hB hBk (Nat.le_refl _)⟩
  clear hBk hA hB
  generalize W1.heap.size = R at *
  have HSS := Lib.hid hs
  by_cases hz0 : s.size = 0
  · obtain rfl : s = ⟨#[]⟩ := by
      rcases s with ⟨⟨l⟩⟩
      have : l = [] := by simpa [ByteArray.size] using hz0
      subst this; rfl
    clear hz0 hs
    go_wp2_with fail
    go_loopw [13] (fun i wx => i = .int .i64 0 ∧ ByRel R n w wx) (fun _ _ => 0)
    case atStart => exact ⟨rfl, hrel0⟩
    case round =>
      obtain ⟨rfl, ⟨l, hln, hA⟩, hBw⟩ := hrel
      clear hrel0 hmk
      have hcv := bytes_back hA hln n
      obtain ⟨t0, ht0⟩ : ∃ t, tx l = t := ⟨_, rfl⟩
      have hts : t0.size = n := by rw [← ht0, tx_size, hln]
      rw [ht0] at hcv
      have HTS := Lib.hid hts
      have HB := Lib.hid hBw
      clear ht0 hts hBw hA hln
      go_wp2_with fail
      refine (bend_any t0 (by rw [HTS.out]; omega) p0 z hp0 hp1 z0 z1 _).mono ?_
      rintro e W5 ⟨t, rfl, htsz, hB2⟩
      have hB := below_on HB.out hB2 (Nat.le_refl _)
      have HSZ := Lib.hid (show t.size ≤ 9223372036854775807 by rw [htsz, HTS.out]; omega)
      clear hB2 hcv htsz HB

      by_cases hr : ∃ b, Regd b t
      · obtain ⟨b, hr⟩ := hr
        have HR := Lib.hid hr
        clear hr
        go_wp2_with fail
        refine (of_good t b HR.out _).mono ?_
        rintro e W2 ⟨rfl, hB2, hS⟩
        replace hB := below_on hB hB2 (Nat.le_refl _)
        generalize W5.heap.size = R at hS hB2
        clear hB2
        go_wp2_with fail
        refine (ref_of_any t HSZ.out _).mono ?_
        rintro e W3 ⟨hB2, ⟨c, P, A, hrc, rfl, hQ, _, _⟩ | ⟨hno, _⟩⟩
        · obtain rfl : c = b := by
            have h1 := hrc.2.2.1
            have h2 := HR.out.2.2.1
            rcases Nat.lt_trichotomy c b with h | h | h
            · have := Nat.pow_lt_pow_right (show 1 < 2 by decide) h; omega
            · exact h
            · have := Nat.pow_lt_pow_right (show 1 < 2 by decide) h; omega
          replace hS := hS.below hB2
          replace hB := below_on hB hB2 (Nat.le_refl _)
          have hL := HR.out.2.2.2
          have HLW := Lib.hid hL
          have htx := tx_data t
          have HTX := Lib.hid htx
          clear hB2 hrc hL htx
          generalize (t).data.toList = l at *
          go_wp2_with fail
          refine (registers_any hS).mono ?_
          rintro e W4 ⟨rfl, rfl⟩
          rw [HTX.out]
          obtain ⟨E, hE⟩ : ∃ E, estOf c l = E := ⟨_, rfl⟩
          have HE := Lib.hid hE
          clear hE
          go_wp2_with fail
          refine (est_is hS HLW.out HE.out).mono ?_
          rintro e W5 ⟨rfl, hB2⟩
          replace hS := hS.below hB2
          replace hQ := hQ.below hB2
          replace hB := below_on hB hB2 (Nat.le_refl _)
          clear hB2
          have hre := ref_est_any hQ HLW.out
          rw [HE.out] at hre
          go_wp2_with fail
          refine hre.mono ?_
          rintro e W6 ⟨rfl, nq, rfl⟩
          replace hS := hS.drewN nq
          replace hQ := hQ.drewN nq
          replace hB : Below w.heap.size w (W5.drewN nq) := hB.trans ⟨rfl, rfl, rfl, Nat.le_refl _, fun _ _ => rfl⟩
          clear hre
          generalize W5.drewN nq = W6 at *
          go_wp2_with fail
          refine (bits_any R c _ hS.bits).mono ?_
          rintro e W7 ⟨rfl, rfl⟩
          go_wp2_with fail
          refine (ref_bits_any hQ).mono ?_
          rintro e W8 ⟨rfl, nr, rfl⟩
          replace hB : Below w.heap.size w (W6.drewN nr) := hB.trans ⟨rfl, rfl, rfl, Nat.le_refl _, fun _ _ => rfl⟩
          go_wp2
          go_ret
          exact ⟨rfl, hB⟩
        · exact absurd HR.out (hno b)
      · have hno : ∀ b, ¬ Regd b t := fun b h => hr ⟨b, h⟩
        have HNO := Lib.hid hno
        clear hr hno
        go_wp2_with fail
        refine (of_bad t HSZ.out HNO.out _).mono ?_
        rintro e W2 ⟨rfl, hB2⟩
        replace hB := below_on hB hB2 (Nat.le_refl _)
        clear hB2
        go_wp2_with fail
        refine (ref_of_any t HSZ.out _).mono ?_
        rintro e W3 ⟨hB2, ⟨c, P, A, hrc, _, _, _, _⟩ | ⟨_, rfl⟩⟩
        · exact absurd hrc (HNO.out c)
        · replace hB := below_on hB hB2 (Nat.le_refl _)
          clear hB2
          go_wp2
          go_ret
          exact ⟨rfl, hB⟩

  · have hcond : (s.toList == []) = false := by
      have h1 : s.toList ≠ [] := by
        intro h
        have : s.data.toList.length = 0 := by rw [← Lib.toList_data, h]; rfl
        exact hz0 (by simpa using this)
      simpa using h1
    obtain ⟨m, hsm⟩ : ∃ m, s.size = m := ⟨_, rfl⟩
    rw [hsm] at hs
    have hmp : (0 : Int) < (m : Int) := by omega
    have hmz : ¬ (m : Int) = 0 := by omega
    clear hz0
    go_wp2_with fail
    go_loopw [13] (fun i wx => ∃ k : Nat, k ≤ n ∧ i = .int .i64 k ∧ ByRel R n w wx) (fun i _ => n - (intOf i).toNat)
    case atStart => exact ⟨0, Nat.zero_le _, rfl, hrel0⟩
    case round =>
      obtain ⟨k, hk, rfl, ⟨l, hln, hA⟩, hBw⟩ := hrel
      clear hrel0 hmk
      by_cases hlt : k < n
      · obtain ⟨j, hj⟩ : ∃ j, k % m = j := ⟨_, rfl⟩
        have hji : (k : Int) % (m : Int) = j := by rw [← hj]; omega
        have hjm : j < m := by rw [← hj]; exact Nat.mod_lt _ (by omega)
        have hjs : j < s.size := by rw [hsm]; exact hjm
        have hk1 := hA.cell k (by omega)
        have hf1 := hA.fro k (by omega)
        generalize (l[k].toNat : Int) = old at hk1
        have hv8 : ((s[j].toNat : Nat) : Int) % 27 = ((UInt8.ofNat (s[j].toNat % 27)).toNat : Int) := by rw [UInt8.toNat_ofNat']; omega
        have hA2 := hA.set k (UInt8.ofNat (s[j].toNat % 27)) (by omega)
        have hrel2 : ByRel R n w (wr.setCell ⟨R, k, none⟩ (.int .u8 ((UInt8.ofNat (s[j].toNat % 27)).toNat : Int))) := ⟨⟨_, by rw [List.length_set]; exact hln, hA2⟩, hBw.setCell hR _⟩
        have HREL := Lib.hid hrel2
        clear hA hA2 hBw hrel2 hj
        generalize ((UInt8.ofNat (s[j].toNat % 27)).toNat : Int) = v at *
        go_wp2
        refine ⟨⟨k + 1, by omega, by go_num, ?_⟩, by simp [intOf]; omega⟩
        first | exact HREL.out | (rw [hv8]; exact HREL.out)
      · obtain rfl : k = n := by omega
        have hcv := bytes_back hA hln k
        obtain ⟨t0, ht0⟩ : ∃ t, tx l = t := ⟨_, rfl⟩
        have hts : t0.size = k := by rw [← ht0, tx_size, hln]
        rw [ht0] at hcv
        have HTS := Lib.hid hts
        have HB := Lib.hid hBw
        clear ht0 hts hBw hA hln
        go_wp2_with fail
        refine (bend_any t0 (by rw [HTS.out]; omega) p0 z hp0 hp1 z0 z1 _).mono ?_
        rintro e W5 ⟨t, rfl, htsz, hB2⟩
        have hB := below_on HB.out hB2 (Nat.le_refl _)
        have HSZ := Lib.hid (show t.size ≤ 9223372036854775807 by rw [htsz, HTS.out]; omega)
        clear hB2 hcv htsz HB

        by_cases hr : ∃ b, Regd b t
        · obtain ⟨b, hr⟩ := hr
          have HR := Lib.hid hr
          clear hr
          go_wp2_with fail
          refine (of_good t b HR.out _).mono ?_
          rintro e W2 ⟨rfl, hB2, hS⟩
          replace hB := below_on hB hB2 (Nat.le_refl _)
          generalize W5.heap.size = R at hS hB2
          clear hB2
          go_wp2_with fail
          refine (ref_of_any t HSZ.out _).mono ?_
          rintro e W3 ⟨hB2, ⟨c, P, A, hrc, rfl, hQ, _, _⟩ | ⟨hno, _⟩⟩
          · obtain rfl : c = b := by
              have h1 := hrc.2.2.1
              have h2 := HR.out.2.2.1
              rcases Nat.lt_trichotomy c b with h | h | h
              · have := Nat.pow_lt_pow_right (show 1 < 2 by decide) h; omega
              · exact h
              · have := Nat.pow_lt_pow_right (show 1 < 2 by decide) h; omega
            replace hS := hS.below hB2
            replace hB := below_on hB hB2 (Nat.le_refl _)
            have hL := HR.out.2.2.2
            have HLW := Lib.hid hL
            have htx := tx_data t
            have HTX := Lib.hid htx
            clear hB2 hrc hL htx
            generalize (t).data.toList = l at *
            go_wp2_with fail
            refine (registers_any hS).mono ?_
            rintro e W4 ⟨rfl, rfl⟩
            rw [HTX.out]
            obtain ⟨E, hE⟩ : ∃ E, estOf c l = E := ⟨_, rfl⟩
            have HE := Lib.hid hE
            clear hE
            go_wp2_with fail
            refine (est_is hS HLW.out HE.out).mono ?_
            rintro e W5 ⟨rfl, hB2⟩
            replace hS := hS.below hB2
            replace hQ := hQ.below hB2
            replace hB := below_on hB hB2 (Nat.le_refl _)
            clear hB2
            have hre := ref_est_any hQ HLW.out
            rw [HE.out] at hre
            go_wp2_with fail
            refine hre.mono ?_
            rintro e W6 ⟨rfl, nq, rfl⟩
            replace hS := hS.drewN nq
            replace hQ := hQ.drewN nq
            replace hB : Below w.heap.size w (W5.drewN nq) := hB.trans ⟨rfl, rfl, rfl, Nat.le_refl _, fun _ _ => rfl⟩
            clear hre
            generalize W5.drewN nq = W6 at *
            go_wp2_with fail
            refine (bits_any R c _ hS.bits).mono ?_
            rintro e W7 ⟨rfl, rfl⟩
            go_wp2_with fail
            refine (ref_bits_any hQ).mono ?_
            rintro e W8 ⟨rfl, nr, rfl⟩
            replace hB : Below w.heap.size w (W6.drewN nr) := hB.trans ⟨rfl, rfl, rfl, Nat.le_refl _, fun _ _ => rfl⟩
            go_wp2
            go_ret
            exact ⟨rfl, hB⟩
          · exact absurd HR.out (hno b)
        · have hno : ∀ b, ¬ Regd b t := fun b h => hr ⟨b, h⟩
          have HNO := Lib.hid hno
          clear hr hno
          go_wp2_with fail
          refine (of_bad t HSZ.out HNO.out _).mono ?_
          rintro e W2 ⟨rfl, hB2⟩
          replace hB := below_on hB hB2 (Nat.le_refl _)
          clear hB2
          go_wp2_with fail
          refine (ref_of_any t HSZ.out _).mono ?_
          rintro e W3 ⟨hB2, ⟨c, P, A, hrc, _, _, _, _⟩ | ⟨_, rfl⟩⟩
          · exact absurd hrc (HNO.out c)
          · replace hB := below_on hB hB2 (Nat.le_refl _)
            clear hB2
            go_wp2
            go_ret
            exact ⟨rfl, hB⟩

theorem HllOf_walk (s : ByteArray) (hs : s.size ≤ maxLen) (a1 : Int) (h1 : (Lit.int .u8 a1).wf = true) (own : Bool) (a3 : Int) (h3 : (Lit.int .i64 a3).wf = true) (a4 : Int) (h4 : (Lit.int .u8 a4).wf = true) (w : World) (hT : Tab w) :
    Calls Tryd.prog 4 #[.string s, .int .u8 a1, .bool own, .int .i64 a3, .int .u8 a4] w fun e w' => e = .returned (.bool true) ∧ Below w.heap.size w w' := by
  obtain ⟨x, rfl, hx⟩ := wf_u8 h1
  obtain ⟨z, rfl, hz⟩ := wf_u8 h4
  obtain ⟨hp0, hp1⟩ := wf_i64 h3
  cases own with
  | false => exact HllOf_plain s hs x a3 z w hT
  | true => exact HllOf_own s hs x hx a3 z hp0 hp1 (by omega) (by omega) w hT
end Go.Proofs.YtdcjfefnkjdchaaDoor
