/- LabelSame, walked. -/
import Derived.Test.YtlocjhnlemlnmaaLbSb
import Derived.Test.YtlocjhnlemlnmaaLbO
import Derived.Test.YtlocjhnlemlnmaaLbEx
namespace Go.Proofs.Ytlocjhnlemlnmaa.Lx
open Go Go.RowKit

/-- Are both alike, as far as the first i labels tell? -/
def alikeB (n m : List UInt8) (l k : List LabB) (i : Nat) : Bool := (decide (n = m) && decide (l.length = k.length)) && (l.take i).all fun a => decide (getK k a.1 = some a.2)
theorem alikeB_zero (n m : List UInt8) (l k : List LabB) : alikeB n m l k 0 = (decide (n = m) && decide (l.length = k.length)) := by
  unfold alikeB
  rw [List.take_zero, List.all_nil, Bool.and_true]
theorem alikeB_succ (n m : List UInt8) (l k : List LabB) {i : Nat} (h : i < l.length) : alikeB n m l k (i + 1) = (alikeB n m l k i && decide (getK k l[i].1 = some l[i].2)) := by
  unfold alikeB
  rw [List.take_succ_eq_append_getElem h, List.all_append, List.all_cons, List.all_nil, Bool.and_true]
  simp [Bool.and_assoc]
theorem alikeB_all (n m : List UInt8) (l k : List LabB) : alikeB n m l k l.length = decide (n = m ∧ l.length = k.length ∧ ∀ a ∈ l, getK k a.1 = some a.2) := by
  unfold alikeB
  rw [List.take_of_length_le (Nat.le_refl _), Bool.eq_iff_iff]
  simp [and_assoc]
theorem ownL_at {B : Nat} {p : Option Addr} {n cap : Nat} {ls : List LabB} {w w' : World} (h : OwnL B (.slice p n cap) ls w) (hB : Below w.heap.size w w') {i : Nat} (hi : i < ls.length) :
    ∃ g, p = some ⟨g, 0, none⟩ ∧ g < w.heap.size ∧ w'.cell? ⟨g, i * 2, none⟩ = some (.string (tx ls[i].1)) ∧ w'.cell? ⟨g, i * 2 + 1, none⟩ = some (.string (tx ls[i].2)) := by
  rcases h.form with ⟨_, h0⟩ | ⟨g, c, he, _, hg, _, hc⟩
  · rw [h0] at hi; exact absurd hi (Nat.not_lt_zero _)
  · obtain ⟨h1, h2⟩ := hc i hi
    exact ⟨g, by injection he, hg, (hB.cell (p := ⟨g, _, none⟩) hg).trans h1, (hB.cell (p := ⟨g, _, none⟩) hg).trans h2⟩
theorem named_one (i : Nat) (hi : i < 18) : namedL [UInt8.ofNat (97 + i)] = true := by
  rw [named_mid (by simp) (by simp)]
  unfold plainL
  simp only [List.all_cons, List.all_nil, Bool.and_true]
  rw [okB_nat, ofNat_small (by omega)]
  simp
  omega
theorem Lets.short {l : List LabB} (h : Lets l) : Short l := fun x hx => by have := h.fit x hx; unfold maxLen; omega
set_option maxRecDepth 100000 in
set_option maxHeartbeats 16000000 in
theorem LabelSame_walk (a : Int) (ha : (Lit.int .u8 a).wf = true) (b : Int) (hb : (Lit.int .u8 b).wf = true) (p2 : Option Addr) (l2 : List Nat) (c2 : Nat) (hl2 : l2.length ≤ maxLen) (_ : l2.length ≤ c2) (_ : p2 = none → c2 = 0)
    (p3 : Option Addr) (l3 : List Nat) (c3 : Nat) (hl3 : l3.length ≤ maxLen) (_ : l3.length ≤ c3) (_ : p3 = none → c3 = 0) (w : World) (hr2 : Octs p2 l2 w) (hr3 : Octs p3 l3 w) :
    Calls Try.prog 5 #[.int .u8 a, .int .u8 b, .slice p2 l2.length c2, .slice p3 l3.length c3] w fun e w' => e = .returned (.bool true) ∧ Below w.heap.size w w' := by
  have ga : 0 ≤ a ∧ a ≤ 255 := by simpa [Lit.wf, IntKind.min, IntKind.max, IntKind.signed, IntKind.bits] using ha
  have gb : 0 ≤ b ∧ b ≤ 255 := by simpa [Lit.wf, IntKind.min, IntKind.max, IntKind.signed, IntKind.bits] using hb
  obtain ⟨x, rfl⟩ : ∃ x : Nat, a = x := ⟨a.toNat, by omega⟩
  obtain ⟨y, rfl⟩ : ∃ y : Nat, b = y := ⟨b.toNat, by omega⟩
  obtain ⟨u, hu, hu1⟩ : ∃ u, x % 2 = u ∧ u < 2 := ⟨_, rfl, by omega⟩
  obtain ⟨v, hv, hv1⟩ : ∃ v, y % 2 = v ∧ v < 2 := ⟨_, rfl, by omega⟩
  have hui : (x : Int) % 2 = (u : Int) := by omega
  have hvi : (y : Int) % 2 = (v : Int) := by omega
  have one1 := fun W g => byte_in (UInt8.ofNat (97 + u)) W g
  have one2 := fun W g => byte_in (UInt8.ofNat (97 + v)) W g
  have eu : ((UInt8.ofNat (97 + u)).toNat : Int) = 97 + (u : Int) := by rw [ofNat_small (by omega)]; omega
  have ev : ((UInt8.ofNat (97 + v)).toNat : Int) = 97 + (v : Int) := by rw [ofNat_small (by omega)]; omega
  rw [eu] at one1
  rw [ev] at one2
  have hN1 := named_one u (by omega)
  have hN2 := named_one v (by omega)
  obtain ⟨N1, hn1⟩ : ∃ N, [UInt8.ofNat (97 + u)] = N := ⟨_, rfl⟩
  obtain ⟨N2, hn2⟩ : ∃ N, [UInt8.ofNat (97 + v)] = N := ⟨_, rfl⟩
  have hz1 : N1.length = 1 := by rw [← hn1]; rfl
  have hz2 : N2.length = 1 := by rw [← hn2]; rfl
  rw [hn1] at one1 hN1
  rw [hn2] at one2 hN2
  obtain ⟨s, hls, hls6⟩ : ∃ s, listS l2 = s ∧ Lets s ∧ s.length ≤ 6 := ⟨_, rfl, listS_lets l2⟩
  obtain ⟨t, hlt, hlt6⟩ : ∃ s, listS l3 = s ∧ Lets s ∧ s.length ≤ 6 := ⟨_, rfl, listS_lets l3⟩
  obtain ⟨ss, hss, hks⟩ := lets_key hN1 (by omega) hls6.1 hls6.2
  obtain ⟨tt, htt, hkt⟩ := lets_key hN2 (by omega) hlt6.1 hlt6.2
  have hsame := lets_same (n := N1) (m := N2) (by omega) (by omega) hls6.1 hlt6.1 hls6.2 hlt6.2 hss htt
  have hend : decide (keyK N1 ss = keyK N2 tt) = alikeB N1 N2 s t s.length := by rw [alikeB_all]; exact decide_eq_decide.2 hsame
  have HEND := Lib.hid hend
  have hla := fun W h => list_any p2 l2 c2 hl2 W h
  have hlb := fun W h => list_any p3 l3 c3 hl3 W h
  rw [hls] at hla
  rw [hlt] at hlb
  have HLA := Lib.hid hla
  have HLB := Lib.hid hlb
  have HK1 : Hid (∀ p c W, (p = none → c = 0) → LbAt p s W → Calls Try.prog 15 #[.string (tx N1), .slice p s.length c] W fun e w' => e = .returned (.tuple #[.string (tx (keyK N1 ss)), .int .i64 0]) ∧ Below W.heap.size W w') := Lib.hid (fun p c W h1 h2 => by
    have := key_any N1 (by unfold maxLen; omega) p c s h1 (by unfold maxLab; omega) W h2
    rw [hks] at this
    exact this)
  have HK2 : Hid (∀ p c W, (p = none → c = 0) → LbAt p t W → Calls Try.prog 15 #[.string (tx N2), .slice p t.length c] W fun e w' => e = .returned (.tuple #[.string (tx (keyK N2 tt)), .int .i64 0]) ∧ Below W.heap.size W w') := Lib.hid (fun p c W h1 h2 => by
    have := key_any N2 (by unfold maxLen; omega) p c t h1 (by unfold maxLab; omega) W h2
    rw [hkt] at this
    exact this)
  have HG : Hid (∀ p c N W, LbAt p t W → Calls Try.prog 17 #[.slice p t.length c, .string (tx N)] W fun e w' => e = .returned (getV (getK t N)) ∧ Below W.heap.size W w') := Lib.hid (fun p c N W h => get_any p c t (by unfold maxLab; omega) N W h)
  have HSH1 := Lib.hid hls6.1.short
  have HSH2 := Lib.hid hlt6.1.short
  have HR2 := Lib.hid hr2
  have HR3 := Lib.hid hr3
  have heq := tx_eq N1 N2
  have heq2 := tx_eq (keyK N1 ss) (keyK N2 tt)
  rw [HEND.out] at heq2
  have HEQ2 := Lib.hid heq2
  have hz := alikeB_zero N1 N2 s t
  have HZ0 := Lib.hid hz
  have hstep := fun i h => alikeB_succ N1 N2 s t (i := i) h
  have HSTEP := Lib.hid hstep
  have hs6 := hls6.2
  have ht6 := hlt6.2
  have hex := fun w => examples_of text_ok w
  obtain ⟨T1, hT1⟩ : ∃ T, tx N1 = T := ⟨_, rfl⟩
  obtain ⟨T2, hT2⟩ : ∃ T, tx N2 = T := ⟨_, rfl⟩
  obtain ⟨K1, hK1⟩ : ∃ T, tx (keyK N1 ss) = T := ⟨_, rfl⟩
  obtain ⟨K2, hK2⟩ : ∃ T, tx (keyK N2 tt) = T := ⟨_, rfl⟩
  rw [hT1] at one1 heq HK1
  rw [hT2] at one2 heq HK2
  rw [hK1] at HEQ2 HK1
  rw [hK2] at HEQ2 HK2
  clear ha hb ga gb hu hv eu ev hN1 hN2 hn1 hn2 hz1 hz2 hls hlt hls6 hlt6 hss hks htt hkt hsame hend hla hlb hr2 hr3 heq2 hz hstep hT1 hT2 hK1 hK2 HEND
  obtain ⟨n2, hn2⟩ : ∃ n, l2.length = n := ⟨_, rfl⟩
  obtain ⟨n3, hn3⟩ : ∃ n, l3.length = n := ⟨_, rfl⟩
  rw [hn2] at HLA hl2 ⊢
  rw [hn3] at HLB hl3 ⊢
  unfold maxLen at hl2 hl3
  clear hn2 hn3
  go_enter Try.func5, Try.ntmps5
  go_wp2_with fail
  refine (hex _).mono ?_
  rintro e w1 ⟨rfl, hB1⟩
  have HB1 := Lib.hid hB1
  clear hex hB1
  go_wp2_with fail
  refine (HLA.out _ (HR2.out.below HB1.out)).mono ?_
  rintro e w2 ⟨v1, rfl, hO, hB⟩
  obtain ⟨q1, d1, rfl⟩ := hO.len
  have HO1 := Lib.hid hO
  have HB2 := Lib.hid (HB1.out.trans (hB.mono HB1.out.size))
  clear hO hB HB1 HLA
  go_wp2_with fail
  refine (HLB.out _ (HR3.out.below HB2.out)).mono ?_
  rintro e w3 ⟨v2, rfl, hO, hB⟩
  obtain ⟨q2, d2, rfl⟩ := hO.len
  have HO2 := Lib.hid hO
  have HO1' := Lib.hid (HO1.out.below hB)
  have HB3 := Lib.hid (HB2.out.trans (hB.mono HB2.out.size))
  clear hO hB HB2 HLB HO1 HR2 HR3
  obtain ⟨ns, hns⟩ : ∃ n, s.length = n := ⟨_, rfl⟩
  obtain ⟨nt, hnt⟩ : ∃ n, t.length = n := ⟨_, rfl⟩
  have HNS := Lib.hid hns
  have HNT := Lib.hid hnt
  rw [hns] at hs6 HEQ2 HK1 ⊢
  rw [hnt] at ht6 HK2 HG ⊢
  rw [hns, hnt] at HZ0
  clear hns hnt
  have BCASES : (N1 = N2 ∧ ns = nt) ∨ (N1 = N2 ∧ ns ≠ nt) ∨ N1 ≠ N2 := by
    by_cases h1 : N1 = N2
    · by_cases h2 : ns = nt
      · exact .inl ⟨h1, h2⟩
      · exact .inr (.inl ⟨h1, h2⟩)
    · exact .inr (.inr h1)
  rcases BCASES with ⟨h1, h2⟩ | ⟨h1, h2⟩ | h1
  case' inl =>
    rw [decide_eq_true h1] at heq
    have hb0 : alikeB N1 N2 s t 0 = true := by rw [HZ0.out, decide_eq_true h1, decide_eq_true h2]; rfl
    have hlen : ((ns : Int) == (nt : Int)) = true := by rw [beq_iff_eq]; omega
    have HNN := Lib.hid h2
  case' inr.inl =>
    rw [decide_eq_true h1] at heq
    have hb0 : alikeB N1 N2 s t 0 = false := by rw [HZ0.out, decide_eq_true h1, decide_eq_false h2]; rfl
    have hlen : ((ns : Int) == (nt : Int)) = false := by rw [beq_eq_false_iff_ne]; omega
    have hlen2 : (ns == nt) = false := by rw [beq_eq_false_iff_ne]; exact h2
    have HNN := Lib.hid h2
  case' inr.inr =>
    rw [decide_eq_false h1] at heq
    have hb0 : alikeB N1 N2 s t 0 = false := by rw [HZ0.out, decide_eq_false h1]; rfl
    have h2 : True := trivial
    have HNN := Lib.hid h2
  all_goals
    have HB00 := Lib.hid hb0
    clear hb0 h1 h2 HZ0
    go_wp2
    have HB4 := Lib.hid (show Below w3.heap.size w3 ((w3.alloc (.cells #[.int .u8 (97 + (u : Int))] 5)).alloc (.cells #[.int .u8 (97 + (v : Int))] 5)) from ((Below.refl _ _).alloc (Nat.le_refl _) _).alloc (by simp) _)
    clear hui hvi one1 one2
    go_loopg [15, 16, 17, 18] ns (fun g s15 s16 s17 s18 wx => ∃ (i : Nat) (bb : Bool), s16 = .int .i64 (i : Int) ∧ s15 = .bool bb ∧ i + g = ns ∧ Hid (alikeB N1 N2 s t i = bb) ∧ Hid (Below w3.heap.size w3 wx))
    case atStart => exact ⟨0, _, rfl, rfl, by omega, HB00, HB4⟩
    case round =>
      clear HB00 HB4
      obtain ⟨i, bb, rfl, rfl, hi, HAL, HBi⟩ := hrel
      cases gk with
      | succ g =>
        have hin : i < ns := by omega
        have hil : i < s.length := by rw [HNS.out]; exact hin
        obtain ⟨gg, rfl, hgl, k1, k2⟩ := ownL_at HO1'.out HBi.out hil
        have hst := HSTEP.out i hil
        obtain ⟨nm, hnm⟩ : ∃ z, (s[i]'hil).1 = z := ⟨_, rfl⟩
        obtain ⟨vl, hvl⟩ : ∃ z, (s[i]'hil).2 = z := ⟨_, rfl⟩
        rw [hnm] at k1 hst
        rw [hvl] at k2 hst
        rw [HAL.out] at hst
        have hget := HG.out q2 d2 nm wr (by
          have := HO2.out.below HBi.out
          rw [HNT.out] at this
          exact OwnL.lies (by rw [← HNT.out] at this; exact this) HSH2.out)
        have HST := Lib.hid hst
        have hgw : gg < wr.heap.size := Nat.lt_of_lt_of_le hgl HBi.out.size
        obtain ⟨TN, hTN⟩ : ∃ T, tx nm = T := ⟨_, rfl⟩
        obtain ⟨TV, hTV⟩ : ∃ T, tx vl = T := ⟨_, rfl⟩
        have HTV := Lib.hid hTV
        rw [hTN] at k1 hget
        rw [hTV] at k2
        clear hst hnm hvl hil hTN hTV HAL
        have K2' := Lib.hid k2
        cases hgk2 : getK t nm with
        | none =>
          rw [hgk2] at hget
          rw [show getV none = .tuple #[.string ⟨#[]⟩, .bool false] from rfl] at hget
          have HN2 : Hid (alikeB N1 N2 s t (i + 1) = false) := Lib.hid (by rw [HST.out, hgk2]; simp)
          clear hgk2 HST
          go_wp2_with fail
          refine hget.mono ?_
          rintro e w5 ⟨rfl, hB5⟩
          have HB5 := Lib.hid (HBi.out.trans (hB5.mono HBi.out.size))
          clear hB5 hget HBi k1 k2
          cases bb
          all_goals
            go_wp2
            go_roundg g
            case measure => omega
            case rel => exact ⟨i + 1, _, by go_num, rfl, by omega, HN2, HB5⟩
        | some v' =>
          rw [hgk2] at hget
          rw [show getV (some v') = .tuple #[.string (tx v'), .bool true] from rfl] at hget
          have hteq := tx_eq v' vl
          rw [HTV.out] at hteq
          have HN2 : Hid (alikeB N1 N2 s t (i + 1) = (bb && decide (v' = vl))) := Lib.hid (by rw [HST.out, hgk2]; simp)
          obtain ⟨TG, hTG⟩ : ∃ T, tx v' = T := ⟨_, rfl⟩
          rw [hTG] at hget hteq
          clear hgk2 HST hTG
          go_wp2_with fail
          refine hget.mono ?_
          rintro e w5 ⟨rfl, hB5⟩
          have k5 := (hB5.cell (p := ⟨gg, i * 2 + 1, none⟩) hgw).trans K2'.out
          have HB5 := Lib.hid (HBi.out.trans (hB5.mono HBi.out.size))
          clear hB5 hget HBi k1 k2 K2'
          by_cases hvv : v' = vl
          case' pos => rw [decide_eq_true hvv] at hteq HN2
          case' neg => rw [decide_eq_false hvv] at hteq HN2
          all_goals
            clear hvv
            cases bb
            all_goals
              go_wp2
              go_roundg g
              case measure => omega
              case rel => exact ⟨i + 1, _, by go_num, rfl, by omega, HN2, HB5⟩
      | zero =>
        obtain rfl : i = ns := by omega
        have hk1 := HK1.out q1 d1 wr (OwnL.none HO1'.out) (by
          have := HO1'.out.below HBi.out
          exact OwnL.lies this HSH1.out)
        have HO2b := Lib.hid (HO2.out.below HBi.out)
        have hf := HEQ2.out
        rw [HAL.out] at hf
        have HF := Lib.hid hf
        clear hf
        go_wp2_with fail
        refine hk1.mono ?_
        rintro e w5 ⟨rfl, hB5⟩
        have HB5 := Lib.hid (HBi.out.trans (hB5.mono HBi.out.size))
        have hk2 := HK2.out q2 d2 w5 (OwnL.none HO2.out) (by
          have := HO2b.out.below hB5
          exact OwnL.lies this HSH2.out)
        clear hB5 hk1
        go_wp2_with fail
        refine hk2.mono ?_
        rintro e w6 ⟨rfl, hB6⟩
        have HB6 := Lib.hid (HB3.out.trans ((HB5.out.trans (hB6.mono HB5.out.size)).mono HB3.out.size))
        clear hB6 hk2
        have hf := HF.out
        cases bb
        all_goals
          go_wp2
          go_ret
          exact ⟨rfl, HB6.out⟩
end Go.Proofs.Ytlocjhnlemlnmaa.Lx
