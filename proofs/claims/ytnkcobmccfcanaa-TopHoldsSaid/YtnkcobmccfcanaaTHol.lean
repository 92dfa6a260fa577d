/- TopHolds: the names come, one by one. -/
import Derived.Test.YtnkcobmccfcanaaTHolM
import Derived.Test.YtnkcobmccfcanaaTFew
import Derived.RegionTactic
import Derived.ChangeAlike
import Derived.BigRegion
namespace Go.Proofs.Ytnkcobmccfcanaa
open Go Go.RowKit

/-- What holds at the head of a round. -/
structure HolAt (N B R k : Nat) (all : Nat) (v : Value) (c : Nat → Nat) (l : List Itm) (w wx : World) : Prop where
  hol : Hol k c l
  sn : seen l = all
  tp : Tp N B k v l wx
  ct : CntAt R 26 c wx
  rb : R ≠ B
  rv : v.ownBlock ≠ some R
  lo : N ≤ R
  below : Below N w wx
theorem hol_le {k : Nat} {c : Nat → Nat} {l : List Itm} (h : Hol k c l) {j : Nat} (hj : j < 26) : c j ≤ seen l := by
  by_cases hex : ∃ x ∈ l, x.name = nmC (97 + j)
  · obtain ⟨x, hx, e⟩ := hex
    obtain ⟨i, hi, e2, h3, _⟩ := h.it x hx
    obtain rfl := nmC97_inj (k := 26) (by omega) hj hi (e.symm.trans e2)
    have := many_le_seen hx
    omega
  · have h1 := h.un j hj (fun x hx hxn => hex ⟨x, hx, hxn⟩)
    by_cases hr : l.length < k
    · rw [least_nm hr] at h1; omega
    · have h2 := mem_at (worst_lt (l := l) (by have := h.inv.lo; omega))
      have h3 := least_le (k := k) h2
      have := many_le_seen h2
      omega
def z26 : Array Value := #[.int .u64 0, .int .u64 0, .int .u64 0, .int .u64 0, .int .u64 0, .int .u64 0, .int .u64 0, .int .u64 0, .int .u64 0, .int .u64 0, .int .u64 0, .int .u64 0, .int .u64 0, .int .u64 0, .int .u64 0, .int .u64 0, .int .u64 0, .int .u64 0, .int .u64 0, .int .u64 0, .int .u64 0, .int .u64 0, .int .u64 0, .int .u64 0, .int .u64 0, .int .u64 0]
theorem zeros26 : ∀ j, j < 26 → z26[j]? = some (.int .u64 0) := by
  intro j hj
  match j, hj with
  | 0, _ | 1, _ | 2, _ | 3, _ | 4, _ | 5, _ | 6, _ | 7, _ | 8, _ | 9, _ | 10, _ | 11, _ | 12, _ | 13, _ | 14, _ | 15, _ | 16, _ | 17, _ | 18, _ | 19, _ | 20, _ | 21, _ | 22, _ | 23, _ | 24, _ | 25, _ => rfl
  | n + 26, h => omega
def b26 : Array Value := #[.bool false, .bool false, .bool false, .bool false, .bool false, .bool false, .bool false, .bool false, .bool false, .bool false, .bool false, .bool false, .bool false, .bool false, .bool false, .bool false, .bool false, .bool false, .bool false, .bool false, .bool false, .bool false, .bool false, .bool false, .bool false, .bool false]
theorem falses26 : ∀ j, j < 26 → b26[j]? = some (.bool false) := by
  intro j hj
  match j, hj with
  | 0, _ | 1, _ | 2, _ | 3, _ | 4, _ | 5, _ | 6, _ | 7, _ | 8, _ | 9, _ | 10, _ | 11, _ | 12, _ | 13, _ | 14, _ | 15, _ | 16, _ | 17, _ | 18, _ | 19, _ | 20, _ | 21, _ | 22, _ | 23, _ | 24, _ | 25, _ => rfl
  | n + 26, h => omega
/-- Whether the name of a letter is among items. -/
def toldB (s : List Itm) (j : Nat) : Bool := s.any fun x => decide (x.name = nmC (97 + j))
/-- Block Q holds which letters were told. -/
structure ToldAt (Q : Nat) (t : Nat → Bool) (w : World) : Prop where
  lt : Q < w.heap.size
  cell : ∀ j, j < 26 → w.cell? ⟨Q, j, none⟩ = some (.bool (t j))
  fro : ∀ j, j < 26 → w.frozen? ⟨Q, j, none⟩ = false
theorem ToldAt.below {Q : Nat} {t : Nat → Bool} {w w' : World} (h : ToldAt Q t w) (hB : Below w.heap.size w w') : ToldAt Q t w' :=
  ⟨Nat.lt_of_lt_of_le h.lt hB.size, fun j hj => (hB.cell (p := ⟨Q, j, none⟩) h.lt).trans (h.cell j hj), fun j hj => (hB.frozen (p := ⟨Q, j, none⟩) h.lt).trans (h.fro j hj)⟩
theorem ToldAt.set {Q : Nat} {t t' : Nat → Bool} {w : World} (h : ToldAt Q t w) (j : Nat) (hj : j < 26) (hs : t' j = true) (hn : ∀ i, i < 26 → i ≠ j → t' i = t i) : ToldAt Q t' (w.setCell ⟨Q, j, none⟩ (.bool true)) := by
  refine ⟨by have := h.lt; simpa using this, fun i hi => ?_, fun i hi => by rw [World.frozen?_setCell]; exact h.fro i hi⟩
  by_cases e : i = j
  · subst e
    rw [hs]
    exact World.cell?_setCell_same w ⟨Q, i, none⟩ _ (h.cell i hi)
  · rw [hn i hi e, World.cell?_setCell_other (h := by intro he; have := congrArg Addr.off he; simp at this; omega)]
    exact h.cell i hi
/-- What holds at the head of a round over what is told. -/
structure TolAt (Q i : Nat) (s : List Itm) (W wx : World) : Prop where
  mov : Mov (fun b => b = Q) W wx
  told : ToldAt Q (toldB (s.take i)) wx
theorem toldB_take {s : List Itm} {i j : Nat} (hi : i < s.length) (hn : s[i]!.name = nmC (97 + j)) : toldB (s.take (i + 1)) j = true := by
  unfold toldB
  rw [List.take_add_one, List.getElem?_eq_getElem hi, List.any_append]
  rw [getE s i hi] at hn
  simp [hn]
theorem toldB_other {s : List Itm} {i j m : Nat} (hi : i < s.length) (hn : s[i]!.name = nmC (97 + j)) (hj : j < 26) (hm : m < 26) (h : m ≠ j) : toldB (s.take (i + 1)) m = toldB (s.take i) m := by
  unfold toldB
  rw [List.take_add_one, List.getElem?_eq_getElem hi, List.any_append]
  rw [getE s i hi] at hn
  have : nmC (97 + j) ≠ nmC (97 + m) := fun e => h (nmC97_inj (k := 26) (by omega) hm hj e.symm)
  simp [hn, this]
set_option maxRecDepth 100000 in
set_option maxHeartbeats 32000000 in
theorem hol_in (a : Nat) (ha : a < 256) (p : Option Addr) (hs : List Nat) (cap : Nat) (hlen : hs.length ≤ 9223372036854775807) (w : World) (hO : Octs p hs w) :
    Calls Try.prog 5 #[.int .u8 a, .slice p hs.length cap] w fun e w' => e = .returned (.bool true) ∧ Below w.heap.size w w' := by
  obtain ⟨N, hN⟩ : ∃ N, w.heap.size = N := ⟨_, rfl⟩
  have HN := Lib.hid hN
  rw [hN]
  have HO := Lib.hid hO
  obtain ⟨k, hk⟩ : ∃ k, 1 + a % 16 = k := ⟨_, rfl⟩
  have hk1 : 1 ≤ k := by omega
  have hk2 : k ≤ 16 := by omega
  have hki : (1 : Int) + (a : Int) % 16 = k := by omega
  obtain ⟨n, hln⟩ : ∃ n, hs.length = n := ⟨_, rfl⟩
  have HLN := Lib.hid hln
  rw [hln] at hlen ⊢
  clear hk hN ha hO hln
  have hnw := new_any k hk1 hk2
  go_enter Try.func5, Try.ntmps5
  go_wp2_with fail
  refine (examples_any _).mono ?_
  rintro e W1 ⟨rfl, hB⟩
  rw [HN.out] at hB
  go_wp2_with fail
  refine (hnw _).mono ?_
  rintro e W2 ⟨rfl, hB2, hT⟩
  have hT2 := hT.mono (Nat.le_trans (Nat.le_of_eq HN.out.symm) hB.size)
  replace hB := hB.trans (hB2.mono (Nat.le_trans (Nat.le_of_eq HN.out.symm) hB.size))
  generalize W1.heap.size = B at *
  have HT2 := Lib.hid hT2
  have HB := Lib.hid hB
  clear hB2 hT hnw hT2 hB
  go_wp2_with fail
  have hX := CellsAt.new z26 56 W2
  have hF0 : HolAt N B W2.heap.size k 0 (.slice none 0 0) (fun _ => 0) [] w (W2.alloc (.cells z26 56)) :=
    have hBx := (Below.refl W2.heap.size W2).alloc (Nat.le_refl _) (.cells z26 56)
    have hRN := Nat.le_trans (Nat.le_of_eq HN.out.symm) HB.out.size
    ⟨hol_nil hk1 hk2, rfl, HT2.out.below hBx, ⟨hX.lt, fun j hj => hX.cell j _ (zeros26 j hj), fun j hj => hX.fro j _ (zeros26 j hj)⟩, by have := HT2.out.lt; omega, by simp [Value.ownBlock], hRN, HB.out.trans (hBx.mono hRN)⟩
  have HF0 := Lib.hid hF0
  clear hF0 hX
  unfold z26 at HF0
  generalize W2.alloc (.cells #[.int .u64 0, .int .u64 0, .int .u64 0, .int .u64 0, .int .u64 0, .int .u64 0, .int .u64 0, .int .u64 0, .int .u64 0, .int .u64 0, .int .u64 0, .int .u64 0, .int .u64 0, .int .u64 0, .int .u64 0, .int .u64 0, .int .u64 0, .int .u64 0, .int .u64 0, .int .u64 0, .int .u64 0, .int .u64 0, .int .u64 0, .int .u64 0, .int .u64 0, .int .u64 0] 56) = W3 at *
  generalize W2.heap.size = R at *
  go_loopg [10, 11] (min n 200) (fun g al i wx => ∃ (k' A : Nat) (v : Value) (c : Nat → Nat) (l : List Itm), k' + g = min n 200 ∧ A ≤ 4 * k' ∧ al = .int .u64 A ∧ i = .int .i64 k' ∧ HolAt N B R k A v c l w wx)
  case atStart => exact ⟨0, 0, _, _, _, by omega, by omega, rfl, rfl, HF0.out⟩
  case round =>
    obtain ⟨i, A, v, c, l, hig, hA4, rfl, rfl, hF⟩ := hrel
    cases gk with
    | zero =>
      have hke : i = min n 200 := by omega
      have hA8 : A ≤ 800 := by omega
      have HF := Lib.hid hF
      clear hF hig
      have hend : ¬ (i < n) ∨ (i < n ∧ ¬ (i < 200)) := by omega
      clear hke
      rcases hend with hend | ⟨hend1, hend⟩
      all_goals
        go_wp2_with fail
        refine (items_any HF.out.tp).mono ?_
        rintro e W4 ⟨v5, s, rfl, hI, hp, hto, hB4⟩
        have hT4 := HF.out.tp.below hB4
        have hC4 := HF.out.ct.below hB4
        have hBW := below_on HF.out.below hB4 (Nat.le_of_eq HN.out.symm)
        obtain ⟨p5, cap5, hv5, hcap5, hmax5⟩ := hI.cap
        have HI := Lib.hid hI
        have HP := Lib.hid hp
        have HTO := Lib.hid hto
        have HT4 := Lib.hid hT4
        have HC4 := Lib.hid hC4
        have HBW := Lib.hid hBW
        clear hI hp hto hB4 hT4 hC4 hBW hend
        unfold maxLen at hmax5
        obtain ⟨sl, hsl⟩ : ∃ sl, s.length = sl := ⟨_, rfl⟩
        have HSL := Lib.hid hsl
        rw [hsl] at hv5 hcap5
        have HV5 := Lib.hid hv5
        rw [hv5]
        have hslk : sl ≤ k := by rw [← hsl, HP.out.length_eq]; exact HF.out.hol.inv.len
        clear hsl hv5
        go_wp2_with fail
        have hXb := CellsAt.new b26 57 W4
        have hBx := (Below.refl W4.heap.size W4).alloc (Nat.le_refl _) (.cells b26 57)
        have hL0 : TolAt W4.heap.size 0 s (W4.alloc (.cells b26 57)) (W4.alloc (.cells b26 57)) := ⟨Mov.refl _ _, ⟨hXb.lt, fun j hj => hXb.cell j _ (falses26 j hj), fun j hj => hXb.fro j _ (falses26 j hj)⟩⟩
        have hQ : ∀ g, v5.ownBlock = some g → g < W4.heap.size := fun g hg => (HI.out.lt hg).2
        have hQR := HC4.out.lt
        have hBQ := HT4.out.lt
        have HVQ : Hid (∀ g, v.ownBlock = some g → g < W4.heap.size) := Lib.hid fun g hg => (HT4.out.row.lt hg).2
        have HI5 := Lib.hid (HI.out.below hBx)
        have HT5 := Lib.hid (HT4.out.below hBx)
        have HC5 := Lib.hid (HC4.out.below hBx)
        have HBW5 := Lib.hid (below_on HBW.out hBx (Nat.le_of_eq HN.out.symm))
        have HL0 := Lib.hid hL0
        have HQ := Lib.hid hQ
        have hNQ : N ≤ W4.heap.size := Nat.le_trans (Nat.le_of_eq HN.out.symm) HBW.out.size
        clear hL0 hXb hBx hQ
        unfold b26 at HL0 HI5 HT5 HC5 HBW5
        generalize W4.alloc (.cells #[.bool false, .bool false, .bool false, .bool false, .bool false, .bool false, .bool false, .bool false, .bool false, .bool false, .bool false, .bool false, .bool false, .bool false, .bool false, .bool false, .bool false, .bool false, .bool false, .bool false, .bool false, .bool false, .bool false, .bool false, .bool false, .bool false] 57) = W5 at *
        generalize W4.heap.size = Q at *
        go_loopg [14, 16] sl (fun g su i' wx => ∃ i2 : Nat, i2 + g = sl ∧ i' = .int .i64 i2 ∧ su = .int .u64 (seen (s.take i2)) ∧ TolAt Q i2 s W5 wx)
        case atStart => exact ⟨0, by omega, rfl, rfl, HL0.out⟩
        case round =>
          obtain ⟨i2, hig2, rfl, rfl, hL⟩ := hrel
          cases gk with
          | zero =>
            obtain rfl : i2 = sl := by omega
            have hse : seen (s.take i2) = A := by rw [List.take_of_length_le (by rw [HSL.out]; exact Nat.le_refl _), seen_perm HP.out, HF.out.sn]
            have htk : s.take i2 = s := List.take_of_length_le (by rw [HSL.out]; exact Nat.le_refl _)
            rw [hse]
            have hTo := hL.told
            rw [htk] at hTo
            have HT7 := Lib.hid hTo
            have HM7 := Lib.hid hL.mov
            have HTP7 := Lib.hid (HT5.out.mov hL.mov (by omega) (fun g hg => by have := HVQ.out g hg; omega))
            have HC7 := Lib.hid (HC5.out.mov hL.mov (by omega))
            have HBW7 := Lib.hid (below_mov HBW5.out hL.mov (fun b hb => by omega) (Nat.le_of_eq HN.out.symm))
            clear hse htk hTo hL
            go_wp2_with fail
            go_loopg [19] 26 (fun g i' wx => ∃ j : Nat, j + g = 26 ∧ i' = .int .i64 j ∧ ∃ nq, wx = wr.drewN nq)
            case atStart => exact ⟨0, by omega, rfl, 0, rfl⟩
            case round =>
              obtain ⟨j, hjg, rfl, nq, rfl⟩ := hrel
              cases gk with
              | zero =>
                obtain rfl : j = 26 := by omega
                have hse := seen_walk (HTP7.out.drewN nq)
                rw [HF.out.sn] at hse
                have HBE := Lib.hid (below_drewN HBW7.out nq)
                generalize wr.drewN nq = W8 at *
                go_wp2_with fail
                refine hse.mono ?_
                rintro e W9 ⟨rfl, hB9⟩
                have hE := below_on HBE.out hB9 (Nat.le_of_eq HN.out.symm)
                have hslk2 : (i2 : Int) ≤ (k : Int) := by omega
                clear hse hB9
                go_wp2
                go_ret
                exact ⟨rfl, hE⟩
              | succ g3 =>
                have hj26 : j < 26 := by omega
                have hj26i : (j : Int) < 26 := by omega
                have k3 : (wr.drewN nq).cell? ⟨R, j, none⟩ = some (.int .u64 (c j : Nat)) := HC7.out.cell j hj26
                have k4 : (wr.drewN nq).cell? ⟨Q, j, none⟩ = some (.bool (toldB s j)) := HT7.out.cell j hj26
                have htl : A / k < c j → toldB s j = true := fun h => by
                  obtain ⟨x, hx, hxn⟩ := hol_told HF.out.hol hj26 (by rw [HF.out.sn]; exact h)
                  unfold toldB
                  rw [List.any_eq_true]
                  exact ⟨x, HP.out.mem_iff.2 hx, by simpa using hxn⟩
                have hcA := hol_le HF.out.hol hj26
                rw [HF.out.sn] at hcA
                generalize c j = x at *
                generalize toldB s j = tb at *
                obtain ⟨dv, hdv⟩ : ∃ dv, A / k = dv := ⟨_, rfl⟩
                rw [hdv] at htl
                have hdi : (A : Int) / (k : Int) = (dv : Int) := by rw [← hdv]; exact (Int.natCast_ediv _ _).symm
                have hdi2 : (A : Int).tdiv (k : Int) = (dv : Int) := by rw [Int.tdiv_eq_ediv_of_nonneg (by omega)]; exact hdi
                have hdle : dv ≤ A := by rw [← hdv]; exact Nat.div_le_self _ _
                have r5 : IntKind.u64.wrap (k : Int) = (k : Int) := IntWalk.u64_in _ (by omega)
                have r6 : IntKind.u64.wrap (dv : Int) = (dv : Int) := IntWalk.u64_in _ (by omega)
                have r10 : ¬ (k = 0) := by omega
                have r11 : ¬ ((k : Int) = 0) := by omega
                clear hdv
                generalize hW8 : wr.drewN nq = W8 at *
                have HW8 := Lib.hid hW8
                clear hW8
                by_cases hdx : dv < x
                · obtain rfl : tb = true := htl hdx
                  have r2 : decide (dv < x) = true := by simp; omega
                  clear htl hdx
                  go_wp2
                  go_quiet (fail)
                  go_wp2
                  go_roundg g3
                  case measure => omega
                  case rel => exact ⟨j + 1, by omega, by go_num, _, by rw [← HW8.out, World.drewN_drewN]⟩
                · have r2 : decide (dv < x) = false := by simp; omega
                  clear htl hdx
                  go_wp2
                  go_quiet (fail)
                  go_wp2
                  go_roundg g3
                  case measure => omega
                  case rel => exact ⟨j + 1, by omega, by go_num, _, by rw [← HW8.out, World.drewN_drewN]⟩
          | succ g2 =>
            have hi2 : i2 < sl := by omega
            have hi2s : i2 < s.length := by rw [HSL.out]; exact hi2
            obtain ⟨g5, cap6, hv6, _, hg5, _, _, hcell, _⟩ := HI5.out.form_pos (by rw [HSL.out]; omega)
            have hg5Q := HQ.out g5 (by rw [hv6]; rfl)
            rw [HSL.out, HV5.out] at hv6
            simp only [Value.slice.injEq] at hv6
            obtain ⟨rfl, _, rfl⟩ := hv6
            have hmemL := HP.out.mem_iff.1 (mem_at (l := s) hi2s)
            obtain ⟨d0, d1, d2⟩ := hcell i2 hi2s
            obtain ⟨jj, hj1, hj2, hj3, hj4⟩ := HF.out.hol.it _ hmemL
            have hov := HF.out.hol.inv.over _ hmemL
            have hod := over_div HF.out.hol.inv hmemL
            rw [HF.out.sn] at hod
            have hmsn := many_le_seen hmemL
            rw [HF.out.sn] at hmsn
            have hsn1 := seen_snoc s i2 hi2s
            have hsl1 := seen_take_le s i2
            rw [seen_perm HP.out, HF.out.sn] at hsl1
            have hg5n : ¬ (g5 = Q) := by omega
            have hg5n2 : ¬ (Q = g5) := by omega
            have hRn : ¬ (R = Q) := by omega
            have hRn2 : ¬ (Q = R) := by omega
            have hlook : ∀ (b o : Nat) (u : Value), b < W5.heap.size → b ≠ Q → W5.cell? ⟨b, o, none⟩ = some u → wr.cell? ⟨b, o, none⟩ = some u := fun b o u hb hn hu => (hL.mov.cell hb hn).trans hu
            have HTT := Lib.hid (toldB_take hi2s hj2)
            have HTF := Lib.hid (fun m hm => toldB_other (m := m) hi2s hj2 hj1 hm)
            rw [hj2] at d0
            have k0 := hlook _ _ _ hg5 hg5n d0
            have k1 := hlook _ _ _ hg5 hg5n d1
            have k2 := hlook _ _ _ hg5 hg5n d2
            have k3 := hlook _ _ _ HC5.out.lt hRn (HC5.out.cell jj hj1)
            have k4 := hL.told.cell jj hj1
            have f4 := hL.told.fro jj hj1
            have hQl := hL.told.lt
            have hg5l : g5 < wr.heap.size := Nat.lt_of_lt_of_le hg5 hL.mov.size
            have hRl : R < wr.heap.size := Nat.lt_of_lt_of_le HC5.out.lt hL.mov.size
            have hb8 : ((UInt8.ofNat (97 + jj)).toNat : Int) = ((97 + jj : Nat) : Int) := by rw [UInt8.toNat_ofNat']; omega
            replace k0 : wr.cell? ⟨g5, i2 * 3, none⟩ = some (.string ⟨#[UInt8.ofNat (97 + jj)]⟩) := k0
            generalize UInt8.ofNat (97 + jj) = b8 at *
            obtain ⟨q, hq⟩ : ∃ q, 97 + jj = q := ⟨_, rfl⟩
            rw [hq] at hb8
            have hb9 : (((⟨#[b8]⟩ : ByteArray)[0]'(Nat.zero_lt_one)).toNat : Int) = (q : Int) := hb8
            have hq1 : 97 ≤ q := by omega
            have hq3 : q ≤ 122 := by omega
            have hqj : (q : Int) - 97 = (jj : Int) := by omega
            have hj26 : (jj : Int) < 26 := by omega
            have t1 : decide ((q : Int) < 97) = false := by simp; omega
            have t2 : decide (122 < (q : Int)) = false := by simp; omega
            have t4 : IntKind.u8.wrap ((q : Int) - 97) = (jj : Int) := by rw [hqj]; exact IntWalk.u8_in _ (by omega)
            have hL6 : TolAt Q (i2 + 1) s W5 ((wr.setCell ⟨Q, jj, none⟩ (.bool true)).alloc (.cells #[.string ⟨#[b8]⟩, .int .u64 s[i2]!.many, .int .u64 s[i2]!.over] 51)) := by
              have h1 := hL.told.set (t' := toldB (s.take (i2 + 1))) jj hj1 HTT.out HTF.out
              have h2 := (Below.refl (wr.setCell ⟨Q, jj, none⟩ (.bool true)).heap.size (wr.setCell ⟨Q, jj, none⟩ (.bool true))).alloc (Nat.le_refl _) (.cells #[.string ⟨#[b8]⟩, .int .u64 s[i2]!.many, .int .u64 s[i2]!.over] 51)
              exact ⟨(hL.mov.set rfl jj (.bool true)).trans (Mov.ofB (S := fun _ => False) h2) (fun _ _ h => h.elim), h1.below h2⟩
            have hX6 := CellsAt.newAt #[.string ⟨#[b8]⟩, .int .u64 s[i2]!.many, .int .u64 s[i2]!.over] 51 (wr.setCell ⟨Q, jj, none⟩ (.bool true)) wr.heap.size (by simp)
            have x0 := hX6.cell 0 (.string ⟨#[b8]⟩) rfl
            have x1 := hX6.cell 1 (.int .u64 s[i2]!.many) rfl
            have x2 := hX6.cell 2 (.int .u64 s[i2]!.over) rfl
            have hlook6 : ∀ (b o : Nat) (u : Value), b < W5.heap.size → b ≠ Q → W5.cell? ⟨b, o, none⟩ = some u → ((wr.setCell ⟨Q, jj, none⟩ (.bool true)).alloc (.cells #[.string ⟨#[b8]⟩, .int .u64 s[i2]!.many, .int .u64 s[i2]!.over] 51)).cell? ⟨b, o, none⟩ = some u := fun b o u hb hn hu => (hL6.mov.cell hb hn).trans hu
            have HP6 : Hid (∀ i3, i3 + 1 = i2 → ∃ pm, ((wr.setCell ⟨Q, jj, none⟩ (.bool true)).alloc (.cells #[.string ⟨#[b8]⟩, .int .u64 s[i2]!.many, .int .u64 s[i2]!.over] 51)).cell? ⟨g5, i3 * 3 + 1, none⟩ = some (.int .u64 (pm : Nat)) ∧ s[i2]!.many ≤ pm) := Lib.hid (by
              intro i3 h3
              have h4 := (hcell i3 (by omega)).2.1
              refine ⟨s[i3]!.many, hlook6 _ _ _ hg5 hg5n h4, ?_⟩
              have h5 := told_many HTO.out (i := i3) (by omega)
              rw [h3] at h5
              exact h5)
            have HSN1 := Lib.hid hsn1
            have HL6 := Lib.hid hL6
            have HP1 := Lib.hid HP.out
            have hmx : c jj ≤ s[i2]!.many := hj3
            have hmo2 : s[i2]!.many ≤ c jj + s[i2]!.over := hj4
            clear hL6 hX6 hlook6 hL hlook hcell d0 d1 d2 hj2 hq hmemL hsn1 hi2s hb8 hg5 hg5Q hj3 hj4
            generalize hmm : s[i2]!.many = m at *
            generalize hoo : s[i2]!.over = ov at *
            generalize c jj = x at *
            have HM := Lib.hid hmm
            clear hmm hoo
            obtain ⟨sq, hsq⟩ : ∃ sq, seen (s.take i2) = sq := ⟨_, rfl⟩
            rw [hsq] at hsl1
            have HSQ := Lib.hid hsq
            rw [hsq]
            obtain ⟨sq2, hsq2⟩ : ∃ sq2, sq + m = sq2 := ⟨_, rfl⟩
            have hsqi : (sq : Int) + (m : Int) = (sq2 : Int) := by omega
            have hsq8 : (sq2 : Int) ≤ 1600 := by omega
            have HSQ2 := Lib.hid hsq2
            obtain ⟨dv, hdv⟩ : ∃ dv, A / k = dv := ⟨_, rfl⟩
            rw [hdv] at hod
            have hdi : (A : Int) / (k : Int) = (dv : Int) := by rw [← hdv]; exact (Int.natCast_ediv _ _).symm
            have hdi2 : (A : Int).tdiv (k : Int) = (dv : Int) := by rw [Int.tdiv_eq_ediv_of_nonneg (by omega)]; exact hdi
            have hdle : dv ≤ A := by rw [← hdv]; exact Nat.div_le_self _ _
            obtain ⟨mo, hmo⟩ : ∃ mo, m - ov = mo := ⟨_, rfl⟩
            have hmoi : (m : Int) - (ov : Int) = (mo : Int) := by omega
            have r1 : IntKind.u64.wrap ((m : Int) - (ov : Int)) = (mo : Int) := by rw [hmoi]; exact IntWalk.u64_in _ (by omega)
            have r1b : IntKind.u64.wrap (mo : Int) = (mo : Int) := IntWalk.u64_in _ (by omega)
            have r2 : decide (m < x) = false := by simp; omega
            have r3 : decide (x < mo) = false := by simp; omega
            have r4 : decide (dv < ov) = false := by simp; omega
            have r5 : IntKind.u64.wrap (k : Int) = (k : Int) := IntWalk.u64_in _ (by omega)
            have r6 : IntKind.u64.wrap (dv : Int) = (dv : Int) := IntWalk.u64_in _ (by omega)
            have r10 : ¬ (k = 0) := by omega
            have r11 : ¬ ((k : Int) = 0) := by omega
            have r7 : ((k : Int) == 0) = false := by simp; omega
            clear hsq hsq2 hdv hmo
            go_wp2
            generalize (wr.setCell ⟨Q, jj, none⟩ (.bool true)).alloc (.cells #[.string ⟨#[b8]⟩, .int .u64 m, .int .u64 ov] 51) = W6 at *
            by_cases hz : i2 = 0
            · have hz2 : decide (0 < i2) = false := by simp; omega
              clear hz
              go_quiet (fail)
              have HL7 : Hid (TolAt Q (i2 + 1) s W5 (W6.drewN nq)) := Lib.hid ⟨HL6.out.mov.drewN nq, ⟨HL6.out.told.lt, HL6.out.told.cell, HL6.out.told.fro⟩⟩
              go_wp2
              go_roundg g2
              case measure => omega
              case rel => exact ⟨i2 + 1, by omega, by go_num, by first | rw [HSN1.out, HSQ.out, HSQ2.out] | rw [HSN1.out, HSQ.out, HM.out, HSQ2.out], HL7.out⟩
            · have hz2 : decide (0 < i2) = true := by simp; omega
              obtain ⟨i3, hi3⟩ : ∃ i3, i3 + 1 = i2 := ⟨i2 - 1, by omega⟩
              obtain ⟨pm, hpm, hple⟩ := HP6.out i3 hi3
              have hi3i : (i2 : Int) - 1 = (i3 : Int) := by omega
              have hi3l : (i3 : Int) < (sl : Int) := by omega
              have hi3m : i3 < sl := by omega
              have r8 : IntKind.i64.wrap ((i2 : Int) - 1) = (i3 : Int) := by rw [hi3i]; exact IntWalk.i64_in _ (by omega)
              have r8b : IntKind.i64.wrap (i3 : Int) = (i3 : Int) := IntWalk.i64_in _ (by omega)
              have r9 : decide (pm < m) = false := by simp; omega
              clear hz hi3
              go_quiet (fail)
              have HL7 : Hid (TolAt Q (i2 + 1) s W5 (W6.drewN nq)) := Lib.hid ⟨HL6.out.mov.drewN nq, ⟨HL6.out.told.lt, HL6.out.told.cell, HL6.out.told.fro⟩⟩
              go_wp2
              go_roundg g2
              case measure => omega
              case rel => exact ⟨i2 + 1, by omega, by go_num, by first | rw [HSN1.out, HSQ.out, HSQ2.out] | rw [HSN1.out, HSQ.out, HM.out, HSQ2.out], HL7.out⟩
    | succ g =>
      have hi1 : i < n := by omega
      have hi2 : i < 200 := by omega
      have hkh : i < hs.length := by rw [HLN.out]; exact hi1
      obtain ⟨C, off, rfl, hC, hcell, hlt⟩ := HO.out i hkh
      have hcx : wr.cell? ⟨C, off + i, none⟩ = some (.int .u8 (hs[i] : Nat)) := (hF.below.cell (p := ⟨C, off + i, none⟩) (by rw [← HN.out]; exact hC)).trans hcell
      generalize hs[i] = d at *
      obtain ⟨j, hj⟩ : ∃ j, d % 26 = j := ⟨_, rfl⟩
      have hjk : j < 26 := by omega
      have hji : (d : Int) % 26 = (j : Int) := by omega
      have hji2 : (d : Int).tmod 26 = (j : Int) := by rw [Int.tmod_eq_emod_of_nonneg (by omega)]; exact hji
      obtain ⟨y, hy⟩ : ∃ y, d / 64 = y := ⟨_, rfl⟩
      have hyi : (d : Int) / 64 = (y : Int) := by omega
      have hy4 : y ≤ 3 := by omega
      obtain ⟨b, hb⟩ : ∃ b, 1 + y = b := ⟨_, rfl⟩
      have hbi : (1 : Int) + (y : Int) = (b : Int) := by omega
      have hb1 : 1 ≤ b := by omega
      have hb4 : b ≤ 4 := by omega
      have hcj := hF.ct.cell j hjk
      have hcf := hF.ct.fro j hjk
      have hcl : c j ≤ 800 := by have := hol_le hF.hol hjk; have := hF.sn; omega
      obtain ⟨x, hx⟩ : ∃ x, c j = x := ⟨_, rfl⟩
      rw [hx] at hcj hcl
      obtain ⟨q, hq⟩ : ∃ q, 97 + j = q := ⟨_, rfl⟩
      have hqi : (97 : Int) + (j : Int) = (q : Int) := by omega
      have hq2 : q < 256 := by omega
      have hjk2 : (j : Int) < 26 := by omega
      have hCR : ¬ (C = R) := by have := hF.lo; have := HN.out; omega
      have hM : Mov (fun b => b = R) wr (wr.setCell ⟨R, j, none⟩ (.int .u64 ((x : Int) + b))) := (Mov.refl (fun b => b = R) wr).set rfl j (.int .u64 ((x : Int) + b))
      have hC1 : CntAt R 26 (upd c j (c j + b)) (wr.setCell ⟨R, j, none⟩ (.int .u64 ((x : Int) + b))).drew := by
        have := hF.ct.set j (c j + b) hjk
        rw [hx] at this ⊢
        exact ⟨this.lt, this.cell, this.fro⟩
      have hT1 := (hF.tp.mov hM hF.rb.symm (fun g hg e => hF.rv (e ▸ hg))).drew
      have hB1 : Below N w (wr.setCell ⟨R, j, none⟩ (.int .u64 ((x : Int) + b))).drew := (hF.below.setCell hF.lo _).drew
      have HC1 := Lib.hid hC1
      have HT1 := Lib.hid hT1
      have HB1 := Lib.hid hB1
      have HF := Lib.hid hF
      have HX := Lib.hid hx
      have HQ := Lib.hid hq
      clear hF hx hq hj hy hb hcell hC hM hC1 hT1 hB1
      go_wp2
      go_region
      all_goals
        have hcx6 : (wr.setCell ⟨R, j, none⟩ (.int .u64 ((x : Int) + b))).drew.cell? ⟨C, off + i, none⟩ = some (.int .u8 (d : Nat)) := by
          show (wr.setCell ⟨R, j, none⟩ (.int .u64 ((x : Int) + b))).cell? ⟨C, off + i, none⟩ = _
          rw [World.cell?_setCell_other (h := by intro e; exact hCR (congrArg Addr.block e).symm)]
          exact hcx
        clear hcx hcj hcf
        generalize (wr.setCell ⟨R, j, none⟩ (.int .u64 ((x : Int) + b))).drew = W6 at *
        obtain ⟨A2, hA2⟩ : ∃ A2, A + b = A2 := ⟨_, rfl⟩
        have hA2i : (A : Int) + (b : Int) = (A2 : Int) := by omega
        have hA24 : A2 ≤ 4 * (i + 1) := by omega
        have hcv := letter_back q hq2 W6 W6.heap.size rfl
        have HA2 := Lib.hid hA2
        clear hA2
        go_wp2_with fail
        have hBx := (Below.refl W6.heap.size W6).alloc (Nat.le_refl _) (.cells #[.int .u8 q] 5)
        have hT2 := HT1.out.below hBx
        have hok : seen l + b ≤ 4611686018427387904 := by rw [HF.out.sn]; omega
        have hsn : addS k (nmC q) b l = addL k (nmC (97 + j)) b l := by rw [HQ.out]; exact addS_ok (by rw [nmC_size]; decide) hb1 hok
        refine (add_is hT2 (nmC q) b (by rw [nmC_size]; decide) (by omega) hsn (addC_ok (by rw [nmC_size]; decide) hb1 hok)).mono ?_
        intro e Wa hA
        obtain ⟨rfl, va, hTa, hMa, _, hat⟩ := hA.below ⟨_, hT2⟩
        have hCx := HC1.out.below hBx
        have hnR : ¬ OwnT B v R := by
          rintro (e | e)
          · exact HF.out.rb e
          · exact HF.out.rv e
        have hFa : HolAt N B R k A2 va (upd c j (c j + b)) (addL k (nmC (97 + j)) b l) w Wa := ⟨hol_step HF.out.hol hjk hb1 hok, by rw [seen_addL hk1, HF.out.sn, HA2.out], hTa, hCx.mov hMa hnR, HF.out.rb, fun e => by
            rcases hat R e with e | e
            · exact HF.out.rv e
            · have := hCx.lt; omega, HF.out.lo, below_mov (below_on HB1.out hBx (Nat.le_of_eq HN.out.symm)) hMa (by
            rintro b (rfl | hb)
            · exact HF.out.tp.lo
            · exact (HF.out.tp.row.lt hb).1) (Nat.le_of_eq HN.out.symm)⟩
        have HFa := Lib.hid hFa
        clear hBx hT2 hsn hA hTa hMa hat hCx hnR hFa hcv hcx6 hok
        go_wp2
        go_roundg g
        case measure => omega
        case rel => exact ⟨i + 1, A2, va, _, _, by omega, hA24, rfl, by go_num, HFa.out⟩
theorem TopHolds_walk (a0 : Int) (h0 : (Lit.int .u8 a0).wf = true) (p : Option Addr) (hs : List Nat) (cap : Nat) (hl : hs.length ≤ cap) (hm : cap ≤ maxLen) (w : World) (hO : Octs p hs w) :
    Calls Try.prog 5 #[.int .u8 a0, .slice p hs.length cap] w fun e w' => e = .returned (.bool true) ∧ Below w.heap.size w w' := by
  obtain ⟨a, rfl, ha⟩ := wf_u8 h0
  unfold maxLen at hm
  exact hol_in a ha p hs cap (by omega) w hO
end Go.Proofs.Ytnkcobmccfcanaa
