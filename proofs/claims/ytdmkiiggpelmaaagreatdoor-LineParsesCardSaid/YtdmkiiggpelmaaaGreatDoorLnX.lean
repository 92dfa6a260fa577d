/- A name of the laws: letters, and bytes that are escaped. A line made by its parts. -/
import Derived.Test.YtdmkiiggpelmaaaGreatDoorLnG
import Derived.Test.YtdmkiiggpelmaaaGreatDoorReg3
import Derived.Deep.RegionHeld3
import Derived.Deep.DrawnRows
import Derived.Deep.CutRange
import Derived.Deep.CutBlock
namespace Go.Proofs.YtdmkiiggpelmaaaGreatDoor.Lx
open Go Go.RowKit

/-- The bytes of names. -/
abbrev tabW : ByteArray := ⟨#[97, 98, 99, 44, 61, 32, 92, 35, 255, 49]⟩
def byteW (x : Nat) : UInt8 := tabW.data.toList.getD (x % 10) 0
def wordS (l : List Nat) : List UInt8 := 119 :: (l.take 12).map byteW
theorem byteW_at {x r : Nat} (h : x % 10 = r) (hr : r < 10) : byteW x = tabW[r]'hr := by
  unfold byteW
  rw [h]
  have : r = 0 ∨ r = 1 ∨ r = 2 ∨ r = 3 ∨ r = 4 ∨ r = 5 ∨ r = 6 ∨ r = 7 ∨ r = 8 ∨ r = 9 := by omega
  rcases this with rfl | rfl | rfl | rfl | rfl | rfl | rfl | rfl | rfl | rfl <;> rfl
theorem byteW_ok (x : Nat) : okB (byteW x) = true := by
  obtain ⟨r, hr⟩ : ∃ r, x % 10 = r := ⟨_, rfl⟩
  unfold byteW
  rw [hr]
  have : r = 0 ∨ r = 1 ∨ r = 2 ∨ r = 3 ∨ r = 4 ∨ r = 5 ∨ r = 6 ∨ r = 7 ∨ r = 8 ∨ r = 9 := by omega
  rcases this with rfl | rfl | rfl | rfl | rfl | rfl | rfl | rfl | rfl | rfl <;> decide
theorem wordS_plain (l : List Nat) : plainL (wordS l) = true := by
  simp only [plainL, wordS, List.all_cons, List.all_map, Bool.and_eq_true, List.all_eq_true]
  exact ⟨by decide, fun x _ => byteW_ok x⟩
theorem wordS_len (l : List Nat) : (wordS l).length ≤ 13 := by
  unfold wordS
  rw [List.length_cons, List.length_map, List.length_take]
  omega
theorem wordS_named (l : List Nat) : namedL (wordS l) = true := by
  rw [named_mid (by simp [wordS]) (by have := wordS_len l; omega)]
  exact wordS_plain l
/-- A slice of bytes that lies somewhere. -/
def Octs (p : Option Addr) (hs : List Nat) (w : World) : Prop :=
  ∀ k (h : k < hs.length), ∃ B off, p = some ⟨B, off, none⟩ ∧ B < w.heap.size ∧ w.cell? ⟨B, off + k, none⟩ = some (.int .u8 (hs[k] : Nat)) ∧ hs[k] < 256
theorem Octs.below {p : Option Addr} {hs : List Nat} {w w' : World} (h : Octs p hs w) (hB : Below w.heap.size w w') : Octs p hs w' := fun k hk => by
  obtain ⟨B, off, h1, h2, h3, h4⟩ := h k hk
  exact ⟨B, off, h1, Nat.lt_of_lt_of_le h2 hB.size, (hB.cell (p := ⟨B, off + k, none⟩) h2).trans h3, h4⟩

set_option maxRecDepth 100000 in
set_option maxHeartbeats 4000000 in
theorem word_any (p : Option Addr) (hs : List Nat) (cap : Nat) (hl : hs.length ≤ maxLen) (w : World) (hO : Octs p hs w) :
    Calls Tryz.prog 18 #[.slice p hs.length cap] w fun e w' => e = .returned (.string (tx (wordS hs))) ∧ Below w.heap.size w w' := by
  unfold maxLen at hl
  obtain ⟨i0, hi0, hz0, hz1, hz2⟩ := info_parts info_u8
  have G0 : Hid (Grew w.heap.size (.slice (some ⟨w.heap.size, 0, none⟩) 1 1) [119] (w.alloc (.cells #[.int .u8 119] 5)) (.slice (some ⟨w.heap.size, 0, none⟩) 1 1) (w.alloc (.cells #[.int .u8 119] 5))) :=
    Lib.hid (Grew.refl (World.ownsRow_lit (base := w.heap.size) (size := 1) w #[.int .u8 119] 1 (Nat.le_refl _) (by decide) rfl))
  have HO := Lib.hid hO
  have HW0 : Hid (Below w.heap.size w (w.alloc (.cells #[.int .u8 119] 5))) := Lib.hid ((Below.refl _ _).alloc (Nat.le_refl _) _)
  obtain ⟨n, hn⟩ : ∃ n, hs.length = n := ⟨_, rfl⟩
  rw [hn] at hl ⊢
  have HN := Lib.hid hn
  clear hO hn
  go_enter Tryz.func18, Tryz.ntmps18
  go_wp2
  go_loopg [3, 4] 12 (fun g s3 s4 wx => ∃ (k : Nat) (A : List UInt8), s4 = .int .i64 (k : Int) ∧ g + k = 12 ∧ k ≤ n ∧ A.length = k + 1 ∧ Hid (A = 119 :: (hs.take k).map byteW) ∧ Hid (Grew w.heap.size (.slice (some ⟨w.heap.size, 0, none⟩) 1 1) A (w.alloc (.cells #[.int .u8 119] 5)) s3 wx))
  case atStart => exact ⟨0, [119], rfl, rfl, Nat.zero_le _, rfl, Lib.hid rfl, G0⟩
  case round =>
    clear G0
    obtain ⟨k, A, rfl, hgk, hkn, hAl, HA, HG⟩ := hrel
    have hsz : w.heap.size ≤ wr.heap.size := Nat.le_trans HW0.out.size HG.out.2.1.size
    have hB := Lib.hid (HW0.out.trans (HG.out.below (N := w.heap.size) (by intro g hg; cases hg; exact Nat.le_refl _) HW0.out.size))
    by_cases hgo : k < n ∧ k < 12
    · obtain ⟨hk1, hk2⟩ := hgo
      have hkl : k < hs.length := by rw [HN.out]; exact hk1
      obtain ⟨C, off, rfl, hC, hcell, hx⟩ := HO.out k hkl
      have hcell2 := (hB.out.cell (p := ⟨C, off + k, none⟩) hC).trans hcell
      have htk : (hs.take (k + 1)).map byteW = (hs.take k).map byteW ++ [byteW hs[k]] := by
        rw [List.take_succ_eq_append_getElem hkl, List.map_append]; rfl
      have HTK := Lib.hid htk
      clear htk
      generalize hs[k]'hkl = x at hcell hcell2 hx HTK
      obtain ⟨r, hr, hr10⟩ : ∃ r : Nat, x % 10 = r ∧ r < 10 := ⟨x % 10, rfl, by omega⟩
      have hri : (x : Int) % 10 = (r : Int) := by omega
      have hbw := byteW_at hr hr10
      have HA2 : Hid (A ++ [tabW[r]'hr10] = 119 :: (hs.take (k + 1)).map byteW) := Lib.hid (by rw [HA.out, HTK.out, hbw]; rfl)
      obtain ⟨v2, w2, hr2, hG2⟩ := append_byte 25 HG.out.1 (tabW[r]'hr10) (by omega) hsz
      have HG' := Lib.hid (HG.out.trans hG2)
      clear HG hG2 hB hcell hC hbw hr HTK HA
      go_wp2_with (at_builtin; refine Lib.wpList_append_run _ rfl _ _ _ _ rfl _ _ rfl rfl _ _ hr2 ?_)
      go_roundg (12 - (k + 1))
      case measure => omega
      case rel => exact ⟨k + 1, _, by go_num, by omega, by omega, by rw [List.length_append, List.length_singleton]; omega, HA2, HG'⟩
    · have hend : (((k : Int) < (n : Int)) = False) ∨ ((k : Int) < (n : Int) ∧ ((k : Int) < 12) = False) := by
        by_cases h1 : k < n
        · exact .inr ⟨by omega, eq_false (by omega)⟩
        · exact .inl (eq_false (by omega))
      have hcv := own_back HG.out.1
      have hfin : A = wordS hs := by
        rw [HA.out]
        unfold wordS
        rcases Nat.lt_or_ge k 12 with h | h
        · rw [List.take_of_length_le (i := k) (by rw [HN.out]; omega), List.take_of_length_le (i := 12) (by rw [HN.out]; omega)]
        · rw [show k = 12 by omega]
      rw [hfin] at hcv
      clear HG hgo HA hfin
      rcases hend with h1 | ⟨h1, h2⟩
      · go_wp2
        go_ret
        exact ⟨rfl, hB.out⟩
      · go_wp2
        go_ret
        exact ⟨rfl, hB.out⟩
end Go.Proofs.YtdmkiiggpelmaaaGreatDoor.Lx

namespace Go.Proofs.YtdmkiiggpelmaaaGreatDoor.Lx
open Go Go.RowKit
attribute [local go_sem ↓] Go.wp_at_zero Go.wp_at_succ

/-- A slice of bytes, as it comes in. -/
structure ItemV where
  p : Option Addr
  xs : List Nat
  cap : Nat
def ItemV.val (x : ItemV) : Value := .slice x.p x.xs.length x.cap
/-- Slices of bytes that lie somewhere. -/
def Rows9 (p : Option Addr) (l : List ItemV) (w : World) : Prop :=
  ∀ k (h : k < l.length), ∃ B off, p = some ⟨B, off, none⟩ ∧ B < w.heap.size ∧ w.cell? ⟨B, off + k, none⟩ = some l[k].val ∧ Octs l[k].p l[k].xs w ∧ l[k].xs.length ≤ maxLen
theorem Rows9.below {p : Option Addr} {l : List ItemV} {w w' : World} (h : Rows9 p l w) (hB : Below w.heap.size w w') : Rows9 p l w' := fun k hk => by
  obtain ⟨B, off, h1, h2, h3, h4, h5⟩ := h k hk
  exact ⟨B, off, h1, Nat.lt_of_lt_of_le h2 hB.size, (hB.cell (p := ⟨B, off + k, none⟩) h2).trans h3, h4.below hB, h5⟩
/-- A line by its parts, as it comes in. -/
structure MadeV where
  name : List UInt8
  lp : Option Addr
  ls : List Lab
  lcap : Nat
  value : Int
  time : Int
  own : Bool
  np : Option Addr
  nm : List Nat
  ncap : Nat
  ip : Option Addr
  it : List ItemV
  icap : Nat
abbrev MadeV.vals (x : MadeV) : Array Value := #[.string (tx x.name), .slice x.lp x.ls.length x.lcap, .int .i64 x.value, .int .i64 x.time, .bool x.own, .slice x.np x.nm.length x.ncap, .slice x.ip x.it.length x.icap]
structure MadeV.fits (x : MadeV) (w : World) : Prop where
  hn : x.name.length ≤ maxLen
  hl : x.ls.length ≤ maxLen
  lb : LbAt x.lp x.ls w
  hv : In64 x.value
  ht : In64 x.time
  hm : x.nm.length ≤ maxLen
  oc : Octs x.np x.nm w
  hi : x.it.length ≤ maxLen
  rw : Rows9 x.ip x.it w
theorem MadeV.fits.below {x : MadeV} {w w' : World} (h : x.fits w) (hB : Below w.heap.size w w') : x.fits w' := ⟨h.hn, h.hl, h.lb.below hB, h.hv, h.ht, h.hm, h.oc.below hB, h.hi, h.rw.below hB⟩
/-- The time that is meant. -/
def timeM (t : Int) : Int := if t < 0 then -(t + 1) else t
/-- The labels that are meant. -/
def pairsM : Nat → List (List Nat) → List Lab
  | k + 1, a :: b :: r => (wordS a, wordS b) :: pairsM k r
  | _, _ => []
def lineM (x : MadeV) : LineV := ⟨wordS x.nm, pairsM 5 (x.it.map (·.xs)), x.value, timeM x.time⟩

/-- A line that is being made, its first parts. -/
def MRel (x : MadeV) (t : Int) (w : World) (s3 : Value) (wx : World) : Prop :=
  ∃ N, s3 = .pointer (some ⟨N, 0, none⟩) ∧ w.heap.size + 2 ≤ N ∧ CellsAt N (lineC (tx (wordS x.nm)) (.slice none 0 0) x.value t) wx ∧ CellsAt w.heap.size x.vals wx ∧ CellsAt (w.heap.size + 1) (lineC ⟨#[]⟩ (.slice none 0 0) 0 0) wx ∧ Below w.heap.size w wx
theorem belowD {B : Nat} {w w' : World} (h : Below B w w') : Below B w w'.drew := ⟨h.os, h.tape, h.output, h.size, h.block⟩
theorem keep3 {W0 w : World} {B : Nat} {a b c : Value} (h5 : W0.cell? ⟨B, 5, none⟩ = some a) (h2 : W0.cell? ⟨B, 2, none⟩ = some b) (h3 : W0.cell? ⟨B, 3, none⟩ = some c) (hlt : B < W0.heap.size) (hB : Below W0.heap.size W0 w) :
    Below W0.heap.size W0 w ∧ w.cell? ⟨B, 5, none⟩ = some a ∧ w.cell? ⟨B, 2, none⟩ = some b ∧ w.cell? ⟨B, 3, none⟩ = some c :=
  ⟨hB, (hB.cell (p := ⟨B, 5, none⟩) hlt).trans h5, (hB.cell (p := ⟨B, 2, none⟩) hlt).trans h2, (hB.cell (p := ⟨B, 3, none⟩) hlt).trans h3⟩

theorem rowL_of {N : Nat} {v : Value} {A : List Lab} {x : Lab} {w : World} (h : w.ownsRow (N) 46 2 v (A.length + 1) (flatL A ++ flatL [x])) : OwnL N v (A ++ [x]) w := by
  unfold OwnL
  rw [List.length_append, flatL_append]
  exact h
theorem pairsM_short (k : Nat) (l : List (List Nat)) (h : l.length ≤ 1) : pairsM k l = [] := by
  match l, k with
  | [], 0 => rfl
  | [], _ + 1 => rfl
  | [_], 0 => rfl
  | [_], _ + 1 => rfl
  | _ :: _ :: _, _ => simp at h
def Phi9 (H : Nat) (s1 s2 : ByteArray) (l : List Value) : Nat → Value → World → Prop
  | 16, v, wz => ∃ g, v = .slice (some ⟨g, 0, none⟩) 1 1 ∧ H ≤ g ∧ CellsAt g #[.string s1, .string s2] wz
  | i, v, _ => v = l.getD i undef
theorem Phi9.stays {H : Nat} {s1 s2 : ByteArray} {l : List Value} : ∀ (i : Nat) (v : Value) (w w' : World), Phi9 H s1 s2 l i v w → Reg.Old w w' → Phi9 H s1 s2 l i v w' := by
  intro i v w w' h hB
  by_cases hi : i = 16
  · subst hi
    obtain ⟨g, h1, h2, h3⟩ := h
    exact ⟨g, h1, h2, h3.below hB⟩
  · have e : ∀ u, Phi9 H s1 s2 l i v u = (v = l.getD i undef) := fun u => by
      unfold Phi9
      split
      · exact absurd rfl hi
      · rfl
    rw [e] at h ⊢
    exact h
theorem keep9 {W0 w : World} {B C b c lim : Nat} {x y z : Value} (h6 : W0.cell? ⟨B, 6, none⟩ = some x) (h1 : W0.cell? ⟨C, b, none⟩ = some y) (h2 : W0.cell? ⟨C, c, none⟩ = some z) (hB : B < lim) (hC : C < lim) (hl : lim ≤ W0.heap.size) (h : Mov (fun q => lim ≤ q) W0 w) :
    w.cell? ⟨B, 6, none⟩ = some x ∧ w.cell? ⟨C, b, none⟩ = some y ∧ w.cell? ⟨C, c, none⟩ = some z :=
  ⟨(h.cell (Nat.lt_of_lt_of_le hB hl) (Nat.not_le_of_lt hB)).trans h6, (h.cell (Nat.lt_of_lt_of_le hC hl) (Nat.not_le_of_lt hC)).trans h1, (h.cell (Nat.lt_of_lt_of_le hC hl) (Nat.not_le_of_lt hC)).trans h2⟩

set_option maxRecDepth 100000 in
set_option maxHeartbeats 8000000 in
theorem made_any (x : MadeV) (ho : x.own = true) (w : World) (hx : x.fits w) :
    Calls Tryz.prog 7 #[.agg x.vals] w fun e w' => ∃ v, e = .returned (.agg (lineC (tx (lineM x).name) v (lineM x).value (lineM x).time)) ∧ OwnL w.heap.size v (lineM x).labels w' ∧ Below w.heap.size w w' := by
  have hE0 : Below w.heap.size w (w.alloc (.cells x.vals 28)) := (Below.refl _ _).alloc (Nat.le_refl _) _
  have hE1 := hE0.alloc hE0.size (.cells (lineC ⟨#[]⟩ (.slice none 0 0) 0 0) 24)
  have HX := Lib.hid (hx.below hE1)
  have HXW := Lib.hid hx
  have HV := Lib.hid ((CellsAt.new x.vals 28 w).past (.cells (lineC ⟨#[]⟩ (.slice none 0 0) 0 0) 24))
  have HD := Lib.hid (CellsAt.newAt (lineC ⟨#[]⟩ (.slice none 0 0) 0 0) 24 (w.alloc (.cells x.vals 28)) (w.heap.size + 1) (by simp))
  have HE := Lib.hid hE1
  obtain ⟨name, lp, ls, lcap, value, time, own, np, nm, ncap, ip, it, icap⟩ := x
  simp only at ho
  subst ho
  clear hx hE0 hE1
  simp only [MadeV.vals] at HV HE HX HD ⊢
  have hw := fun W h => word_any np nm ncap HX.out.hm W h
  have k1 := HV.out.cell 4 _ rfl
  go_enter Tryz.func7, Tryz.ntmps7
  go_upto_region 3 with fail
  go_cut [3] (fun s3 wx => MRel ⟨name, lp, ls, lcap, value, time, true, np, nm, ncap, ip, it, icap⟩ time w s3 wx)
  case first =>
    clear k1
    refine wp_gen (fun W => Hid (MadeV.fits ⟨name, lp, ls, lcap, value, time, true, np, nm, ncap, ip, it, icap⟩ W) ∧ Hid (CellsAt w.heap.size #[.string (tx name), .slice lp ls.length lcap, .int .i64 value, .int .i64 time, .bool true, .slice np nm.length ncap, .slice ip it.length icap] W) ∧ Hid (CellsAt (w.heap.size + 1) (lineC ⟨#[]⟩ (.slice none 0 0) 0 0) W) ∧ Hid (Below w.heap.size w W)) ⟨HX, HV, HD, HE⟩ ?_
    clear HX HV HD HE
    rintro W0 ⟨HX, HV, HD, HE⟩
    have HO := Lib.hid HX.out.oc
    have k5 := HV.out.cell 5 _ rfl
    have k2 := HV.out.cell 2 _ rfl
    have k3 := HV.out.cell 3 _ rfl
    have hB0 : Below W0.heap.size W0 W0.drew := ⟨rfl, rfl, rfl, Nat.le_refl _, fun _ _ => rfl⟩
    have hlt := HV.out.lt
    have hlt2 := HD.out.lt
    have hBz : Below W0.heap.size W0 (W0.alloc (.cells (lineC ⟨#[]⟩ (.slice none 0 0) 0 0) 24)).drew := belowD ((Below.refl _ _).alloc (Nat.le_refl _) _)
    have hCz : Hid (CellsAt W0.heap.size (lineC ⟨#[]⟩ (.slice none 0 0) 0 0) (W0.alloc (.cells (lineC ⟨#[]⟩ (.slice none 0 0) 0 0) 24)).drew) := Lib.hid (CellsAt.new _ _ _).drew
    go_region_held3 (fun w' => Below W0.heap.size W0 w' ∧ w'.cell? ⟨w.heap.size, 5, none⟩ = some (.slice np nm.length ncap) ∧ w'.cell? ⟨w.heap.size, 2, none⟩ = some (.int .i64 value) ∧ w'.cell? ⟨w.heap.size, 3, none⟩ = some (.int .i64 time))
      ((refine keep3 k5 k2 k3 hlt ?_; first
        | assumption
        | exact hB0.trans hB
        | exact (hB0.trans hB).alloc hB.size _
        | exact (Below.refl _ _).alloc (Nat.le_refl _) _
        | exact belowD ((Below.refl _ _).alloc (Nat.le_refl _) _)
        | exact (belowD ((Below.refl _ _).alloc (Nat.le_refl _) _)).trans (hB.mono (by simp))
        | exact (((((belowD ((Below.refl _ _).alloc (Nat.le_refl _) _)).trans (hB.mono (by simp))).setCell (by simp) _).setCell (by simp) _).setCell (by simp) _).setCell (by simp) _))
      (first
        | (go_at_call 18; refine (hw _ (HO.out.below hBz)).mono ?_; rintro e w' ⟨rfl, hB⟩; have n0 := (hCz.out.below hB).cell 0 _ rfl; have n1 := (hCz.out.below hB).cell 1 _ rfl; have n2 := (hCz.out.below hB).cell 2 _ rfl; have n3 := (hCz.out.below hB).cell 3 _ rfl; have m0 := (hCz.out.below hB).fro 0 _ rfl; have m1 := (hCz.out.below hB).fro 1 _ rfl; have m2 := (hCz.out.below hB).fro 2 _ rfl; have m3 := (hCz.out.below hB).fro 3 _ rfl)
        | (go_at_call 18; refine (hw _ (HO.out.below hB0)).mono ?_; rintro e w' ⟨rfl, hB⟩))
    · have hBel := (hB0.trans hB).alloc hB.size (.cells (lineC (tx (wordS nm)) (.slice none 0 0) value time) 24)
      go_wp2
      go_meet
      case rel => exact ⟨_, rfl, Nat.le_trans hlt2 hB.size, CellsAt.new _ _ _, HV.out.below hBel, HD.out.below hBel, HE.out.trans (hBel.mono HE.out.size)⟩
    · have hBel := ((((belowD ((Below.refl W0.heap.size W0).alloc (Nat.le_refl _) (.cells (lineC ⟨#[]⟩ (.slice none 0 0) 0 0) 24))).trans (hB.mono (by simp))).setCell (p := ⟨W0.heap.size, 0, none⟩) (Nat.le_refl _) (.string (tx (wordS nm)))).setCell (p := ⟨W0.heap.size, 1, none⟩) (Nat.le_refl _) (.slice none 0 0)).setCell (p := ⟨W0.heap.size, 2, none⟩) (Nat.le_refl _) (.int .i64 value) |>.setCell (p := ⟨W0.heap.size, 3, none⟩) (Nat.le_refl _) (.int .i64 time)
      have hC := ((((hCz.out.below hB).set 0 (.string (tx (wordS nm))) (by simp)).set 1 (.slice none 0 0) (by simp)).set 2 (.int .i64 value) (by simp)).set 3 (.int .i64 time) (by simp)
      go_wp2
      go_meet
      case rel => exact ⟨_, rfl, hlt2, hC, HV.out.below hBel, HD.out.below hBel, HE.out.trans (hBel.mono HE.out.size)⟩
  obtain ⟨N, rfl, hN, hC, hV, hD, hE⟩ := hcut
  clear HX HV HD HE hw k1
  have HV := Lib.hid hV
  have HD := Lib.hid hD
  have HE := Lib.hid hE
  have HC := Lib.hid hC
  have hvt : In64 value := HXW.out.hv
  have htt : In64 time := HXW.out.ht
  clear hV hD hE hC
  have c3 := HC.out.cell 3 _ rfl
  have f3 := HC.out.fro 3 _ rfl
  unfold In64 at htt hvt
  obtain ⟨tm, htm⟩ : ∃ tm, timeM time = tm := ⟨_, rfl⟩
  have HTM := Lib.hid htm
  clear htm
  go_upto_if 22 with fail
  go_cut [3] from 5 (fun s3 wx => MRel ⟨name, lp, ls, lcap, value, time, true, np, nm, ncap, ip, it, icap⟩ tm w s3 wx)
  case first =>
    by_cases ht : time < 0
    · obtain rfl : tm = -(time + 1) := HTM.out.symm.trans (if_pos ht)
      have HC' : Hid (CellsAt N (lineC (tx (wordS nm)) (.slice none 0 0) value (-(time + 1))) (wc.setCell ⟨N, 3, none⟩ (.int .i64 (-(time + 1))))) := Lib.hid (HC.out.set 3 (.int .i64 (-(time + 1))) (by simp))
      have hlN := HC.out.lt
      have hwr : IntKind.i64.wrap (-(time + 1)) = -(time + 1) := IntWalk.i64_in _ (by omega)
      have HBel : Hid (Below (w.heap.size + 2) wc (wc.setCell ⟨N, 3, none⟩ (.int .i64 (-(time + 1))))) := Lib.hid ((Below.refl _ _).setCell (p := ⟨N, 3, none⟩) hN _)
      go_wp2
      go_meet
      case rel => exact ⟨N, rfl, hN, HC'.out, HV.out.belowAt HBel.out (by omega), HD.out.belowAt HBel.out (by omega), HE.out.trans (HBel.out.mono (by omega))⟩
    · have HTE : Hid (tm = time) := Lib.hid (HTM.out.symm.trans (if_neg ht))
      have h0 : 0 ≤ time := by omega
      go_wp2
      go_meet
      case rel => exact ⟨N, rfl, hN, by rw [HTE.out]; exact HC.out, HV.out, HD.out, HE.out⟩
  clear HV HD HE HC c3 f3 hvt htt
  obtain ⟨N, rfl, hN, hC, hV, hD, hE⟩ := hcut
  have HV := Lib.hid hV
  have HD := Lib.hid hD
  have HE := Lib.hid hE
  have HC := Lib.hid hC
  have hlim := hC.lt
  clear hV hD hE hC
  obtain ⟨P5, hP5⟩ : ∃ P, pairsM 5 (it.map (·.xs)) = P := ⟨_, rfl⟩
  have HP5 := Lib.hid hP5
  clear hP5
  have hitm : it.length ≤ 9223372036854775807 := by have := HXW.out.hi; unfold maxLen at this; exact this
  go_wp2
  go_loopg [4] 5 (fun g s4 wx => ∃ (k j : Nat) (A : List Lab) (v : Value), g + k = 5 ∧ 2 * k = j ∧ s4 = .int .i64 (j : Int) ∧ j ≤ it.length ∧ A.length = k ∧ Hid (P5 = A ++ pairsM g ((it.map (·.xs)).drop j)) ∧ Hid (CellsAt N (lineC (tx (wordS nm)) v value tm) wx) ∧ Hid (OwnL (N + 1) v A wx) ∧ Hid (CellsAt w.heap.size #[.string (tx name), .slice lp ls.length lcap, .int .i64 value, .int .i64 time, .bool true, .slice np nm.length ncap, .slice ip it.length icap] wx) ∧ Hid (CellsAt (w.heap.size + 1) (lineC ⟨#[]⟩ (.slice none 0 0) 0 0) wx) ∧ Hid (Below w.heap.size w wx))
  case atStart => exact ⟨0, 0, [], _, rfl, rfl, rfl, Nat.zero_le _, rfl, Lib.hid HP5.out.symm, HC, Lib.hid (OwnL.nil _ _), HV, HD, HE⟩
  case round =>
    clear HV HD HE HC hlim
    obtain ⟨k, j, A, v, hgk, hkj, rfl, hjl, hAl, HP, HC, HO, HV, HD, HE⟩ := hrel
    have hlim := HC.out.lt
    obtain ⟨vp, vcap, rfl⟩ := HO.out.len
    have hA5 : A.length ≤ 5 := by omega
    have HAL := Lib.hid hAl
    have HKJ := Lib.hid hkj
    have hkj2 : j ≤ 10 := by omega
    have hkj3 : k < 5 → j < 10 := by omega
    have hkj4 : k < 5 → (j : Int) < 10 := by omega
    clear hAl hkj
    have k6 := HV.out.cell 6 _ rfl
    by_cases hgo : j + 1 < it.length ∧ k < 5
    · obtain ⟨hj1, hk5⟩ := hgo
      obtain ⟨g, rfl⟩ : ∃ g, gk = g + 1 := ⟨gk - 1, by omega⟩
      have hj10 := hkj4 hk5
      clear hkj3 hkj4
      have hw1 : IntKind.i64.wrap ((j : Int) + 1) = (j : Int) + 1 := IntWalk.i64_in _ (by omega)
      have hji : (j : Int) + 1 < (it.length : Int) := by omega
      have hji0 : (j : Int) < (it.length : Int) := by omega
      obtain ⟨C, off, rfl, hC, c1, o1, l1⟩ := HXW.out.rw j (by show j < it.length; omega)
      obtain ⟨C', off', he', _, c2, o2, l2⟩ := HXW.out.rw (j + 1) hj1
      simp only [Option.some.injEq, Addr.mk.injEq, and_true] at he'
      obtain ⟨rfl, rfl⟩ := he'
      have hpr : pairsM (g + 1) ((it.map (·.xs)).drop j) = (wordS it[j].xs, wordS it[j + 1].xs) :: pairsM g ((it.map (·.xs)).drop (j + 2)) := by
        rw [List.drop_eq_getElem_cons (by rw [List.length_map]; omega), List.drop_eq_getElem_cons (by rw [List.length_map]; omega)]
        simp only [List.getElem_map]
        rfl
      have HPR := Lib.hid hpr
      clear hpr
      simp only at c1 c2 o1 o2 l1 l2
      unfold ItemV.val at c1 c2
      generalize it[j] = x1 at c1 o1 l1 HPR
      generalize it[j + 1] = x2 at c2 o2 l2 HPR
      obtain ⟨p1, xs1, cap1⟩ := x1
      obtain ⟨p2, xs2, cap2⟩ := x2
      simp only at c1 c2 o1 o2 l1 l2 HPR
      have i1 := (HE.out.cell (p := ⟨C, off + j, none⟩) hC).trans c1
      have i2 := (HE.out.cell (p := ⟨C, off + (j + 1), none⟩) hC).trans c2
      have hwa := fun W h => word_any p1 xs1 cap1 l1 W h
      have hwb := fun W h => word_any p2 xs2 cap2 l2 W h
      have HO1 := Lib.hid o1
      have HO2 := Lib.hid o2
      have HP2 : Hid (P5 = (A ++ [(wordS xs1, wordS xs2)]) ++ pairsM g ((it.map (·.xs)).drop (j + 2))) := Lib.hid (by rw [HP.out, HPR.out, List.append_assoc]; rfl)
      clear c1 c2 o1 o2 l1 l2 HP HPR
      go_upto_block 1 with fail
      go_cut [] from 28 to 58 (fun wx => ∃ v' : Value, CellsAt N (lineC (tx (wordS nm)) v' value tm) wx ∧ OwnL (N + 1) v' (A ++ [(wordS xs1, wordS xs2)]) wx ∧ Mov (fun q => w.heap.size + 2 ≤ q) wr wx)
      case first =>
        obtain ⟨i0, hi0, hz0, hz1, hz2⟩ := info_parts2 info_lab
        have hE0 : Below w.heap.size w wr.drew := belowD HE.out
        have hO0 : Hid (OwnL (N + 1) (.slice vp A.length vcap) A wr.drew) := Lib.hid HO.out
        have hC0 : Hid (CellsAt N (lineC (tx (wordS nm)) (.slice vp A.length vcap) value tm) wr.drew) := Lib.hid HC.out.drew
        have hV0 : Hid (CellsAt w.heap.size #[.string (tx name), .slice lp ls.length lcap, .int .i64 value, .int .i64 time, .bool true, .slice np nm.length ncap, .slice (some ⟨C, off, none⟩) it.length icap] wr.drew) := Lib.hid HV.out.drew
        have M0 : Hid (Mov (fun q => w.heap.size + 2 ≤ q) wr wr.drew) := Lib.hid (Mov.refl _ _).drew
        have hlw : w.heap.size + 2 ≤ wr.heap.size := by omega
        have hCl : C < wr.drew.heap.size := Nat.lt_of_lt_of_le hC HE.out.size
        have htn : ((j : Int) + 1).toNat = j + 1 := by omega
        have hji1 : 0 ≤ (j : Int) + 1 := by omega
        go_wp2
        refine Reg.wp_region_tail (n := 60) 17 (Phi9 wr.heap.size (tx (wordS xs1)) (tx (wordS xs2)) [.pointer (some ⟨N, 1, none⟩), .slice vp A.length vcap, .pointer (some ⟨w.heap.size, 6, none⟩), .slice (some ⟨C, off, none⟩) it.length icap, .int .i64 (j : Int), .pointer (some ⟨C, off + j, none⟩), .slice p1 xs1.length cap1, .string (tx (wordS xs1)), .pointer (some ⟨w.heap.size, 6, none⟩), .slice (some ⟨C, off, none⟩) it.length icap, .int .i64 (j : Int), .int .i64 ((j : Int) + 1), .pointer (some ⟨C, off + (j + 1), none⟩), .slice p2 xs2.length cap2, .string (tx (wordS xs2)), .agg #[.string (tx (wordS xs1)), .string (tx (wordS xs2))]]) (by kernel_rfl) (by decide) (by kernel_rfl) (by kernel_rfl) (by kernel_rfl) rfl Phi9.stays ?_ ?_
        · refine ⟨?_, ?_, ?_, ?_, ?_, ?_, ?_, ?_, ?_, ?_, ?_, ?_, ?_, ?_, ?_, ?_, ?_, trivial⟩
          · intro cx wc hB hp hs
            have g3 : cx.tmps[3]? = some (.pointer (some ⟨N, 0, none⟩)) := (hs 3 (by kernel_rfl)).trans rfl
            refine Reg.ok_value Reg.Old.refl (v := .pointer (some ⟨N, 1, none⟩)) (Reg.wanted_none rfl) ?_ rfl
            go_simp
          · intro cx wc hB hp hs
            have g40 : cx.tmps[40]? = some (.pointer (some ⟨N, 1, none⟩)) := by obtain ⟨_, g, hv⟩ := Reg.pred hp 0 40 (by kernel_rfl) rfl rfl; exact g.trans (congrArg some hv)
            have k1 := (hC0.out.below hB).cell 1 (.slice vp A.length vcap) rfl
            refine Reg.ok_value Reg.Old.refl (v := .slice vp A.length vcap) (Reg.wanted_none rfl) ?_ rfl
            go_simp
          · intro cx wc hB hp hs
            have g1 : cx.tmps[1]? = some (.pointer (some ⟨w.heap.size, 0, none⟩)) := (hs 1 (by kernel_rfl)).trans rfl
            refine Reg.ok_value Reg.Old.refl (v := .pointer (some ⟨w.heap.size, 6, none⟩)) (Reg.wanted_none rfl) ?_ rfl
            go_simp
          · intro cx wc hB hp hs
            have g42 : cx.tmps[42]? = some (.pointer (some ⟨w.heap.size, 6, none⟩)) := by obtain ⟨_, g, hv⟩ := Reg.pred hp 2 42 (by kernel_rfl) rfl rfl; exact g.trans (congrArg some hv)
            have k1 := (hV0.out.below hB).cell 6 (.slice (some ⟨C, off, none⟩) it.length icap) rfl
            refine Reg.ok_value Reg.Old.refl (v := .slice (some ⟨C, off, none⟩) it.length icap) (Reg.wanted_none rfl) ?_ rfl
            go_simp
          · intro cx wc hB hp hs
            have g4 : cx.tmps[4]? = some (.int .i64 (j : Int)) := (hs 4 (by kernel_rfl)).trans rfl
            refine Reg.ok_value Reg.Old.refl (v := .int .i64 (j : Int)) (Reg.wanted_none rfl) ?_ rfl
            go_simp
          · intro cx wc hB hp hs
            have g43 : cx.tmps[43]? = some (.slice (some ⟨C, off, none⟩) it.length icap) := by obtain ⟨_, g, hv⟩ := Reg.pred hp 3 43 (by kernel_rfl) rfl rfl; exact g.trans (congrArg some hv)
            have g44 : cx.tmps[44]? = some (.int .i64 (j : Int)) := by obtain ⟨_, g, hv⟩ := Reg.pred hp 4 44 (by kernel_rfl) rfl rfl; exact g.trans (congrArg some hv)
            refine Reg.ok_value Reg.Old.refl (v := .pointer (some ⟨C, off + j, none⟩)) (Reg.wanted_none rfl) ?_ rfl
            go_simp
          · intro cx wc hB hp hs
            have g45 : cx.tmps[45]? = some (.pointer (some ⟨C, off + j, none⟩)) := by obtain ⟨_, g, hv⟩ := Reg.pred hp 5 45 (by kernel_rfl) rfl rfl; exact g.trans (congrArg some hv)
            have k1 := (Below.cell (p := ⟨C, off + j, none⟩) hB hCl).trans i1
            refine Reg.ok_value Reg.Old.refl (v := .slice p1 xs1.length cap1) (Reg.wanted_none rfl) ?_ rfl
            go_simp
          · intro cx wc hB hp hs
            have g46 : cx.tmps[46]? = some (.slice p1 xs1.length cap1) := by obtain ⟨_, g, hv⟩ := Reg.pred hp 6 46 (by kernel_rfl) rfl rfl; exact g.trans (congrArg some hv)
            refine Reg.ok_call (f := 18) (args := #[.slice p1 xs1.length cap1]) (Reg.wanted_none rfl) (by go_simp) ((hwa _ (HO1.out.below (hE0.trans (Below.mono hB hE0.size)))).mono ?_)
            rintro e w' ⟨rfl, hB2⟩
            exact ⟨_, rfl, hB2, rfl⟩
          · intro cx wc hB hp hs
            have g1 : cx.tmps[1]? = some (.pointer (some ⟨w.heap.size, 0, none⟩)) := (hs 1 (by kernel_rfl)).trans rfl
            refine Reg.ok_value Reg.Old.refl (v := .pointer (some ⟨w.heap.size, 6, none⟩)) (Reg.wanted_none rfl) ?_ rfl
            go_simp
          · intro cx wc hB hp hs
            have g48 : cx.tmps[48]? = some (.pointer (some ⟨w.heap.size, 6, none⟩)) := by obtain ⟨_, g, hv⟩ := Reg.pred hp 8 48 (by kernel_rfl) rfl rfl; exact g.trans (congrArg some hv)
            have k1 := (hV0.out.below hB).cell 6 (.slice (some ⟨C, off, none⟩) it.length icap) rfl
            refine Reg.ok_value Reg.Old.refl (v := .slice (some ⟨C, off, none⟩) it.length icap) (Reg.wanted_none rfl) ?_ rfl
            go_simp
          · intro cx wc hB hp hs
            have g4 : cx.tmps[4]? = some (.int .i64 (j : Int)) := (hs 4 (by kernel_rfl)).trans rfl
            refine Reg.ok_value Reg.Old.refl (v := .int .i64 (j : Int)) (Reg.wanted_none rfl) ?_ rfl
            go_simp
          · intro cx wc hB hp hs
            have g50 : cx.tmps[50]? = some (.int .i64 (j : Int)) := by obtain ⟨_, g, hv⟩ := Reg.pred hp 10 50 (by kernel_rfl) rfl rfl; exact g.trans (congrArg some hv)
            refine Reg.ok_value Reg.Old.refl (v := .int .i64 ((j : Int) + 1)) (Reg.wanted_none rfl) ?_ rfl
            go_simp
          · intro cx wc hB hp hs
            have g49 : cx.tmps[49]? = some (.slice (some ⟨C, off, none⟩) it.length icap) := by obtain ⟨_, g, hv⟩ := Reg.pred hp 9 49 (by kernel_rfl) rfl rfl; exact g.trans (congrArg some hv)
            have g51 : cx.tmps[51]? = some (.int .i64 ((j : Int) + 1)) := by obtain ⟨_, g, hv⟩ := Reg.pred hp 11 51 (by kernel_rfl) rfl rfl; exact g.trans (congrArg some hv)
            refine Reg.ok_value Reg.Old.refl (v := .pointer (some ⟨C, off + (j + 1), none⟩)) (Reg.wanted_none rfl) ?_ rfl
            go_simp
          · intro cx wc hB hp hs
            have g52 : cx.tmps[52]? = some (.pointer (some ⟨C, off + (j + 1), none⟩)) := by obtain ⟨_, g, hv⟩ := Reg.pred hp 12 52 (by kernel_rfl) rfl rfl; exact g.trans (congrArg some hv)
            have k1 := (Below.cell (p := ⟨C, off + (j + 1), none⟩) hB hCl).trans i2
            refine Reg.ok_value Reg.Old.refl (v := .slice p2 xs2.length cap2) (Reg.wanted_none rfl) ?_ rfl
            go_simp
          · intro cx wc hB hp hs
            have g53 : cx.tmps[53]? = some (.slice p2 xs2.length cap2) := by obtain ⟨_, g, hv⟩ := Reg.pred hp 13 53 (by kernel_rfl) rfl rfl; exact g.trans (congrArg some hv)
            refine Reg.ok_call (f := 18) (args := #[.slice p2 xs2.length cap2]) (Reg.wanted_none rfl) (by go_simp) ((hwb _ (HO2.out.below (hE0.trans (Below.mono hB hE0.size)))).mono ?_)
            rintro e w' ⟨rfl, hB2⟩
            exact ⟨_, rfl, hB2, rfl⟩
          · intro cx wc hB hp hs
            have g47 : cx.tmps[47]? = some (.string (tx (wordS xs1))) := by obtain ⟨_, g, hv⟩ := Reg.pred hp 7 47 (by kernel_rfl) rfl rfl; exact g.trans (congrArg some hv)
            have g54 : cx.tmps[54]? = some (.string (tx (wordS xs2))) := by obtain ⟨_, g, hv⟩ := Reg.pred hp 14 54 (by kernel_rfl) rfl rfl; exact g.trans (congrArg some hv)
            refine Reg.ok_value Reg.Old.refl (v := .agg #[.string (tx (wordS xs1)), .string (tx (wordS xs2))]) (Reg.wanted_none rfl) ?_ rfl
            go_simp
          · intro cx wc hB hp hs
            have g55 : cx.tmps[55]? = some (.agg #[.string (tx (wordS xs1)), .string (tx (wordS xs2))]) := by obtain ⟨_, g, hv⟩ := Reg.pred hp 15 55 (by kernel_rfl) rfl rfl; exact g.trans (congrArg some hv)
            refine Reg.ok_made (v := .slice (some ⟨wc.heap.size, 0, none⟩) 1 1) (w2 := wc.alloc (.cells #[.string (tx (wordS xs1)), .string (tx (wordS xs2))] 46)) (Reg.wanted_none rfl) ?_ ((Below.refl _ _).alloc (Nat.le_refl _) _) ⟨wc.heap.size, rfl, (show Below wr.drew.heap.size wr.drew wc from hB).size, CellsAt.new _ _ _⟩
            go_simp
        · intro cx w1 hB hsz hdf hv ho
          obtain ⟨_, g56, g, rfl, hgl, hcg⟩ := hv 16 _ 56 (by decide) rfl rfl
          have hcx := Reg.frame_eq [_, _, _, _, _, _, _, _, _, _, _, _, _, _, _, _, _, _, _, _, _, _, _, _, _, _, _, _, _, _, _, _, _, _, _, _, _, _, _, _, .pointer (some ⟨N, 1, none⟩), .slice vp A.length vcap, .pointer (some ⟨w.heap.size, 6, none⟩), .slice (some ⟨C, off, none⟩) it.length icap, .int .i64 (j : Int), .pointer (some ⟨C, off + j, none⟩), .slice p1 xs1.length cap1, .string (tx (wordS xs1)), .pointer (some ⟨w.heap.size, 6, none⟩), .slice (some ⟨C, off, none⟩) it.length icap, .int .i64 (j : Int), .int .i64 ((j : Int) + 1), .pointer (some ⟨C, off + (j + 1), none⟩), .slice p2 xs2.length cap2, .string (tx (wordS xs2)), .agg #[.string (tx (wordS xs1)), .string (tx (wordS xs2))], .slice (some ⟨g, 0, none⟩) 1 1, _, _, _] (by simpa using hsz) hdf ⟨((Reg.kept_past ho 0 (by kernel_rfl)).trans rfl), ((Reg.kept_past ho 1 (by kernel_rfl)).trans rfl), ((Reg.kept_past ho 2 (by kernel_rfl)).trans rfl), ((Reg.kept_past ho 3 (by kernel_rfl)).trans rfl), ((Reg.kept_past ho 4 (by kernel_rfl)).trans rfl), ((Reg.kept_past ho 5 (by kernel_rfl)).trans rfl), ((Reg.kept_past ho 6 (by kernel_rfl)).trans rfl), ((Reg.kept_past ho 7 (by kernel_rfl)).trans rfl), ((Reg.kept_past ho 8 (by kernel_rfl)).trans rfl), ((Reg.kept_past ho 9 (by kernel_rfl)).trans rfl), ((Reg.kept_past ho 10 (by kernel_rfl)).trans rfl), ((Reg.kept_past ho 11 (by kernel_rfl)).trans rfl), ((Reg.kept_past ho 12 (by kernel_rfl)).trans rfl), ((Reg.kept_past ho 13 (by kernel_rfl)).trans rfl), ((Reg.kept_past ho 14 (by kernel_rfl)).trans rfl), ((Reg.kept_past ho 15 (by kernel_rfl)).trans rfl), ((Reg.kept_past ho 16 (by kernel_rfl)).trans rfl), ((Reg.kept_past ho 17 (by kernel_rfl)).trans rfl), ((Reg.kept_past ho 18 (by kernel_rfl)).trans rfl), ((Reg.kept_past ho 19 (by kernel_rfl)).trans rfl), ((Reg.kept_past ho 20 (by kernel_rfl)).trans rfl), ((Reg.kept_past ho 21 (by kernel_rfl)).trans rfl), ((Reg.kept_past ho 22 (by kernel_rfl)).trans rfl), ((Reg.kept_past ho 23 (by kernel_rfl)).trans rfl), ((Reg.kept_past ho 24 (by kernel_rfl)).trans rfl), ((Reg.kept_past ho 25 (by kernel_rfl)).trans rfl), ((Reg.kept_past ho 26 (by kernel_rfl)).trans rfl), ((Reg.kept_past ho 27 (by kernel_rfl)).trans rfl), ((Reg.kept_past ho 28 (by kernel_rfl)).trans rfl), ((Reg.kept_past ho 29 (by kernel_rfl)).trans rfl), ((Reg.kept_past ho 30 (by kernel_rfl)).trans rfl), ((Reg.kept_past ho 31 (by kernel_rfl)).trans rfl), ((Reg.kept_past ho 32 (by kernel_rfl)).trans rfl), ((Reg.kept_past ho 33 (by kernel_rfl)).trans rfl), ((Reg.kept_past ho 34 (by kernel_rfl)).trans rfl), ((Reg.kept_past ho 35 (by kernel_rfl)).trans rfl), ((Reg.kept_past ho 36 (by kernel_rfl)).trans rfl), ((Reg.kept_past ho 37 (by kernel_rfl)).trans rfl), ((Reg.kept_past ho 38 (by kernel_rfl)).trans rfl), ((Reg.kept_past ho 39 (by kernel_rfl)).trans rfl), (by obtain ⟨_, g, hx⟩ := hv 0 _ 40 (by decide) rfl rfl; exact g.trans (congrArg some hx)), (by obtain ⟨_, g, hx⟩ := hv 1 _ 41 (by decide) rfl rfl; exact g.trans (congrArg some hx)), (by obtain ⟨_, g, hx⟩ := hv 2 _ 42 (by decide) rfl rfl; exact g.trans (congrArg some hx)), (by obtain ⟨_, g, hx⟩ := hv 3 _ 43 (by decide) rfl rfl; exact g.trans (congrArg some hx)), (by obtain ⟨_, g, hx⟩ := hv 4 _ 44 (by decide) rfl rfl; exact g.trans (congrArg some hx)), (by obtain ⟨_, g, hx⟩ := hv 5 _ 45 (by decide) rfl rfl; exact g.trans (congrArg some hx)), (by obtain ⟨_, g, hx⟩ := hv 6 _ 46 (by decide) rfl rfl; exact g.trans (congrArg some hx)), (by obtain ⟨_, g, hx⟩ := hv 7 _ 47 (by decide) rfl rfl; exact g.trans (congrArg some hx)), (by obtain ⟨_, g, hx⟩ := hv 8 _ 48 (by decide) rfl rfl; exact g.trans (congrArg some hx)), (by obtain ⟨_, g, hx⟩ := hv 9 _ 49 (by decide) rfl rfl; exact g.trans (congrArg some hx)), (by obtain ⟨_, g, hx⟩ := hv 10 _ 50 (by decide) rfl rfl; exact g.trans (congrArg some hx)), (by obtain ⟨_, g, hx⟩ := hv 11 _ 51 (by decide) rfl rfl; exact g.trans (congrArg some hx)), (by obtain ⟨_, g, hx⟩ := hv 12 _ 52 (by decide) rfl rfl; exact g.trans (congrArg some hx)), (by obtain ⟨_, g, hx⟩ := hv 13 _ 53 (by decide) rfl rfl; exact g.trans (congrArg some hx)), (by obtain ⟨_, g, hx⟩ := hv 14 _ 54 (by decide) rfl rfl; exact g.trans (congrArg some hx)), (by obtain ⟨_, g, hx⟩ := hv 15 _ 55 (by decide) rfl rfl; exact g.trans (congrArg some hx)), g56, ((Reg.kept_past ho 57 (by kernel_rfl)).trans rfl), ((Reg.kept_past ho 58 (by kernel_rfl)).trans rfl), ((Reg.kept_past ho 59 (by kernel_rfl)).trans rfl), trivial⟩
          rw [hcx]
          have HO1x := Lib.hid (hO0.out.below hB)
          have HC1x := Lib.hid (hC0.out.below hB)
          have HM1x := Lib.hid (Mov.trans (S := fun q => w.heap.size + 2 ≤ q) (T := fun q => w.heap.size + 2 ≤ q) M0.out (Mov.ofB hB) (fun _ _ h => h))
          have hw1 : wr.heap.size ≤ w1.heap.size := (show Below wr.drew.heap.size wr.drew w1 from hB).size
          simp only [List.drop_succ_cons, List.drop_zero]
          clear hv ho hsz hdf hcx
          obtain ⟨v2, w3, hr3, hown, hgrow, hat⟩ := run_append_at (P := Tryz.prog) w1 (N + 1) 22 22 46 i0 _ 2 32 Tryz.underlying22 hi0 hz0 hz1 hz2 rfl (by decide) (.slice vp A.length vcap) A.length (flatL A) HO1x.out ⟨g, 0, none⟩ 1 1 (flatL [(wordS xs1, wordS xs2)]) rfl (fun i u hi => by rw [Addr.add_lit, Nat.zero_add]; exact hcg.cell i u (by rw [← hi]; simp [flatL])) (flatL_one _) (by unfold maxLen; omega) (by omega) (by omega)
          have hOw := rowL_of hown
          have hMa := Mov.trans (S := fun q => w.heap.size + 2 ≤ q) HM1x.out (Mov.grown hgrow) (fun i _ hi => by have := (HO1x.out.lt hi).1; omega)
          have hCa := cells_mov HC1x.out (Mov.grown hgrow) (fun hi => by have := (HO1x.out.lt hi).1; omega)
          obtain ⟨vq, cq, rfl⟩ := hOw.len
          have HOw := Lib.hid hOw
          have HMa := Lib.hid hMa
          have HCa := Lib.hid hCa
          have nA := hCa.cell 1 _ rfl
          have fA := hCa.fro 1 _ rfl
          clear hOw hMa hCa hown hgrow hat hcg hB hw1 HO1x HC1x HM1x
          go_wp2_with (at_builtin; refine Lib.wpList_append_run _ rfl _ _ _ _ rfl _ _ rfl rfl _ _ hr3 ?_)
          go_meet
          case rel => exact ⟨.slice vq (A.length + 1) cq, HCa.out.set 1 (.slice vq (A.length + 1) cq) (by simp), by have h := HOw.out; rw [List.length_append] at h; exact h.mov (Mov.set (S := fun q => q = N) (Mov.refl _ _) rfl 1 _) (fun q hq e => by have := (h.lt hq).1; omega), Mov.set (S := fun q => w.heap.size + 2 ≤ q) HMa.out hN 1 _⟩
      obtain ⟨v', hC2, hO2, hM2⟩ := hcut
      obtain ⟨vq, cq, rfl⟩ := hO2.len
      have hlw2 : w.heap.size + 2 ≤ wr.heap.size := by omega
      have HC2 := Lib.hid hC2
      have HO2' := Lib.hid hO2
      have HV2 := Lib.hid (cells_mov HV.out hM2 (by omega))
      have HD2 := Lib.hid (cells_mov HD.out hM2 (by omega))
      have HE2 := Lib.hid (HE.out.trans (hM2.below (fun q hq => by omega) HE.out.size))
      have HL2 : Hid ((A ++ [(wordS xs1, wordS xs2)]).length = k + 1) := Lib.hid (by rw [List.length_append, HAL.out]; rfl)
      have HKJ2 : Hid (2 * (k + 1) = j + 2) := Lib.hid (by have := HKJ.out; omega)
      have hw2 : IntKind.i64.wrap ((j : Int) + 2) = (j : Int) + 2 := IntWalk.i64_in _ (by omega)
      clear hC2 hO2 hM2 HC HO HV HD HE k6 i1 i2 HAL HKJ hwa hwb HO1 HO2
      go_wp2
      go_roundg g
      case measure => omega
      case rel => exact ⟨k + 1, j + 2, _, _, by omega, HKJ2.out, by go_num, by omega, HL2.out, HP2, HC2, HO2', HV2, HD2, HE2⟩
    · have hend : ((decide ((j : Int) + 1 < (it.length : Int))) = false) ∨ ((j : Int) + 1 < (it.length : Int) ∧ (decide ((j : Int) < 10)) = false) := by
        by_cases h1 : j + 1 < it.length
        · exact .inr ⟨by omega, decide_eq_false (by have := HKJ.out; omega)⟩
        · exact .inl (decide_eq_false (by omega))
      have hpe : pairsM gk ((it.map (·.xs)).drop j) = [] := by
        by_cases h1 : j + 1 < it.length
        · have : gk = 0 := by have := HKJ.out; omega
          subst this
          rfl
        · have hl : ((it.map (·.xs)).drop j).length ≤ 1 := by rw [List.length_drop, List.length_map]; omega
          exact pairsM_short _ _ hl
      have hPA : P5 = A := by rw [HP.out, hpe, List.append_nil]
      have hw1 : IntKind.i64.wrap ((j : Int) + 1) = (j : Int) + 1 := IntWalk.i64_in _ (by omega)
      have HLM : Hid (lineM ⟨name, lp, ls, lcap, value, time, true, np, nm, ncap, ip, it, icap⟩ = ⟨wordS nm, A, value, tm⟩) := Lib.hid (by unfold lineM; rw [HTM.out, HP5.out, hPA])
      have g0 := HC.out.cell 0 _ rfl
      have g1 := HC.out.cell 1 _ rfl
      have g2 := HC.out.cell 2 _ rfl
      have g3 := HC.out.cell 3 _ rfl
      have r0 := HD.out.cell 0 _ rfl
      have r1 := HD.out.cell 1 _ rfl
      have r2 := HD.out.cell 2 _ rfl
      have r3 := HD.out.cell 3 _ rfl
      have z0 := HD.out.fro 0 _ rfl
      have z1 := HD.out.fro 1 _ rfl
      have z2 := HD.out.fro 2 _ rfl
      have z3 := HD.out.fro 3 _ rfl
      have hrow := HO.out
      have hE9 := HE.out
      have HROW : Hid (OwnL w.heap.size (.slice vp A.length vcap) A ((((wr.setCell ⟨w.heap.size + 1, 0, none⟩ (.string (tx (wordS nm)))).setCell ⟨w.heap.size + 1, 1, none⟩ (.slice vp A.length vcap)).setCell ⟨w.heap.size + 1, 2, none⟩ (.int .i64 value)).setCell ⟨w.heap.size + 1, 3, none⟩ (.int .i64 tm))) := Lib.hid
        ((hrow.sub (by omega)).mov (Mov.set (S := fun q => q = w.heap.size + 1) (Mov.set (S := fun q => q = w.heap.size + 1) (Mov.set (S := fun q => q = w.heap.size + 1) (Mov.set (S := fun q => q = w.heap.size + 1) (Mov.refl _ _) rfl 0 _) rfl 1 _) rfl 2 _) rfl 3 _) (fun q hq e => by have := (hrow.lt hq).1; omega))
      have HBEL : Hid (Below w.heap.size w ((((wr.setCell ⟨w.heap.size + 1, 0, none⟩ (.string (tx (wordS nm)))).setCell ⟨w.heap.size + 1, 1, none⟩ (.slice vp A.length vcap)).setCell ⟨w.heap.size + 1, 2, none⟩ (.int .i64 value)).setCell ⟨w.heap.size + 1, 3, none⟩ (.int .i64 tm))) := Lib.hid
        ((((hE9.setCell (p := ⟨w.heap.size + 1, 0, none⟩) (by simp) _).setCell (p := ⟨w.heap.size + 1, 1, none⟩) (by simp) _).setCell (p := ⟨w.heap.size + 1, 2, none⟩) (by simp) _).setCell (p := ⟨w.heap.size + 1, 3, none⟩) (by simp) _)
      clear HC HO HV HD HE HP hPA hpe HP5 HTM HXW hrow hE9 hgo
      rcases hend with h1 | ⟨h1, h2⟩
      · go_wp2
        refine bodyPost_ret (v := .agg #[.string (tx (wordS nm)), .slice vp A.length vcap, .int .i64 value, .int .i64 tm]) (by simp [results, Tryz.results7, go_sem, r0, r1, r2, r3]) rfl ⟨.slice vp A.length vcap, by rw [HLM.out], by rw [HLM.out]; exact HROW.out, HBEL.out⟩
      · go_wp2
        refine bodyPost_ret (v := .agg #[.string (tx (wordS nm)), .slice vp A.length vcap, .int .i64 value, .int .i64 tm]) (by simp [results, Tryz.results7, go_sem, r0, r1, r2, r3]) rfl ⟨.slice vp A.length vcap, by rw [HLM.out], by rw [HLM.out]; exact HROW.out, HBEL.out⟩
end Go.Proofs.YtdmkiiggpelmaaaGreatDoor.Lx

