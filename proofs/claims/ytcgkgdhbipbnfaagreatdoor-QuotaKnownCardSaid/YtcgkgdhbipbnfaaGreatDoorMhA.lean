/- The rank of a number's first bit. What adding a sum makes of the registers. A sketch in memory: its bits, and its registers; what stays of it in later worlds. The sketch's small calls: its bits, what is used of it, a new one. A new sketch. A sum is added to a sketch. The registers of a sketch as a text; a sketch cleared. Two sketches are merged. -/
import Derived.Test.YtcgkgdhbipbnfaaGreatDoorChecked
import Derived.WalkKit
import Derived.Below
import Derived.IntWalk
import Derived.Laws.Bits64
import Derived.Laws.Bits64b
import Derived.Lib.TrailingZeros
import Derived.Lib.Hide
import Derived.Laws.IdiomStrings
import Derived.Deep.QuietTactic
import Derived.BigQuiet
import Derived.Test.YtcgkgdhbipbnfaaGreatDoorCells
import Derived.Lib.ConvBytes
import Derived.Lib.AtoiErrMem
import Derived.Lib.SliceRun
import Derived.Lib.LazyBuf
import Derived.Lib.ByteType
namespace Go.Proofs.YtcgkgdhbipbnfaaGreatDoor.Hl
open Go Go.RowKit

/-- The library's table lies as its text lays it. -/
def Tab (w : World) : Prop := ∀ j, j < 64 → w.cell? ⟨1, j, none⟩ = some (.int .u8 (Lib.deBruijn64tab.getD j 0 : Nat))
theorem Tab.below {w w' : World} (h : Tab w) (hB : Below w.heap.size w w') : Tab w' := fun j hj => by
  have hc := h j hj
  rw [← hc]
  exact hB.cell (World.block_lt_of_cell? _ _ hc)

set_option maxHeartbeats 1000000 in
theorem tz_core (x k idx : Nat) (w : World) (hx0 : ((x : Int) == 0) = false)
    (key : IntKind.u64.wrap (bits BinOp.and IntKind.u64 (x : Int) (IntKind.u64.wrap (-(x : Int))) * 285870213051353865) / 288230376151711744 = (idx : Int))
    (hi : idx < 64) (hcell : w.cell? ⟨1, idx, none⟩ = some (.int .u8 k)) (hk : k < 64) :
    Calls Tryz.prog 114 #[.int .u64 x] w fun e w' => e = .returned (.int .i64 k) ∧ w = w' := by
  go_enter Tryz.func114, Tryz.ntmps114
  go_wp2_with (simp only [key])
  go_ret
  exact ⟨rfl, rfl⟩
theorem tz_zero (w : World) :
    Calls Tryz.prog 114 #[.int .u64 0] w fun e w' => e = .returned (.int .i64 64) ∧ w = w' := by
  go_enter Tryz.func114, Tryz.ntmps114
  go_wp2
  go_ret
  exact ⟨rfl, rfl⟩
theorem tz_key (x a : Nat) (hx : x < 18446744073709551616) (hx0 : x ≠ 0) (hlow : x &&& (18446744073709551616 - x) = a) :
    IntKind.u64.wrap (bits BinOp.and IntKind.u64 (x : Int) (IntKind.u64.wrap (-(x : Int))) * 285870213051353865) / 288230376151711744 = ((a * 285870213051353865 % 18446744073709551616 / 288230376151711744 : Nat) : Int) := by
  have e1 : IntKind.u64.wrap (-(x : Int)) = ((18446744073709551616 - x : Nat) : Int) := by rw [IntKind.wrap_u64]; omega
  rw [e1, bits_and_u64_nat x _ hx (by omega), hlow, IntKind.wrap_u64]
  omega
theorem tz_any (x : Nat) (hx : x < 18446744073709551616) (w : World) (hT : Tab w) :
    Calls Tryz.prog 114 #[.int .u64 x] w fun e w' => e = .returned (.int .i64 (Lib.ctz 64 x)) ∧ w = w' := by
  by_cases hx0 : x = 0
  · subst hx0
    exact tz_zero w
  · obtain ⟨hlow, hk⟩ := Lib.lowest_bit 64 x hx0 hx
    obtain ⟨hi, htab⟩ := Lib.deBruijn64_at _ hk
    have hcell := hT _ hi
    rw [htab] at hcell
    exact tz_core x _ _ w (by simp; omega) (tz_key x _ hx hx0 hlow) hi hcell hk

def srank (h : Nat) (f : Int) : Int := if 0 ≤ f ∧ f < 64 then min (Lib.ctz 64 (h / 2 ^ f.toNat) : Int) (64 - f) + 1 else 0
theorem ctz_le (x : Nat) (hx : x < 18446744073709551616) : Lib.ctz 64 x ≤ 64 := by
  by_cases h : x = 0
  · subst h; simp [Lib.ctz]
  · exact Nat.le_of_lt (Lib.lowest_bit 64 x h hx).2
set_option maxHeartbeats 1000000 in
theorem rank_in (h : Nat) (hh : h < 18446744073709551616) (f : Nat) (hf : f < 64) (w : World) (hT : Tab w) :
    Calls Tryz.prog 90 #[.int .u64 h, .int .i64 f] w fun e w' => e = .returned (.int .i64 (srank h f)) ∧ w = w' := by
  have HT := Lib.hid hT
  clear hT
  go_enter Tryz.func90, Tryz.ntmps90
  go_wp2_with fail
  have hd : h / 2 ^ f < 18446744073709551616 := Nat.lt_of_le_of_lt (Nat.div_le_self _ _) hh
  rw [show ((h : Int) / 2 ^ f) = ((h / 2 ^ f : Nat) : Int) from by push_cast; rfl]
  refine (tz_any _ hd _ HT.out).mono ?_
  rintro e w1 ⟨rfl, rfl⟩
  have hz := ctz_le _ hd
  have hr : srank h f = min (Lib.ctz 64 (h / 2 ^ f) : Int) (64 - f) + 1 := by
    unfold srank; rw [if_pos (by omega)]; simp
  generalize Lib.ctz 64 (h / 2 ^ f) = z at *
  have Hr := Lib.hid hr
  clear hr
  go_wp2
  all_goals
    go_ret
    refine ⟨?_, rfl⟩
    rw [Hr.out]
    refine congrArg (fun n => Ending.returned (.int .i64 n)) ?_
    omega
theorem rank_out (h : Int) (f : Int) (hf : f < 0 ∨ 64 ≤ f) (w : World) :
    Calls Tryz.prog 90 #[.int .u64 h, .int .i64 f] w fun e w' => e = .returned (.int .i64 0) ∧ w = w' := by
  rcases hf with hf | hf
  · go_enter Tryz.func90, Tryz.ntmps90
    go_wp2
    go_ret
    exact ⟨rfl, rfl⟩
  · have h0 : ¬ f < 0 := by omega
    go_enter Tryz.func90, Tryz.ntmps90
    go_wp2
    go_ret
    exact ⟨rfl, rfl⟩
theorem bit_low (c m j : Nat) (h : j < c) : 2 ^ c * (2 * m + 1) / 2 ^ j % 2 = 0 := by
  have e : 2 ^ c = 2 ^ j * (2 * 2 ^ (c - j - 1)) := by
    rw [Nat.mul_comm 2, ← Nat.pow_succ, ← Nat.pow_add]; congr 1; omega
  rw [e, Nat.mul_assoc, Nat.mul_div_cancel_left _ (Nat.pow_pos (by decide)), Nat.mul_assoc]
  omega
theorem bit_at (c m : Nat) : 2 ^ c * (2 * m + 1) / 2 ^ c % 2 = 1 := by
  rw [Nat.mul_div_cancel_left _ (Nat.pow_pos (by decide))]; omega
theorem ctz_first (x : Nat) (hx : x < 18446744073709551616) (m : Nat) (h0 : ∀ j, j < m → x / 2 ^ j % 2 = 0) (h1 : x / 2 ^ m % 2 = 1) : Lib.ctz 64 x = m := by
  have hx0 : x ≠ 0 := by intro h; subst h; simp at h1
  unfold Lib.ctz
  rw [if_neg hx0]
  obtain ⟨q, hq, hc⟩ := Lib.ctzFrom_spec 64 x (by omega) hx
  generalize Lib.ctzFrom 64 x = c at *
  rcases Nat.lt_trichotomy c m with h | h | h
  · have := h0 c h; rw [hq, bit_at] at this; omega
  · exact h
  · rw [hq, bit_low c q m h] at h1; omega
theorem ctz_none (x : Nat) (hx : x < 18446744073709551616) (m : Nat) (h0 : ∀ j, j < m → x / 2 ^ j % 2 = 0) : m ≤ Lib.ctz 64 x ∨ 64 < m := by
  by_cases hx0 : x = 0
  · subst hx0; simp [Lib.ctz]; omega
  · unfold Lib.ctz
    rw [if_neg hx0]
    obtain ⟨q, hq, hc⟩ := Lib.ctzFrom_spec 64 x (by omega) hx
    generalize Lib.ctzFrom 64 x = c at *
    left
    rcases Nat.lt_or_ge c m with h | h
    · have := h0 c h; rw [hq, bit_at] at this; omega
    · exact h
theorem bit_test (h n : Nat) : ((h : Int) / 2 ^ n).tmod 2 = 1 ↔ h / 2 ^ n % 2 = 1 := by
  rw [show ((h : Int) / 2 ^ n) = ((h / 2 ^ n : Nat) : Int) from by push_cast; rfl]
  generalize h / 2 ^ n = q
  rw [Int.tmod_eq_emod_of_nonneg (Int.natCast_nonneg _)]
  omega
def LowZero (h f k : Nat) : Prop := ∀ j, j < k → h / 2 ^ f / 2 ^ j % 2 = 0
set_option maxHeartbeats 1000000 in
theorem ref_rank_in (h : Nat) (hh : h < 18446744073709551616) (f : Nat) (hf : f < 64) (w : World) :
    Calls Tryz.prog 97 #[.int .u64 h, .int .i64 f] w fun e w' => e = .returned (.int .i64 (srank h f)) ∧ w = w' := by
  go_enter Tryz.func97, Tryz.ntmps97
  go_wp2
  go_loop [5, 6] (fun n i => ∃ k : Nat, f + k ≤ 64 ∧ n = .int .i64 ((k : Int) + 1) ∧ i = .int .i64 ((f : Int) + k) ∧ LowZero h f k) (fun _ i => 64 - (intOf i).toNat)
  case atStart => exact ⟨0, by omega, rfl, by simp, fun j hj => by omega⟩
  case round =>
    obtain ⟨k, hk, rfl, rfl, hz⟩ := hrel
    by_cases hlt : (f : Int) + k < 64
    · have ht := bit_test h (f + k)
      have hb : h / 2 ^ (f + k) = h / 2 ^ f / 2 ^ k := by rw [Nat.pow_add, Nat.div_div_eq_div_mul]
      have Ht := Lib.hid ht
      have Hb := Lib.hid hb
      clear ht hb
      go_wp2
      · have h1 : (((h : Int) / 2 ^ (f + k)).tmod 2 == 1) = true := by assumption
        have h2 : h / 2 ^ f / 2 ^ k % 2 = 1 := by rw [← Hb.out]; exact Ht.out.1 (by simpa using h1)
        have hc := ctz_first _ (Nat.lt_of_le_of_lt (Nat.div_le_self h (2 ^ f)) hh) k hz h2
        go_ret
        refine ⟨congrArg (fun n => Ending.returned (.int .i64 n)) ?_, rfl⟩
        unfold srank
        rw [if_pos (by omega), Int.toNat_natCast, hc]
        omega
      · have h1 : (((h : Int) / 2 ^ (f + k)).tmod 2 == 1) = false := by assumption
        have h2 : h / 2 ^ f / 2 ^ k % 2 = 0 := by
          rw [← Hb.out]
          have := mt Ht.out.2 (by simpa using h1)
          omega
        refine ⟨⟨k + 1, by omega, by go_num, by rw [show ((f : Int) + (k + 1 : Nat)) = f + k + 1 from by omega], ?_⟩, by simp [intOf]; omega⟩
        intro j hj
        rcases Nat.lt_or_ge j k with h | h
        · exact hz j h
        · rw [show j = k from by omega]; exact h2
    · have hk2 : f + k = 64 := by omega
      have Hk := Lib.hid hk2
      clear hk2
      go_wp2
      go_ret
      refine ⟨congrArg (fun n => Ending.returned (.int .i64 n)) ?_, rfl⟩
      have hc := ctz_none _ (Nat.lt_of_le_of_lt (Nat.div_le_self h (2 ^ f)) hh) k hz
      have := Hk.out
      unfold srank
      rw [if_pos (by omega), Int.toNat_natCast]
      omega
theorem ref_rank_out (h : Int) (f : Int) (hf : f < 0 ∨ 64 ≤ f) (w : World) :
    Calls Tryz.prog 97 #[.int .u64 h, .int .i64 f] w fun e w' => e = .returned (.int .i64 0) ∧ w = w' := by
  rcases hf with hf | hf
  · go_enter Tryz.func97, Tryz.ntmps97
    go_wp2
    go_ret
    exact ⟨rfl, rfl⟩
  · have h0 : ¬ f < 0 := by omega
    go_enter Tryz.func97, Tryz.ntmps97
    go_wp2
    go_ret
    exact ⟨rfl, rfl⟩

theorem u64_nat {a : Int} (h : (Lit.int .u64 a).wf = true) : ∃ n : Nat, a = n ∧ n < 18446744073709551616 := by
  have hx : 0 ≤ a ∧ a ≤ 18446744073709551615 := by simpa [Lit.wf, IntKind.min, IntKind.max, IntKind.signed, IntKind.bits] using h
  exact ⟨a.toNat, by omega, by omega⟩
/-- The rank of h from bit b on. -/
def rk (b h : Nat) : Nat := min (Lib.ctz 64 (h / 2 ^ b)) (64 - b) + 1
theorem srank_rk (b h : Nat) (hb : b ≤ 10) : srank h b = rk b h := by
  unfold srank rk
  rw [if_pos (by omega), Int.toNat_natCast]
  omega
theorem rk_lo (b h : Nat) : 1 ≤ rk b h := by unfold rk; omega
theorem rk_hi (b h : Nat) : rk b h ≤ 65 := by unfold rk; omega
theorem rank_nat (b h : Nat) (hb : b ≤ 10) (hh : h < 18446744073709551616) (w : World) (hT : Tab w) :
    Calls Tryz.prog 90 #[.int .u64 h, .int .i64 b] w fun e w' => e = .returned (.int .i64 (rk b h : Nat)) ∧ w = w' := by
  rw [← srank_rk b h hb]
  exact rank_in h hh b (by omega) w hT
theorem ref_rank_nat (b h : Nat) (hb : b ≤ 10) (hh : h < 18446744073709551616) (w : World) :
    Calls Tryz.prog 97 #[.int .u64 h, .int .i64 b] w fun e w' => e = .returned (.int .i64 (rk b h : Nat)) ∧ w = w' := by
  rw [← srank_rk b h hb]
  exact ref_rank_in h hh b (by omega) w
end Go.Proofs.YtcgkgdhbipbnfaaGreatDoor.Hl

namespace Go.Proofs.YtcgkgdhbipbnfaaGreatDoor.Hl
open Go Go.RowKit

/-- The rank that h brings: at most 26. -/
def hr (b h : Nat) : Nat := min (rk b h) 26
/-- The register that h goes to. -/
def hp (b h : Nat) : Nat := h % 2 ^ b
theorem hr_lo (b h : Nat) : 1 ≤ hr b h := by have := rk_lo b h; unfold hr; omega
theorem hr_hi (b h : Nat) : hr b h ≤ 26 := by unfold hr; omega
theorem hp_lt (b h : Nat) : hp b h < 2 ^ b := Nat.mod_lt _ (Nat.pow_pos (by decide))
def addB (b h : Nat) (l : List UInt8) : Bool := decide ((l.getD (hp b h) 0).toNat < hr b h)
def addL (b h : Nat) (l : List UInt8) : List UInt8 := if addB b h l = true then l.set (hp b h) (UInt8.ofNat (hr b h)) else l
theorem addL_length (b h : Nat) (l : List UInt8) : (addL b h l).length = l.length := by unfold addL; split <;> simp
theorem ofNat_toNat {n : Nat} (h : n ≤ 26) : (UInt8.ofNat n).toNat = n := by rw [UInt8.toNat_ofNat']; omega
/-- Register i behind it. -/
theorem addL_at (b h : Nat) (l : List UInt8) (hl : l.length = 2 ^ b) (i : Nat) :
    ((addL b h l).getD i 0).toNat = max (l.getD i 0).toNat (if hp b h = i then hr b h else 0) := by
  have hp' := hp_lt b h
  have hh := hr_hi b h
  unfold addL addB
  by_cases hc : (l.getD (hp b h) 0).toNat < hr b h
  · rw [if_pos (by simpa using hc)]
    by_cases hi : hp b h = i
    · subst hi
      rw [if_pos rfl, List.getD_eq_getElem?_getD, List.getElem?_set_self (by omega), Option.getD_some, ofNat_toNat hh]
      omega
    · rw [if_neg hi, List.getD_eq_getElem?_getD, List.getElem?_set_ne hi, ← List.getD_eq_getElem?_getD]
      omega
  · rw [if_neg (by simpa using hc)]
    by_cases hi : hp b h = i
    · subst hi
      rw [if_pos rfl]
      omega
    · rw [if_neg hi]
      omega
/-- No register is above 26. -/
def Low (l : List UInt8) : Prop := ∀ x ∈ l, x.toNat ≤ 26
theorem Low.add {l : List UInt8} (h : Low l) (b x : Nat) : Low (addL b x l) := by
  unfold addL
  split
  · intro y hy
    rcases List.mem_or_eq_of_mem_set hy with h1 | h1
    · exact h y h1
    · rw [h1, ofNat_toNat (hr_hi b x)]; exact hr_hi b x
  · exact h
theorem Low.zero (n : Nat) : Low (List.replicate n 0) := fun x hx => by rw [List.eq_of_mem_replicate hx]; decide
/-- All that are added. -/
def addAll (b : Nat) (hs : List Nat) (l : List UInt8) : List UInt8 := hs.foldl (fun l h => addL b h l) l
theorem addAll_length (b : Nat) (hs : List Nat) : ∀ l : List UInt8, (addAll b hs l).length = l.length := by
  induction hs with
  | nil => intro l; rfl
  | cons h t ih => intro l; rw [addAll, List.foldl_cons, ← addAll, ih, addL_length]
theorem addAll_low (b : Nat) (hs : List Nat) : ∀ l : List UInt8, Low l → Low (addAll b hs l) := by
  induction hs with
  | nil => intro l h; exact h
  | cons x t ih => intro l h; rw [addAll, List.foldl_cons, ← addAll]; exact ih _ (h.add b x)
theorem addAll_snoc (b : Nat) (hs : List Nat) (x : Nat) (l : List UInt8) : addAll b (hs ++ [x]) l = addL b x (addAll b hs l) := by
  simp [addAll]
/-- The greatest rank that came to register i. -/
def mx (b i : Nat) : List Nat → Nat
  | [] => 0
  | h :: t => max (if hp b h = i then hr b h else 0) (mx b i t)
theorem addAll_at (b : Nat) (i : Nat) (hs : List Nat) : ∀ l : List UInt8, l.length = 2 ^ b → ((addAll b hs l).getD i 0).toNat = max (l.getD i 0).toNat (mx b i hs) := by
  induction hs with
  | nil => intro l hl; simp [addAll, mx]
  | cons h t ih =>
    intro l hl
    rw [addAll, List.foldl_cons, ← addAll, ih _ (by rw [addL_length]; exact hl), addL_at b h l hl, mx]
    omega
theorem mx_append (b i : Nat) (a c : List Nat) : mx b i (a ++ c) = max (mx b i a) (mx b i c) := by
  induction a with
  | nil => simp [mx]
  | cons h t ih => rw [List.cons_append, mx, mx, ih]; omega
theorem mx_le_of_sub (b i : Nat) {a c : List Nat} (h : ∀ x ∈ a, x ∈ c) : mx b i a ≤ mx b i c := by
  have key : ∀ (c : List Nat) (x : Nat), x ∈ c → (if hp b x = i then hr b x else 0) ≤ mx b i c := by
    intro c x hx
    induction c with
    | nil => cases hx
    | cons y t ih =>
      rw [mx]
      rcases List.mem_cons.1 hx with rfl | h1
      · omega
      · have := ih h1; omega
  induction a with
  | nil => simp [mx]
  | cons y t ih =>
    rw [mx]
    have h1 := key c y (h y (by simp))
    have h2 := ih (fun x hx => h x (by simp [hx]))
    omega
theorem mx_eq_of_same (b i : Nat) {a c : List Nat} (h : ∀ x, x ∈ a ↔ x ∈ c) : mx b i a = mx b i c :=
  Nat.le_antisymm (mx_le_of_sub b i fun x hx => (h x).1 hx) (mx_le_of_sub b i fun x hx => (h x).2 hx)
/-- Registers that are the same one by one. -/
theorem regs_ext {a c : List UInt8} (hl : a.length = c.length) (h : ∀ i, (a.getD i 0).toNat = (c.getD i 0).toNat) : a = c := by
  refine List.ext_getElem hl fun i h1 h2 => ?_
  have := h i
  simp only [List.getD_eq_getElem?_getD, List.getElem?_eq_getElem h1, List.getElem?_eq_getElem h2, Option.getD_some] at this
  exact UInt8.toNat_inj.1 this
/-- The registers of a sketch to which all of hs was added. -/
def regs (b : Nat) (hs : List Nat) : List UInt8 := addAll b hs (List.replicate (2 ^ b) 0)
theorem regs_length (b : Nat) (hs : List Nat) : (regs b hs).length = 2 ^ b := by unfold regs; rw [addAll_length]; simp
theorem regs_low (b : Nat) (hs : List Nat) : Low (regs b hs) := addAll_low _ _ _ (Low.zero _)
theorem zeros_at (n i : Nat) : ((List.replicate n (0 : UInt8)).getD i 0).toNat = 0 := by
  rw [List.getD_eq_getElem?_getD, List.getElem?_replicate]
  split <;> rfl
theorem regs_at (b : Nat) (hs : List Nat) (i : Nat) : ((regs b hs).getD i 0).toNat = mx b i hs := by
  unfold regs
  rw [addAll_at b i hs _ (by simp), zeros_at]
  omega
theorem regs_snoc (b : Nat) (hs : List Nat) (x : Nat) : addL b x (regs b hs) = regs b (hs ++ [x]) := (addAll_snoc b hs x _).symm
theorem regs_same (b : Nat) {a c : List Nat} (h : ∀ x, x ∈ a ↔ x ∈ c) : regs b a = regs b c :=
  regs_ext (by rw [regs_length, regs_length]) fun i => by rw [regs_at, regs_at]; exact mx_eq_of_same b i h
/-- Merged registers. -/
def mergeL (l t : List UInt8) : List UInt8 := l.zipWith (fun x y => if x.toNat ≤ y.toNat then y else x) t
theorem mergeL_length {l t : List UInt8} (h : l.length = t.length) : (mergeL l t).length = l.length := by simp [mergeL, h]
theorem mergeL_at {l t : List UInt8} (h : l.length = t.length) (i : Nat) : ((mergeL l t).getD i 0).toNat = max (l.getD i 0).toNat (t.getD i 0).toNat := by
  unfold mergeL
  simp only [List.getD_eq_getElem?_getD, List.getElem?_zipWith]
  by_cases hi : i < l.length
  · rw [List.getElem?_eq_getElem hi, List.getElem?_eq_getElem (by omega)]
    simp only [Option.getD_some]
    split <;> omega
  · rw [List.getElem?_eq_none (by omega), List.getElem?_eq_none (by omega)]
    rfl
theorem mergeL_self (l : List UInt8) : mergeL l l = l :=
  regs_ext (mergeL_length rfl) fun i => by rw [mergeL_at rfl]; omega
theorem mergeL_regs (b : Nat) (a c : List Nat) : mergeL (regs b a) (regs b c) = regs b (a ++ c) :=
  regs_ext (by rw [mergeL_length (by rw [regs_length, regs_length]), regs_length, regs_length]) fun i => by
    rw [mergeL_at (by rw [regs_length, regs_length]), regs_at, regs_at, regs_at, mx_append]
theorem mergeL_low {l t : List UInt8} (hl : Low l) (ht : Low t) : Low (mergeL l t) := by
  intro x hx
  unfold mergeL at hx
  obtain ⟨i, hi, rfl⟩ := List.mem_iff_getElem.1 hx
  rw [List.getElem_zipWith]
  rw [List.length_zipWith] at hi
  split
  · exact ht _ (List.getElem_mem _)
  · exact hl _ (List.getElem_mem _)
end Go.Proofs.YtcgkgdhbipbnfaaGreatDoor.Hl

namespace Go.Proofs.YtcgkgdhbipbnfaaGreatDoor.Hl
open Go Go.RowKit

/-- All but block B is as it was. -/
structure Chg (B : Nat) (w w' : World) : Prop where
  os : w'.os = w.os
  tape : w'.tape = w.tape
  output : w'.output = w.output
  size : w.heap.size ≤ w'.heap.size
  block : ∀ k, k < w.heap.size → k ≠ B → w'.heap[k]? = w.heap[k]?
theorem Chg.refl (B : Nat) (w : World) : Chg B w w := ⟨rfl, rfl, rfl, Nat.le_refl _, fun _ _ _ => rfl⟩
theorem Chg.trans {B : Nat} {a b c : World} (h : Chg B a b) (k : Chg B b c) : Chg B a c :=
  ⟨k.os.trans h.os, k.tape.trans h.tape, k.output.trans h.output, Nat.le_trans h.size k.size, fun i hi hn => (k.block i (Nat.lt_of_lt_of_le hi h.size) hn).trans (h.block i hi hn)⟩
theorem Chg.of {B : Nat} {w w' : World} (h : Below w.heap.size w w') : Chg B w w' := ⟨h.os, h.tape, h.output, h.size, fun k hk _ => h.block k hk⟩
theorem Chg.drew {B : Nat} {a w : World} (h : Chg B a w) : Chg B a w.drew := ⟨h.os, h.tape, h.output, h.size, h.block⟩
theorem Chg.set {B : Nat} {a w : World} (h : Chg B a w) (i : Nat) (v : Value) : Chg B a (w.setCell ⟨B, i, none⟩ v) :=
  ⟨h.os, h.tape, h.output, by have := h.size; simpa [World.setCell] using this, fun k hk hn => by rw [Below.heap_setCell _ _ _ _ hn]; exact h.block k hk hn⟩
theorem Chg.below {B C : Nat} {w w' : World} (h : Chg B w w') (h1 : C ≤ B) (h2 : C ≤ w.heap.size) : Below C w w' :=
  ⟨h.os, h.tape, h.output, h.size, fun k hk => h.block k (by omega) (by omega)⟩
theorem Chg.cell {B : Nat} {w w' : World} (h : Chg B w w') {b i : Nat} (hb : b < w.heap.size) (hn : b ≠ B) : w'.cell? ⟨b, i, none⟩ = w.cell? ⟨b, i, none⟩ := by
  unfold World.cell?
  rw [h.block b hb hn]
theorem Chg.frozen {B : Nat} {w w' : World} (h : Chg B w w') {b i : Nat} (hb : b < w.heap.size) (hn : b ≠ B) : w'.frozen? ⟨b, i, none⟩ = w.frozen? ⟨b, i, none⟩ := by
  unfold World.frozen?
  rw [h.block b hb hn]

/-- Block B is a sketch of b bits, with registers l. -/
structure Sk (B b : Nat) (l : List UInt8) (w : World) : Prop where
  lt : B < w.heap.size
  lo : 4 ≤ b
  hi : b ≤ 10
  len : l.length = 2 ^ b
  bits : w.cell? ⟨B, 0, none⟩ = some (.int .i64 b)
  cell : ∀ i (h : i < l.length), w.cell? ⟨B, 1 + i, none⟩ = some (.int .u8 (l[i].toNat : Int))
  fro : ∀ i, i < l.length → w.frozen? ⟨B, 1 + i, none⟩ = false

section
variable {B b : Nat} {l : List UInt8} {w w' : World}
theorem Sk.drew (h : Sk B b l w) : Sk B b l w.drew := ⟨h.lt, h.lo, h.hi, h.len, h.bits, h.cell, h.fro⟩
theorem Sk.belowAt (h : Sk B b l w) {C : Nat} (hB : Below C w w') (hb : B < C) : Sk B b l w' :=
  ⟨Nat.lt_of_lt_of_le h.lt hB.size, h.lo, h.hi, h.len, (hB.cell (p := ⟨B, 0, none⟩) hb).trans h.bits, fun i hi => (hB.cell (p := ⟨B, 1 + i, none⟩) hb).trans (h.cell i hi), fun i hi => (hB.frozen (p := ⟨B, 1 + i, none⟩) hb).trans (h.fro i hi)⟩
theorem Sk.below (h : Sk B b l w) (hB : Below w.heap.size w w') : Sk B b l w' := h.belowAt hB h.lt
theorem Sk.chg (h : Sk B b l w) {C : Nat} (hC : Chg C w w') (hn : B ≠ C) : Sk B b l w' :=
  ⟨Nat.lt_of_lt_of_le h.lt hC.size, h.lo, h.hi, h.len, (hC.cell h.lt hn).trans h.bits, fun i hi => (hC.cell h.lt hn).trans (h.cell i hi), fun i hi => (hC.frozen h.lt hn).trans (h.fro i hi)⟩
theorem Sk.set (h : Sk B b l w) (i : Nat) (x : UInt8) (_ : i < l.length) : Sk B b (l.set i x) (w.setCell ⟨B, 1 + i, none⟩ (.int .u8 (x.toNat : Int))) := by
  refine ⟨by have := h.lt; simpa using this, h.lo, h.hi, by rw [List.length_set]; exact h.len, ?_, fun j hj => ?_, fun j hj => ?_⟩
  · rw [World.cell?_setCell_other (h := by intro e; have := congrArg Addr.off e; simp at this)]
    exact h.bits
  · rw [List.length_set] at hj
    by_cases hij : i = j
    · subst hij
      rw [World.cell?_setCell_same (h := h.cell i hj)]
      simp
    · rw [World.cell?_setCell_other (h := by intro e; have := congrArg Addr.off e; simp at this; omega), List.getElem_set_ne hij]
      exact h.cell j hj
  · rw [World.frozen?_setCell]
    rw [List.length_set] at hj
    exact h.fro j hj
end
end Go.Proofs.YtcgkgdhbipbnfaaGreatDoor.Hl

namespace Go.Proofs.YtcgkgdhbipbnfaaGreatDoor.Hl
open Go Go.RowKit

theorem bits_any (B : Nat) (x : Int) (w : World) (h : w.cell? ⟨B, 0, none⟩ = some (.int .i64 x)) :
    Calls Tryz.prog 43 #[.pointer (some ⟨B, 0, none⟩)] w fun e w' => e = .returned (.int .i64 x) ∧ w = w' := by
  go_enter Tryz.func43, Tryz.ntmps43
  go_wp2
  go_ret
  exact ⟨rfl, rfl⟩

theorem used_any (B : Nat) (b : Nat) (lo : 4 ≤ b) (hi : b ≤ 10) (w : World) (h : w.cell? ⟨B, 0, none⟩ = some (.int .i64 b)) :
    Calls Tryz.prog 77 #[.pointer (some ⟨B, 0, none⟩)] w fun e w' => e = .returned (.slice (some ⟨B, 1, none⟩) (2 ^ b) (2 ^ b)) ∧ w = w' := by
  have : b = 4 ∨ b = 5 ∨ b = 6 ∨ b = 7 ∨ b = 8 ∨ b = 9 ∨ b = 10 := by omega
  rcases this with rfl | rfl | rfl | rfl | rfl | rfl | rfl
  all_goals
    clear lo hi
    go_enter Tryz.func77, Tryz.ntmps77
    go_wp2
    go_ret
    exact ⟨rfl, rfl⟩

theorem new_out (x : Int) (h : x < 4 ∨ 10 < x) (w : World) :
    Calls Tryz.prog 72 #[.int .i64 x] w fun e w' => e = .returned (.tuple #[.pointer none, .int .i64 1]) ∧ w = w' := by
  by_cases h4 : x < 4
  · clear h
    go_enter Tryz.func72, Tryz.ntmps72
    go_wp2
    go_ret2
    exact ⟨rfl, rfl⟩
  · have h10 : 10 < x := by omega
    clear h
    go_enter Tryz.func72, Tryz.ntmps72
    go_wp2
    go_ret2
    exact ⟨rfl, rfl⟩
end Go.Proofs.YtcgkgdhbipbnfaaGreatDoor.Hl

namespace Go.Proofs.YtcgkgdhbipbnfaaGreatDoor.Hl
open Go Go.RowKit

theorem arr_set0 (a b : Value) (r : List Value) : (⟨a :: r⟩ : Array Value).setIfInBounds 0 b = ⟨b :: r⟩ := by
  unfold Array.setIfInBounds
  rw [dif_pos (by simp)]
  rfl
theorem arr_ne0 (a : Value) (r : List Value) : ((⟨a :: r⟩ : Array Value) = #[]) = False := by
  rw [eq_iff_iff, iff_false]
  intro h
  have := congrArg Array.toList h
  cases this
/-- The cells of a sketch of x bits to which nothing was added. -/
def skCells (x : Int) : Array Value := ⟨.int .i64 x :: List.replicate 1024 (.int .u8 0)⟩
theorem skCells_ne (x : Int) : (skCells x = #[]) = False := arr_ne0 _ _
theorem skCells_set (x y : Int) : (skCells x).setIfInBounds 0 (.int .i64 y) = skCells y := arr_set0 _ _ _
set_option maxRecDepth 1000000 in
theorem info_sk : (Tryz.prog.info? 143).map (fun i => i.zero) = some (some (.agg (skCells 0))) := by
  kernel_rfl
theorem zero_sk (w : World) : (zeroValue 143).run Tryz.prog w = .ok (.agg (skCells 0)) w := by
  obtain ⟨i, hi, hz⟩ := Option.map_eq_some_iff.1 info_sk
  simp [zeroValue, typeInfo, hi, hz]
theorem new_in (x : Int) (h4 : 4 ≤ x) (h10 : x ≤ 10) (w : World) :
    Calls Tryz.prog 72 #[.int .i64 x] w fun e w' => e = .returned (.tuple #[.pointer (some ⟨w.heap.size, 0, none⟩), .int .i64 0]) ∧ w.alloc (.cells (skCells x) 143) = w' := by
  have hz := zero_sk
  have h0 := skCells_ne 0
  have hs := fun x y => skCells_set x y
  go_enter Tryz.func72, Tryz.ntmps72
  go_wp2
  go_ret2
  exact ⟨rfl, rfl⟩
theorem skCells_0 (x : Int) : (skCells x)[0]? = some (.int .i64 x) := by
  unfold skCells
  rw [List.getElem?_toArray, List.getElem?_cons_zero]
theorem skCells_at (x : Int) (i : Nat) (hi : i < 1024) : (skCells x)[1 + i]? = some (.int .u8 0) := by
  unfold skCells
  rw [show (1 + i) = i + 1 from by omega, List.getElem?_toArray, List.getElem?_cons_succ, List.getElem?_replicate, if_pos hi]
theorem new_sk (b : Nat) (h4 : 4 ≤ b) (h10 : b ≤ 10) (w : World) : Sk w.heap.size b (List.replicate (2 ^ b) 0) (w.alloc (.cells (skCells b) 143)) := by
  have hC := CellsAt.new (skCells b) 143 w
  have hM : 2 ^ b ≤ 1024 := Nat.pow_le_pow_right (n := 2) (by decide) h10
  refine ⟨hC.lt, h4, h10, by simp, hC.cell 0 _ (skCells_0 b), fun i hi => ?_, fun i hi => ?_⟩
  · rw [List.length_replicate] at hi
    rw [hC.cell (1 + i) _ (skCells_at b i (by omega))]
    simp
  · rw [List.length_replicate] at hi
    exact hC.fro (1 + i) _ (skCells_at b i (by omega))
/-- A new sketch of b bits. -/
theorem new_any (b : Nat) (h4 : 4 ≤ b) (h10 : b ≤ 10) (w : World) :
    Calls Tryz.prog 72 #[.int .i64 b] w fun e w' => e = .returned (.tuple #[.pointer (some ⟨w.heap.size, 0, none⟩), .int .i64 0]) ∧ Below w.heap.size w w' ∧ Sk w.heap.size b (List.replicate (2 ^ b) 0) w' := by
  refine (new_in b (by omega) (by omega) w).mono ?_
  rintro e w' ⟨rfl, rfl⟩
  exact ⟨rfl, (Below.refl _ _).alloc (Nat.le_refl _) _, new_sk b h4 h10 w⟩
end Go.Proofs.YtcgkgdhbipbnfaaGreatDoor.Hl

namespace Go.Proofs.YtcgkgdhbipbnfaaGreatDoor.Hl
open Go Go.RowKit

theorem used_M (B : Nat) (b : Nat) (lo : 4 ≤ b) (hi : b ≤ 10) (M : Nat) (hM : 2 ^ b = M) (w : World) (h : w.cell? ⟨B, 0, none⟩ = some (.int .i64 b)) :
    Calls Tryz.prog 77 #[.pointer (some ⟨B, 0, none⟩)] w fun e w' => e = .returned (.slice (some ⟨B, 1, none⟩) M M) ∧ w = w' := by
  subst hM
  exact used_any B b lo hi w h
theorem pow_hi {b : Nat} (lo : 4 ≤ b) (hi : b ≤ 10) : 16 ≤ 2 ^ b ∧ 2 ^ b ≤ 1024 :=
  ⟨Nat.pow_le_pow_right (n := 2) (by decide) lo, Nat.pow_le_pow_right (n := 2) (by decide) hi⟩
theorem hand_eq (h b : Nat) (hh : h < 18446744073709551616) (hi : b ≤ 10) : bits BinOp.and IntKind.u64 (h : Int) (((2 ^ b : Nat) : Int) - 1) = ((h % 2 ^ b : Nat) : Int) := by
  have hp : 0 < 2 ^ b := Nat.pow_pos (by decide)
  have h10 : 2 ^ b ≤ 1024 := Nat.pow_le_pow_right (n := 2) (by decide) hi
  rw [show ((2 ^ b : Nat) : Int) - 1 = ((2 ^ b - 1 : Nat) : Int) from by omega, bits_and_u64_nat h _ hh (by omega), Nat.and_two_pow_sub_one_eq_mod]

set_option maxRecDepth 100000 in
set_option maxHeartbeats 2000000 in
theorem add_yes (B b : Nat) (lo : 4 ≤ b) (hi : b ≤ 10) (h : Nat) (hh : h < 18446744073709551616) (x : Int) (w : World) (hT : Tab w)
    (hc : w.cell? ⟨B, 0, none⟩ = some (.int .i64 b)) (hx : w.cell? ⟨B, 1 + hp b h, none⟩ = some (.int .u8 x)) (hf : w.frozen? ⟨B, 1 + hp b h, none⟩ = false) (hlt : x < hr b h) :
    Calls Tryz.prog 60 #[.pointer (some ⟨B, 0, none⟩), .int .u64 h] w fun e w' => e = .returned (.bool true) ∧ w.setCell ⟨B, 1 + hp b h, none⟩ (.int .u8 (hr b h : Nat)) = w' := by
  have hand := hand_eq h b hh hi
  have hpl := hp_lt b h
  have hM := pow_hi lo hi
  have hu := fun w => used_M B b lo hi (2 ^ b) rfl w
  have hrk := fun w hT => rank_nat b h hi hh w hT
  rw [show h % 2 ^ b = hp b h from rfl] at hand
  have hrl := rk_lo b h
  have hrh := rk_hi b h
  have hmin : min (rk b h) 26 = hr b h := rfl
  generalize hp b h = p at *
  generalize hr b h = r at *
  generalize rk b h = q at *
  generalize 2 ^ b = M at *
  obtain ⟨hM1, hM2⟩ := hM
  have HT := Lib.hid hT
  clear hT
  by_cases hq : q ≤ 26
  · obtain rfl : q = r := by omega
    clear hmin
    go_enter Tryz.func60, Tryz.ntmps60
    go_wp2_with fail
    refine (hu _ hc).mono ?_
    rintro e w1 ⟨rfl, rfl⟩
    go_wp2_with fail
    refine (hrk _ HT.out).mono ?_
    rintro e w1 ⟨rfl, rfl⟩
    go_wp2_with fail
    go_ret
    exact ⟨rfl, rfl⟩
  · obtain rfl : r = 26 := by omega
    clear hmin
    go_enter Tryz.func60, Tryz.ntmps60
    go_wp2_with fail
    refine (hu _ hc).mono ?_
    rintro e w1 ⟨rfl, rfl⟩
    go_wp2_with fail
    refine (hrk _ HT.out).mono ?_
    rintro e w1 ⟨rfl, rfl⟩
    go_wp2_with fail
    go_ret
    exact ⟨rfl, rfl⟩
set_option maxRecDepth 100000 in
set_option maxHeartbeats 2000000 in
theorem add_no (B b : Nat) (lo : 4 ≤ b) (hi : b ≤ 10) (h : Nat) (hh : h < 18446744073709551616) (x : Int) (w : World) (hT : Tab w)
    (hc : w.cell? ⟨B, 0, none⟩ = some (.int .i64 b)) (hx : w.cell? ⟨B, 1 + hp b h, none⟩ = some (.int .u8 x)) (_ : w.frozen? ⟨B, 1 + hp b h, none⟩ = false) (hlt : (hr b h : Int) ≤ x) :
    Calls Tryz.prog 60 #[.pointer (some ⟨B, 0, none⟩), .int .u64 h] w fun e w' => e = .returned (.bool false) ∧ w = w' := by
  have hand := hand_eq h b hh hi
  have hpl := hp_lt b h
  have hM := pow_hi lo hi
  have hu := fun w => used_M B b lo hi (2 ^ b) rfl w
  have hrk := fun w hT => rank_nat b h hi hh w hT
  rw [show h % 2 ^ b = hp b h from rfl] at hand
  have hrl := rk_lo b h
  have hrh := rk_hi b h
  have hmin : min (rk b h) 26 = hr b h := rfl
  generalize hp b h = p at *
  generalize hr b h = r at *
  generalize rk b h = q at *
  generalize 2 ^ b = M at *
  obtain ⟨hM1, hM2⟩ := hM
  have HT := Lib.hid hT
  clear hT
  by_cases hq : q ≤ 26
  · obtain rfl : q = r := by omega
    clear hmin
    go_enter Tryz.func60, Tryz.ntmps60
    go_wp2_with fail
    refine (hu _ hc).mono ?_
    rintro e w1 ⟨rfl, rfl⟩
    go_wp2_with fail
    refine (hrk _ HT.out).mono ?_
    rintro e w1 ⟨rfl, rfl⟩
    go_wp2_with fail
    go_ret
    exact ⟨rfl, rfl⟩
  · obtain rfl : r = 26 := by omega
    clear hmin
    go_enter Tryz.func60, Tryz.ntmps60
    go_wp2_with fail
    refine (hu _ hc).mono ?_
    rintro e w1 ⟨rfl, rfl⟩
    go_wp2_with fail
    refine (hrk _ HT.out).mono ?_
    rintro e w1 ⟨rfl, rfl⟩
    go_wp2_with fail
    go_ret
    exact ⟨rfl, rfl⟩
/-- A sum is added. -/
theorem add_any {B b : Nat} {l : List UInt8} (h : Nat) (hh : h < 18446744073709551616) {w : World} (hT : Tab w) (hS : Sk B b l w) :
    Calls Tryz.prog 60 #[.pointer (some ⟨B, 0, none⟩), .int .u64 h] w fun e w' => e = .returned (.bool (addB b h l)) ∧ Chg B w w' ∧ Sk B b (addL b h l) w' := by
  have hpl : hp b h < l.length := by rw [hS.len]; exact hp_lt b h
  have hx := hS.cell _ hpl
  have hf := hS.fro _ hpl
  have hg : (l.getD (hp b h) 0).toNat = l[hp b h].toNat := by rw [List.getD_eq_getElem?_getD, List.getElem?_eq_getElem hpl]; rfl
  by_cases hlt : (l[hp b h].toNat : Int) < hr b h
  · have hb : addB b h l = true := by unfold addB; rw [hg]; simpa using hlt
    refine (add_yes B b hS.lo hS.hi h hh _ w hT hS.bits hx hf hlt).mono ?_
    rintro e w' ⟨rfl, rfl⟩
    refine ⟨by rw [hb], (Chg.refl _ _).set _ _, ?_⟩
    unfold addL
    rw [if_pos hb]
    have := hS.set (hp b h) (UInt8.ofNat (hr b h)) hpl
    rwa [ofNat_toNat (hr_hi b h)] at this
  · have hb : addB b h l = false := by unfold addB; rw [hg]; simpa using hlt
    refine (add_no B b hS.lo hS.hi h hh _ w hT hS.bits hx hf (by omega)).mono ?_
    rintro e w' ⟨rfl, rfl⟩
    refine ⟨by rw [hb], Chg.refl _ _, ?_⟩
    unfold addL
    rw [hb]
    exact hS
end Go.Proofs.YtcgkgdhbipbnfaaGreatDoor.Hl

namespace Go.Proofs.YtcgkgdhbipbnfaaGreatDoor.Hl
open Go Go.RowKit

theorem addr_add (b o i : Nat) : (⟨b, o, none⟩ : Addr).add i = ⟨b, o + i, none⟩ := by unfold Addr.add; split <;> simp_all
/-- Bytes as a text. -/
def tx (l : List UInt8) : ByteArray := ⟨l.toArray⟩
theorem tx_size (l : List UInt8) : (tx l).size = l.length := by simp [tx, ByteArray.size]
theorem regs_back {B b : Nat} {l : List UInt8} {w : World} (hS : Sk B b l w) (cap : Nat) :
    (convert 68 9 (.slice (some ⟨B, 1, none⟩) (2 ^ b) cap)).run Tryz.prog w = .ok (.string (tx l)) w := by
  have h := run_convert_bytes_back (P := Tryz.prog) w 68 9 5 ⟨B, 1, none⟩ cap l Tryz.underlying68 Tryz.underlying5 Tryz.underlying9 (fun j hj => by
    rw [addr_add]
    exact hS.cell j hj)
  rw [hS.len] at h
  exact h
theorem registers_any {B b : Nat} {l : List UInt8} {w : World} (hS : Sk B b l w) :
    Calls Tryz.prog 51 #[.pointer (some ⟨B, 0, none⟩)] w fun e w' => e = .returned (.string (tx l)) ∧ w = w' := by
  have hu := used_M B b hS.lo hS.hi (2 ^ b) rfl w hS.bits
  have hcv := regs_back hS (2 ^ b)
  generalize 2 ^ b = M at *
  go_enter Tryz.func51, Tryz.ntmps51
  go_wp2_with fail
  refine hu.mono ?_
  rintro e w1 ⟨rfl, rfl⟩
  go_wp2
  go_ret
  exact ⟨rfl, rfl⟩
theorem Chg.setCells {B : Nat} {a : World} : ∀ (vs : List Value) (o : Nat) (w : World), Chg B a w → Chg B a (w.setCells B o vs)
  | [], _, _, h => h
  | v :: r, o, _, h => Chg.setCells r (o + 1) _ (h.set o v)
theorem size_setCells (B : Nat) : ∀ (vs : List Value) (o : Nat) (w : World), (w.setCells B o vs).heap.size = w.heap.size
  | [], _, _ => rfl
  | v :: r, o, w => (size_setCells B r (o + 1) _).trans (by simp [World.setCell])
/-- All registers are written. -/
theorem Sk.setAll {B b : Nat} {l l' : List UInt8} {w : World} (h : Sk B b l w) (hl : l'.length = l.length) : Sk B b l' (w.setCells B 1 (l'.map fun x => .int .u8 (x.toNat : Int))) := by
  have hlen : (l'.map fun x => Value.int .u8 (x.toNat : Int)).length = l'.length := List.length_map _
  refine ⟨by rw [size_setCells]; exact h.lt, h.lo, h.hi, hl.trans h.len, ?_, fun i hi => ?_, fun i hi => ?_⟩
  · rw [World.cell?_setCells_out _ _ _ _ _ (fun _ _ => .inl (by simp))]
    exact h.bits
  · rw [World.cell?_setCells_in _ _ _ _ (fun j hj => by rw [hlen] at hj; rw [h.cell j (by omega)]; rfl) i (by rw [hlen]; exact hi)]
    simp
  · rw [World.frozen?_setCells]
    exact h.fro i (by omega)
theorem info_u8 : (Tryz.prog.info? 5).map (fun i => (i.zero, i.size, i.bytes)) = some (some (.int .u8 0), 1, 1) := by kernel_rfl
end Go.Proofs.YtcgkgdhbipbnfaaGreatDoor.Hl

namespace Go.Proofs.YtcgkgdhbipbnfaaGreatDoor.Hl
open Go Go.RowKit

set_option maxRecDepth 100000 in
set_option maxHeartbeats 2000000 in
theorem merge_no (B T : Nat) (x y : Int) (hne : ¬ y = x) (w : World) (hx : w.cell? ⟨B, 0, none⟩ = some (.int .i64 x)) (hy : w.cell? ⟨T, 0, none⟩ = some (.int .i64 y)) :
    Calls Tryz.prog 58 #[.pointer (some ⟨B, 0, none⟩), .pointer (some ⟨T, 0, none⟩)] w fun e w' => e = .returned (.int .i64 1) ∧ ∃ n, w' = w.drewN n := by
  go_enter Tryz.func58, Tryz.ntmps58
  go_wp2
  go_quiet (fail)
  go_wp2
  go_ret
  exact ⟨rfl, _, rfl⟩
/-- The first k registers merged. -/
def mix (k : Nat) (l t : List UInt8) : List UInt8 := (mergeL l t).take k ++ l.drop k
theorem mix_zero (l t : List UInt8) : mix 0 l t = l := by simp [mix]
theorem mix_length {l t : List UInt8} (h : l.length = t.length) (k : Nat) : (mix k l t).length = l.length := by
  simp only [mix, List.length_append, List.length_take, List.length_drop, mergeL_length h]
  omega
theorem mix_all {l t : List UInt8} (h : l.length = t.length) : mix l.length l t = mergeL l t := by
  simp only [mix, List.drop_length, List.append_nil]
  rw [List.take_of_length_le (by rw [mergeL_length h]; exact Nat.le_refl _)]
theorem mix_at {l t : List UInt8} (h : l.length = t.length) (k : Nat) (hk : k < l.length) : (mix k l t)[k]? = some l[k] := by
  unfold mix
  rw [List.getElem?_append_right (by rw [List.length_take, mergeL_length h]; omega), List.length_take, mergeL_length h, List.getElem?_drop, show k + (k - min k l.length) = k by omega]
  simp [hk]
theorem mix_set {l t : List UInt8} (h : l.length = t.length) (k : Nat) (hk : k < l.length) (x : UInt8) (hx : (mergeL l t)[k]? = some x) : (mix k l t).set k x = mix (k + 1) l t := by
  unfold mix
  have hm := mergeL_length h
  rw [List.set_append, if_neg (by rw [List.length_take]; omega), List.length_take, show k - min k (mergeL l t).length = 0 by omega]
  rw [List.drop_eq_getElem_cons hk, List.set_cons_zero, List.take_add_one, hx]
  simp
theorem mergeL_get {l t : List UInt8} (h : l.length = t.length) (k : Nat) (hk : k < l.length) : (mergeL l t)[k]? = some (if l[k].toNat ≤ (t[k]'(by omega)).toNat then t[k]'(by omega) else l[k]) := by
  unfold mergeL
  rw [List.getElem?_zipWith, List.getElem?_eq_getElem hk, List.getElem?_eq_getElem (show k < t.length by omega)]
theorem chg_drewN (B : Nat) (w : World) (n : Nat) : Chg B w (w.drewN n) := ⟨rfl, rfl, rfl, Nat.le_refl _, fun _ _ _ => rfl⟩
theorem Sk.drewN {B b : Nat} {l : List UInt8} {w : World} (h : Sk B b l w) (n : Nat) : Sk B b l (w.drewN n) := ⟨h.lt, h.lo, h.hi, h.len, h.bits, h.cell, h.fro⟩
/-- What holds at the head of a round. -/
def MergeRel (B T b k : Nat) (l t : List UInt8) (w wx : World) : Prop := Chg B w wx ∧ Sk B b (mix k l t) wx ∧ ∀ i (h : i < t.length), k ≤ i → wx.cell? ⟨T, 1 + i, none⟩ = some (.int .u8 (t[i].toNat : Int))
theorem merge_step {B T b k : Nat} {l t : List UInt8} {w wx : World} (h : MergeRel B T b k l t w wx) (hl : l.length = t.length) (hk : k < l.length) (v : Int)
    (hv : v = if l[k].toNat ≤ (t[k]'(by omega)).toNat then ((t[k]'(by omega)).toNat : Int) else (l[k].toNat : Int)) : MergeRel B T b (k + 1) l t w (wx.setCell ⟨B, 1 + k, none⟩ (.int .u8 v)) := by
  obtain ⟨hC, hS, hT⟩ := h
  have hm := mergeL_get hl k hk
  obtain ⟨x, hx⟩ : ∃ x, x = if l[k].toNat ≤ (t[k]'(by omega)).toNat then t[k]'(by omega) else l[k] := ⟨_, rfl⟩
  rw [← hx] at hm
  have hxv : v = (x.toNat : Int) := by rw [hv, hx]; split <;> rfl
  subst hxv
  refine ⟨hC.set _ _, ?_, fun i hi hki => ?_⟩
  · rw [← mix_set hl k hk x hm]
    exact hS.set k x (by rw [mix_length hl]; exact hk)
  · rw [World.cell?_setCell_other (h := by intro e; have := congrArg Addr.off e; simp at this; omega)]
    exact hT i hi (by omega)
set_option maxRecDepth 100000 in
set_option maxHeartbeats 4000000 in
theorem merge_yes {B T b : Nat} {l t : List UInt8} {w : World} (hS : Sk B b l w) (hT : Sk T b t w) :
    Calls Tryz.prog 58 #[.pointer (some ⟨B, 0, none⟩), .pointer (some ⟨T, 0, none⟩)] w fun e w' => e = .returned (.int .i64 0) ∧ Chg B w w' ∧ Sk B b (mergeL l t) w' := by
  have hB0 := hS.bits
  have hT0 := hT.bits
  have huB := fun w h => used_M B b hS.lo hS.hi (2 ^ b) rfl w h
  have huT := fun w h => used_M T b hS.lo hS.hi (2 ^ b) rfl w h
  have hM := pow_hi hS.lo hS.hi
  have hl := hS.len
  have ht := hT.len
  generalize 2 ^ b = M at *
  obtain ⟨hM1, hM2⟩ := hM
  have HS := Lib.hid hS
  have HT := Lib.hid hT
  have HL := Lib.hid hl
  have HTL := Lib.hid ht
  clear hS hT hl ht
  go_enter Tryz.func58, Tryz.ntmps58
  go_wp2
  go_quiet (fail)
  go_wp2_with fail
  refine (huB (w.drewN nq) hB0).mono ?_
  rintro e w1 ⟨rfl, rfl⟩
  go_wp2_with fail
  refine (huT (w.drewN nq) hT0).mono ?_
  rintro e w1 ⟨rfl, rfl⟩
  have hS2 := HS.out.drewN nq
  have hT2 := HT.out.drewN nq
  have hC2 := chg_drewN B w nq
  generalize w.drewN nq = W at *
  have hrel0 : MergeRel B T b 0 l t w W := ⟨hC2, by rw [mix_zero]; exact hS2, fun i hi _ => hT2.cell i hi⟩
  have hlen : l.length = t.length := HL.out.trans HTL.out.symm
  have HLT := Lib.hid hlen
  clear hS2 hT2 hC2 hlen
  go_wp2_with fail
  go_loopw [22] (fun i wx => ∃ k : Nat, k ≤ M ∧ i = .int .i64 k ∧ MergeRel B T b k l t w wx) (fun i _ => M - (intOf i).toNat)
  case atStart => exact ⟨0, Nat.zero_le _, rfl, hrel0⟩
  case round =>
    obtain ⟨k, hk, rfl, hrel⟩ := hrel
    clear hrel0
    by_cases hlt : k < M
    · have hkl : k < l.length := by rw [HL.out]; exact hlt
      have hkt : k < t.length := by rw [HTL.out]; exact hlt
      have hx : wr.cell? ⟨B, 1 + k, none⟩ = some (.int .u8 (l[k].toNat : Int)) := by
        have h1 := hrel.2.1.cell k (by rw [mix_length HLT.out]; exact hkl)
        have h2 := mix_at HLT.out k hkl
        rw [List.getElem?_eq_getElem (by rw [mix_length HLT.out]; exact hkl)] at h2
        rw [h1, Option.some.inj h2]
      have hy := hrel.2.2 k hkt (Nat.le_refl _)
      have hf := hrel.2.1.fro k (by rw [mix_length HLT.out]; exact hkl)
      have hstep := fun v hv => merge_step hrel HLT.out hkl v hv
      have HST := Lib.hid hstep
      clear hstep hrel
      obtain ⟨x, hxe⟩ : ∃ x : Nat, l[k].toNat = x := ⟨_, rfl⟩
      obtain ⟨y, hye⟩ : ∃ y : Nat, t[k].toNat = y := ⟨_, rfl⟩
      rw [hxe] at hx
      rw [hye] at hy
      have HX := Lib.hid hxe
      have HY := Lib.hid hye
      clear hxe hye
      go_wp2
      refine ⟨⟨k + 1, by omega, by go_num, HST.out _ ?_⟩, by simp [intOf]; omega⟩
      rw [HX.out, HY.out]
      split <;> split <;> omega
    · have hkM : k = M := by omega
      subst hkM
      have hend := hrel
      clear hrel
      go_wp2
      go_ret
      exact ⟨rfl, hend.1, by rw [← mix_all HLT.out, HL.out]; exact hend.2.1⟩
end Go.Proofs.YtcgkgdhbipbnfaaGreatDoor.Hl

