/- The calls of math/bits that sip makes: what they return. A round of sip: what it makes of the four words. Several rounds; a word mixed in; the sum at the end; the four words at first. The sum of a text: the word of some bytes; the last word; the whole. -/
import Derived.Test.YtcgkgdhbipbnfaaGreatDoorChecked
import Derived.WalkKit
import Derived.Below
import Derived.IntWalk
import Derived.Laws.Bits64
import Derived.Laws.Bits64b
import Derived.Lib.Hide
import Derived.BigRegion
import Derived.Deep.RegionWith
import Derived.LoopTactic
import Derived.Deep.QuietTactic
import Derived.BigQuiet
import Derived.Laws.ResultCell
import Derived.Deep.DeepCutAuto
import Derived.Laws.Strings2
namespace Go.Proofs.YtcgkgdhbipbnfaaGreatDoor
open Go Go.RowKit

/-- A word of 64 bits turned left, as the machine does it. -/
def rotl (x : Int) (k : Int) (l : Int) : Int := bits BinOp.or IntKind.u64 (IntKind.u64.wrap (x * k)) (x / l)
def add64 (x y : Int) : Int := IntKind.u64.wrap (x + y)
def xor64 (x y : Int) : Int := bits BinOp.xor IntKind.u64 x y

def rot13 (x : Int) : Int := rotl x 8192 2251799813685248
theorem rot13_any (x : Int) (w : World) :
    Calls Tryz.prog 145 #[.int .u64 x, .int .i64 13] w fun e w' => e = .returned (.int .u64 (rot13 x)) ∧ w = w' := by
  have hb : bits BinOp.and IntKind.u64 13 63 = 13 := by decide +kernel
  go_enter Tryz.func145, Tryz.ntmps145
  go_wp2
  go_ret
  exact ⟨rfl, rfl⟩

def rot16 (x : Int) : Int := rotl x 65536 281474976710656
theorem rot16_any (x : Int) (w : World) :
    Calls Tryz.prog 145 #[.int .u64 x, .int .i64 16] w fun e w' => e = .returned (.int .u64 (rot16 x)) ∧ w = w' := by
  have hb : bits BinOp.and IntKind.u64 16 63 = 16 := by decide +kernel
  go_enter Tryz.func145, Tryz.ntmps145
  go_wp2
  go_ret
  exact ⟨rfl, rfl⟩

def rot17 (x : Int) : Int := rotl x 131072 140737488355328
theorem rot17_any (x : Int) (w : World) :
    Calls Tryz.prog 145 #[.int .u64 x, .int .i64 17] w fun e w' => e = .returned (.int .u64 (rot17 x)) ∧ w = w' := by
  have hb : bits BinOp.and IntKind.u64 17 63 = 17 := by decide +kernel
  go_enter Tryz.func145, Tryz.ntmps145
  go_wp2
  go_ret
  exact ⟨rfl, rfl⟩

def rot21 (x : Int) : Int := rotl x 2097152 8796093022208
theorem rot21_any (x : Int) (w : World) :
    Calls Tryz.prog 145 #[.int .u64 x, .int .i64 21] w fun e w' => e = .returned (.int .u64 (rot21 x)) ∧ w = w' := by
  have hb : bits BinOp.and IntKind.u64 21 63 = 21 := by decide +kernel
  go_enter Tryz.func145, Tryz.ntmps145
  go_wp2
  go_ret
  exact ⟨rfl, rfl⟩

def rot32 (x : Int) : Int := rotl x 4294967296 4294967296
theorem rot32_any (x : Int) (w : World) :
    Calls Tryz.prog 145 #[.int .u64 x, .int .i64 32] w fun e w' => e = .returned (.int .u64 (rot32 x)) ∧ w = w' := by
  have hb : bits BinOp.and IntKind.u64 32 63 = 32 := by decide +kernel
  go_enter Tryz.func145, Tryz.ntmps145
  go_wp2
  go_ret
  exact ⟨rfl, rfl⟩

/-- The four words lie in block b. -/
structure Own4 (b : Nat) (x0 x1 x2 x3 : Int) (w : World) : Prop where
  c0 : w.cell? ⟨b, 0, none⟩ = some (.int .u64 x0)
  c1 : w.cell? ⟨b, 1, none⟩ = some (.int .u64 x1)
  c2 : w.cell? ⟨b, 2, none⟩ = some (.int .u64 x2)
  c3 : w.cell? ⟨b, 3, none⟩ = some (.int .u64 x3)
  f0 : w.frozen? ⟨b, 0, none⟩ = false
  f1 : w.frozen? ⟨b, 1, none⟩ = false
  f2 : w.frozen? ⟨b, 2, none⟩ = false
  f3 : w.frozen? ⟨b, 3, none⟩ = false

section
variable {b : Nat} {x0 x1 x2 x3 : Int} {w : World}
theorem Own4.drew (h : Own4 b x0 x1 x2 x3 w) : Own4 b x0 x1 x2 x3 w.drew := ⟨h.1, h.2, h.3, h.4, h.5, h.6, h.7, h.8⟩
theorem Own4.set0 (h : Own4 b x0 x1 x2 x3 w) (v : Int) : Own4 b v x1 x2 x3 (w.setCell ⟨b, 0, none⟩ (.int .u64 v)) :=
  ⟨by rw [World.cell?_setCell_same (h := h.c0)], by rw [World.cell?_setCell_other (h := by simp)]; exact h.c1, by rw [World.cell?_setCell_other (h := by simp)]; exact h.c2, by rw [World.cell?_setCell_other (h := by simp)]; exact h.c3,
   by rw [World.frozen?_setCell]; exact h.f0, by rw [World.frozen?_setCell]; exact h.f1, by rw [World.frozen?_setCell]; exact h.f2, by rw [World.frozen?_setCell]; exact h.f3⟩
theorem Own4.set1 (h : Own4 b x0 x1 x2 x3 w) (v : Int) : Own4 b x0 v x2 x3 (w.setCell ⟨b, 1, none⟩ (.int .u64 v)) :=
  ⟨by rw [World.cell?_setCell_other (h := by simp)]; exact h.c0, by rw [World.cell?_setCell_same (h := h.c1)], by rw [World.cell?_setCell_other (h := by simp)]; exact h.c2, by rw [World.cell?_setCell_other (h := by simp)]; exact h.c3,
   by rw [World.frozen?_setCell]; exact h.f0, by rw [World.frozen?_setCell]; exact h.f1, by rw [World.frozen?_setCell]; exact h.f2, by rw [World.frozen?_setCell]; exact h.f3⟩
theorem Own4.set2 (h : Own4 b x0 x1 x2 x3 w) (v : Int) : Own4 b x0 x1 v x3 (w.setCell ⟨b, 2, none⟩ (.int .u64 v)) :=
  ⟨by rw [World.cell?_setCell_other (h := by simp)]; exact h.c0, by rw [World.cell?_setCell_other (h := by simp)]; exact h.c1, by rw [World.cell?_setCell_same (h := h.c2)], by rw [World.cell?_setCell_other (h := by simp)]; exact h.c3,
   by rw [World.frozen?_setCell]; exact h.f0, by rw [World.frozen?_setCell]; exact h.f1, by rw [World.frozen?_setCell]; exact h.f2, by rw [World.frozen?_setCell]; exact h.f3⟩
theorem Own4.set3 (h : Own4 b x0 x1 x2 x3 w) (v : Int) : Own4 b x0 x1 x2 v (w.setCell ⟨b, 3, none⟩ (.int .u64 v)) :=
  ⟨by rw [World.cell?_setCell_other (h := by simp)]; exact h.c0, by rw [World.cell?_setCell_other (h := by simp)]; exact h.c1, by rw [World.cell?_setCell_other (h := by simp)]; exact h.c2, by rw [World.cell?_setCell_same (h := h.c3)],
   by rw [World.frozen?_setCell]; exact h.f0, by rw [World.frozen?_setCell]; exact h.f1, by rw [World.frozen?_setCell]; exact h.f2, by rw [World.frozen?_setCell]; exact h.f3⟩
end
/-- On from a world of which only what is told is kept. -/
theorem wp_own {P : Program} {code : Code} {Q : Exit → Act → World → Prop} {act : Act} {w w0 : World} {b : Nat} {x0 x1 x2 x3 : Int}
    (hO : Own4 b x0 x1 x2 x3 w) (hB : Below b w0 w) (h : ∀ w', Own4 b x0 x1 x2 x3 w' → Below b w0 w' → Code.wp P code Q act w') : Code.wp P code Q act w := h w hO hB

/-- What a round makes of the four words. -/
def sround (x : Int × Int × Int × Int) : Int × Int × Int × Int :=
  let a := add64 x.1 x.2.1
  let c := add64 x.2.2.1 x.2.2.2
  let b := xor64 (rot13 x.2.1) a
  let d := xor64 (rot16 x.2.2.2) c
  let a := rot32 a
  let c := add64 c b
  let a := add64 a d
  let b := xor64 (rot17 b) c
  let d := xor64 (rot21 d) a
  (a, b, rot32 c, d)

set_option maxRecDepth 100000 in
set_option maxHeartbeats 4000000 in
theorem round_any (b : Nat) (x0 x1 x2 x3 : Int) (w : World) (hO : Own4 b x0 x1 x2 x3 w) :
    Calls Tryz.prog 137 #[.pointer (some ⟨b, 0, none⟩)] w fun e w' => e = .returned (.tuple #[]) ∧ Below b w w' ∧ Own4 b (sround (x0, x1, x2, x3)).1 (sround (x0, x1, x2, x3)).2.1 (sround (x0, x1, x2, x3)).2.2.1 (sround (x0, x1, x2, x3)).2.2.2 w' := by
  have hB := Below.refl b w
  obtain ⟨c0, c1, c2, c3, f0, f1, f2, f3⟩ := id hO
  go_enter Tryz.func137, Tryz.ntmps137
  go_wp2
  go_region
  go_wp2
  refine wp_own (hO.set0 _).drew (hB.setCell (Nat.le_refl _) _).drew ?_
  clear c0 c1 c2 c3 f0 f1 f2 f3 hO hB
  intro w1 hO hB
  obtain ⟨c0, c1, c2, c3, f0, f1, f2, f3⟩ := id hO
  go_region
  go_wp2
  refine wp_own (hO.set2 _).drew (hB.setCell (Nat.le_refl _) _).drew ?_
  clear c0 c1 c2 c3 f0 f1 f2 f3 hO hB
  intro w2 hO hB
  obtain ⟨c0, c1, c2, c3, f0, f1, f2, f3⟩ := id hO
  go_region_with ((refine (rot13_any _ _).mono ?_; rintro e w' ⟨rfl, rfl⟩))
  go_wp2
  refine wp_own (hO.set1 _).drew (hB.setCell (Nat.le_refl _) _).drew ?_
  clear c0 c1 c2 c3 f0 f1 f2 f3 hO hB
  intro w3 hO hB
  obtain ⟨c0, c1, c2, c3, f0, f1, f2, f3⟩ := id hO
  go_region_with ((refine (rot16_any _ _).mono ?_; rintro e w' ⟨rfl, rfl⟩))
  go_wp2
  refine wp_own (hO.set3 _).drew (hB.setCell (Nat.le_refl _) _).drew ?_
  clear c0 c1 c2 c3 f0 f1 f2 f3 hO hB
  intro w4 hO hB
  obtain ⟨c0, c1, c2, c3, f0, f1, f2, f3⟩ := id hO
  go_region
  go_wp2
  refine wp_own (hO.set1 _).drew (hB.setCell (Nat.le_refl _) _).drew ?_
  clear c0 c1 c2 c3 f0 f1 f2 f3 hO hB
  intro w5 hO hB
  obtain ⟨c0, c1, c2, c3, f0, f1, f2, f3⟩ := id hO
  go_region
  go_wp2
  refine wp_own (hO.set3 _).drew (hB.setCell (Nat.le_refl _) _).drew ?_
  clear c0 c1 c2 c3 f0 f1 f2 f3 hO hB
  intro w6 hO hB
  obtain ⟨c0, c1, c2, c3, f0, f1, f2, f3⟩ := id hO
  go_region_with ((refine (rot32_any _ _).mono ?_; rintro e w' ⟨rfl, rfl⟩))
  go_wp2
  refine wp_own (hO.set0 _).drew (hB.setCell (Nat.le_refl _) _).drew ?_
  clear c0 c1 c2 c3 f0 f1 f2 f3 hO hB
  intro w7 hO hB
  obtain ⟨c0, c1, c2, c3, f0, f1, f2, f3⟩ := id hO
  go_region
  go_wp2
  refine wp_own (hO.set2 _).drew (hB.setCell (Nat.le_refl _) _).drew ?_
  clear c0 c1 c2 c3 f0 f1 f2 f3 hO hB
  intro w8 hO hB
  obtain ⟨c0, c1, c2, c3, f0, f1, f2, f3⟩ := id hO
  go_region
  go_wp2
  refine wp_own (hO.set0 _).drew (hB.setCell (Nat.le_refl _) _).drew ?_
  clear c0 c1 c2 c3 f0 f1 f2 f3 hO hB
  intro w9 hO hB
  obtain ⟨c0, c1, c2, c3, f0, f1, f2, f3⟩ := id hO
  go_region_with ((refine (rot17_any _ _).mono ?_; rintro e w' ⟨rfl, rfl⟩))
  go_wp2
  refine wp_own (hO.set1 _).drew (hB.setCell (Nat.le_refl _) _).drew ?_
  clear c0 c1 c2 c3 f0 f1 f2 f3 hO hB
  intro w10 hO hB
  obtain ⟨c0, c1, c2, c3, f0, f1, f2, f3⟩ := id hO
  go_region_with ((refine (rot21_any _ _).mono ?_; rintro e w' ⟨rfl, rfl⟩))
  go_wp2
  refine wp_own (hO.set3 _).drew (hB.setCell (Nat.le_refl _) _).drew ?_
  clear c0 c1 c2 c3 f0 f1 f2 f3 hO hB
  intro w11 hO hB
  obtain ⟨c0, c1, c2, c3, f0, f1, f2, f3⟩ := id hO
  go_region
  go_wp2
  refine wp_own (hO.set1 _).drew (hB.setCell (Nat.le_refl _) _).drew ?_
  clear c0 c1 c2 c3 f0 f1 f2 f3 hO hB
  intro w12 hO hB
  obtain ⟨c0, c1, c2, c3, f0, f1, f2, f3⟩ := id hO
  go_region
  go_wp2
  refine wp_own (hO.set3 _).drew (hB.setCell (Nat.le_refl _) _).drew ?_
  clear c0 c1 c2 c3 f0 f1 f2 f3 hO hB
  intro w13 hO hB
  obtain ⟨c0, c1, c2, c3, f0, f1, f2, f3⟩ := id hO
  go_region_with ((refine (rot32_any _ _).mono ?_; rintro e w' ⟨rfl, rfl⟩))
  go_wp2
  go_end0
  exact ⟨rfl, (hB.setCell (Nat.le_refl _) _).drew, (hO.set2 _).drew⟩
end Go.Proofs.YtcgkgdhbipbnfaaGreatDoor

namespace Go.Proofs.YtcgkgdhbipbnfaaGreatDoor
open Go Go.RowKit

abbrev W4 := Int × Int × Int × Int
/-- So many rounds. -/
def srounds : Nat → W4 → W4
  | 0, x => x
  | n + 1, x => sround (srounds n x)
abbrev OwnX (b : Nat) (x : W4) (w : World) : Prop := Own4 b x.1 x.2.1 x.2.2.1 x.2.2.2 w
theorem round_x (b : Nat) (x : W4) (w : World) (hO : OwnX b x w) :
    Calls Tryz.prog 137 #[.pointer (some ⟨b, 0, none⟩)] w fun e w' => e = .returned (.tuple #[]) ∧ Below b w w' ∧ OwnX b (sround x) w' :=
  round_any b x.1 x.2.1 x.2.2.1 x.2.2.2 w hO

def RoundsRel (b : Nat) (x : W4) (k : Nat) (w w' : World) : Prop := Below b w w' ∧ OwnX b (srounds k x) w'
set_option maxHeartbeats 1000000 in
theorem rounds_any (b : Nat) (x : W4) (n : Nat) (hn : n ≤ 1000) (w : World) (hO : OwnX b x w) :
    Calls Tryz.prog 115 #[.pointer (some ⟨b, 0, none⟩), .int .i64 n] w fun e w' => e = .returned (.tuple #[]) ∧ Below b w w' ∧ OwnX b (srounds n x) w' := by
  have HO := Lib.hid hO
  clear hO
  go_enter Tryz.func115, Tryz.ntmps115
  go_wp2
  go_loopw [5] (fun i wr => ∃ k : Nat, k ≤ n ∧ i = .int .i64 k ∧ RoundsRel b x k w wr) (fun i _ => n - (intOf i).toNat)
  case atStart => exact ⟨0, by omega, rfl, Below.refl _ _, HO.out⟩
  case round =>
    obtain ⟨k, hk, rfl, hR⟩ := hrel
    by_cases hlt : k < n
    · go_wp2_with (go_at_call 137; refine (round_x b (srounds k x) _ hR.2).mono ?_; rintro e w1 ⟨rfl, hB1, hO1⟩)
      go_roundw
      case rel => exact ⟨k + 1, by omega, by go_num, hR.1.trans hB1, hO1⟩
      case measure => simp [intOf]; omega
    · obtain rfl : k = n := by omega
      go_wp2
      go_end0
      exact ⟨rfl, hR.1, hR.2⟩

/-- A word mixed in. -/
def smix (x : W4) (m : Int) : W4 :=
  let y := srounds 2 (x.1, x.2.1, x.2.2.1, xor64 x.2.2.2 m)
  (xor64 y.1 m, y.2.1, y.2.2.1, y.2.2.2)
set_option maxHeartbeats 1000000 in
theorem mix_any (b : Nat) (x : W4) (m : Int) (w : World) (hO : OwnX b x w) :
    Calls Tryz.prog 92 #[.pointer (some ⟨b, 0, none⟩), .int .u64 m] w fun e w' => e = .returned (.tuple #[]) ∧ Below b w w' ∧ OwnX b (smix x m) w' := by
  obtain ⟨x0, x1, x2, x3⟩ := x
  have hB := Below.refl b w
  obtain ⟨c0, c1, c2, c3, f0, f1, f2, f3⟩ := (show Own4 b x0 x1 x2 x3 w from hO)
  go_enter Tryz.func92, Tryz.ntmps92
  go_wp2
  go_region
  go_wp2_with fail
  refine (rounds_any b (x0, x1, x2, xor64 x3 m) 2 (by omega) _ ((show Own4 b x0 x1 x2 x3 w from hO).set3 _).drew).mono ?_
  rintro e w1 ⟨rfl, hB1, hO1⟩
  replace hB1 := ((hB.setCell (p := ⟨b, 3, none⟩) (Nat.le_refl _) (.int .u64 (xor64 x3 m))).drew).trans hB1
  clear c0 c1 c2 c3 f0 f1 f2 f3 hO hB
  generalize hy : srounds 2 (x0, x1, x2, xor64 x3 m) = y at hO1
  have Hy := Lib.hid hy
  clear hy
  obtain ⟨c0, c1, c2, c3, f0, f1, f2, f3⟩ := id hO1
  go_wp2
  go_region
  go_wp2
  go_end0
  refine ⟨rfl, (hB1.setCell (Nat.le_refl _) _).drew, ?_⟩
  have : smix (x0, x1, x2, x3) m = (xor64 y.1 m, y.2.1, y.2.2.1, y.2.2.2) := by unfold smix; simp only []; rw [Hy.out]
  rw [this]
  exact (hO1.set0 _).drew

/-- The sum at the end. -/
def sfin (x : W4) : Int :=
  let y := srounds 4 (x.1, x.2.1, xor64 x.2.2.1 255, x.2.2.2)
  xor64 (xor64 (xor64 y.1 y.2.1) y.2.2.1) y.2.2.2
set_option maxHeartbeats 1000000 in
theorem finish_any (b : Nat) (x : W4) (w : World) (hO : OwnX b x w) :
    Calls Tryz.prog 95 #[.pointer (some ⟨b, 0, none⟩)] w fun e w' => e = .returned (.int .u64 (sfin x)) ∧ Below b w w' := by
  obtain ⟨x0, x1, x2, x3⟩ := x
  have hB := Below.refl b w
  obtain ⟨c0, c1, c2, c3, f0, f1, f2, f3⟩ := (show Own4 b x0 x1 x2 x3 w from hO)
  go_enter Tryz.func95, Tryz.ntmps95
  go_wp2
  go_region
  go_wp2_with fail
  refine (rounds_any b (x0, x1, xor64 x2 255, x3) 4 (by omega) _ ((show Own4 b x0 x1 x2 x3 w from hO).set2 _).drew).mono ?_
  rintro e w1 ⟨rfl, hB1, hO1⟩
  replace hB1 := ((hB.setCell (p := ⟨b, 2, none⟩) (Nat.le_refl _) (.int .u64 (xor64 x2 255))).drew).trans hB1
  clear c0 c1 c2 c3 f0 f1 f2 f3 hO hB
  generalize hy : srounds 4 (x0, x1, xor64 x2 255, x3) = y at hO1
  have Hy := Lib.hid hy
  clear hy
  obtain ⟨c0, c1, c2, c3, f0, f1, f2, f3⟩ := id hO1
  go_wp2
  go_quiet (fail)
  go_wp2
  go_ret
  refine ⟨?_, hB1.trans ⟨rfl, rfl, rfl, Nat.le_refl _, fun _ _ => rfl⟩⟩
  have : sfin (x0, x1, x2, x3) = xor64 (xor64 (xor64 y.1 y.2.1) y.2.2.1) y.2.2.2 := by unfold sfin; simp only []; rw [Hy.out]
  rw [this]
  rfl

/-- The four words at first. -/
def sbegin (k0 k1 : Int) : W4 := (xor64 k0 0x736f6d6570736575, xor64 k1 0x646f72616e646f6d, xor64 k0 0x6c7967656e657261, xor64 k1 0x7465646279746573)
theorem begin_any (k0 k1 : Int) (w : World) :
    Calls Tryz.prog 91 #[.int .u64 k0, .int .u64 k1] w fun e w' => e = .returned (.agg #[.int .u64 (sbegin k0 k1).1, .int .u64 (sbegin k0 k1).2.1, .int .u64 (sbegin k0 k1).2.2.1, .int .u64 (sbegin k0 k1).2.2.2]) ∧ Below w.heap.size w w' := by
  go_enter Tryz.func91, Tryz.ntmps91
  go_wp2
  exact bodyPost_ret (v := .agg #[.int .u64 (sbegin k0 k1).1, .int .u64 (sbegin k0 k1).2.1, .int .u64 (sbegin k0 k1).2.2.1, .int .u64 (sbegin k0 k1).2.2.2]) (by simp [results, Tryz.results91, go_sem, sbegin, xor64]) rfl ⟨rfl, (Below.refl _ _).alloc (Nat.le_refl _) _⟩
end Go.Proofs.YtcgkgdhbipbnfaaGreatDoor

namespace Go.Proofs.YtcgkgdhbipbnfaaGreatDoor
open Go Go.RowKit

/-- The number that some bytes are, the lowest first. -/
def leval : List UInt8 → Nat
  | [] => 0
  | c :: l => c.toNat + 256 * leval l
theorem leval_lt : ∀ l : List UInt8, leval l < 256 ^ l.length
  | [] => by simp [leval]
  | c :: l => by
    have h := leval_lt l
    have hc := c.toNat_lt
    simp only [leval, List.length_cons, Nat.pow_succ]
    omega
theorem leval_append (a b : List UInt8) : leval (a ++ b) = leval a + 256 ^ a.length * leval b := by
  induction a with
  | nil => simp [leval]
  | cons c a ih =>
    simp only [List.cons_append, leval, ih, List.length_cons, Nat.pow_succ, Nat.mul_add]
    have e : 256 * (256 ^ a.length * leval b) = 256 ^ a.length * 256 * leval b := by rw [← Nat.mul_assoc, Nat.mul_comm 256]
    omega
/-- One byte more, above. -/
def lowStep (n : Int) (c : UInt8) (i : Nat) : Int := bits BinOp.or IntKind.u64 n (IntKind.u64.wrap (IntKind.u64.wrap (c.toNat : Int) * 2 ^ (i * 8)))
theorem lowStep_eq (l : List UInt8) (c : UInt8) (h : l.length < 8) : lowStep (leval l : Nat) c l.length = (leval (l ++ [c]) : Nat) := by
  have hl := leval_lt l
  have hc := c.toNat_lt
  have e256 : (256 : Nat) ^ l.length = 2 ^ (l.length * 8) := by rw [show (256 : Nat) = 2 ^ 8 from rfl, ← Nat.pow_mul, Nat.mul_comm]
  have hp : (2 : Nat) ^ (l.length * 8) ≤ 2 ^ 56 := Nat.pow_le_pow_right (by decide) (by omega)
  have hm : c.toNat * 2 ^ (l.length * 8) ≤ 255 * 2 ^ 56 := Nat.mul_le_mul (by omega) hp
  rw [e256] at hl
  have ew : IntKind.u64.wrap (IntKind.u64.wrap (c.toNat : Int) * 2 ^ (l.length * 8)) = ((c.toNat * 2 ^ (l.length * 8) : Nat) : Int) := by
    rw [IntKind.wrap_u64 (c.toNat : Int), Int.emod_eq_of_lt (by omega) (by omega), IntKind.wrap_u64]
    rw [show ((c.toNat : Int) * 2 ^ (l.length * 8)) = ((c.toNat * 2 ^ (l.length * 8) : Nat) : Int) from by push_cast; rfl]
    omega
  unfold lowStep
  rw [ew, bits_or_u64_nat _ _ (by omega) (by omega)]
  congr 1
  rw [leval_append, e256, Nat.or_comm, Nat.mul_comm c.toNat, ← Nat.two_pow_add_eq_or_of_lt hl]
  simp [leval]
  omega
theorem snoc_take (s : ByteArray) (k : Nat) (h : k < s.size) : s.data.toList.take (k + 1) = s.data.toList.take k ++ [s[k]] := by
  rw [List.take_succ_eq_append_getElem (by simpa using h)]; rfl

/-- The word of at most eight bytes. -/
def sword (l : List UInt8) : Int := (leval l : Nat)
set_option maxHeartbeats 1000000 in
theorem lowest_any (s : ByteArray) (w : World) (hs : s.size ≤ 8) :
    Calls Tryz.prog 93 #[.string s] w fun e w' => e = .returned (.int .u64 (sword s.data.toList)) ∧ w = w' := by
  go_enter Tryz.func93, Tryz.ntmps93
  go_wp2
  go_loop [3, 7] (fun n i => ∃ k : Nat, k ≤ s.size ∧ i = .int .i64 k ∧ n = .int .u64 (sword (s.data.toList.take k))) (fun _ i => s.size - (intOf i).toNat)
  case atStart => exact ⟨0, Nat.zero_le _, rfl, rfl⟩
  case round =>
    obtain ⟨k, hk, rfl, rfl⟩ := hrel
    by_cases hlt : k < s.size
    · have hstep : lowStep (sword (s.data.toList.take k)) s[k] k = sword (s.data.toList.take (k + 1)) := by
        have h := lowStep_eq (s.data.toList.take k) s[k] (by simp; omega)
        have hl : (s.data.toList.take k).length = k := by simp; omega
        rw [hl] at h
        rw [snoc_take s k hlt]
        exact h
      have Hs := Lib.hid hstep
      clear hstep
      go_wp2
      go_round
      case rel => exact ⟨k + 1, by omega, by go_num, by rw [← Hs.out]; rfl⟩
      case measure => simp [intOf]; omega
    · obtain rfl : k = s.size := by omega
      go_wp2
      go_ret
      exact ⟨by rw [List.take_of_length_le (by simp)]; rfl, rfl⟩

/-- The last word: what is left, and above it how many there are. -/
def slast (l : List UInt8) (n : Int) : Int := bits BinOp.or IntKind.u64 (sword l) (IntKind.u64.wrap (IntKind.u64.wrap n * 72057594037927936))
set_option maxHeartbeats 1000000 in
theorem last_any (s : ByteArray) (n : Int) (w : World) (hs : s.size ≤ 8) :
    Calls Tryz.prog 94 #[.string s, .int .i64 n] w fun e w' => e = .returned (.int .u64 (slast s.data.toList n)) ∧ w = w' := by
  go_enter Tryz.func94, Tryz.ntmps94
  go_wp2_with (go_at_call 93; refine (lowest_any _ _ hs).mono ?_; rintro e w' ⟨rfl, rfl⟩)
  go_ret
  exact ⟨rfl, rfl⟩

/-- The words of a text mixed in. -/
def sblocks (x : W4) (l : List UInt8) : Nat → W4
  | 0 => x
  | k + 1 => smix (sblocks x l k) (sword ((l.drop (8 * k)).take 8))
def ssum (k0 k1 : Int) (l : List UInt8) : Int :=
  sfin (smix (sblocks (sbegin k0 k1) l (l.length / 8)) (slast (l.drop (8 * (l.length / 8))) l.length))
theorem own_alloc (x : W4) (w : World) (t : TypeId) : OwnX w.heap.size x (w.alloc (.cells #[.int .u64 x.1, .int .u64 x.2.1, .int .u64 x.2.2.1, .int .u64 x.2.2.2] t)) := by
  constructor <;> go_simp
def SumRel (b : Nat) (x : W4) (w w' : World) : Prop := Below w.heap.size w w' ∧ OwnX b x w'
theorem str_slice {P : Program} {t : TypeId} (hu : P.underlying t = some .string) (s : ByteArray) (a b : Nat) (h1 : a ≤ b) (h2 : b ≤ s.size) (wx : World) :
    (Instr.slice t (.string s) (some (.int .i64 (a : Int))) (some (.int .i64 (b : Int))) none).run P wx = .ok (.string (s.extract a b)) wx := by
  have := run_slice_string (P := P) wx t s .i64 .i64 (a : Int) (b : Int) hu (by omega) (by omega) (by omega)
  simpa using this
theorem str_from {P : Program} {t : TypeId} (hu : P.underlying t = some .string) (s : ByteArray) (a : Nat) (h1 : a ≤ s.size) (wx : World) :
    (Instr.slice t (.string s) (some (.int .i64 (a : Int))) none none).run P wx = .ok (.string (s.extract a s.size)) wx := by
  have := run_slice_string_l (P := P) wx t s hu .i64 (a : Int) (by omega) (by omega)
  simpa using this
theorem extract_list (s : ByteArray) (a b : Nat) : (s.extract a b).data.toList = (s.data.toList.drop a).take (b - a) := by
  simp
set_option maxHeartbeats 2000000 in
theorem sum_any (k0 k1 : Int) (s : ByteArray) (w : World) (hs : s.size ≤ maxLen) :
    Calls Tryz.prog 61 #[.int .u64 k0, .int .u64 k1, .string s] w fun e w' => e = .returned (.int .u64 (ssum k0 k1 s.data.toList)) ∧ Below w.heap.size w w' := by
  unfold maxLen at hs
  go_enter Tryz.func61, Tryz.ntmps61
  go_wp2_with (go_at_call 91; refine (begin_any k0 k1 _).mono ?_; rintro e w1 ⟨rfl, hB1⟩)
  have hO := own_alloc (sbegin k0 k1) w1 156
  have hB := hB1.alloc hB1.size (.cells #[.int .u64 (sbegin k0 k1).1, .int .u64 (sbegin k0 k1).2.1, .int .u64 (sbegin k0 k1).2.2.1, .int .u64 (sbegin k0 k1).2.2.2] 156)
  have hz := hB1.size
  generalize w1.alloc (.cells #[.int .u64 (sbegin k0 k1).1, .int .u64 (sbegin k0 k1).2.1, .int .u64 (sbegin k0 k1).2.2.1, .int .u64 (sbegin k0 k1).2.2.2] 156) = w2 at *
  generalize w1.heap.size = B at *
  have HO := Lib.hid hO
  clear hO hB1
  go_loopw [17] (fun i wr => ∃ k : Nat, k ≤ s.size / 8 ∧ i = .int .i64 k ∧ SumRel B (sblocks (sbegin k0 k1) s.data.toList k) w wr) (fun i _ => s.size - (intOf i).toNat)
  case atStart => exact ⟨0, Nat.zero_le _, rfl, hB, HO.out⟩
  case round =>
    obtain ⟨k, hk, rfl, hR⟩ := hrel
    by_cases hlt : k < s.size / 8
    · have hb1 : (k + 1) * 8 ≤ s.size := by omega
      have hsl := str_slice Tryz.underlying9 s (k * 8) ((k + 1) * 8) (by omega) hb1
      push_cast at hsl
      have hsz : (s.extract (k * 8) ((k + 1) * 8)).size ≤ 8 := by rw [ByteArray.size_extract]; omega
      have hw : (s.extract (k * 8) ((k + 1) * 8)).data.toList = (s.data.toList.drop (8 * k)).take 8 := by
        rw [extract_list, show (k + 1) * 8 - k * 8 = 8 from by omega, Nat.mul_comm 8 k]
      generalize s.extract (k * 8) ((k + 1) * 8) = t at *
      have Hw := Lib.hid hw
      clear hw
      go_wp2_with fail
      refine (lowest_any t _ hsz).mono ?_
      rintro e w3 ⟨rfl, rfl⟩
      rw [Hw.out]
      generalize hm : sword ((s.data.toList.drop (8 * k)).take 8) = m
      have Hm := Lib.hid hm
      clear hm
      go_wp2_with fail
      refine (mix_any B _ m _ hR.2).mono ?_
      rintro e w4 ⟨rfl, hB4, hO4⟩
      have Hn : SumRel B (sblocks (sbegin k0 k1) s.data.toList (k + 1)) w w4 := ⟨hR.1.trans (hB4.mono (by omega)), by
        show OwnX B (smix _ (sword _)) w4
        rw [Hm.out]; exact hO4⟩
      clear hR hO4 hB4
      go_wp2
      go_roundw
      case rel => exact ⟨k + 1, by omega, by go_num, Hn⟩
      case measure => simp [intOf]; omega
    · obtain rfl : k = s.size / 8 := by omega
      have hsl := str_from Tryz.underlying9 s (s.size / 8 * 8) (by omega)
      push_cast at hsl
      have hsz : (s.extract (s.size / 8 * 8) s.size).size ≤ 8 := by rw [ByteArray.size_extract]; omega
      have hw : (s.extract (s.size / 8 * 8) s.size).data.toList = s.data.toList.drop (8 * (s.data.toList.length / 8)) := by
        rw [extract_list, List.take_of_length_le (by simp), show s.data.toList.length = s.size from by simp, Nat.mul_comm]
      generalize s.extract (s.size / 8 * 8) s.size = t at *
      have Hw := Lib.hid hw
      clear hw
      go_wp2_with fail
      refine (last_any t _ _ hsz).mono ?_
      rintro e w3 ⟨rfl, rfl⟩
      rw [Hw.out]
      generalize hm : slast (s.data.toList.drop (8 * (s.data.toList.length / 8))) s.size = m
      have Hm := Lib.hid hm
      clear hm
      go_wp2_with fail
      refine (mix_any B _ m _ hR.2).mono ?_
      rintro e w4 ⟨rfl, hB4, hO4⟩
      have hB5 := hR.1.trans (hB4.mono (show w.heap.size ≤ B by omega))
      clear hR hB4
      go_wp2_with fail
      refine (finish_any B _ _ hO4).mono ?_
      rintro e w5 ⟨rfl, hB6⟩
      have hB7 := hB5.trans (hB6.mono (show w.heap.size ≤ B by omega))
      have hv : ssum k0 k1 s.data.toList = sfin (smix (sblocks (sbegin k0 k1) s.data.toList (s.size / 8)) m) := by
        unfold ssum
        have hl : s.data.toList.length = s.size := by simp
        rw [← Hm.out, hl]
      clear hB5 hB6 hO4
      rw [← hv]
      clear hv Hm
      go_wp2
      go_ret
      exact ⟨rfl, hB7⟩

end Go.Proofs.YtcgkgdhbipbnfaaGreatDoor

