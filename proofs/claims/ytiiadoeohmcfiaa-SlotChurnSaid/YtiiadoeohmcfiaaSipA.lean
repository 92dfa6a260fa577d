/- The calls of math/bits that sip makes: what they return. A round of sip: what it makes of the four words. -/
import Derived.Test.YtiiadoeohmcfiaaChecked
import Derived.WalkKit
import Derived.Below
import Derived.IntWalk
import Derived.Laws.Bits64
import Derived.Laws.Bits64b
import Derived.Lib.Hide
import Derived.BigRegion
import Derived.Deep.RegionWith
namespace Go.Proofs.Ytiiadoeohmcfiaa
open Go Go.RowKit

/-- A word of 64 bits turned left, as the machine does it. -/
def rotl (x : Int) (k : Int) (l : Int) : Int := bits BinOp.or IntKind.u64 (IntKind.u64.wrap (x * k)) (x / l)
def add64 (x y : Int) : Int := IntKind.u64.wrap (x + y)
def xor64 (x y : Int) : Int := bits BinOp.xor IntKind.u64 x y

def rot13 (x : Int) : Int := rotl x 8192 2251799813685248
theorem rot13_any (x : Int) (w : World) :
    Calls Try.prog 40 #[.int .u64 x, .int .i64 13] w fun e w' => e = .returned (.int .u64 (rot13 x)) ∧ w = w' := by
  have hb : bits BinOp.and IntKind.u64 13 63 = 13 := by decide +kernel
  go_enter Try.func40, Try.ntmps40
  go_wp2
  go_ret
  exact ⟨rfl, rfl⟩

def rot16 (x : Int) : Int := rotl x 65536 281474976710656
theorem rot16_any (x : Int) (w : World) :
    Calls Try.prog 40 #[.int .u64 x, .int .i64 16] w fun e w' => e = .returned (.int .u64 (rot16 x)) ∧ w = w' := by
  have hb : bits BinOp.and IntKind.u64 16 63 = 16 := by decide +kernel
  go_enter Try.func40, Try.ntmps40
  go_wp2
  go_ret
  exact ⟨rfl, rfl⟩

def rot17 (x : Int) : Int := rotl x 131072 140737488355328
theorem rot17_any (x : Int) (w : World) :
    Calls Try.prog 40 #[.int .u64 x, .int .i64 17] w fun e w' => e = .returned (.int .u64 (rot17 x)) ∧ w = w' := by
  have hb : bits BinOp.and IntKind.u64 17 63 = 17 := by decide +kernel
  go_enter Try.func40, Try.ntmps40
  go_wp2
  go_ret
  exact ⟨rfl, rfl⟩

def rot21 (x : Int) : Int := rotl x 2097152 8796093022208
theorem rot21_any (x : Int) (w : World) :
    Calls Try.prog 40 #[.int .u64 x, .int .i64 21] w fun e w' => e = .returned (.int .u64 (rot21 x)) ∧ w = w' := by
  have hb : bits BinOp.and IntKind.u64 21 63 = 21 := by decide +kernel
  go_enter Try.func40, Try.ntmps40
  go_wp2
  go_ret
  exact ⟨rfl, rfl⟩

def rot32 (x : Int) : Int := rotl x 4294967296 4294967296
theorem rot32_any (x : Int) (w : World) :
    Calls Try.prog 40 #[.int .u64 x, .int .i64 32] w fun e w' => e = .returned (.int .u64 (rot32 x)) ∧ w = w' := by
  have hb : bits BinOp.and IntKind.u64 32 63 = 32 := by decide +kernel
  go_enter Try.func40, Try.ntmps40
  go_wp2
  go_ret
  exact ⟨rfl, rfl⟩

/-- The four words lie in block b. -/
structure Own4 (b : Nat) (x0 x1 x2 x3 : Int) (w : World) : Prop where
  c0 : w.cell? ⟨b, 0, none⟩ = some (.int .u64 x0)
  c1 : w.cell? ⟨b, 1, none⟩ = some (.int .u64 x1)
  c2 : w.cell? ⟨b, 2, none⟩ = some (.int .u64 x2)
  c3 : w.cell? ⟨b, 3, none⟩ = some (.int .u64 x3)
  f0 : w.frozen? ⟨b, 0, none⟩ = false
  f1 : w.frozen? ⟨b, 1, none⟩ = false
  f2 : w.frozen? ⟨b, 2, none⟩ = false
  f3 : w.frozen? ⟨b, 3, none⟩ = false

section
variable {b : Nat} {x0 x1 x2 x3 : Int} {w : World}
theorem Own4.drew (h : Own4 b x0 x1 x2 x3 w) : Own4 b x0 x1 x2 x3 w.drew := ⟨h.1, h.2, h.3, h.4, h.5, h.6, h.7, h.8⟩
theorem Own4.set0 (h : Own4 b x0 x1 x2 x3 w) (v : Int) : Own4 b v x1 x2 x3 (w.setCell ⟨b, 0, none⟩ (.int .u64 v)) :=
  ⟨by rw [World.cell?_setCell_same (h := h.c0)], by rw [World.cell?_setCell_other (h := by simp)]; exact h.c1, by rw [World.cell?_setCell_other (h := by simp)]; exact h.c2, by rw [World.cell?_setCell_other (h := by simp)]; exact h.c3,
   by rw [World.frozen?_setCell]; exact h.f0, by rw [World.frozen?_setCell]; exact h.f1, by rw [World.frozen?_setCell]; exact h.f2, by rw [World.frozen?_setCell]; exact h.f3⟩
theorem Own4.set1 (h : Own4 b x0 x1 x2 x3 w) (v : Int) : Own4 b x0 v x2 x3 (w.setCell ⟨b, 1, none⟩ (.int .u64 v)) :=
  ⟨by rw [World.cell?_setCell_other (h := by simp)]; exact h.c0, by rw [World.cell?_setCell_same (h := h.c1)], by rw [World.cell?_setCell_other (h := by simp)]; exact h.c2, by rw [World.cell?_setCell_other (h := by simp)]; exact h.c3,
   by rw [World.frozen?_setCell]; exact h.f0, by rw [World.frozen?_setCell]; exact h.f1, by rw [World.frozen?_setCell]; exact h.f2, by rw [World.frozen?_setCell]; exact h.f3⟩
theorem Own4.set2 (h : Own4 b x0 x1 x2 x3 w) (v : Int) : Own4 b x0 x1 v x3 (w.setCell ⟨b, 2, none⟩ (.int .u64 v)) :=
  ⟨by rw [World.cell?_setCell_other (h := by simp)]; exact h.c0, by rw [World.cell?_setCell_other (h := by simp)]; exact h.c1, by rw [World.cell?_setCell_same (h := h.c2)], by rw [World.cell?_setCell_other (h := by simp)]; exact h.c3,
   by rw [World.frozen?_setCell]; exact h.f0, by rw [World.frozen?_setCell]; exact h.f1, by rw [World.frozen?_setCell]; exact h.f2, by rw [World.frozen?_setCell]; exact h.f3⟩
theorem Own4.set3 (h : Own4 b x0 x1 x2 x3 w) (v : Int) : Own4 b x0 x1 x2 v (w.setCell ⟨b, 3, none⟩ (.int .u64 v)) :=
  ⟨by rw [World.cell?_setCell_other (h := by simp)]; exact h.c0, by rw [World.cell?_setCell_other (h := by simp)]; exact h.c1, by rw [World.cell?_setCell_other (h := by simp)]; exact h.c2, by rw [World.cell?_setCell_same (h := h.c3)],
   by rw [World.frozen?_setCell]; exact h.f0, by rw [World.frozen?_setCell]; exact h.f1, by rw [World.frozen?_setCell]; exact h.f2, by rw [World.frozen?_setCell]; exact h.f3⟩
end
/-- On from a world of which only what is told is kept. -/
theorem wp_own {P : Program} {code : Code} {Q : Exit → Act → World → Prop} {act : Act} {w w0 : World} {b : Nat} {x0 x1 x2 x3 : Int}
    (hO : Own4 b x0 x1 x2 x3 w) (hB : Below b w0 w) (h : ∀ w', Own4 b x0 x1 x2 x3 w' → Below b w0 w' → Code.wp P code Q act w') : Code.wp P code Q act w := h w hO hB

/-- What a round makes of the four words. -/
def sround (x : Int × Int × Int × Int) : Int × Int × Int × Int :=
  let a := add64 x.1 x.2.1
  let c := add64 x.2.2.1 x.2.2.2
  let b := xor64 (rot13 x.2.1) a
  let d := xor64 (rot16 x.2.2.2) c
  let a := rot32 a
  let c := add64 c b
  let a := add64 a d
  let b := xor64 (rot17 b) c
  let d := xor64 (rot21 d) a
  (a, b, rot32 c, d)

set_option maxRecDepth 100000 in
set_option maxHeartbeats 4000000 in
theorem round_any (b : Nat) (x0 x1 x2 x3 : Int) (w : World) (hO : Own4 b x0 x1 x2 x3 w) :
    Calls Try.prog 39 #[.pointer (some ⟨b, 0, none⟩)] w fun e w' => e = .returned (.tuple #[]) ∧ Below b w w' ∧ Own4 b (sround (x0, x1, x2, x3)).1 (sround (x0, x1, x2, x3)).2.1 (sround (x0, x1, x2, x3)).2.2.1 (sround (x0, x1, x2, x3)).2.2.2 w' := by
  have hB := Below.refl b w
  obtain ⟨c0, c1, c2, c3, f0, f1, f2, f3⟩ := id hO
  go_enter Try.func39, Try.ntmps39
  go_wp2
  go_region
  go_wp2
  refine wp_own (hO.set0 _).drew (hB.setCell (Nat.le_refl _) _).drew ?_
  clear c0 c1 c2 c3 f0 f1 f2 f3 hO hB
  intro w1 hO hB
  obtain ⟨c0, c1, c2, c3, f0, f1, f2, f3⟩ := id hO
  go_region
  go_wp2
  refine wp_own (hO.set2 _).drew (hB.setCell (Nat.le_refl _) _).drew ?_
  clear c0 c1 c2 c3 f0 f1 f2 f3 hO hB
  intro w2 hO hB
  obtain ⟨c0, c1, c2, c3, f0, f1, f2, f3⟩ := id hO
  go_region_with ((refine (rot13_any _ _).mono ?_; rintro e w' ⟨rfl, rfl⟩))
  go_wp2
  refine wp_own (hO.set1 _).drew (hB.setCell (Nat.le_refl _) _).drew ?_
  clear c0 c1 c2 c3 f0 f1 f2 f3 hO hB
  intro w3 hO hB
  obtain ⟨c0, c1, c2, c3, f0, f1, f2, f3⟩ := id hO
  go_region_with ((refine (rot16_any _ _).mono ?_; rintro e w' ⟨rfl, rfl⟩))
  go_wp2
  refine wp_own (hO.set3 _).drew (hB.setCell (Nat.le_refl _) _).drew ?_
  clear c0 c1 c2 c3 f0 f1 f2 f3 hO hB
  intro w4 hO hB
  obtain ⟨c0, c1, c2, c3, f0, f1, f2, f3⟩ := id hO
  go_region
  go_wp2
  refine wp_own (hO.set1 _).drew (hB.setCell (Nat.le_refl _) _).drew ?_
  clear c0 c1 c2 c3 f0 f1 f2 f3 hO hB
  intro w5 hO hB
  obtain ⟨c0, c1, c2, c3, f0, f1, f2, f3⟩ := id hO
  go_region
  go_wp2
  refine wp_own (hO.set3 _).drew (hB.setCell (Nat.le_refl _) _).drew ?_
  clear c0 c1 c2 c3 f0 f1 f2 f3 hO hB
  intro w6 hO hB
  obtain ⟨c0, c1, c2, c3, f0, f1, f2, f3⟩ := id hO
  go_region_with ((refine (rot32_any _ _).mono ?_; rintro e w' ⟨rfl, rfl⟩))
  go_wp2
  refine wp_own (hO.set0 _).drew (hB.setCell (Nat.le_refl _) _).drew ?_
  clear c0 c1 c2 c3 f0 f1 f2 f3 hO hB
  intro w7 hO hB
  obtain ⟨c0, c1, c2, c3, f0, f1, f2, f3⟩ := id hO
  go_region
  go_wp2
  refine wp_own (hO.set2 _).drew (hB.setCell (Nat.le_refl _) _).drew ?_
  clear c0 c1 c2 c3 f0 f1 f2 f3 hO hB
  intro w8 hO hB
  obtain ⟨c0, c1, c2, c3, f0, f1, f2, f3⟩ := id hO
  go_region
  go_wp2
  refine wp_own (hO.set0 _).drew (hB.setCell (Nat.le_refl _) _).drew ?_
  clear c0 c1 c2 c3 f0 f1 f2 f3 hO hB
  intro w9 hO hB
  obtain ⟨c0, c1, c2, c3, f0, f1, f2, f3⟩ := id hO
  go_region_with ((refine (rot17_any _ _).mono ?_; rintro e w' ⟨rfl, rfl⟩))
  go_wp2
  refine wp_own (hO.set1 _).drew (hB.setCell (Nat.le_refl _) _).drew ?_
  clear c0 c1 c2 c3 f0 f1 f2 f3 hO hB
  intro w10 hO hB
  obtain ⟨c0, c1, c2, c3, f0, f1, f2, f3⟩ := id hO
  go_region_with ((refine (rot21_any _ _).mono ?_; rintro e w' ⟨rfl, rfl⟩))
  go_wp2
  refine wp_own (hO.set3 _).drew (hB.setCell (Nat.le_refl _) _).drew ?_
  clear c0 c1 c2 c3 f0 f1 f2 f3 hO hB
  intro w11 hO hB
  obtain ⟨c0, c1, c2, c3, f0, f1, f2, f3⟩ := id hO
  go_region
  go_wp2
  refine wp_own (hO.set1 _).drew (hB.setCell (Nat.le_refl _) _).drew ?_
  clear c0 c1 c2 c3 f0 f1 f2 f3 hO hB
  intro w12 hO hB
  obtain ⟨c0, c1, c2, c3, f0, f1, f2, f3⟩ := id hO
  go_region
  go_wp2
  refine wp_own (hO.set3 _).drew (hB.setCell (Nat.le_refl _) _).drew ?_
  clear c0 c1 c2 c3 f0 f1 f2 f3 hO hB
  intro w13 hO hB
  obtain ⟨c0, c1, c2, c3, f0, f1, f2, f3⟩ := id hO
  go_region_with ((refine (rot32_any _ _).mono ?_; rintro e w' ⟨rfl, rfl⟩))
  go_wp2
  go_end0
  exact ⟨rfl, (hB.setCell (Nat.le_refl _) _).drew, (hO.set2 _).drew⟩
end Go.Proofs.Ytiiadoeohmcfiaa
