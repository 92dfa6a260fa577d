/- A sum is added to the chapter's own sketch. -/
import Derived.Test.YtdcjfefnkjdchaaDoorHRef
namespace Go.Proofs.YtdcjfefnkjdchaaDoor
open Go Go.RowKit

/-- What an Add comes to. -/
def RefAdd (P A b h : Nat) (l : List UInt8) (w : World) (e : Ending) (w' : World) : Prop := e = .returned (.bool (addB b h l)) ∧ Chg A w w' ∧ RSk P A b (addL b h l) w'
set_option maxRecDepth 100000 in
set_option maxHeartbeats 2000000 in
theorem ref_add_any {P A b : Nat} {l : List UInt8} (h : Nat) (hh : h < 18446744073709551616) {w : World} (hS : RSk P A b l w) :
    Calls Tryd.prog 14 #[.pointer (some ⟨P, 0, none⟩), .int .u64 h] w (RefAdd P A b h l w) := by
  have lo := hS.lo
  have hi := hS.hi
  have hpt := hS.ptr
  have hM := pow_hi lo hi
  have hpl : hp b h < l.length := by rw [hS.len]; exact hp_lt b h
  have hpb := hp_lt b h
  have hx := hS.cell _ hpl
  have hg : (l.getD (hp b h) 0).toNat = l[hp b h].toNat := by rw [List.getD_eq_getElem?_getD, List.getElem?_eq_getElem hpl]; rfl
  have hmin : min ((rk b h : Nat) : Int) 26 = (hr b h : Nat) := by unfold hr; omega
  have hpm : (h : Int) % ((2 ^ b : Nat) : Int) = (hp b h : Nat) := by unfold hp; omega
  have hrk := fun w => ref_rank_nat b h hi hh w
  have hbt := fun w hS => ref_bits_any (P := P) (A := A) (b := b) (l := l) (w := w) hS
  have hrk1 := rk_hi b h
  have hr26 := hr_hi b h
  have HYES := Lib.hid (show l[hp b h].toNat < hr b h → ∀ W, Chg A w W → RSk P A b l W → RefAdd P A b h l w (.returned (.bool true)) (W.setCell ⟨A, hp b h, none⟩ (.int .i64 (hr b h : Nat))) from fun hlt W hC hSW => by
    have hb : addB b h l = true := by unfold addB; rw [hg]; simpa using hlt
    refine ⟨by rw [hb], hC.set _ _, ?_⟩
    unfold addL
    rw [if_pos hb]
    have := hSW.set (hp b h) (UInt8.ofNat (hr b h)) hpl
    rwa [ofNat_toNat hr26] at this)
  have HNO := Lib.hid (show ¬ l[hp b h].toNat < hr b h → ∀ W, Chg A w W → RSk P A b l W → RefAdd P A b h l w (.returned (.bool false)) W from fun hlt W hC hSW => by
    have hb : addB b h l = false := by unfold addB; rw [hg]; simpa using hlt
    refine ⟨by rw [hb], hC, ?_⟩
    unfold addL
    rw [hb]
    exact hSW)
  have HF := Lib.hid (hS.fro _ hpl)
  have HX := Lib.hid hx
  generalize hze : l[hp b h].toNat = z at *
  clear hg hze hpl hx
  generalize hp b h = p at *
  generalize hr b h = r at *
  generalize rk b h = q at *
  obtain ⟨M, hMe⟩ : ∃ M, 2 ^ b = M := ⟨_, rfl⟩
  rw [hMe] at hpt hM hpb hpm
  obtain ⟨hM1, hM2⟩ := hM
  clear hMe
  go_enter Tryd.func14, Tryd.ntmps14
  go_wp2_with fail
  refine (hbt _ hS).mono ?_
  rintro e w1 ⟨rfl, nq, rfl⟩
  go_wp2_with fail
  refine (hrk _).mono ?_
  rintro e w1 ⟨rfl, rfl⟩
  have hC : Chg A w (w.drewN nq) := chg_drewN A w nq
  have hS2 := hS.drewN nq
  have hpt2 : (w.drewN nq).cell? ⟨P, 0, none⟩ = some (.slice (some ⟨A, 0, none⟩) M M) := hpt
  have hx2 : (w.drewN nq).cell? ⟨A, p, none⟩ = some (.int .i64 (z : Int)) := HX.out
  have hf2 : (w.drewN nq).frozen? ⟨A, p, none⟩ = false := HF.out
  generalize w.drewN nq = W at *
  by_cases hlt : z < r
  · have hy := HYES.out hlt W hC hS2
    have HY := Lib.hid hy
    have hlti : ¬ (r : Int) ≤ (z : Int) := by omega
    clear hy hlt hC hS2 HYES HNO
    go_wp2
    go_ret
    exact HY.out
  · have hy := HNO.out hlt W hC hS2
    have HY := Lib.hid hy
    have hlti : (r : Int) ≤ (z : Int) := by omega
    clear hy hlt hC hS2 HYES HNO
    go_wp2
    go_ret
    exact HY.out
end Go.Proofs.YtdcjfefnkjdchaaDoor
