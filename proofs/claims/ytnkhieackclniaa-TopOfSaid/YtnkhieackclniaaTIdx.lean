/- Where an item of a name stands, as the library's search finds it; a copy of a name. -/
import Derived.Test.YtnkhieackclniaaTItm
namespace Go.Proofs.Ytnkhieackclniaa
open Go Go.RowKit

theorem named_any (name xn : ByteArray) (xm xo N : Nat) (w : World) (hN : N < w.heap.size) (hc : w.cell? ⟨N, 0, none⟩ = some (.string name)) :
    Calls Try.prog 27 #[.agg #[.string xn, .int .u64 xm, .int .u64 xo], .pointer (some ⟨N, 0, none⟩)] w fun e w' => e = .returned (.bool (decide (xn = name))) ∧ Below w.heap.size w w' := by
  rw [← eqN]
  have hne : N ≠ w.heap.size := by omega
  go_enter Try.func27, Try.ntmps27
  go_wp2
  go_ret
  exact ⟨rfl, (Below.refl _ _).alloc (Nat.le_refl _) _⟩
/-- A place, or -1. -/
def plcI (name : ByteArray) (l : List Itm) : Int := match plc name l with | some i => i | none => -1
theorem idx_plc (name : ByteArray) (l : List Itm) (x : Itm) : Lib.idxBy (fun _ y => decide (y.name = name)) (l.take l.length) x = plcI name l := by
  unfold plcI
  cases h : plc name l with
  | some i =>
    obtain ⟨h1, h2, h3⟩ := plc_some h
    exact Lib.idxBy_hit (fun _ y => decide (y.name = name)) l l.length i x h1 (Nat.le_refl _) (by simpa using h2) (fun j hj => by simpa using h3 j hj)
  | none =>
    exact Lib.idxBy_miss (fun _ y => decide (y.name = name)) l l.length x (fun j hj => by simpa using plc_none h _ (mem_at hj))
theorem index_none (p : Option Addr) (cap : Nat) (fv : Value) (w : World) :
    Calls Try.prog 28 #[.slice p 0 cap, fv] w fun e w' => e = .returned (.int .i64 (-1)) ∧ w = w' := by
  go_enter Try.func28, Try.ntmps28
  go_wp2
  refine wp_loop_rounds 1 ?_
  rw [rounds_succ]
  go_wp2
  go_ret
  exact ⟨rfl, rfl⟩
theorem index_any {base N : Nat} {v : Value} {l : List Itm} {w : World} (name : ByteArray) (h : Its base 51 v l w) (hl : l.length ≤ 16) (hN : N < w.heap.size) (hc : w.cell? ⟨N, 0, none⟩ = some (.string name)) :
    Calls Try.prog 28 #[v, .func (.func 27) #[] #[.pointer (some ⟨N, 0, none⟩)]] w fun e w' => e = .returned (.int .i64 (plcI name l)) ∧ Below w.heap.size w w' := by
  have eg : ∀ args w, (callFunc 27 args).run Try.prog w = .ok (.enter 27 args) w := enters_of Try.func27 (by kernel_rfl) rfl
  rcases h.form with ⟨rfl, rfl⟩ | ⟨g, cap, rfl, _, hg, h1, h2, hcell, _⟩
  · refine (index_none none 0 _ w).mono ?_
    rintro e w' ⟨rfl, rfl⟩
    exact ⟨rfl, Below.refl _ _⟩
  · have hp : PredBelow Try.prog 27 #[.pointer (some ⟨N, 0, none⟩)] (fun x => .agg (encI x).toArray) (fun x => decide (x.name = name)) w := fun W x hb =>
      (named_any name x.name x.many x.over N W (Nat.lt_of_lt_of_le hN hb.size) ((hb.cell (p := ⟨N, 0, none⟩) hN).trans hc)).mono fun _ _ ⟨he, hB⟩ => ⟨he, hb.trans (hB.mono hb.size)⟩
    have hcon := AnyQ.slices_IndexFunc Try.indexF 3 Try.isAgg51 Try.sizeOf51 encI (fun _ => rfl) (fun x => decide (x.name = name)) 27 #[.pointer (some ⟨N, 0, none⟩)] eg g 0 l.length cap l w hp (Nat.le_refl _) (by omega) hg (fun j hj i u hi => by
      obtain ⟨k0, k1, k2⟩ := hcell j hj
      rw [Nat.zero_add]
      generalize l[j]! = y at hi k0 k1 k2
      match i, hi with
      | 0, hi => simp [encI] at hi; rw [← hi]; exact k0
      | 1, hi => simp [encI] at hi; rw [← hi]; exact k1
      | 2, hi => simp [encI] at hi; rw [← hi]; exact k2
      | i + 3, hi => simp [encI] at hi)
    rw [idx_plc] at hcon
    exact hcon
theorem clone_name (name : ByteArray) (h : name.size ≤ 64) (w : World) :
    Calls Try.prog 29 #[.string name] w fun e w' => e = .returned (.string name) ∧ Below w.heap.size w w' := by
  have hcl := fun W => Try.stringslite_Clone name W (by omega)
  go_enter Try.func29, Try.ntmps29
  go_wp2_with fail
  refine (hcl _).mono ?_
  rintro e w1 ⟨rfl, hB⟩
  go_wp2
  go_ret
  exact ⟨rfl, hB⟩
end Go.Proofs.Ytnkhieackclniaa
