/- Whether items stand in the order in which they are told, as the library asks it; items that lie somewhere. -/
import Derived.Test.YtnkhieackclniaaTOfM
import Derived.Shelf.SlSortCmp.QuietGrown
namespace Go.Proofs.Ytnkhieackclniaa
open Go Go.RowKit

/-- Items that lie behind an address. -/
def Rd (p : Option Addr) (l : List Itm) (w : World) : Prop :=
  ∀ i, i < l.length → ∃ C off, p = some ⟨C, off, none⟩ ∧ C < w.heap.size ∧ w.cell? ⟨C, off + i * 3, none⟩ = some (.string l[i]!.name) ∧ w.cell? ⟨C, off + i * 3 + 1, none⟩ = some (.int .u64 l[i]!.many) ∧ w.cell? ⟨C, off + i * 3 + 2, none⟩ = some (.int .u64 l[i]!.over)
theorem Rd.below {p : Option Addr} {l : List Itm} {w w' : World} (h : Rd p l w) (hB : Below w.heap.size w w') : Rd p l w' := fun i hi => by
  obtain ⟨C, off, h1, h2, h3, h4, h5⟩ := h i hi
  exact ⟨C, off, h1, Nat.lt_of_lt_of_le h2 hB.size, (hB.cell (p := ⟨C, off + i * 3, none⟩) h2).trans h3, (hB.cell (p := ⟨C, off + i * 3 + 1, none⟩) h2).trans h4, (hB.cell (p := ⟨C, off + i * 3 + 2, none⟩) h2).trans h5⟩
theorem Its.rd {base T cap : Nat} {p : Option Addr} {l : List Itm} {w : World} (h : Its base T (.slice p l.length cap) l w) : Rd p l w := by
  intro i hi
  obtain ⟨g, cap', e, _, hg, _, _, hc, _⟩ := h.form_pos (by omega)
  simp only [Value.slice.injEq] at e
  obtain ⟨rfl, _, _⟩ := e
  obtain ⟨h0, h1, h2⟩ := hc i hi
  exact ⟨g, 0, rfl, hg, by rw [Nat.zero_add]; exact h0, by rw [Nat.zero_add]; exact h1, by rw [Nat.zero_add]; exact h2⟩
/-- Whether they stand in order. -/
def sortB : List Itm → Bool
  | [] => true
  | [_] => true
  | x :: y :: r => !tells y x && sortB (y :: r)
theorem sortB_iff : ∀ l, sortB l = true ↔ SortA l
  | [] => ⟨fun _ i h => by simp at h, fun _ => rfl⟩
  | [_] => ⟨fun _ i h => by simp at h, fun _ => rfl⟩
  | x :: y :: r => by
    unfold sortB
    rw [Bool.and_eq_true, sortB_iff (y :: r)]
    constructor
    · rintro ⟨h1, h2⟩ i hi
      cases i with
      | zero => simpa using h1
      | succ i => exact h2 i (by simpa using hi)
    · intro h
      exact ⟨by have := h 0 (by simp); simpa using this, fun i hi => h (i + 1) (by simpa using hi)⟩
set_option maxRecDepth 100000 in
set_option maxHeartbeats 4000000 in
theorem issorted_any (p : Option Addr) (l : List Itm) (cap : Nat) (hl : l.length ≤ 16) (w : World) (h : Rd p l w) :
    Calls Try.prog 37 #[.slice p l.length cap, .func (.func 35) #[] #[]] w fun e w' => e = .returned (.bool (sortB l)) ∧ Below w.heap.size w w' := by
  have HR := Lib.hid h
  have HS := Lib.hid (sortB_iff l)
  obtain ⟨sb, hsb⟩ : ∃ sb, sortB l = sb := ⟨_, rfl⟩
  have HSB := Lib.hid hsb
  rw [hsb]
  obtain ⟨n, hn⟩ : ∃ n, l.length = n := ⟨_, rfl⟩
  have HN := Lib.hid hn
  rw [hn] at hl ⊢
  clear h hsb hn
  have eg : ∀ args w, (callFunc 35 args).run Try.prog w = .ok (.enter 35 args) w := enters_of Try.func35 (by kernel_rfl) rfl
  have mixed : Try.prog.follows .mixedOrders = true := by kernel_rfl
  go_enter Try.func37, Try.ntmps37
  go_wp2
  go_loopg [5] (n) (fun g i wx => ∃ z : Int, i = .int .i64 z ∧ z ≤ n ∧ -1 ≤ z ∧ z < n ∧ z.toNat ≤ g ∧ (∀ j : Nat, z < j + 1 → j + 1 < l.length → tells l[j + 1]! l[j]! = false) ∧ Below w.heap.size w wx)
  case atStart => exact ⟨(n : Int) - 1, rfl, by omega, by omega, by omega, by omega, (fun j h1 h2 => by rw [HN.out] at h2; omega), Below.refl _ _⟩
  case round =>
    obtain ⟨z, rfl, hz1, hz2, hz3, hzg, hall, hB⟩ := hrel
    by_cases hz : 0 < z
    · obtain ⟨i, hi⟩ : ∃ i : Nat, z = i := ⟨z.toNat, by omega⟩
      subst hi
      obtain ⟨j, hj⟩ : ∃ j, j + 1 = i := ⟨i - 1, by omega⟩
      obtain ⟨C, off, rfl, hC, d0, d1, d2⟩ := HR.out i (by rw [HN.out]; omega)
      obtain ⟨C', off', he, _, e0, e1, e2⟩ := HR.out j (by rw [HN.out]; omega)
      simp only [Option.some.injEq, Addr.mk.injEq, and_true] at he
      obtain ⟨rfl, rfl⟩ := he
      have hCw := Nat.lt_of_lt_of_le hC hB.size
      have k0 := cell_grown (a := ⟨C, off + i * 3, none⟩) hCw ((hB.cell (p := ⟨C, off + i * 3, none⟩) hC).trans d0)
      have k1 := cell_grown (a := ⟨C, off + i * 3 + 1, none⟩) hCw ((hB.cell (p := ⟨C, off + i * 3 + 1, none⟩) hC).trans d1)
      have k2 := cell_grown (a := ⟨C, off + i * 3 + 2, none⟩) hCw ((hB.cell (p := ⟨C, off + i * 3 + 2, none⟩) hC).trans d2)
      have m0 := cell_grown (a := ⟨C, off + j * 3, none⟩) hCw ((hB.cell (p := ⟨C, off + j * 3, none⟩) hC).trans e0)
      have m1 := cell_grown (a := ⟨C, off + j * 3 + 1, none⟩) hCw ((hB.cell (p := ⟨C, off + j * 3 + 1, none⟩) hC).trans e1)
      have m2 := cell_grown (a := ⟨C, off + j * 3 + 2, none⟩) hCw ((hB.cell (p := ⟨C, off + j * 3 + 2, none⟩) hC).trans e2)
      have hji : (i : Int) - 1 = (j : Int) := by omega
      have hi3 : (i : Int) < (n : Int) := by omega
      have hj3 : (j : Int) < (n : Int) := by omega
      have hi4 : i < n := by omega
      have hj4 : j < n := by omega
      have r8 : IntKind.i64.wrap (j : Int) = (j : Int) := IntWalk.i64_in _ (by omega)
      have htl := cmpT_lt l[i]! l[j]!
      have hor := fun W => inorder_any l[i]! l[j]! W
      simp only [encI] at hor
      have HALL := Lib.hid hall
      have HTL := Lib.hid htl
      have HB := Lib.hid hB
      have HJ := Lib.hid hj
      clear hall htl hB d0 d1 d2 e0 e1 e2 hj
      generalize hxn : l[i]!.name = xn at k0 hor
      generalize hxm : l[i]!.many = xm at k1 hor
      generalize hxo : l[i]!.over = xo at k2 hor
      generalize hyn : l[j]!.name = yn at m0 hor
      generalize hym : l[j]!.many = ym at m1 hor
      generalize hyo : l[j]!.over = yo at m2 hor
      generalize hct : cmpT l[i]! l[j]! = ct at hor
      have HCT := Lib.hid hct
      clear hxn hxm hxo hyn hym hyo hct
      go_wp2
      go_quiet_grown ((go_at_fn 35; exact Calls.grown_of (hor _)))
      have hBq : Below wr.heap.size wr (Sort.grow (wr.drewN nq) osq) := Grown.below ⟨nq, osq, rfl⟩
      have HBq := Lib.hid (HB.out.trans (hBq.mono HB.out.size))
      clear hBq k0 k1 k2 m0 m1 m2
      generalize Sort.grow (wr.drewN nq) osq = W5 at *
      by_cases hc : ct < 0
      · have hlt : tells l[i]! l[j]! = true := by rw [← HTL.out, HCT.out]; exact decide_eq_true hc
        have hsb2 : sb = false := by
          rw [← HSB.out, ← Bool.not_eq_true, HS.out]
          intro hA
          have := hA j (by rw [HN.out, HJ.out]; exact hi4)
          rw [HJ.out, hlt] at this
          cases this
        have HF := Lib.hid hsb2
        clear hlt hsb2
        go_wp2
        go_ret
        exact ⟨by rw [HF.out]; rfl, HBq.out⟩
      · have hlt : tells l[j + 1]! l[j]! = false := by rw [HJ.out, ← HTL.out, HCT.out]; exact decide_eq_false hc
        have HF := Lib.hid hlt
        clear hlt
        go_wp2
        go_roundg j
        case measure => have := HJ.out; omega
        case rel => exact ⟨(j : Int), rfl, by omega, by omega, by omega, by omega, (fun m h1 h2 => by
          by_cases e : m = j
          · subst e; exact HF.out
          · exact HALL.out m (by have := HJ.out; omega) h2), HBq.out⟩
    · have hsb2 : sb = true := by
        rw [← HSB.out, HS.out]
        intro j hj
        exact hall j (by omega) hj
      have HF := Lib.hid hsb2
      clear hsb2 hall
      go_wp2
      go_ret
      exact ⟨by rw [HF.out]; rfl, hB⟩
end Go.Proofs.Ytnkhieackclniaa
