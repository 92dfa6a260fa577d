/- Whether numbers may be tiers; whether a policy is right: the program's answer. -/
import Derived.Test.YtcgkgdhbipbnfaaGreatDoorPoF
namespace Go.Proofs.YtcgkgdhbipbnfaaGreatDoor.Po
open Go Go.RowKit

theorem chain_drop {t : List Int} {k : Nat} (h : k + 1 < t.length) : chainN (t.drop k) = (decide (t[k] < t[k + 1]) && decide (t[k + 1] % t[k] = 0) && chainN (t.drop (k + 1))) := by
  rw [List.drop_eq_getElem_cons (show k < t.length by omega), List.drop_eq_getElem_cons h]
  rfl
theorem chain_end {t : List Int} {k : Nat} (h : t.length ≤ k + 1) : chainN (t.drop k) = true := by
  by_cases h2 : k < t.length
  · rw [List.drop_eq_getElem_cons h2, List.drop_of_length_le h]
    rfl
  · rw [List.drop_of_length_le (by omega)]
    rfl
set_option maxRecDepth 100000 in
set_option maxHeartbeats 8000000 in
theorem tiers_any (S : Nat → Prop) (v : Value) (t : List Int) (w : World) (hT : Tr S v t w) (ht : ∀ x ∈ t, 1 ≤ x ∧ x ≤ 1000000000) :
    Calls Tryz.prog 70 #[v] w fun e w' => e = .returned (.bool (areN t)) ∧ Below w.heap.size w w' := by
  obtain ⟨p, c, rfl⟩ := hT.len
  obtain ⟨_, hc1, hc2, _, hat⟩ := hT.at
  have HA := Lib.hid hat
  have HR := Lib.hid ht
  obtain ⟨V, hV⟩ : ∃ V, areN t = V := ⟨_, rfl⟩
  rw [hV]
  unfold areN at hV
  have HE : Hid (∀ b, chainN t = b → (decide (1 ≤ t.length) && decide (t.length ≤ 3) && b) = V) := Lib.hid (fun b h => by rw [← h]; exact hV)
  have HB0 := Lib.hid (Below.refl w.heap.size w)
  obtain ⟨n, hn⟩ : ∃ n, t.length = n := ⟨_, rfl⟩
  have HN := Lib.hid hn
  clear hat ht hT hV hc1 hc2
  rw [hn] at HE ⊢
  by_cases h1 : n < 1
  · have hf : V = false := by have := HE.out _ rfl; rw [← this]; simp; omega
    subst hf
    have h1' : (n : Int) < 1 := by omega
    clear HE hn
    go_enter Tryz.func70, Tryz.ntmps70
    go_wp2
    go_ret
    exact ⟨rfl, HB0.out⟩
  by_cases h3 : 3 < n
  · have hf : V = false := by have := HE.out _ rfl; rw [← this]; simp; omega
    subst hf
    have h1' : ¬ (n : Int) < 1 := by omega
    have h3' : (3 : Int) < n := by omega
    clear HE hn
    go_enter Tryz.func70, Tryz.ntmps70
    go_wp2
    go_ret
    exact ⟨rfl, HB0.out⟩
  have HE2 : Hid (∀ b, chainN t = b → b = V) := Lib.hid (fun b h => by
    have := HE.out b h
    rw [decide_eq_true (show 1 ≤ n by omega), decide_eq_true (show n ≤ 3 by omega)] at this
    simpa using this)
  have h1' : ¬ (n : Int) < 1 := by omega
  have h3' : ¬ (3 : Int) < n := by omega
  obtain ⟨m, hm⟩ : ∃ m, n = m + 1 := ⟨n - 1, by omega⟩
  subst hm
  have hm3 : m ≤ 2 := by omega
  have hcm : ((m + 1 : Nat) : Int) - 1 = (m : Int) := by omega
  clear HE hn h1 h3
  go_enter Tryz.func70, Tryz.ntmps70
  go_wp2
  clear h1' h3'
  go_loopg [17] m (fun g s17 wx => ∃ k : Nat, s17 = .int .i64 (k : Int) ∧ g + k = m ∧ Hid (chainN t = chainN (t.drop k)) ∧ Hid (Below w.heap.size w wx))
  case atStart => exact ⟨0, rfl, rfl, Lib.hid rfl, HB0⟩
  case round =>
    obtain ⟨k, rfl, hgk, HC, HB⟩ := hrel
    clear HB0
    cases gk with
    | zero =>
      obtain rfl : k = m := by omega
      have hf : true = V := HE2.out _ (by rw [HC.out]; exact chain_end (by have := HN.out; omega))
      subst hf
      go_wp2
      go_ret
      exact ⟨rfl, HB.out⟩
    | succ g =>
      have hk1 : k + 1 < t.length := by have := HN.out; omega
      obtain ⟨C, off, rfl, hC, c0⟩ := HA.out k (by omega)
      obtain ⟨C2, off2, hp2, _, c1⟩ := HA.out (k + 1) hk1
      simp only [Option.some.injEq, Addr.mk.injEq] at hp2
      obtain ⟨rfl, rfl, _⟩ := hp2
      have hch := chain_drop hk1
      have hx := HR.out t[k] (List.getElem_mem _)
      have hy := HR.out t[k + 1] (List.getElem_mem _)
      generalize t[k] = x at *
      generalize t[k + 1] = y at *
      have d0 := (HB.out.cell (p := ⟨C, off + k, none⟩) hC).trans c0
      have d1 := (HB.out.cell (p := ⟨C, off + (k + 1), none⟩) hC).trans c1
      have hCr : C < wr.heap.size := Nat.lt_of_lt_of_le hC HB.out.size
      have i1 : (k : Int) + 1 < ((m + 1 : Nat) : Int) := by omega
      have i0 : (k : Int) < ((m + 1 : Nat) : Int) := by omega
      have i2 : (k : Int) < (m : Int) := by omega
      have HBd := Lib.hid HB.out
      have HCH := Lib.hid hch
      clear c0 c1 hC hch HB hk1
      go_wp2
      go_quiet (fail)
      have HBq : Hid (Below w.heap.size w (wr.drewN nq)) := Lib.hid ⟨HBd.out.os, HBd.out.tape, HBd.out.output, HBd.out.size, HBd.out.block⟩
      generalize wr.drewN nq = wq at *
      obtain ⟨r, hr, hr0⟩ : ∃ r : Int, y % x = r ∧ 0 ≤ r := ⟨_, rfl, Int.emod_nonneg _ (by omega)⟩
      by_cases hyx : y ≤ x
      · have hf : false = V := HE2.out _ (by rw [HC.out, HCH.out, decide_eq_false (by omega)]; rfl)
        subst hf
        clear hr hr0
        go_wp2
        go_ret
        exact ⟨rfl, HBq.out⟩
      have hyx2 : x < y := by omega
      have ht1 : y.tmod x = r := by rw [Int.tmod_eq_emod_of_nonneg (by omega)]; exact hr
      by_cases hr2 : r = 0
      · subst hr2
        have hc2 : Hid (chainN t = chainN (t.drop (k + 1))) := Lib.hid (by rw [HC.out, HCH.out, decide_eq_true hyx2, decide_eq_true hr]; simp)
        go_wp2
        go_roundg g
        case measure => omega
        case rel => exact ⟨k + 1, by go_num, by omega, hc2, HBq⟩
      · have hf : false = V := HE2.out _ (by rw [HC.out, HCH.out, decide_eq_false (show ¬ y % x = 0 by omega)]; simp)
        subst hf
        have hr3 : (r != 0) = true := by simpa using hr2
        go_wp2
        go_ret
        exact ⟨rfl, HBq.out⟩
end Go.Proofs.YtcgkgdhbipbnfaaGreatDoor.Po

