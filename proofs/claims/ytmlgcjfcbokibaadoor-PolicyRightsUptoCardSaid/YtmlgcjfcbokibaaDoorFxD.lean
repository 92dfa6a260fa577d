/- A sign, the digits around a point, an exponent: each by its own contract. -/
import Derived.Test.YtmlgcjfcbokibaaDoorFxC
namespace Go.Proofs.YtmlgcjfcbokibaaDoor
open Go Go.RowKit

theorem RdAt.put {B : Nat} {s t : ByteArray} {w : World} (h : RdAt B s w) : RdAt B t (w.setCell ⟨B, 0, none⟩ (.string t)) := by have := h.set 0 (.string t) (by simp); simpa using this
theorem tkR_cons (bs : List UInt8) (c : UInt8) (t : List UInt8) : tkR bs (c :: t) = if bs.contains c = true then t else c :: t := rfl
theorem sgB_cons (bs : List UInt8) (c : UInt8) (t : List UInt8) : sgB bs (c :: t) = (bs.contains c && c == 45) := rfl
theorem below_put {B : Nat} (w : World) (v : Value) : Below B w (w.setCell ⟨B, 0, none⟩ v) := (Below.refl B w).setCell (p := ⟨B, 0, none⟩) (Nat.le_refl B) v
/-- What one of two things ends in: a number, or a thrown error. -/
def EndOf (r : Int × Int) : Ending := if r.2 = 0 then .returned (.int .i64 r.1) else PE r.2
theorem number_any (b : Bool) (s : ByteArray) (hd : AllDig s.data.toList) (hl : s.size ≤ 19) (w : World) :
    Calls Tryd.prog 73 #[.bool b, .string s] w fun e w' => e = EndOf (fitF b (val s.data.toList)) ∧ w = w' := by
  unfold fitF
  by_cases h : val s.data.toList ≤ most b
  · rw [if_pos h]
    exact number_ok b s hd hl h w
  · rw [if_neg h]
    exact number_far b s hd hl h w

set_option maxHeartbeats 4000000 in
theorem takes_any (B : Nat) (s bs : ByteArray) (hs : s.size ≤ maxLen) (w : World) (hR : RdAt B s w) :
    Calls Tryd.prog 82 #[.pointer (some ⟨B, 0, none⟩), .string bs] w fun e w' => e = .returned (.bool (tkB bs.data.toList s.data.toList)) ∧ RdAt B (tx (tkR bs.data.toList s.data.toList)) w' ∧ Below B w w' := by
  by_cases h : tkB bs.data.toList s.data.toList = true
  · rw [h]
    cases hl : s.data.toList with
    | nil => rw [hl] at h; cases h
    | cons c t =>
      rw [hl] at h
      refine (takes_yes B s bs c t hl hs h w hR).mono ?_
      rintro e w' ⟨rfl, rfl⟩
      refine ⟨rfl, ?_, below_put _ _⟩
      rw [tkR_cons, if_pos (show bs.data.toList.contains c = true from h)]
      exact hR.put
  · have h' : tkB bs.data.toList s.data.toList = false := by simpa using h
    rw [h']
    refine (takes_no B s bs h' hs w hR).mono ?_
    rintro e w' ⟨rfl, rfl⟩
    refine ⟨rfl, ?_, Below.refl _ _⟩
    have : tkR bs.data.toList s.data.toList = s.data.toList := by
      cases hl : s.data.toList with
      | nil => rfl
      | cons c t => rw [hl] at h; rw [tkR_cons, if_neg (show ¬ bs.data.toList.contains c = true from h)]
    rw [this, tx_list]
    exact hR

set_option maxHeartbeats 4000000 in
theorem sign_any (B : Nat) (s bs : ByteArray) (hs : s.size ≤ maxLen) (w : World) (hR : RdAt B s w) :
    Calls Tryd.prog 70 #[.pointer (some ⟨B, 0, none⟩), .string bs] w fun e w' => e = .returned (.bool (sgB bs.data.toList s.data.toList)) ∧ RdAt B (tx (tkR bs.data.toList s.data.toList)) w' ∧ Below B w w' := by
  have h0 := hR.cell 0 _ rfl
  have ht := takes_any B s bs hs w hR
  unfold maxLen at hs
  obtain ⟨r, hr⟩ : ∃ r, tx (tkR bs.data.toList s.data.toList) = r := ⟨_, rfl⟩
  rw [hr] at ht ⊢
  cases hl : s.data.toList with
  | nil =>
    rw [hl] at ht
    have e : tkB bs.data.toList [] = false := rfl
    have e2 : sgB bs.data.toList [] = false := rfl
    rw [e] at ht
    rw [e2]
    clear hR hr hl e e2
    go_enter Tryd.func70, Tryd.ntmps70
    go_wp2_with (go_at_call 82; refine ht.mono ?_; rintro e w1 ⟨rfl, hR1, hB⟩)
    go_ret
    exact ⟨rfl, hR1, hB⟩
  | cons c t =>
    obtain ⟨hz, hx, he⟩ := first_of hl
    rw [hl] at ht
    by_cases hc : bs.data.toList.contains c = true
    · have e : tkB bs.data.toList (c :: t) = true := hc
      have e2 : sgB bs.data.toList (c :: t) = (c == 45) := by rw [sgB_cons, hc]; rfl
      rw [e] at ht
      rw [e2]
      by_cases h45 : c = 45
      · have e3 : (c == 45) = true := by rw [h45]; rfl
        have e4 : (c.toNat : Int) = 45 := by rw [h45]; rfl
        rw [e3]
        clear hR hr hl e e2 e3 hc he h45
        go_enter Tryd.func70, Tryd.ntmps70
        go_wp2_with (go_at_call 82; refine ht.mono ?_; rintro e w1 ⟨rfl, hR1, hB⟩)
        go_ret
        exact ⟨rfl, hR1, hB⟩
      · have e3 : (c == 45) = false := by simpa using h45
        have e4 : ((c.toNat : Int) == 45) = false := by
          rw [beq_eq_false_iff_ne]
          intro h
          exact h45 (UInt8.toNat_inj.1 (by have : c.toNat = 45 := by omega
                                           rw [this]; rfl))
        rw [e3]
        clear hR hr hl e e2 e3 hc he h45
        go_enter Tryd.func70, Tryd.ntmps70
        go_wp2_with (go_at_call 82; refine ht.mono ?_; rintro e w1 ⟨rfl, hR1, hB⟩)
        go_ret
        exact ⟨rfl, hR1, hB⟩
    · have hc' : bs.data.toList.contains c = false := by simpa using hc
      have e : tkB bs.data.toList (c :: t) = false := hc'
      have e2 : sgB bs.data.toList (c :: t) = false := by rw [sgB_cons, hc']; rfl
      rw [e] at ht
      rw [e2]
      clear hR hr hl e e2 hc hc' he hx
      go_enter Tryd.func70, Tryd.ntmps70
      go_wp2_with (go_at_call 82; refine ht.mono ?_; rintro e w1 ⟨rfl, hR1, hB⟩)
      go_ret
      exact ⟨rfl, hR1, hB⟩

theorem digits_ok (B : Nat) (s : ByteArray) (hs : s.size ≤ maxLen) (lo hi : Nat) (hlo : lo ≤ 64) (hhi : hi ≤ 64) (h1 : lo ≤ (dig s.data.toList).length) (h2 : (dig s.data.toList).length ≤ hi) (w : World) (hR : RdAt B s w) :
    Calls Tryd.prog 71 #[.pointer (some ⟨B, 0, none⟩), .int .i64 lo, .int .i64 hi] w fun e w' => e = .returned (.string (tx (dig s.data.toList))) ∧ RdAt B (tx (rst s.data.toList)) w' ∧ Below B w w' :=
  digits_all B s hs lo hi hlo hhi w hR _ (fun _ _ => ⟨rfl, hR.put, below_put _ _⟩) (fun h => absurd ⟨h1, h2⟩ h)
theorem digits_bad (B : Nat) (s : ByteArray) (hs : s.size ≤ maxLen) (lo hi : Nat) (hlo : lo ≤ 64) (hhi : hi ≤ 64) (h : ¬ (lo ≤ (dig s.data.toList).length ∧ (dig s.data.toList).length ≤ hi)) (w : World) (hR : RdAt B s w) :
    Calls Tryd.prog 71 #[.pointer (some ⟨B, 0, none⟩), .int .i64 lo, .int .i64 hi] w fun e w' => e = PE 2 ∧ w = w' :=
  digits_all B s hs lo hi hlo hhi w hR _ (fun h1 h2 => absurd ⟨h1, h2⟩ h) (fun _ => ⟨rfl, rfl⟩)
end Go.Proofs.YtmlgcjfcbokibaaDoor
