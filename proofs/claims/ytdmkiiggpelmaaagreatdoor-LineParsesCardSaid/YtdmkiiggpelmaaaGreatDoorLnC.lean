/- Readers of lines: the labels. -/
import Derived.Test.YtdmkiiggpelmaaaGreatDoorLnB
namespace Go.Proofs.YtdmkiiggpelmaaaGreatDoor.Lx
open Go Go.RowKit

def LabEnd (B : Nat) : Option (List Lab × List UInt8) → World → Ending → World → Prop
  | none, w, e, w' => e = PE 2 ∧ Mov (fun j => j = B) w w'
  | some (ls, t), w, e, w' => ∃ v z, e = .returned v ∧ OwnL w.heap.size v ls w' ∧ LrAt B t z w' ∧ Mov (fun j => j = B) w w'
theorem labelsP_not {k : Nat} {l : List UInt8} {y : Int} (h : y ≠ 44) : labelsP k l y = some ([], l) := by cases k <;> simp [labelsP, h]
theorem labelsP_zero {l : List UInt8} : labelsP 0 l 44 = none := by simp [labelsP]
theorem labelsP_n {k : Nat} {l : List UInt8} (h : nameP [61] l = none) : labelsP (k + 1) l 44 = none := by simp [labelsP, h]
theorem labelsP_v {k : Nat} {l n m : List UInt8} {z : Int} (h : nameP [61] l = some (n, m, z)) (h2 : nameP [44, 32] m = none) : labelsP (k + 1) l 44 = none := by simp [labelsP, h, h2]
theorem labelsP_s {k : Nat} {l n m v t : List UInt8} {z z2 : Int} (h : nameP [61] l = some (n, m, z)) (h2 : nameP [44, 32] m = some (v, t, z2)) : labelsP (k + 1) l 44 = (labelsP k t z2).map (fun x => ((n, v) :: x.1, x.2)) := by simp [labelsP, h, h2]
theorem OwnL.len {B : Nat} {v : Value} {ls : List Lab} {w : World} (h : OwnL B v ls w) : ∃ p cap, v = .slice p ls.length cap := by
  rcases h.form with ⟨rfl, rfl⟩ | ⟨g, cap, rfl, _⟩
  · exact ⟨none, 0, rfl⟩
  · exact ⟨_, _, rfl⟩

set_option maxRecDepth 100000 in
set_option maxHeartbeats 4000000 in
theorem labels_any (B : Nat) (l : List UInt8) (y : Int) (hl : l.length ≤ 1024) (w : World) (hR : LrAt B l y w) :
    Calls Tryz.prog 31 #[.pointer (some ⟨B, 0, none⟩)] w (LabEnd B (labelsP 16 l y) w) := by
  obtain ⟨R, hres⟩ : ∃ R, labelsP 16 l y = R := ⟨_, rfl⟩
  rw [hres]
  have H0 : Hid (R = (labelsP 16 l y).map (fun x => (([] : List Lab) ++ x.1, x.2))) := Lib.hid (by rw [hres]; cases R <;> simp)
  have HR0 := Lib.hid hR
  have hBw := hR.lt
  clear hres hR
  go_enter Tryz.func31, Tryz.ntmps31
  go_wp2
  go_step3
  go_wp2
  go_step3
  go_wp2
  go_loopg [3] 16 (fun g s3 wx => ∃ (A : List Lab) (t : List UInt8) (z : Int), A.length + g = 16 ∧ t.length ≤ 1024 ∧ Hid (R = (labelsP g t z).map (fun x => (A ++ x.1, x.2))) ∧ Hid (LrAt B t z wx) ∧ Hid (OwnL w.heap.size s3 A wx) ∧ Hid (Mov (fun j => j = B) w wx))
  case atStart => exact ⟨[], l, y, rfl, hl, H0, HR0, Lib.hid (OwnL.nil _ _), Lib.hid (Mov.refl _ _)⟩
  case round =>
    clear H0 HR0
    obtain ⟨A, t, z, hA, ht, HE, HR, HO, HM⟩ := hrel
    have c0 := HR.out.cell 1 _ rfl
    obtain ⟨p, cap, rfl⟩ := HO.out.len
    by_cases hz : z = 44
    · subst hz
      cases gk with
      | zero =>
        have hr := HE.out
        rw [labelsP_zero] at hr
        obtain rfl : R = none := hr
        have hlen : ((A.length : Int) == 16) = true := by rw [beq_iff_eq]; omega
        clear HE
        go_wp2
        exact ⟨rfl, rfl, HM.out⟩
      | succ g =>
        have hlen : ((A.length : Int) == 16) = false := by rw [beq_eq_false_iff_ne]; omega
        cases hn : nameP [61] t with
        | none =>
          have hr := HE.out
          rw [labelsP_n hn] at hr
          obtain rfl : R = none := hr
          have h1 := fun w h => name_no B t 44 ⟨#[61]⟩ (by decide) ht hn w h
          clear HE hn
          go_wp2_with fail
          refine (h1 _ HR.out).mono ?_
          rintro e w1 ⟨rfl, hM1⟩
          go_wp2
          exact ⟨rfl, rfl, HM.out.trans hM1 (fun _ _ h => h)⟩
        | some x =>
          obtain ⟨n, m, z1⟩ := x
          have h1 := fun w h => name_yes B t 44 ⟨#[61]⟩ (by decide) ht hn w h
          have hm : m.length ≤ 1024 := by have := name_len hn; omega
          have HN := Lib.hid hn
          clear hn
          go_wp2_with fail
          refine (h1 _ HR.out).mono ?_
          rintro e w1 ⟨rfl, hR1, hM1⟩
          have HO1 := Lib.hid (HO.out.mov hM1 (fun q hq h => by have := (HO.out.lt hq).1; omega))
          have HM1 := Lib.hid (HM.out.trans hM1 (fun _ _ h => h))
          have HR1 := Lib.hid hR1
          clear h1 hR1 hM1 HR HO HM c0
          cases hv : nameP [44, 32] m with
          | none =>
            have hr := HE.out
            rw [labelsP_v HN.out hv] at hr
            obtain rfl : R = none := hr
            have h2 := fun w h => name_no B m z1 ⟨#[44, 32]⟩ (by decide) hm hv w h
            clear HE hv HN
            go_wp2_with fail
            refine (h2 _ HR1.out).mono ?_
            rintro e w2 ⟨rfl, hM2⟩
            go_wp2
            exact ⟨rfl, rfl, HM1.out.trans hM2 (fun _ _ h => h)⟩
          | some x =>
            obtain ⟨v, t2, z2⟩ := x
            have h2 := fun w h => name_yes B m z1 ⟨#[44, 32]⟩ (by decide) hm hv w h
            have ht2 : t2.length ≤ 1024 := by have := name_len hv; omega
            have hr := HE.out
            rw [labelsP_s HN.out hv] at hr
            have HE2 : Hid (R = (labelsP g t2 z2).map (fun x => (A ++ [(n, v)] ++ x.1, x.2))) := Lib.hid (by rw [hr]; cases labelsP g t2 z2 <;> simp)
            clear hr hv HN HE
            go_wp2_with fail
            refine (h2 _ HR1.out).mono ?_
            rintro e w2 ⟨rfl, hR2, hM2⟩
            have hO2 := HO1.out.mov hM2 (fun q hq h => by have := (HO1.out.lt hq).1; omega)
            have hM2' := HM1.out.trans hM2 (fun _ _ h => h)
            obtain ⟨v', w3, hr3, hG⟩ := append_label 22 hO2 (n, v) (by omega) hM2'.size
            have HM3 : Hid (Mov (fun j => j = B) w w3) := Lib.hid (hM2'.trans hG.2.1 (fun i hi h => by have := (hO2.lt h).1; omega))
            have HR3 := Lib.hid (cells_mov hR2 hG.2.1 (fun h => by have := (hO2.lt h).1; omega))
            have HO3 := Lib.hid hG.1
            simp only at hr3
            clear h2 hR2 hM2 HR1 HO1 HM1 hO2 hM2' hG
            go_wp2_with (at_builtin; refine Lib.wpList_append_run _ rfl _ _ _ _ rfl _ _ rfl rfl _ _ hr3 ?_)
            go_roundg g
            case measure => omega
            case rel => exact ⟨A ++ [(n, v)], t2, z2, by rw [List.length_append, List.length_singleton]; omega, ht2, HE2, HR3, HO3, HM3⟩
    · have hy1 : (z != 44) = true := by rw [bne_iff_ne]; exact hz
      have hr := HE.out
      rw [labelsP_not hz] at hr
      obtain rfl : R = some (A, t) := by simpa using hr
      clear hr HE hz
      go_wp2
      simp only [Exit.noGoto_ret]
      go_ret
      exact ⟨_, z, rfl, HO.out, HR.out, HM.out⟩
end Go.Proofs.YtdmkiiggpelmaaaGreatDoor.Lx
