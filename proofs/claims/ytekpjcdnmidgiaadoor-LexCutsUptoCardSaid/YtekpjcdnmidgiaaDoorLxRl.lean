/- The chapter's own: the lines of a batch. -/
import Derived.Test.YtekpjcdnmidgiaaDoorLxW
namespace Go.Proofs.YtekpjcdnmidgiaaDoor
open Go Go.RowKit

theorem last_of {M : ByteArray} {p : List UInt8} (h : M = tx p) {m : Nat} (hm : M.size = m + 1) : ∃ hlt : m < M.size, p.getLast? = some M[m] := by
  subst h
  rw [tx_len] at hm
  refine ⟨by rw [tx_len]; omega, ?_⟩
  have hlt : m < p.length := by omega
  have e1 : p.length - 1 = m := by omega
  have e2 : p.getLast? = p[m]? := by rw [List.getLast?_eq_getElem?, e1]
  rw [e2, List.getElem?_eq_getElem hlt]
  rfl
theorem trim_yes {p : List UInt8} (h : p.getLast? = some 13) : trimR p = p.dropLast := by unfold trimR; rw [if_pos h]
theorem trim_no {p : List UInt8} {b : UInt8} (h : p.getLast? = some b) (hb : b ≠ 13) : trimR p = p := by
  unfold trimR
  rw [if_neg]
  intro e
  rw [h] at e
  exact hb (Option.some.inj e)
theorem cut_last {M : ByteArray} {p : List UInt8} (h : M = tx p) {m : Nat} (hm : M.size = m + 1) : M.extract 0 m = tx p.dropLast := by
  subst h
  rw [tx_len] at hm
  rw [ext_piece, list_tx, List.drop_zero, Nat.sub_zero, List.dropLast_eq_take, hm, Nat.add_sub_cancel]
/-- What is gathered: f where the piece begins, i where it is gone on. -/
def At (l : List UInt8) (n f i : Nat) (out : List (List UInt8)) : Prop :=
  (i ≤ n ∧ f ≤ i ∧ (10 : UInt8) ∉ (l.drop f).take (i - f) ∧ linesL l = out ++ linesL (l.drop f)) ∨ (i = n + 1 ∧ linesL l = out)
theorem At.more {s : ByteArray} {f i : Nat} {out : List (List UInt8)} (hi : i < s.size) (hf : f ≤ i) (hn : (10 : UInt8) ∉ (s.data.toList.drop f).take (i - f)) (hl : linesL s.data.toList = out ++ linesL (s.data.toList.drop f)) (hb : s[i] ≠ 10) :
    At s.data.toList s.size f (i + 1) out := by
  refine .inl ⟨hi, by omega, ?_, hl⟩
  rw [show i + 1 - f = (i - f) + 1 by omega, List.take_succ_eq_append_getElem (by rw [List.length_drop, size_list]; omega)]
  intro hm
  rcases List.mem_append.1 hm with hm | hm
  · exact hn hm
  · rw [List.mem_singleton, List.getElem_drop] at hm
    apply hb
    rw [hm]
    have e : f + (i - f) = i := by omega
    simp only [e]
    rfl
theorem At.line {s : ByteArray} {f i : Nat} {out : List (List UInt8)} (hi : i < s.size) (hf : f ≤ i) (hn : (10 : UInt8) ∉ (s.data.toList.drop f).take (i - f)) (hl : linesL s.data.toList = out ++ linesL (s.data.toList.drop f)) (hb : s[i] = 10) :
    At s.data.toList s.size (i + 1) (i + 1) (out ++ oneL ((s.data.toList.drop f).take (i - f))) := by
  refine .inl ⟨hi, Nat.le_refl _, by simp, ?_⟩
  have e : s.data.toList.drop f = (s.data.toList.drop f).take (i - f) ++ 10 :: s.data.toList.drop (i + 1) := by
    have h1 := List.take_append_drop (i - f) (s.data.toList.drop f)
    rw [List.drop_drop, show f + (i - f) = i by omega, drop_at hi, hb] at h1
    exact h1.symm
  rw [hl, List.append_assoc]
  congr 1
  have h2 := lines_cons _ (s.data.toList.drop (i + 1)) hn
  rw [← e] at h2
  exact h2
theorem At.ends {s : ByteArray} {f i : Nat} {out : List (List UInt8)} (hi : i = s.size) (hf : f ≤ i) (hn : (10 : UInt8) ∉ (s.data.toList.drop f).take (i - f)) (hl : linesL s.data.toList = out ++ linesL (s.data.toList.drop f)) :
    At s.data.toList s.size (i + 1) (i + 1) (out ++ oneL ((s.data.toList.drop f).take (i - f))) := by
  refine .inr ⟨by omega, ?_⟩
  have e : (s.data.toList.drop f).take (i - f) = s.data.toList.drop f := List.take_of_length_le (by rw [List.length_drop, size_list]; omega)
  rw [e] at hn ⊢
  rw [hl, lines_end _ hn]

set_option maxRecDepth 100000 in
set_option maxHeartbeats 8000000 in
theorem ref_lines (s : ByteArray) (hs : s.size ≤ 2199023255552) (w : World) :
    Calls Tryd.prog 15 #[.string s] w fun e w' => ∃ v, e = .returned v ∧ OwnS w.heap.size v (linesL s.data.toList) w' ∧ Below w.heap.size w w' := by
  have G0 := Lib.hid (GrewS.refl (OwnS.nil w.heap.size w))
  go_enter Tryd.func15, Tryd.ntmps15
  go_wp2
  go_loopg [3, 4, 5] (s.size + 1) (fun g s3 s4 s5 wx => ∃ (f i : Nat) (out : List (List UInt8)), s4 = .int .i64 (f : Int) ∧ s5 = .int .i64 (i : Int) ∧ g + i = s.size + 1 ∧ out.length ≤ i ∧ Hid (At s.data.toList s.size f i out) ∧ Hid (GrewS w.heap.size (.slice none 0 0) out w s3 wx))
  case atStart => exact ⟨0, 0, [], rfl, rfl, rfl, Nat.zero_le _, Lib.hid (.inl ⟨Nat.zero_le _, Nat.le_refl _, by simp, by simp⟩), G0⟩
  case round =>
    clear G0
    obtain ⟨f, i, out, rfl, rfl, hgi, hol, HA, HG⟩ := hrel
    have hsz := HG.out.2.1.size
    rcases HA.out with ⟨hi, hf, hn, hl⟩ | ⟨hi, hl⟩
    · obtain ⟨p, hp⟩ : ∃ p, (s.data.toList.drop f).take (i - f) = p := ⟨_, rfl⟩
      have hle : (i : Int) ≤ (s.size : Int) := by omega
      have hkey : (i < s.size ∧ ∃ hlt : i < s.size, s[i] ≠ 10) ∨ (∃ hlt : i < s.size, s[i] = 10) ∨ i = s.size := by
        by_cases h1 : i < s.size
        · by_cases h2 : s[i] = 10
          · exact .inr (.inl ⟨h1, h2⟩)
          · exact .inl ⟨h1, h1, h2⟩
        · exact .inr (.inr (by omega))
      rcases hkey with ⟨_, hlt, hb⟩ | hkey
      · have HM := Lib.hid (At.more hlt hf hn hl hb)
        have hbi : ((s[i].toNat : Int) != 10) = true := by
          rw [bne_iff_ne]
          intro e
          exact hb (UInt8.toNat_inj.1 (by have : (10 : UInt8).toNat = 10 := rfl; omega))
        clear hb hp HA hn hl
        go_wp2
        go_roundg (s.size + 1 - (i + 1))
        case measure => omega
        case rel => exact ⟨f, i + 1, out, rfl, by go_num, by omega, by omega, HM, HG⟩
      · have hM := ext_piece s f i
        rw [hp] at hM
        obtain ⟨M, hMe⟩ : ∃ M, s.extract f i = M := ⟨_, rfl⟩
        have hMb : M.size ≤ 2199023255552 := by rw [← hMe, ByteArray.size_extract]; omega
        rw [hMe] at hM
        have hones := one_le p
        rcases hkey with ⟨hlt, hb⟩ | hiz
        · have HN := At.line hlt hf hn hl hb
          have hbi : ((s[i].toNat : Int) != 10) = false := by rw [hb]; rfl
          rw [hp] at HN
          clear hb hn hl hp
          rcases p with _ | ⟨c0, t0⟩
          · have hp0 : ([] : List UInt8) = [] := rfl
            have ho : oneL ([] : List UInt8) = [] := rfl
            rw [ho, List.append_nil] at HN
            have hMz : M = ⟨#[]⟩ := hM
            subst hMz
            clear hM ho
            have HN2 := Lib.hid HN
            clear HN HA hones
            go_wp2
            go_roundg (s.size + 1 - (i + 1))
            case measure => omega
            case rel => exact ⟨i + 1, i + 1, out, by go_num, by go_num, by omega, by omega, HN2, HG⟩
          · by_cases hla : (c0 :: t0).getLast? = some 13
            · rcases hdl : (c0 :: t0).dropLast with _ | ⟨c1, t1⟩
              · skip
                obtain ⟨hz, hx0, hne, hnn⟩ := first_of (M := M) (c := c0) (t := t0) (by rw [hM])
                obtain ⟨m, hm⟩ : ∃ m, M.size = m + 1 := ⟨M.size - 1, by omega⟩
                have hms : (M.size : Int) - 1 = (m : Int) := by omega
                obtain ⟨hml, hlast⟩ := last_of hM hm
                have h13 : M[m] = 13 := by
                  rw [hlast] at hla
                  exact Option.some.inj hla
                have h13i : ((M[m].toNat : Int) == 13) = true := by rw [h13]; rfl
                have htr := trim_yes hla
                have hcl := cut_last hM hm
                clear hm
                obtain ⟨N, hNe⟩ : ∃ N, M.extract 0 m = N := ⟨_, rfl⟩
                rw [hNe] at hcl
                rw [hdl] at hcl htr
                have ho : oneL (c0 :: t0) = [] := by unfold oneL; rw [htr]; rfl
                rw [ho, List.append_nil] at HN
                have hNz : N = ⟨#[]⟩ := hcl
                subst hNz
                clear hcl htr hla h13 hlast hM hx0 ho
                have HN2 := Lib.hid HN
                clear HN HA hones
                go_wp2
                go_roundg (s.size + 1 - (i + 1))
                case measure => omega
                case rel => exact ⟨i + 1, i + 1, out, by go_num, by go_num, by omega, by omega, HN2, HG⟩
              · by_cases hc1 : c1 = 35
                · subst hc1
                  obtain ⟨hz, hx0, hne, hnn⟩ := first_of (M := M) (c := c0) (t := t0) (by rw [hM])
                  obtain ⟨m, hm⟩ : ∃ m, M.size = m + 1 := ⟨M.size - 1, by omega⟩
                  have hms : (M.size : Int) - 1 = (m : Int) := by omega
                  obtain ⟨hml, hlast⟩ := last_of hM hm
                  have h13 : M[m] = 13 := by
                    rw [hlast] at hla
                    exact Option.some.inj hla
                  have h13i : ((M[m].toNat : Int) == 13) = true := by rw [h13]; rfl
                  have htr := trim_yes hla
                  have hcl := cut_last hM hm
                  clear hm
                  obtain ⟨N, hNe⟩ : ∃ N, M.extract 0 m = N := ⟨_, rfl⟩
                  rw [hNe] at hcl
                  rw [hdl] at hcl htr
                  obtain ⟨kz, kx0, kne, knn⟩ := first_of (M := N) (c := 35) (t := t1) hcl
                  have k35 : ((N[0].toNat : Int) != 35) = false := by rw [kx0 kz]; rfl
                  have ho : oneL (c0 :: t0) = [] := by unfold oneL; rw [htr]; rfl
                  rw [ho, List.append_nil] at HN
                  clear htr hla h13 hlast hM hx0 ho hcl kx0
                  have HN2 := Lib.hid HN
                  clear HN HA hones
                  go_wp2
                  go_roundg (s.size + 1 - (i + 1))
                  case measure => omega
                  case rel => exact ⟨i + 1, i + 1, out, by go_num, by go_num, by omega, by omega, HN2, HG⟩
                · skip
                  obtain ⟨hz, hx0, hne, hnn⟩ := first_of (M := M) (c := c0) (t := t0) (by rw [hM])
                  obtain ⟨m, hm⟩ : ∃ m, M.size = m + 1 := ⟨M.size - 1, by omega⟩
                  have hms : (M.size : Int) - 1 = (m : Int) := by omega
                  obtain ⟨hml, hlast⟩ := last_of hM hm
                  have h13 : M[m] = 13 := by
                    rw [hlast] at hla
                    exact Option.some.inj hla
                  have h13i : ((M[m].toNat : Int) == 13) = true := by rw [h13]; rfl
                  have htr := trim_yes hla
                  have hcl := cut_last hM hm
                  clear hm
                  obtain ⟨N, hNe⟩ : ∃ N, M.extract 0 m = N := ⟨_, rfl⟩
                  rw [hNe] at hcl
                  rw [hdl] at hcl htr
                  obtain ⟨kz, kx0, kne, knn⟩ := first_of (M := N) (c := c1) (t := t1) hcl
                  have k35 : ((N[0].toNat : Int) != 35) = true := by
                    rw [kx0 kz, bne_iff_ne]
                    intro e
                    exact hc1 (UInt8.toNat_inj.1 (by have : (35 : UInt8).toNat = 35 := rfl; omega))
                  have ho : oneL (c0 :: t0) = [c1 :: t1] := by unfold oneL keptL; rw [htr]; simp [hc1]
                  rw [ho] at HN
                  obtain ⟨v3, w3, hr3, hG3⟩ := append_text 31 HG.out.1 (c1 :: t1) (by omega) hsz
                  rw [← hcl] at hr3
                  have HG3 := Lib.hid (HG.out.trans hG3)
                  clear htr hla h13 hlast hM hx0 ho HG hG3 hcl kx0
                  have HN2 := Lib.hid HN
                  clear HN HA hones
                  go_wp2_with (at_builtin; refine Lib.wpList_append_run _ rfl _ _ _ _ rfl _ _ rfl rfl _ _ hr3 ?_)
                  go_roundg (s.size + 1 - (i + 1))
                  case measure => omega
                  case rel => exact ⟨i + 1, i + 1, out ++ [c1 :: t1], by go_num, by go_num, by omega, by rw [List.length_append, List.length_singleton]; omega, HN2, HG3⟩
            · by_cases hc0 : c0 = 35
              · skip
                obtain ⟨hz, hx0, hne, hnn⟩ := first_of (M := M) (c := c0) (t := t0) (by rw [hM])
                obtain ⟨m, hm⟩ : ∃ m, M.size = m + 1 := ⟨M.size - 1, by omega⟩
                have hms : (M.size : Int) - 1 = (m : Int) := by omega
                obtain ⟨hml, hlast⟩ := last_of hM hm
                have h13 : M[m] ≠ 13 := fun e => hla (by rw [hlast, e])
                have h13i : ((M[m].toNat : Int) == 13) = false := by
                  rw [beq_eq_false_iff_ne]
                  intro e
                  exact h13 (UInt8.toNat_inj.1 (by have : (13 : UInt8).toNat = 13 := rfl; omega))
                have htr := trim_no hlast h13
                clear hm
                have k35 : ((M[0].toNat : Int) != 35) = false := by rw [hx0 hz, hc0]; rfl
                have ho : oneL (c0 :: t0) = [] := by unfold oneL; rw [htr, hc0]; rfl
                rw [ho, List.append_nil] at HN
                clear htr hla h13 hlast hM hx0 ho
                have HN2 := Lib.hid HN
                clear HN HA hones
                go_wp2
                go_roundg (s.size + 1 - (i + 1))
                case measure => omega
                case rel => exact ⟨i + 1, i + 1, out, by go_num, by go_num, by omega, by omega, HN2, HG⟩
              · skip
                obtain ⟨hz, hx0, hne, hnn⟩ := first_of (M := M) (c := c0) (t := t0) (by rw [hM])
                obtain ⟨m, hm⟩ : ∃ m, M.size = m + 1 := ⟨M.size - 1, by omega⟩
                have hms : (M.size : Int) - 1 = (m : Int) := by omega
                obtain ⟨hml, hlast⟩ := last_of hM hm
                have h13 : M[m] ≠ 13 := fun e => hla (by rw [hlast, e])
                have h13i : ((M[m].toNat : Int) == 13) = false := by
                  rw [beq_eq_false_iff_ne]
                  intro e
                  exact h13 (UInt8.toNat_inj.1 (by have : (13 : UInt8).toNat = 13 := rfl; omega))
                have htr := trim_no hlast h13
                clear hm
                have k35 : ((M[0].toNat : Int) != 35) = true := by
                  rw [hx0 hz, bne_iff_ne]
                  intro e
                  exact hc0 (UInt8.toNat_inj.1 (by have : (35 : UInt8).toNat = 35 := rfl; omega))
                have ho : oneL (c0 :: t0) = [c0 :: t0] := by unfold oneL keptL; rw [htr]; simp [hc0]
                rw [ho] at HN
                obtain ⟨v3, w3, hr3, hG3⟩ := append_text 31 HG.out.1 (c0 :: t0) (by omega) hsz
                rw [← hM] at hr3
                have HG3 := Lib.hid (HG.out.trans hG3)
                clear htr hla h13 hlast hM hx0 ho HG hG3
                have HN2 := Lib.hid HN
                clear HN HA hones
                go_wp2_with (at_builtin; refine Lib.wpList_append_run _ rfl _ _ _ _ rfl _ _ rfl rfl _ _ hr3 ?_)
                go_roundg (s.size + 1 - (i + 1))
                case measure => omega
                case rel => exact ⟨i + 1, i + 1, out ++ [c0 :: t0], by go_num, by go_num, by omega, by rw [List.length_append, List.length_singleton]; omega, HN2, HG3⟩
        · have HN := At.ends hiz hf hn hl
          have hnl : ((i : Int) < (s.size : Int)) = False := eq_false (by omega)
          rw [hp] at HN
          clear hn hl hp hiz
          rcases p with _ | ⟨c0, t0⟩
          · have hp0 : ([] : List UInt8) = [] := rfl
            have ho : oneL ([] : List UInt8) = [] := rfl
            rw [ho, List.append_nil] at HN
            have hMz : M = ⟨#[]⟩ := hM
            subst hMz
            clear hM ho
            have HN2 := Lib.hid HN
            clear HN HA hones
            go_wp2
            go_roundg (s.size + 1 - (i + 1))
            case measure => omega
            case rel => exact ⟨i + 1, i + 1, out, by go_num, by go_num, by omega, by omega, HN2, HG⟩
          · by_cases hla : (c0 :: t0).getLast? = some 13
            · rcases hdl : (c0 :: t0).dropLast with _ | ⟨c1, t1⟩
              · skip
                obtain ⟨hz, hx0, hne, hnn⟩ := first_of (M := M) (c := c0) (t := t0) (by rw [hM])
                obtain ⟨m, hm⟩ : ∃ m, M.size = m + 1 := ⟨M.size - 1, by omega⟩
                have hms : (M.size : Int) - 1 = (m : Int) := by omega
                obtain ⟨hml, hlast⟩ := last_of hM hm
                have h13 : M[m] = 13 := by
                  rw [hlast] at hla
                  exact Option.some.inj hla
                have h13i : ((M[m].toNat : Int) == 13) = true := by rw [h13]; rfl
                have htr := trim_yes hla
                have hcl := cut_last hM hm
                clear hm
                obtain ⟨N, hNe⟩ : ∃ N, M.extract 0 m = N := ⟨_, rfl⟩
                rw [hNe] at hcl
                rw [hdl] at hcl htr
                have ho : oneL (c0 :: t0) = [] := by unfold oneL; rw [htr]; rfl
                rw [ho, List.append_nil] at HN
                have hNz : N = ⟨#[]⟩ := hcl
                subst hNz
                clear hcl htr hla h13 hlast hM hx0 ho
                have HN2 := Lib.hid HN
                clear HN HA hones
                go_wp2
                go_roundg (s.size + 1 - (i + 1))
                case measure => omega
                case rel => exact ⟨i + 1, i + 1, out, by go_num, by go_num, by omega, by omega, HN2, HG⟩
              · by_cases hc1 : c1 = 35
                · subst hc1
                  obtain ⟨hz, hx0, hne, hnn⟩ := first_of (M := M) (c := c0) (t := t0) (by rw [hM])
                  obtain ⟨m, hm⟩ : ∃ m, M.size = m + 1 := ⟨M.size - 1, by omega⟩
                  have hms : (M.size : Int) - 1 = (m : Int) := by omega
                  obtain ⟨hml, hlast⟩ := last_of hM hm
                  have h13 : M[m] = 13 := by
                    rw [hlast] at hla
                    exact Option.some.inj hla
                  have h13i : ((M[m].toNat : Int) == 13) = true := by rw [h13]; rfl
                  have htr := trim_yes hla
                  have hcl := cut_last hM hm
                  clear hm
                  obtain ⟨N, hNe⟩ : ∃ N, M.extract 0 m = N := ⟨_, rfl⟩
                  rw [hNe] at hcl
                  rw [hdl] at hcl htr
                  obtain ⟨kz, kx0, kne, knn⟩ := first_of (M := N) (c := 35) (t := t1) hcl
                  have k35 : ((N[0].toNat : Int) != 35) = false := by rw [kx0 kz]; rfl
                  have ho : oneL (c0 :: t0) = [] := by unfold oneL; rw [htr]; rfl
                  rw [ho, List.append_nil] at HN
                  clear htr hla h13 hlast hM hx0 ho hcl kx0
                  have HN2 := Lib.hid HN
                  clear HN HA hones
                  go_wp2
                  go_roundg (s.size + 1 - (i + 1))
                  case measure => omega
                  case rel => exact ⟨i + 1, i + 1, out, by go_num, by go_num, by omega, by omega, HN2, HG⟩
                · skip
                  obtain ⟨hz, hx0, hne, hnn⟩ := first_of (M := M) (c := c0) (t := t0) (by rw [hM])
                  obtain ⟨m, hm⟩ : ∃ m, M.size = m + 1 := ⟨M.size - 1, by omega⟩
                  have hms : (M.size : Int) - 1 = (m : Int) := by omega
                  obtain ⟨hml, hlast⟩ := last_of hM hm
                  have h13 : M[m] = 13 := by
                    rw [hlast] at hla
                    exact Option.some.inj hla
                  have h13i : ((M[m].toNat : Int) == 13) = true := by rw [h13]; rfl
                  have htr := trim_yes hla
                  have hcl := cut_last hM hm
                  clear hm
                  obtain ⟨N, hNe⟩ : ∃ N, M.extract 0 m = N := ⟨_, rfl⟩
                  rw [hNe] at hcl
                  rw [hdl] at hcl htr
                  obtain ⟨kz, kx0, kne, knn⟩ := first_of (M := N) (c := c1) (t := t1) hcl
                  have k35 : ((N[0].toNat : Int) != 35) = true := by
                    rw [kx0 kz, bne_iff_ne]
                    intro e
                    exact hc1 (UInt8.toNat_inj.1 (by have : (35 : UInt8).toNat = 35 := rfl; omega))
                  have ho : oneL (c0 :: t0) = [c1 :: t1] := by unfold oneL keptL; rw [htr]; simp [hc1]
                  rw [ho] at HN
                  obtain ⟨v3, w3, hr3, hG3⟩ := append_text 31 HG.out.1 (c1 :: t1) (by omega) hsz
                  rw [← hcl] at hr3
                  have HG3 := Lib.hid (HG.out.trans hG3)
                  clear htr hla h13 hlast hM hx0 ho HG hG3 hcl kx0
                  have HN2 := Lib.hid HN
                  clear HN HA hones
                  go_wp2_with (at_builtin; refine Lib.wpList_append_run _ rfl _ _ _ _ rfl _ _ rfl rfl _ _ hr3 ?_)
                  go_roundg (s.size + 1 - (i + 1))
                  case measure => omega
                  case rel => exact ⟨i + 1, i + 1, out ++ [c1 :: t1], by go_num, by go_num, by omega, by rw [List.length_append, List.length_singleton]; omega, HN2, HG3⟩
            · by_cases hc0 : c0 = 35
              · skip
                obtain ⟨hz, hx0, hne, hnn⟩ := first_of (M := M) (c := c0) (t := t0) (by rw [hM])
                obtain ⟨m, hm⟩ : ∃ m, M.size = m + 1 := ⟨M.size - 1, by omega⟩
                have hms : (M.size : Int) - 1 = (m : Int) := by omega
                obtain ⟨hml, hlast⟩ := last_of hM hm
                have h13 : M[m] ≠ 13 := fun e => hla (by rw [hlast, e])
                have h13i : ((M[m].toNat : Int) == 13) = false := by
                  rw [beq_eq_false_iff_ne]
                  intro e
                  exact h13 (UInt8.toNat_inj.1 (by have : (13 : UInt8).toNat = 13 := rfl; omega))
                have htr := trim_no hlast h13
                clear hm
                have k35 : ((M[0].toNat : Int) != 35) = false := by rw [hx0 hz, hc0]; rfl
                have ho : oneL (c0 :: t0) = [] := by unfold oneL; rw [htr, hc0]; rfl
                rw [ho, List.append_nil] at HN
                clear htr hla h13 hlast hM hx0 ho
                have HN2 := Lib.hid HN
                clear HN HA hones
                go_wp2
                go_roundg (s.size + 1 - (i + 1))
                case measure => omega
                case rel => exact ⟨i + 1, i + 1, out, by go_num, by go_num, by omega, by omega, HN2, HG⟩
              · skip
                obtain ⟨hz, hx0, hne, hnn⟩ := first_of (M := M) (c := c0) (t := t0) (by rw [hM])
                obtain ⟨m, hm⟩ : ∃ m, M.size = m + 1 := ⟨M.size - 1, by omega⟩
                have hms : (M.size : Int) - 1 = (m : Int) := by omega
                obtain ⟨hml, hlast⟩ := last_of hM hm
                have h13 : M[m] ≠ 13 := fun e => hla (by rw [hlast, e])
                have h13i : ((M[m].toNat : Int) == 13) = false := by
                  rw [beq_eq_false_iff_ne]
                  intro e
                  exact h13 (UInt8.toNat_inj.1 (by have : (13 : UInt8).toNat = 13 := rfl; omega))
                have htr := trim_no hlast h13
                clear hm
                have k35 : ((M[0].toNat : Int) != 35) = true := by
                  rw [hx0 hz, bne_iff_ne]
                  intro e
                  exact hc0 (UInt8.toNat_inj.1 (by have : (35 : UInt8).toNat = 35 := rfl; omega))
                have ho : oneL (c0 :: t0) = [c0 :: t0] := by unfold oneL keptL; rw [htr]; simp [hc0]
                rw [ho] at HN
                obtain ⟨v3, w3, hr3, hG3⟩ := append_text 31 HG.out.1 (c0 :: t0) (by omega) hsz
                rw [← hM] at hr3
                have HG3 := Lib.hid (HG.out.trans hG3)
                clear htr hla h13 hlast hM hx0 ho HG hG3
                have HN2 := Lib.hid HN
                clear HN HA hones
                go_wp2_with (at_builtin; refine Lib.wpList_append_run _ rfl _ _ _ _ rfl _ _ rfl rfl _ _ hr3 ?_)
                go_roundg (s.size + 1 - (i + 1))
                case measure => omega
                case rel => exact ⟨i + 1, i + 1, out ++ [c0 :: t0], by go_num, by go_num, by omega, by rw [List.length_append, List.length_singleton]; omega, HN2, HG3⟩
    · have hB := HG.out.low (N := w.heap.size) (by intro g hg; cases hg) (Nat.le_refl _)
      have hO := HG.out.1
      rw [← hl] at hO
      have hgt : ((i : Int) ≤ (s.size : Int)) = False := eq_false (by omega)
      clear HA HG hl hi
      go_wp2
      go_ret
      exact ⟨_, rfl, hO, hB⟩
end Go.Proofs.YtekpjcdnmidgiaaDoor
