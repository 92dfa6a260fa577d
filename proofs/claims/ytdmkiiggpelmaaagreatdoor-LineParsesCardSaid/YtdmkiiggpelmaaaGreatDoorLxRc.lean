/- The chapter's own: a text cut at the first stop that is not escaped. -/
import Derived.Test.YtdmkiiggpelmaaaGreatDoorLxC
import Derived.BigQuiet
namespace Go.Proofs.YtdmkiiggpelmaaaGreatDoor.Lx
open Go Go.RowKit

/-- A byte: too small, 127, or one that is read. -/
theorem byte_three (c : UInt8) : (okB c = false ∧ (c.toNat : Int) < 32) ∨ (okB c = false ∧ ((c.toNat : Int) < 32) = False ∧ ((c.toNat : Int) == 127) = true) ∨ (okB c = true ∧ ((c.toNat : Int) < 32) = False ∧ ((c.toNat : Int) == 127) = false) := by
  have hn := okB_nat c
  by_cases h1 : 32 ≤ c.toNat
  · by_cases h2 : c.toNat = 127
    · exact .inr (.inl ⟨by rw [hn]; simp [h2], eq_false (by omega), by rw [h2]; rfl⟩)
    · exact .inr (.inr ⟨by rw [hn]; simp [h1, h2], eq_false (by omega), by rw [beq_eq_false_iff_ne]; omega⟩)
  · exact .inl ⟨by rw [hn]; simp [h1], by omega⟩
theorem ok_facts {c : UInt8} (h : okB c = true) : ((c.toNat : Int) < 32) = False ∧ ((c.toNat : Int) == 127) = false := by
  rcases byte_three c with ⟨h1, _⟩ | ⟨h1, _⟩ | ⟨_, h2, h3⟩
  · rw [h] at h1; cases h1
  · rw [h] at h1; cases h1
  · exact ⟨h2, h3⟩
theorem ref_arg (s st : ByteArray) (hst : st.size ≤ maxLen) (h : (92 : UInt8) ∈ st.data.toList) (w : World) :
    Calls Tryz.prog 21 #[.string s, .string st] w fun e w' => e = .returned (.tuple #[.string ⟨#[]⟩, .string ⟨#[]⟩, .int .u8 0, .int .i64 1]) ∧ w' = w := by
  have hp := fun w => in92 st hst w
  rw [show st.data.toList.contains 92 = true by simpa using h] at hp
  go_enter Tryz.func21, Tryz.ntmps21
  go_wp2_with fail
  refine (hp _).mono ?_
  rintro e w' ⟨rfl, rfl⟩
  go_wp2
  (try simp only [Exit.inBlock, Exit.then])
  refine bodyPost_ret (results4 rfl _ _ _) rfl ?_
  exact ⟨rfl, rfl⟩

set_option maxRecDepth 100000 in
set_option maxHeartbeats 4000000 in
theorem ref_cut (s st : ByteArray) (hst : st.size ≤ maxLen) (hs : s.size ≤ 70368744177664) (h92 : (92 : UInt8) ∉ st.data.toList) (w : World) :
    Calls Tryz.prog 21 #[.string s, .string st] w fun e w' => e = .returned (cutV (cutL st.data.toList s.data.toList)) ∧ Below w.heap.size w w' := by
  have G0 := Lib.hid (Grew.refl (OwnB.nil w.heap.size w))
  have h9 := fun w => in92 st hst w
  rw [show st.data.toList.contains 92 = false by simpa using h92] at h9
  obtain ⟨V, hV⟩ : ∃ V, cutL st.data.toList s.data.toList = V := ⟨_, rfl⟩
  rw [hV]
  have HV := Lib.hid hV
  clear hV
  go_enter Tryz.func21, Tryz.ntmps21
  go_wp2_with fail
  refine (h9 _).mono ?_
  rintro e w' ⟨rfl, rfl⟩
  clear h9
  go_wp2
  go_loopg [8, 9] s.size (fun g s8 s9 wx => ∃ k : Nat, s9 = .int .i64 (k : Int) ∧ g + k = s.size ∧ ∃ A, Hid (preL A (cutL st.data.toList (s.data.toList.drop k)) = V) ∧ A.length ≤ k ∧ Hid (Grew w'.heap.size (.slice none 0 0) A w' s8 wx))
  case atStart => exact ⟨0, rfl, rfl, [], Lib.hid (by rw [preL_nil]; exact HV.out), Nat.le_refl _, G0⟩
  case round =>
    clear G0 HV
    obtain ⟨k, rfl, hgk, A, HA, hgo, HG⟩ := hrel
    have hsz := HG.out.2.1.size
    have hB := HG.out.below (N := w'.heap.size) (by intro g hg; cases hg) (Nat.le_refl _)
    by_cases hlt : k < s.size
    · have hd := drop_at hlt
      have hA := HA.out
      rw [hd] at hA
      clear HA
      have hq := fun w => in_ok st hst s[k] w
      by_cases hc : st.data.toList.contains s[k] = true
      · rw [hc] at hq
        rcases byte_three s[k] with ⟨ho, hn⟩ | ⟨ho, hn, hm⟩ | ⟨ho, hn, hm⟩
        · rw [cut_ugly ho] at hA
          obtain rfl : none = V := hA
          clear hd HG hgo ho hc
          go_wp2_with fail
          refine (hq _).mono ?_
          rintro e w3 ⟨rfl, rfl⟩
          go_wp2
          (try simp only [Exit.inBlock, Exit.then])
          refine bodyPost_ret (results4 rfl _ _ _) rfl ?_
          exact ⟨rfl, hB⟩
        · rw [cut_ugly ho] at hA
          obtain rfl : none = V := hA
          clear hd HG hgo ho hc
          go_wp2_with fail
          refine (hq _).mono ?_
          rintro e w3 ⟨rfl, rfl⟩
          go_wp2
          (try simp only [Exit.inBlock, Exit.then])
          refine bodyPost_ret (results4 rfl _ _ _) rfl ?_
          exact ⟨rfl, hB⟩
        · rw [cut_here hc ho] at hA
          obtain rfl : some (A, s.data.toList.drop (k + 1), some s[k]) = V := by rw [← hA]; simp [preL]
          have hcv := own_back HG.out.1
          have hcv1 := own_back (w := wr.drew) (HG.out.1.mov ((Mov.refl (fun _ => False) _).drew) (fun _ _ h => h))
          have hcvn := fun n => own_back (w := wr.drewN n) (HG.out.1.mov ((Mov.refl (fun _ => False) _).drewN n) (fun _ _ h => h))
          have hk : k + 1 ≤ s.size := by omega
          clear hd HG hgo hA ho hc
          go_wp2_with fail
          refine (hq _).mono ?_
          rintro e w3 ⟨rfl, rfl⟩
          go_wp2
          go_quiet (fail)
          go_wp2
          (try simp only [Exit.inBlock, Exit.then])
          refine bodyPost_ret (results4 rfl _ _ _) rfl ?_
          exact ⟨by rw [show cutV (some (A, s.data.toList.drop (k + 1), some s[k])) = .tuple #[.string (tx A), .string (tx (s.data.toList.drop (k + 1))), .int .u8 (s[k].toNat : Int), .int .i64 0] from rfl, ← ext_drop]; rfl, (Mov.drewN (Mov.of hB) _).below (fun _ h => h) (Nat.le_refl _)⟩
      · have hc : st.data.toList.contains s[k] = false := by simpa using hc
        rw [hc] at hq
        by_cases h2 : s[k] = 92
        · have h2i := is92 _ h2
          have hq92 : ∀ w, Calls Tryz.prog 29 #[.string st, .int .u8 92] w fun e w' => e = .returned (.bool false) ∧ w' = w := by
            intro w
            have := hq w
            rw [h2] at this
            exact this
          by_cases hlt2 : k + 1 < s.size
          · have hd2 := drop_at hlt2
            rw [hd2, h2] at hA
            have hf := fun w => in4 s[k + 1] w
            have hne : ((s.size : Int) ≤ (k : Int) + 1) = False := eq_false (by omega)
            by_cases he : esc4 s[k + 1] = true
            · rw [he] at hf
              obtain ⟨hn, hm⟩ := ok_facts (esc4_ok he)
              rw [cut_two h92 he, preL_pre] at hA
              obtain ⟨v2, w2, hr2, hG2⟩ := append_byte 25 HG.out.1 s[k + 1] (by omega) hsz
              have HG' := Lib.hid (HG.out.trans hG2)
              have HA' := Lib.hid hA
              clear HG hG2 hd hd2 hA hq hc
              go_wp2_with fail
              refine (hq92 _).mono ?_
              rintro e w3 ⟨rfl, rfl⟩
              go_wp2_with fail
              refine (hf _).mono ?_
              rintro e w3 ⟨rfl, rfl⟩
              go_wp2_with (at_builtin; refine Lib.wpList_append_run _ rfl _ _ _ _ rfl _ _ rfl rfl _ _ hr2 ?_)
              go_roundg (s.size - (k + 1 + 1))
              case measure => omega
              case rel => exact ⟨k + 1 + 1, by go_num, by omega, A ++ [s[k + 1]], HA', by rw [List.length_append, List.length_singleton]; omega, HG'⟩
            · have he : esc4 s[k + 1] = false := by simpa using he
              rw [he] at hf
              rw [cut_odd h92 he] at hA
              obtain rfl : none = V := hA
              clear hd hd2 HG hgo hq hc
              go_wp2_with fail
              refine (hq92 _).mono ?_
              rintro e w3 ⟨rfl, rfl⟩
              go_wp2_with fail
              refine (hf _).mono ?_
              rintro e w3 ⟨rfl, rfl⟩
              go_wp2
              (try simp only [Exit.inBlock, Exit.then])
              refine bodyPost_ret (results4 rfl _ _ _) rfl ?_
              exact ⟨rfl, hB⟩
          · have hge : (s.size : Int) ≤ (k : Int) + 1 := by omega
            rw [drop_end (by omega), h2, cut_lone h92] at hA
            obtain rfl : none = V := hA
            clear hd HG hgo hq hc
            go_wp2_with fail
            refine (hq92 _).mono ?_
            rintro e w3 ⟨rfl, rfl⟩
            go_wp2
            (try simp only [Exit.inBlock, Exit.then])
            refine bodyPost_ret (results4 rfl _ _ _) rfl ?_
            exact ⟨rfl, hB⟩
        · have h2i := not92i _ h2
          rcases byte_three s[k] with ⟨ho, hn⟩ | ⟨ho, hn, hm⟩ | ⟨ho, hn, hm⟩
          · rw [cut_ugly ho] at hA
            obtain rfl : none = V := hA
            clear hd HG hgo ho hc
            go_wp2_with fail
            refine (hq _).mono ?_
            rintro e w3 ⟨rfl, rfl⟩
            go_wp2
            (try simp only [Exit.inBlock, Exit.then])
            refine bodyPost_ret (results4 rfl _ _ _) rfl ?_
            exact ⟨rfl, hB⟩
          · rw [cut_ugly ho] at hA
            obtain rfl : none = V := hA
            clear hd HG hgo ho hc
            go_wp2_with fail
            refine (hq _).mono ?_
            rintro e w3 ⟨rfl, rfl⟩
            go_wp2
            (try simp only [Exit.inBlock, Exit.then])
            refine bodyPost_ret (results4 rfl _ _ _) rfl ?_
            exact ⟨rfl, hB⟩
          · rw [cut_one hc h2 ho, preL_pre] at hA
            obtain ⟨v2, w2, hr2, hG2⟩ := append_byte 25 HG.out.1 s[k] (by omega) hsz
            have HG' := Lib.hid (HG.out.trans hG2)
            have HA' := Lib.hid hA
            clear HG hG2 hd hA hc ho
            go_wp2_with fail
            refine (hq _).mono ?_
            rintro e w3 ⟨rfl, rfl⟩
            go_wp2_with (at_builtin; refine Lib.wpList_append_run _ rfl _ _ _ _ rfl _ _ rfl rfl _ _ hr2 ?_)
            go_roundg (s.size - (k + 1))
            case measure => omega
            case rel => exact ⟨k + 1, by go_num, by omega, A ++ [s[k]], HA', by rw [List.length_append, List.length_singleton]; omega, HG'⟩
    · have hA := HA.out
      rw [drop_end (by omega)] at hA
      obtain rfl : some (A, [], none) = V := by rw [← hA]; simp [cutL, preL]
      have hcv := own_back HG.out.1
      have hk : k = s.size := by omega
      subst hk
      clear HG hA HA
      go_wp2
      (try simp only [Exit.inBlock, Exit.then])
      refine bodyPost_ret (results4 rfl _ _ _) rfl ?_
      exact ⟨rfl, hB⟩
end Go.Proofs.YtdmkiiggpelmaaaGreatDoor.Lx
