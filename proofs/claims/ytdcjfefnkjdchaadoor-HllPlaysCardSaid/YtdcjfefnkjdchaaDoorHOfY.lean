/- A sketch of its registers, as many as there may be. -/
import Derived.Test.YtdcjfefnkjdchaaDoorHOf
namespace Go.Proofs.YtdcjfefnkjdchaaDoor
open Go Go.RowKit

/-- What Of comes to, of as many as there may be. -/
def OfEnd (b : Nat) (s : ByteArray) (w : World) (e : Ending) (w' : World) : Prop :=
  Below w.heap.size w w' ∧ ((Low s.data.toList ∧ e = .returned (.tuple #[.pointer (some ⟨w.heap.size, 0, none⟩), .int .i64 0]) ∧ Sk w.heap.size b s.data.toList w') ∨
    (¬ Low s.data.toList ∧ e = .returned (.tuple #[.pointer none, .int .i64 2])))
theorem get_list (s : ByteArray) (k : Nat) (h : k < s.size) : s.data.toList[k]? = some s[k] := by
  rw [Array.getElem?_toList]
  exact Array.getElem?_eq_getElem h
set_option maxRecDepth 100000 in
set_option maxHeartbeats 4000000 in
theorem of_full (s : ByteArray) (b : Nat) (lo : 4 ≤ b) (hi : b ≤ 10) (h : 2 ^ b = s.size) (w : World) :
    Calls Tryd.prog 25 #[.string s] w (OfEnd b s w) := by
  have hM := pow_hi lo hi
  have hl := len_any s.size (by omega)
  have hb : (Lib.bitLen s.size : Int) = (b : Int) + 1 := by
    have := obits_pow b hi
    rw [h] at this
    unfold obits at this
    omega
  have hn := new_any b lo hi
  have hu := fun B w => used_M B b lo hi (2 ^ b) rfl w
  have hsl : s.data.toList.length = s.size := (Lib.size_eq s).symm
  rw [h] at hu hM
  rw [hb] at hl
  obtain ⟨M, hsn⟩ : ∃ n, s.size = n := ⟨_, rfl⟩
  rw [hsn] at hl hu hM
  obtain ⟨hM1, hM2⟩ := hM
  have HP := Lib.hid h
  have HSL := Lib.hid hsl
  clear h hb hsl
  go_enter Tryd.func25, Tryd.ntmps25
  go_wp2_with fail
  refine (hl _).mono ?_
  rintro e w' ⟨rfl, rfl⟩
  go_wp2_with fail
  refine (hn _).mono ?_
  rintro e W ⟨rfl, hB, hS⟩
  have hS0 := hS.bits
  go_wp2_with fail
  refine (hu _ _ hS0).mono ?_
  rintro e w1 ⟨rfl, rfl⟩
  have HS := Lib.hid hS
  clear hS
  go_wp2_with fail
  go_loop [28] (fun i => ∃ k : Nat, k ≤ M ∧ i = .int .i64 k ∧ ∀ j (h : j < s.size), j < k → (s[j]).toNat ≤ 26) (fun i => M - (intOf i).toNat)
  case atStart => exact ⟨0, Nat.zero_le _, rfl, fun j _ h => absurd h (by omega)⟩
  case round =>
    obtain ⟨k, hk, rfl, hlow⟩ := hrel
    have HLow := Lib.hid hlow
    clear hlow
    by_cases hlt : k < M
    · have hks : k < s.size := by rw [hsn]; exact hlt
      by_cases hv : (s[k]).toNat ≤ 26
      · have HV := Lib.hid hv
        have hv2 : ¬ (26 : Int) < (((s[k]).toNat : Nat) : Int) := by omega
        clear hv
        go_wp2
        refine ⟨⟨k + 1, by omega, by go_num, fun j hj hjk => ?_⟩, by simp [intOf]; omega⟩
        by_cases hjk2 : j < k
        · exact HLow.out j hj hjk2
        · obtain rfl : j = k := by omega
          exact HV.out
      · have hv2 : (26 : Int) < (((s[k]).toNat : Nat) : Int) := by omega
        have HV := Lib.hid hv
        clear hv
        go_wp2
        go_ret2
        exact ⟨hB, .inr ⟨fun hL => HV.out (hL _ (List.mem_of_getElem? (get_list s k hks))), rfl⟩⟩
    · obtain rfl : k = M := by omega
      have hcp := run_copy_string (P := Tryd.prog) W 42 9 3 5 w.heap.size 1 k k s Tryd.underlying42 (Lib.byte_size info_u8) (by omega)
        (fun j hj => by rw [HS.out.cell j (by rw [List.length_replicate, HP.out]; exact hj)]; rfl) (fun j hj => HS.out.fro j (by rw [List.length_replicate, HP.out]; exact hj))
      have hend : Sk w.heap.size b s.data.toList (W.setCells w.heap.size 1 (s.data.toList.map fun x => .int .u8 (x.toNat : Int))) := HS.out.setAll (by rw [HSL.out, List.length_replicate, HP.out])
      have hBend : Below w.heap.size w (W.setCells w.heap.size 1 (s.data.toList.map fun x => .int .u8 (x.toNat : Int))) := below_setCells (Nat.le_refl _) _ _ _ hB
      have hlow : Low s.data.toList := by
        intro x hx
        obtain ⟨j, hj, rfl⟩ := List.mem_iff_getElem.1 hx
        rw [HSL.out] at hj
        exact HLow.out j hj (by omega)
      generalize W.setCells w.heap.size 1 (s.data.toList.map fun x => .int .u8 (x.toNat : Int)) = W2 at *
      have HE := Lib.hid hend
      have HLO := Lib.hid hlow
      clear hend hlow
      go_wp2_with fail
      refine (hu _ _ hS0).mono ?_
      rintro e w1 ⟨rfl, rfl⟩
      go_wp2
      go_ret2
      exact ⟨hBend, .inl ⟨HLO.out, rfl, HE.out⟩⟩
/-- Any text as registers. -/
def Regd (b : Nat) (s : ByteArray) : Prop := 4 ≤ b ∧ b ≤ 10 ∧ 2 ^ b = s.size ∧ Low s.data.toList
theorem of_good (s : ByteArray) (b : Nat) (h : Regd b s) (w : World) :
    Calls Tryd.prog 25 #[.string s] w fun e w' => e = .returned (.tuple #[.pointer (some ⟨w.heap.size, 0, none⟩), .int .i64 0]) ∧ Below w.heap.size w w' ∧ Sk w.heap.size b s.data.toList w' := by
  refine (of_full s b h.1 h.2.1 h.2.2.1 w).mono ?_
  rintro e w' ⟨hB, h1 | h1⟩
  · exact ⟨h1.2.1, hB, h1.2.2⟩
  · exact absurd h.2.2.2 h1.1
theorem of_bad (s : ByteArray) (hs : s.size ≤ 9223372036854775807) (h : ∀ b, ¬ Regd b s) (w : World) :
    Calls Tryd.prog 25 #[.string s] w fun e w' => e = .returned (.tuple #[.pointer none, .int .i64 2]) ∧ Below w.heap.size w w' := by
  by_cases ho : obits s.size < 4 ∨ 10 < obits s.size
  · exact of_no s hs ho w
  · obtain ⟨b, hb⟩ : ∃ b : Nat, obits s.size = b := ⟨(obits s.size).toNat, by omega⟩
    by_cases hp : 2 ^ b = s.size
    · refine (of_full s b (by omega) (by omega) hp w).mono ?_
      rintro e w' ⟨hB, h1 | h1⟩
      · exact absurd ⟨by omega, by omega, hp, h1.1⟩ (h b)
      · exact ⟨h1.2, hB⟩
    · exact of_odd s hs b (by omega) (by omega) hb hp w
end Go.Proofs.YtdcjfefnkjdchaaDoor
