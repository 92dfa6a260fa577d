/- A number's digits, as the chapter makes them. The chapter's own side: how a policy is told. -/
import Derived.Test.YtdhkonaebhpeeaaDoorPoT
import Derived.Test.YtdhkonaebhpeeaaDoorRtC
namespace Go.Proofs.YtdhkonaebhpeeaaDoor.Po
open Go Go.RowKit

theorem u64_of_neg (n : Int) (h1 : -9223372036854775808 ≤ n) (h2 : n < 0) : IntKind.u64.wrap (-(IntKind.u64.wrap n)) = -n := by
  simp only [IntKind.wrap, IntKind.bits, IntKind.signed]
  simp
  omega
theorem one_byte (c : UInt8) (w : World) : (convert 62 9 (.slice (some ⟨w.heap.size, 0, none⟩) 1 1)).run Tryd.prog (w.alloc (.cells #[.int .u8 (c.toNat : Int)] 5)) = .ok (.string (tx [c])) (w.alloc (.cells #[.int .u8 (c.toNat : Int)] 5)) := by
  have h := run_convert_bytes_back (P := Tryd.prog) (w.alloc (.cells #[.int .u8 (c.toNat : Int)] 5)) 62 9 5 ⟨w.heap.size, 0, none⟩ 1 [c] Tryd.underlying62 Tryd.underlying5 Tryd.underlying9 (fun j hj => by
    have : j = 0 := by simpa using hj
    subst this
    rw [Lib.add_plain, Nat.zero_add, World.cell?_alloc_new]
    rfl)
  exact h
/-- What is left of n is m, the digits so far are s. -/
def Dgs (n m : Nat) (s : List UInt8) : Prop := Lib.decDigits n = if 9 < m then Lib.decDigits (m / 10) ++ s else s
theorem dgs_start (n : Nat) : Dgs n n [UInt8.ofNat (48 + n % 10)] := by
  unfold Dgs
  rw [Lib.decDigits]
  by_cases h : n < 10
  · rw [dif_pos h, if_neg (by omega), show n % 10 = n by omega]
  · rw [dif_neg h, if_pos (by omega)]
theorem dgs_next {n m : Nat} {s : List UInt8} (h : Dgs n m s) (hm : 9 < m) : Dgs n (m / 10) (UInt8.ofNat (48 + m / 10 % 10) :: s) := by
  unfold Dgs at *
  rw [if_pos hm] at h
  rw [h, Lib.decDigits]
  by_cases h2 : m / 10 < 10
  · rw [dif_pos h2, if_neg (by omega), show m / 10 % 10 = m / 10 by omega]; rfl
  · rw [dif_neg h2, if_pos (by omega), List.append_assoc]; rfl
theorem dgs_end {n m : Nat} {s : List UInt8} (h : Dgs n m s) (hm : ¬ 9 < m) : s = Lib.decDigits n := by
  unfold Dgs at h
  rw [if_neg hm] at h
  exact h.symm
theorem dgs_len {n m : Nat} {s : List UInt8} (h : Dgs n m s) : s.length ≤ (Lib.decDigits n).length := by
  unfold Dgs at h
  rw [h]
  split <;> simp


set_option maxHeartbeats 8000000 in
theorem dig_pos (n : Int) (h0 : ¬ n < 0) (hn : n ≤ 9223372036854775807) (w : World) :
    Calls Tryd.prog 39 #[.int .i64 n] w fun e w' => e = .returned (.string (tx ([] ++ Lib.decDigits n.toNat))) ∧ Below w.heap.size w w' := by
  obtain ⟨f, rfl⟩ : ∃ f : Nat, n = f := ⟨n.toNat, by omega⟩
  rw [Int.toNat_natCast]
  have hw : IntKind.u64.wrap (f : Int) = (f : Int) := by simp [IntKind.wrap, IntKind.signed, IntKind.bits]; omega
  have H20 := Lib.hid (dec_20 (m := f) (by omega))
  have hd0 : (48 : Int) + (f : Int) % 10 = ((UInt8.ofNat (48 + f % 10)).toNat : Int) := by rw [dig48 _ (by omega)]; omega
  have HST := Lib.hid (dgs_start f)
  generalize UInt8.ofNat (48 + f % 10) = c at hd0 HST
  have hcv := one_byte c
  have hcb : (c.toNat : Int) ≤ 255 := by have := c.toNat_lt; omega
  go_enter Tryd.func39, Tryd.ntmps39
  go_wp2
  clear hcv hd0 hcb hw
  go_loopg [3, 5] f (fun g s0 s3 wx => ∃ (m : Nat) (s : List UInt8), m ≤ g ∧ m ≤ f ∧ s0 = .int .u64 m ∧ s3 = .string (tx s) ∧ Hid (Dgs f m s) ∧ Below w.heap.size w wx)
  case atStart => exact ⟨f, [c], Nat.le_refl _, Nat.le_refl _, rfl, rfl, HST, (Below.refl _ _).alloc (Nat.le_refl _) _⟩
  case round =>
    obtain ⟨m, s, hmg, hmn, rfl, rfl, HD, hB⟩ := hrel
    by_cases hm : 9 < m
    · have hm1 : (9 : Int) < (m : Int) := by omega
      obtain ⟨q, hq⟩ : ∃ q : Nat, m / 10 = q := ⟨_, rfl⟩
      have hq1 : (m : Int) / 10 = (q : Int) := by omega
      have hqm : q < m := by omega
      have hd1 : (48 : Int) + (q : Int) % 10 = ((UInt8.ofNat (48 + q % 10)).toNat : Int) := by rw [dig48 _ (by omega)]; omega
      have HN := Lib.hid (dgs_next HD.out hm)
      rw [hq] at HN
      generalize UInt8.ofNat (48 + q % 10) = c at hd1 HN
      have hcv := one_byte c
      have hcb : (c.toNat : Int) ≤ 255 := by have := c.toNat_lt; omega
      have hsz : (tx s).size ≤ 20 := by rw [tx_len]; exact Nat.le_trans (dgs_len HD.out) H20.out
      have hs1 : (9223372036854775807 < (tx [c]).size + (tx s).size) = False := eq_false (by rw [tx_len]; simp; omega)
      have hap : tx [c] ++ tx s = tx (c :: s) := tx_append [c] s
      clear hq
      obtain ⟨T1, hT1⟩ : ∃ T, tx [c] = T := ⟨_, rfl⟩
      obtain ⟨T2, hT2⟩ : ∃ T, tx s = T := ⟨_, rfl⟩
      rw [hT1] at hs1 hap
      rw [hT2] at hs1 hap hsz ⊢
      simp only [hT1] at hcv
      have HT2 := Lib.hid hT2
      clear hT1 hT2
      cases gk with
      | zero => omega
      | succ g =>
        go_wp2
        go_roundg g
        case measure => omega
        case rel => exact ⟨q, c :: s, by omega, by omega, rfl, rfl, HN, hB.alloc hB.size _⟩
    · have he := dgs_end HD.out hm
      have HE := Lib.hid he
      have hsz : (tx s).size ≤ 20 := by rw [tx_len]; exact Nat.le_trans (dgs_len HD.out) H20.out
      have hap : (⟨#[]⟩ : ByteArray) ++ tx s = tx ([] ++ s) := tx_append [] s
      have hs1 : (9223372036854775807 < (tx s).size) = False := eq_false (by omega)
      clear he
      have hm1 : ¬ ((9 : Int) < (m : Int)) := by omega
      obtain ⟨T2, hT2⟩ : ∃ T, tx s = T := ⟨_, rfl⟩
      rw [hT2] at hs1 hap hsz ⊢
      have HT2 := Lib.hid hT2
      have HAP := Lib.hid hap
      clear hT2
      go_wp2
      go_ret
      exact ⟨by rw [← HE.out]; rfl, hB⟩
set_option maxHeartbeats 8000000 in
theorem dig_neg (n : Int) (h0 : n < 0) (hn : -9223372036854775808 ≤ n) (w : World) :
    Calls Tryd.prog 39 #[.int .i64 n] w fun e w' => e = .returned (.string (tx ([45] ++ Lib.decDigits (-n).toNat))) ∧ Below w.heap.size w w' := by
  obtain ⟨f, hf⟩ : ∃ f : Nat, (-n).toNat = f := ⟨_, rfl⟩
  have hw : IntKind.u64.wrap (-(IntKind.u64.wrap n)) = (f : Int) := by rw [u64_of_neg n hn h0]; omega
  have hf2 : f ≤ 9223372036854775808 := by omega
  rw [hf]
  have H20 := Lib.hid (dec_20 (m := f) (by omega))
  have hd0 : (48 : Int) + (f : Int) % 10 = ((UInt8.ofNat (48 + f % 10)).toNat : Int) := by rw [dig48 _ (by omega)]; omega
  have HST := Lib.hid (dgs_start f)
  generalize UInt8.ofNat (48 + f % 10) = c at hd0 HST
  have hcv := one_byte c
  have hcb : (c.toNat : Int) ≤ 255 := by have := c.toNat_lt; omega
  go_enter Tryd.func39, Tryd.ntmps39
  go_wp2
  clear hcv hd0 hcb hw
  go_loopg [3, 5] f (fun g s0 s3 wx => ∃ (m : Nat) (s : List UInt8), m ≤ g ∧ m ≤ f ∧ s0 = .int .u64 m ∧ s3 = .string (tx s) ∧ Hid (Dgs f m s) ∧ Below w.heap.size w wx)
  case atStart => exact ⟨f, [c], Nat.le_refl _, Nat.le_refl _, rfl, rfl, HST, (Below.refl _ _).alloc (Nat.le_refl _) _⟩
  case round =>
    obtain ⟨m, s, hmg, hmn, rfl, rfl, HD, hB⟩ := hrel
    by_cases hm : 9 < m
    · have hm1 : (9 : Int) < (m : Int) := by omega
      obtain ⟨q, hq⟩ : ∃ q : Nat, m / 10 = q := ⟨_, rfl⟩
      have hq1 : (m : Int) / 10 = (q : Int) := by omega
      have hqm : q < m := by omega
      have hd1 : (48 : Int) + (q : Int) % 10 = ((UInt8.ofNat (48 + q % 10)).toNat : Int) := by rw [dig48 _ (by omega)]; omega
      have HN := Lib.hid (dgs_next HD.out hm)
      rw [hq] at HN
      generalize UInt8.ofNat (48 + q % 10) = c at hd1 HN
      have hcv := one_byte c
      have hcb : (c.toNat : Int) ≤ 255 := by have := c.toNat_lt; omega
      have hsz : (tx s).size ≤ 20 := by rw [tx_len]; exact Nat.le_trans (dgs_len HD.out) H20.out
      have hs1 : (9223372036854775807 < (tx [c]).size + (tx s).size) = False := eq_false (by rw [tx_len]; simp; omega)
      have hap : tx [c] ++ tx s = tx (c :: s) := tx_append [c] s
      clear hq
      obtain ⟨T1, hT1⟩ : ∃ T, tx [c] = T := ⟨_, rfl⟩
      obtain ⟨T2, hT2⟩ : ∃ T, tx s = T := ⟨_, rfl⟩
      rw [hT1] at hs1 hap
      rw [hT2] at hs1 hap hsz ⊢
      simp only [hT1] at hcv
      have HT2 := Lib.hid hT2
      clear hT1 hT2
      cases gk with
      | zero => omega
      | succ g =>
        go_wp2
        go_roundg g
        case measure => omega
        case rel => exact ⟨q, c :: s, by omega, by omega, rfl, rfl, HN, hB.alloc hB.size _⟩
    · have he := dgs_end HD.out hm
      have HE := Lib.hid he
      have hsz : (tx s).size ≤ 20 := by rw [tx_len]; exact Nat.le_trans (dgs_len HD.out) H20.out
      have hap : (⟨#[45]⟩ : ByteArray) ++ tx s = tx ([45] ++ s) := tx_append [45] s
      have hs1 : (9223372036854775807 < 1 + (tx s).size) = False := eq_false (by omega)
      clear he
      have hm1 : ¬ ((9 : Int) < (m : Int)) := by omega
      obtain ⟨T2, hT2⟩ : ∃ T, tx s = T := ⟨_, rfl⟩
      rw [hT2] at hs1 hap hsz ⊢
      have HT2 := Lib.hid hT2
      have HAP := Lib.hid hap
      clear hT2
      go_wp2
      go_ret
      exact ⟨by rw [← HE.out]; rfl, hB⟩
theorem ref_digits (n : Int) (hn : In64 n) (w : World) :
    Calls Tryd.prog 39 #[.int .i64 n] w fun e w' => e = .returned (.string (tx (digF n))) ∧ Below w.heap.size w w' := by
  obtain ⟨h1, h2⟩ := hn
  unfold digF sgL farF
  by_cases h : n < 0
  · rw [if_pos h, show n.natAbs = (-n).toNat by omega]
    exact dig_neg n h h1 w
  · rw [if_neg h, show n.natAbs = n.toNat by omega]
    exact dig_pos n h h2 w
end Go.Proofs.YtdhkonaebhpeeaaDoor.Po

namespace Go.Proofs.YtdhkonaebhpeeaaDoor.Po
open Go Go.RowKit

set_option maxRecDepth 100000 in
theorem names_any (w : World) : Calls Tryd.prog 38 #[] w fun e w' => ∃ h, e = .returned (.slice (some ⟨h, 0, none⟩) 10 10) ∧ CellsAt h #[.string ⟨#[115, 108, 111, 116, 115]⟩, .string ⟨#[108, 111, 119]⟩, .string ⟨#[104, 105, 103, 104]⟩, .string ⟨#[116, 111, 112]⟩, .string ⟨#[115, 107, 101, 116, 99, 104]⟩, .string ⟨#[102, 105, 110, 101]⟩, .string ⟨#[105, 100, 108, 101]⟩, .string ⟨#[119, 105, 110, 100, 111, 119]⟩, .string ⟨#[108, 97, 116, 101]⟩, .string ⟨#[102, 117, 116, 117, 114, 101]⟩] w' ∧ Below w.heap.size w w' := by
  go_enter Tryd.func38, Tryd.ntmps38
  go_wp2
  go_ret
  exact ⟨_, rfl, CellsAt.new _ _ _, (Below.refl _ _).alloc (Nat.le_refl _) _⟩
theorem names_row : ∀ i : Fin 10, (#[.string ⟨#[115, 108, 111, 116, 115]⟩, .string ⟨#[108, 111, 119]⟩, .string ⟨#[104, 105, 103, 104]⟩, .string ⟨#[116, 111, 112]⟩, .string ⟨#[115, 107, 101, 116, 99, 104]⟩, .string ⟨#[102, 105, 110, 101]⟩, .string ⟨#[105, 100, 108, 101]⟩, .string ⟨#[119, 105, 110, 100, 111, 119]⟩, .string ⟨#[108, 97, 116, 101]⟩, .string ⟨#[102, 117, 116, 117, 114, 101]⟩] : Array Value)[i.val]? = some (.string (tx (nameN i))) := by
  intro i
  match i with
  | ⟨0, _⟩ => rfl
  | ⟨1, _⟩ => rfl
  | ⟨2, _⟩ => rfl
  | ⟨3, _⟩ => rfl
  | ⟨4, _⟩ => rfl
  | ⟨5, _⟩ => rfl
  | ⟨6, _⟩ => rfl
  | ⟨7, _⟩ => rfl
  | ⟨8, _⟩ => rfl
  | ⟨9, _⟩ => rfl
theorem names_at (i : Nat) (hi : i < 10) (w : World) : Calls Tryd.prog 38 #[] w fun e w' => ∃ h, e = .returned (.slice (some ⟨h, 0, none⟩) 10 10) ∧ h < w'.heap.size ∧ w'.cell? ⟨h, i, none⟩ = some (.string (tx (nameN i))) ∧ Below w.heap.size w w' := by
  refine (names_any w).mono ?_
  rintro e w' ⟨h, rfl, hC, hB⟩
  exact ⟨h, rfl, hC.lt, hC.cell i _ (names_row ⟨i, hi⟩), hB⟩
/-- What each operation of the loop's round yields. -/
def TexPhi (NM : ByteArray) (i : Nat) (vs : List Value) : Nat → Value → World → Prop
  | 1, v, w => ∃ h, v = .slice (some ⟨h, 0, none⟩) 10 10 ∧ h < w.heap.size ∧ w.cell? ⟨h, i, none⟩ = some (.string NM)
  | 3, v, w => ∃ h, v = .pointer (some ⟨h, i, none⟩) ∧ h < w.heap.size ∧ w.cell? ⟨h, i, none⟩ = some (.string NM)
  | k, v, _ => v = vs.getD k undef
theorem TexPhi.stays {NM : ByteArray} {i : Nat} {vs : List Value} : ∀ k v w w', TexPhi NM i vs k v w → Reg.Old w w' → TexPhi NM i vs k v w' := by
  intro k v w w' h hB
  unfold TexPhi at *
  split at h
  · obtain ⟨g, h1, h2, h3⟩ := h
    exact ⟨g, h1, Nat.lt_of_lt_of_le h2 (Below.size hB), (Below.cell (p := ⟨g, i, none⟩) hB h2).trans h3⟩
  · obtain ⟨g, h1, h2, h3⟩ := h
    exact ⟨g, h1, Nat.lt_of_lt_of_le h2 (Below.size hB), (Below.cell (p := ⟨g, i, none⟩) hB h2).trans h3⟩
  · exact h
set_option maxRecDepth 100000 in
set_option maxHeartbeats 16000000 in
theorem text_six (C0 : Code) (hC0 : Tryd.f20.body.bind (findG 6) = some C0) (Q : Exit → Act → World → Prop) (W : World) (N G i : Nat) (S NM DG : ByteArray) (x : Int) (hi : i < 10) (hs : S.size ≤ 280) (hnm : NM.size ≤ 6) (hdg : DG.size ≤ 20) (hNM : tx (nameN i) = NM) (hx : In64 x) (hDG : tx (digF x) = DG) (hG0 : G < W.heap.size) (hc0 : W.cell? ⟨G, i, none⟩ = some (.int .i64 x)) (s0 s6 s7 s8 s9 s10 s11 s12 s13 s14 s15 s16 s17 s18 s19 s20 s21 s22 s23 s24 s25 s26 s27 s28 s29 s30 s31 s32 s33 s34 s35 s36 s37 s38 s39 s40 s41 s42 s43 s44 s45 s46 s47 s48 : Value)
    (hQ : ∀ (W' : World) (z13 z14 z15 z16 z17 z18 z19 z20 z21 z22 z23 z24 z25 z26 : Value), Below W.heap.size W W' → Q .normal { tmps := (s0 :: .pointer (some ⟨N, 0, none⟩) :: .string ⟨#[]⟩ :: .string (S ++ NM ++ (⟨#[61]⟩ : ByteArray) ++ DG ++ (⟨#[32]⟩ : ByteArray)) :: .slice (some ⟨G, 0, none⟩) 10 10 :: .int .i64 (i : Int) :: s6 :: s7 :: s8 :: s9 :: s10 :: s11 :: s12 :: z13 :: z14 :: z15 :: z16 :: z17 :: z18 :: z19 :: z20 :: z21 :: z22 :: z23 :: z24 :: z25 :: z26 :: s27 :: s28 :: s29 :: s30 :: s31 :: s32 :: s33 :: s34 :: s35 :: s36 :: s37 :: s38 :: s39 :: s40 :: s41 :: s42 :: s43 :: s44 :: s45 :: s46 :: s47 :: s48 :: []).toArray, defers := [] } W') :
    Code.wp Tryd.prog C0 Q { tmps := (s0 :: .pointer (some ⟨N, 0, none⟩) :: .string ⟨#[]⟩ :: .string S :: .slice (some ⟨G, 0, none⟩) 10 10 :: .int .i64 (i : Int) :: s6 :: s7 :: s8 :: s9 :: s10 :: s11 :: s12 :: s13 :: s14 :: s15 :: s16 :: s17 :: s18 :: s19 :: s20 :: s21 :: s22 :: s23 :: s24 :: s25 :: s26 :: s27 :: s28 :: s29 :: s30 :: s31 :: s32 :: s33 :: s34 :: s35 :: s36 :: s37 :: s38 :: s39 :: s40 :: s41 :: s42 :: s43 :: s44 :: s45 :: s46 :: s47 :: s48 :: []).toArray, defers := [] } W := by
  cases hC0
  have hnam : ∀ w, Calls Tryd.prog 38 #[] w fun e w' => ∃ h, e = .returned (.slice (some ⟨h, 0, none⟩) 10 10) ∧ h < w'.heap.size ∧ w'.cell? ⟨h, i, none⟩ = some (.string NM) ∧ Below w.heap.size w w' := fun w => by
    have := names_at i hi w
    rwa [hNM] at this
  have hdig : ∀ w, Calls Tryd.prog 39 #[.int .i64 x] w fun e w' => e = .returned (.string DG) ∧ Below w.heap.size w w' := fun w => by
    have := ref_digits x hx w
    rwa [hDG] at this
  have Z1 : Hid ((9223372036854775807 < S.size + NM.size) = False) := Lib.hid (eq_false (by omega))
  have Z2 : Hid ((9223372036854775807 < S.size + NM.size + 1) = False) := Lib.hid (eq_false (by omega))
  have Z3 : Hid ((9223372036854775807 < S.size + NM.size + 1 + DG.size) = False) := Lib.hid (eq_false (by omega))
  have Z4 : Hid ((9223372036854775807 < S.size + NM.size + 1 + DG.size + 1) = False) := Lib.hid (eq_false (by omega))
  have hG : G < W.drew.heap.size := hG0
  have hcell : W.drew.cell? ⟨G, i, none⟩ = some (.int .i64 x) := hc0
  clear hs hnm hdg hNM hDG hG0 hc0 hx
  refine Reg.wp_region_inv (n := 49) (TexPhi NM i [.string S, undef, .int .i64 (i : Int), undef, .string NM, .string (S ++ NM), .string (S ++ NM ++ (⟨#[61]⟩ : ByteArray)), .slice (some ⟨G, 0, none⟩) 10 10, .int .i64 (i : Int), .pointer (some ⟨G, i, none⟩), .int .i64 x, .string DG, .string (S ++ NM ++ (⟨#[61]⟩ : ByteArray) ++ DG), .string (S ++ NM ++ (⟨#[61]⟩ : ByteArray) ++ DG ++ (⟨#[32]⟩ : ByteArray)), .string (S ++ NM ++ (⟨#[61]⟩ : ByteArray) ++ DG ++ (⟨#[32]⟩ : ByteArray))]) (by kernel_rfl) (by kernel_rfl) rfl TexPhi.stays ?_ ?_
  · refine ⟨?_, ?_, ?_, ?_, ?_, ?_, ?_, ?_, ?_, ?_, ?_, ?_, ?_, ?_, ?_, trivial⟩
    · intro cx wc hB hp hq
      have g3 : cx.tmps[3]? = some (.string S) := (hq 3 (by kernel_rfl)).trans rfl
      refine Reg.ok_value Reg.Old.refl (v := .string S) (Reg.wanted_none rfl) ?_ rfl
      go_simp
    · intro cx wc hB hp hq
      refine Reg.ok_call (f := 38) (args := #[]) (Reg.wanted_none rfl) (by go_simp) ((hnam wc).mono ?_)
      rintro e w' ⟨h, rfl, hc1, hc2, hB2⟩
      exact ⟨_, rfl, hB2, h, rfl, hc1, hc2⟩
    · intro cx wc hB hp hq
      have g5 : cx.tmps[5]? = some (.int .i64 (i : Int)) := (hq 5 (by kernel_rfl)).trans rfl
      refine Reg.ok_value Reg.Old.refl (v := .int .i64 (i : Int)) (Reg.wanted_none rfl) ?_ rfl
      go_simp
    · intro cx wc hB hp hq
      obtain ⟨v14, g14, h, hv, h1, h2⟩ := Reg.pred hp 1 14 (by kernel_rfl) rfl rfl
      subst hv
      have g15 : cx.tmps[15]? = some (.int .i64 (i : Int)) := by obtain ⟨_, g, hv⟩ := Reg.pred hp 2 15 (by kernel_rfl) rfl rfl; exact g.trans (congrArg some hv)
      have i0 : (0 : Int) ≤ (i : Int) := by omega
      have i1 : (i : Int) < 10 := by omega
      refine Reg.ok_value Reg.Old.refl (v := .pointer (some ⟨h, i, none⟩)) (Reg.wanted_none rfl) ?_ ⟨h, rfl, h1, h2⟩
      go_simp
    · intro cx wc hB hp hq
      obtain ⟨v16, g16, h, hv, h1, h2⟩ := Reg.pred hp 3 16 (by kernel_rfl) rfl rfl
      subst hv
      refine Reg.ok_value Reg.Old.refl (v := .string NM) (Reg.wanted_none rfl) ?_ rfl
      go_simp
    · intro cx wc hB hp hq
      have g13 : cx.tmps[13]? = some (.string S) := by obtain ⟨_, g, hv⟩ := Reg.pred hp 0 13 (by kernel_rfl) rfl rfl; exact g.trans (congrArg some hv)
      have g17 : cx.tmps[17]? = some (.string NM) := by obtain ⟨_, g, hv⟩ := Reg.pred hp 4 17 (by kernel_rfl) rfl rfl; exact g.trans (congrArg some hv)
      have e1 := Z1.out
      refine Reg.ok_value Reg.Old.refl (v := .string (S ++ NM)) (Reg.wanted_none rfl) ?_ rfl
      go_simp
    · intro cx wc hB hp hq
      have g18 : cx.tmps[18]? = some (.string (S ++ NM)) := by obtain ⟨_, g, hv⟩ := Reg.pred hp 5 18 (by kernel_rfl) rfl rfl; exact g.trans (congrArg some hv)
      have e1 := Z2.out
      refine Reg.ok_value Reg.Old.refl (v := .string (S ++ NM ++ (⟨#[61]⟩ : ByteArray))) (Reg.wanted_none rfl) ?_ rfl
      go_simp
    · intro cx wc hB hp hq
      have g4 : cx.tmps[4]? = some (.slice (some ⟨G, 0, none⟩) 10 10) := (hq 4 (by kernel_rfl)).trans rfl
      refine Reg.ok_value Reg.Old.refl (v := .slice (some ⟨G, 0, none⟩) 10 10) (Reg.wanted_none rfl) ?_ rfl
      go_simp
    · intro cx wc hB hp hq
      have g5 : cx.tmps[5]? = some (.int .i64 (i : Int)) := (hq 5 (by kernel_rfl)).trans rfl
      refine Reg.ok_value Reg.Old.refl (v := .int .i64 (i : Int)) (Reg.wanted_none rfl) ?_ rfl
      go_simp
    · intro cx wc hB hp hq
      have g20 : cx.tmps[20]? = some (.slice (some ⟨G, 0, none⟩) 10 10) := by obtain ⟨_, g, hv⟩ := Reg.pred hp 7 20 (by kernel_rfl) rfl rfl; exact g.trans (congrArg some hv)
      have g21 : cx.tmps[21]? = some (.int .i64 (i : Int)) := by obtain ⟨_, g, hv⟩ := Reg.pred hp 8 21 (by kernel_rfl) rfl rfl; exact g.trans (congrArg some hv)
      have i0 : (0 : Int) ≤ (i : Int) := by omega
      have i1 : (i : Int) < 10 := by omega
      refine Reg.ok_value Reg.Old.refl (v := .pointer (some ⟨G, i, none⟩)) (Reg.wanted_none rfl) ?_ rfl
      go_simp
    · intro cx wc hB hp hq
      have g22 : cx.tmps[22]? = some (.pointer (some ⟨G, i, none⟩)) := by obtain ⟨_, g, hv⟩ := Reg.pred hp 9 22 (by kernel_rfl) rfl rfl; exact g.trans (congrArg some hv)
      have c1 := (Below.cell (p := ⟨G, i, none⟩) hB hG).trans hcell
      refine Reg.ok_value Reg.Old.refl (v := .int .i64 x) (Reg.wanted_none rfl) ?_ rfl
      go_simp
    · intro cx wc hB hp hq
      have g23 : cx.tmps[23]? = some (.int .i64 x) := by obtain ⟨_, g, hv⟩ := Reg.pred hp 10 23 (by kernel_rfl) rfl rfl; exact g.trans (congrArg some hv)
      refine Reg.ok_call (f := 39) (args := #[.int .i64 x]) (Reg.wanted_none rfl) (by go_simp) ((hdig wc).mono ?_)
      rintro e w' ⟨rfl, hB2⟩
      exact ⟨_, rfl, hB2, rfl⟩
    · intro cx wc hB hp hq
      have g19 : cx.tmps[19]? = some (.string (S ++ NM ++ (⟨#[61]⟩ : ByteArray))) := by obtain ⟨_, g, hv⟩ := Reg.pred hp 6 19 (by kernel_rfl) rfl rfl; exact g.trans (congrArg some hv)
      have g24 : cx.tmps[24]? = some (.string DG) := by obtain ⟨_, g, hv⟩ := Reg.pred hp 11 24 (by kernel_rfl) rfl rfl; exact g.trans (congrArg some hv)
      have e1 := Z3.out
      refine Reg.ok_value Reg.Old.refl (v := .string (S ++ NM ++ (⟨#[61]⟩ : ByteArray) ++ DG)) (Reg.wanted_none rfl) ?_ rfl
      go_simp
    · intro cx wc hB hp hq
      have g25 : cx.tmps[25]? = some (.string (S ++ NM ++ (⟨#[61]⟩ : ByteArray) ++ DG)) := by obtain ⟨_, g, hv⟩ := Reg.pred hp 12 25 (by kernel_rfl) rfl rfl; exact g.trans (congrArg some hv)
      have e1 := Z4.out
      refine Reg.ok_value Reg.Old.refl (v := .string (S ++ NM ++ (⟨#[61]⟩ : ByteArray) ++ DG ++ (⟨#[32]⟩ : ByteArray))) (Reg.wanted_none rfl) ?_ rfl
      go_simp
    · intro cx wc hB hp hq
      have g26 : cx.tmps[26]? = some (.string (S ++ NM ++ (⟨#[61]⟩ : ByteArray) ++ DG ++ (⟨#[32]⟩ : ByteArray))) := by obtain ⟨_, g, hv⟩ := Reg.pred hp 13 26 (by kernel_rfl) rfl rfl; exact g.trans (congrArg some hv)
      refine Reg.ok_value Reg.Old.refl (v := .string (S ++ NM ++ (⟨#[61]⟩ : ByteArray) ++ DG ++ (⟨#[32]⟩ : ByteArray))) (Reg.wanted_none rfl) ?_ rfl
      go_simp
  · intro cx w1 hB hsz hdf hv ho
    obtain ⟨R14, g14, _⟩ := hv 1 _ 14 rfl rfl
    obtain ⟨R16, g16, _⟩ := hv 3 _ 16 rfl rfl
    have hcx := Reg.frame_eq [s0, .pointer (some ⟨N, 0, none⟩), .string ⟨#[]⟩, .string (S ++ NM ++ (⟨#[61]⟩ : ByteArray) ++ DG ++ (⟨#[32]⟩ : ByteArray)), .slice (some ⟨G, 0, none⟩) 10 10, .int .i64 (i : Int), s6, s7, s8, s9, s10, s11, s12, .string S, R14, .int .i64 (i : Int), R16, .string NM, .string (S ++ NM), .string (S ++ NM ++ (⟨#[61]⟩ : ByteArray)), .slice (some ⟨G, 0, none⟩) 10 10, .int .i64 (i : Int), .pointer (some ⟨G, i, none⟩), .int .i64 x, .string DG, .string (S ++ NM ++ (⟨#[61]⟩ : ByteArray) ++ DG), .string (S ++ NM ++ (⟨#[61]⟩ : ByteArray) ++ DG ++ (⟨#[32]⟩ : ByteArray)), s27, s28, s29, s30, s31, s32, s33, s34, s35, s36, s37, s38, s39, s40, s41, s42, s43, s44, s45, s46, s47, s48] (by simpa using hsz) hdf ⟨((Reg.kept ho 0 (by kernel_rfl)).trans rfl), ((Reg.kept ho 1 (by kernel_rfl)).trans rfl), ((Reg.kept ho 2 (by kernel_rfl)).trans rfl), (by obtain ⟨_, g, hx⟩ := hv 14 _ 3 rfl rfl; exact g.trans (congrArg some hx)), ((Reg.kept ho 4 (by kernel_rfl)).trans rfl), ((Reg.kept ho 5 (by kernel_rfl)).trans rfl), ((Reg.kept ho 6 (by kernel_rfl)).trans rfl), ((Reg.kept ho 7 (by kernel_rfl)).trans rfl), ((Reg.kept ho 8 (by kernel_rfl)).trans rfl), ((Reg.kept ho 9 (by kernel_rfl)).trans rfl), ((Reg.kept ho 10 (by kernel_rfl)).trans rfl), ((Reg.kept ho 11 (by kernel_rfl)).trans rfl), ((Reg.kept ho 12 (by kernel_rfl)).trans rfl), (by obtain ⟨_, g, hx⟩ := hv 0 _ 13 rfl rfl; exact g.trans (congrArg some hx)), g14, (by obtain ⟨_, g, hx⟩ := hv 2 _ 15 rfl rfl; exact g.trans (congrArg some hx)), g16, (by obtain ⟨_, g, hx⟩ := hv 4 _ 17 rfl rfl; exact g.trans (congrArg some hx)), (by obtain ⟨_, g, hx⟩ := hv 5 _ 18 rfl rfl; exact g.trans (congrArg some hx)), (by obtain ⟨_, g, hx⟩ := hv 6 _ 19 rfl rfl; exact g.trans (congrArg some hx)), (by obtain ⟨_, g, hx⟩ := hv 7 _ 20 rfl rfl; exact g.trans (congrArg some hx)), (by obtain ⟨_, g, hx⟩ := hv 8 _ 21 rfl rfl; exact g.trans (congrArg some hx)), (by obtain ⟨_, g, hx⟩ := hv 9 _ 22 rfl rfl; exact g.trans (congrArg some hx)), (by obtain ⟨_, g, hx⟩ := hv 10 _ 23 rfl rfl; exact g.trans (congrArg some hx)), (by obtain ⟨_, g, hx⟩ := hv 11 _ 24 rfl rfl; exact g.trans (congrArg some hx)), (by obtain ⟨_, g, hx⟩ := hv 12 _ 25 rfl rfl; exact g.trans (congrArg some hx)), (by obtain ⟨_, g, hx⟩ := hv 13 _ 26 rfl rfl; exact g.trans (congrArg some hx)), ((Reg.kept ho 27 (by kernel_rfl)).trans rfl), ((Reg.kept ho 28 (by kernel_rfl)).trans rfl), ((Reg.kept ho 29 (by kernel_rfl)).trans rfl), ((Reg.kept ho 30 (by kernel_rfl)).trans rfl), ((Reg.kept ho 31 (by kernel_rfl)).trans rfl), ((Reg.kept ho 32 (by kernel_rfl)).trans rfl), ((Reg.kept ho 33 (by kernel_rfl)).trans rfl), ((Reg.kept ho 34 (by kernel_rfl)).trans rfl), ((Reg.kept ho 35 (by kernel_rfl)).trans rfl), ((Reg.kept ho 36 (by kernel_rfl)).trans rfl), ((Reg.kept ho 37 (by kernel_rfl)).trans rfl), ((Reg.kept ho 38 (by kernel_rfl)).trans rfl), ((Reg.kept ho 39 (by kernel_rfl)).trans rfl), ((Reg.kept ho 40 (by kernel_rfl)).trans rfl), ((Reg.kept ho 41 (by kernel_rfl)).trans rfl), ((Reg.kept ho 42 (by kernel_rfl)).trans rfl), ((Reg.kept ho 43 (by kernel_rfl)).trans rfl), ((Reg.kept ho 44 (by kernel_rfl)).trans rfl), ((Reg.kept ho 45 (by kernel_rfl)).trans rfl), ((Reg.kept ho 46 (by kernel_rfl)).trans rfl), ((Reg.kept ho 47 (by kernel_rfl)).trans rfl), ((Reg.kept ho 48 (by kernel_rfl)).trans rfl), trivial⟩
    rw [hcx]
    exact hQ _ _ _ _ _ _ _ _ _ _ _ _ _ _ _ hB
theorem name_len (i : Nat) (hi : i < 10) : (nameN i).length ≤ 6 := by
  have : ∀ k : Fin 10, (nameN k).length ≤ 6 := by decide +kernel
  exact this ⟨i, hi⟩
set_option maxRecDepth 100000 in
set_option maxHeartbeats 16000000 in
theorem ref_text_in (x0 x1 x2 x3 x4 x5 x6 x7 x8 x9 : Int) (q : Option Addr) (l d : Nat) (t : List Int) (ht : t.length = l) (w : World) (hin : ∀ x ∈ [x0, x1, x2, x3, x4, x5, x6, x7, x8, x9], In64 x) (hl : l ≤ 1099511627776) (hT : Tr (fun _ => False) (.slice q l d) t w) :
    Calls Tryd.prog 20 #[.agg #[.int .i64 x0, .int .i64 x1, .int .i64 x2, .int .i64 x3, .int .i64 x4, .int .i64 x5, .int .i64 x6, .int .i64 x7, .int .i64 x8, .int .i64 x9, .slice q l d]] w fun e w' => e = .returned (.string (tx (textZ [x0, x1, x2, x3, x4, x5, x6, x7, x8, x9] t))) ∧ Below w.heap.size w w' := by
  obtain ⟨N, hN⟩ : ∃ N, w.heap.size = N := ⟨_, rfl⟩
  have hB0 : Below w.heap.size w (w.alloc (.cells #[.int .i64 x0, .int .i64 x1, .int .i64 x2, .int .i64 x3, .int .i64 x4, .int .i64 x5, .int .i64 x6, .int .i64 x7, .int .i64 x8, .int .i64 x9, .slice q l d] 33)) := (Below.refl _ _).alloc (Nat.le_refl _) _
  have HP : Hid (CellsAt N #[.int .i64 x0, .int .i64 x1, .int .i64 x2, .int .i64 x3, .int .i64 x4, .int .i64 x5, .int .i64 x6, .int .i64 x7, .int .i64 x8, .int .i64 x9, .slice q l d] (w.alloc (.cells #[.int .i64 x0, .int .i64 x1, .int .i64 x2, .int .i64 x3, .int .i64 x4, .int .i64 x5, .int .i64 x6, .int .i64 x7, .int .i64 x8, .int .i64 x9, .slice q l d] 33))) := Lib.hid (CellsAt.newAt #[.int .i64 x0, .int .i64 x1, .int .i64 x2, .int .i64 x3, .int .i64 x4, .int .i64 x5, .int .i64 x6, .int .i64 x7, .int .i64 x8, .int .i64 x9, .slice q l d] 33 w N hN.symm)
  have HT := Lib.hid (hT.below hB0)
  have HB := Lib.hid hB0
  have HIN := Lib.hid hT.in64
  obtain ⟨R, hR⟩ : ∃ R, textZ [x0, x1, x2, x3, x4, x5, x6, x7, x8, x9] t = R := ⟨_, rfl⟩
  have HR : Hid (R = headN [x0, x1, x2, x3, x4, x5, x6, x7, x8, x9] 10 ++ ([116, 105, 101, 114, 115, 61] ++ slashN t l)) := Lib.hid (by rw [← hR, text_heads _ t rfl, ← ht, slashN_all])
  rw [hR]
  have HLT := Lib.hid ht
  have HNI := Lib.hid hin
  have hnum : ∀ W, Calls Tryd.prog 32 #[.agg #[.int .i64 x0, .int .i64 x1, .int .i64 x2, .int .i64 x3, .int .i64 x4, .int .i64 x5, .int .i64 x6, .int .i64 x7, .int .i64 x8, .int .i64 x9, .slice q l d]] W fun e w' => ∃ g, e = .returned (.slice (some ⟨g, 0, none⟩) 10 10) ∧ OwnI W.heap.size (.slice (some ⟨g, 0, none⟩) 10 10) [x0, x1, x2, x3, x4, x5, x6, x7, x8, x9] w' ∧ Below W.heap.size W w' := fun W => refnumbers_any [x0, x1, x2, x3, x4, x5, x6, x7, x8, x9] q l d W rfl
  clear hT hB0 hR ht hin
  go_enter Tryd.func20, Tryd.ntmps20
  go_wp2_with fail
  refine (hnum _).mono ?_
  rintro e w1 ⟨G, rfl, hO, hB1⟩
  replace HP := Lib.hid (HP.out.below hB1)
  replace HT := Lib.hid (HT.out.below hB1)
  replace HB := Lib.hid (HB.out.trans (hB1.mono HB.out.size))
  obtain ⟨G', e, hrow⟩ := RowI.of hO (by simp)
  obtain rfl : G = G' := by injection e with e; injection e
  have HG := Lib.hid hrow
  clear hN hO hB1 e hrow hnum
  go_wp2
  go_loopg [3, 5] 10 (fun g s3 s5 wx => ∃ i : Nat, s3 = .string (tx (headN [x0, x1, x2, x3, x4, x5, x6, x7, x8, x9] i)) ∧ s5 = .int .i64 (i : Int) ∧ i + g = 10 ∧ Hid (CellsAt N #[.int .i64 x0, .int .i64 x1, .int .i64 x2, .int .i64 x3, .int .i64 x4, .int .i64 x5, .int .i64 x6, .int .i64 x7, .int .i64 x8, .int .i64 x9, .slice q l d] wx) ∧ Hid (Tr (fun _ => False) (.slice q l d) t wx) ∧ Hid (RowI G [x0, x1, x2, x3, x4, x5, x6, x7, x8, x9] wx) ∧ Hid (Below w.heap.size w wx))
  case atStart => exact ⟨0, rfl, rfl, rfl, HP, HT, HG, HB⟩
  case round =>
    clear HP HT HG HB
    obtain ⟨i, rfl, rfl, hig, HP, HT, HG, HB⟩ := hrel
    cases gk with
    | succ g =>
      have hi : i < 10 := by omega
      have hi' : i < [x0, x1, x2, x3, x4, x5, x6, x7, x8, x9].length := hi
      have hcg := HG.out.2 i hi'
      have hxin := HNI.out _ (List.getElem_mem hi')
      have HXE : Hid ([x0, x1, x2, x3, x4, x5, x6, x7, x8, x9].getD i 0 = [x0, x1, x2, x3, x4, x5, x6, x7, x8, x9][i]) := Lib.hid (by rw [List.getD_eq_getElem?_getD, List.getElem?_eq_getElem hi']; rfl)
      obtain ⟨x, hx⟩ : ∃ x, [x0, x1, x2, x3, x4, x5, x6, x7, x8, x9][i] = x := ⟨_, rfl⟩
      rw [hx] at hcg hxin HXE
      have HSN : Hid (tx (headN [x0, x1, x2, x3, x4, x5, x6, x7, x8, x9] i) ++ tx (nameN i) ++ (⟨#[61]⟩ : ByteArray) ++ tx (digF x) ++ (⟨#[32]⟩ : ByteArray) = tx (headN [x0, x1, x2, x3, x4, x5, x6, x7, x8, x9] (i + 1))) := Lib.hid (by
        rw [headN_succ, HXE.out, show (⟨#[61]⟩ : ByteArray) = tx [61] from rfl, show (⟨#[32]⟩ : ByteArray) = tx [32] from rfl, tx_append, tx_append, tx_append, tx_append]
        simp [List.append_assoc])
      have hS : (tx (headN [x0, x1, x2, x3, x4, x5, x6, x7, x8, x9] i)).size ≤ 280 := by rw [tx_len]; have := head_len [x0, x1, x2, x3, x4, x5, x6, x7, x8, x9] HNI.out i; omega
      have hNM : (tx (nameN i)).size ≤ 6 := by rw [tx_len]; exact name_len i hi
      have hDG : (tx (digF x)).size ≤ 20 := by rw [tx_len]; exact dig_len21 hxin
      obtain ⟨S, hSe⟩ : ∃ S, tx (headN [x0, x1, x2, x3, x4, x5, x6, x7, x8, x9] i) = S := ⟨_, rfl⟩
      rw [hSe] at HSN hS ⊢
      clear hx hi'
      go_upto_region 6 with fail
      refine text_six _ (by kernel_rfl) _ wr N G i S _ _ x hi hS hNM hDG rfl hxin rfl HG.out.1 hcg _ _ _ _ _ _ _ _ _ _ _ _ _ _ _ _ _ _ _ _ _ _ _ _ _ _ _ _ _ _ _ _ _ _ _ _ _ _ _ _ _ _ _ _ ?_
      intro W2 z13 z14 z15 z16 z17 z18 z19 z20 z21 z22 z23 z24 z25 z26 hBW
      rename_i K hK
      refine hK _ _ ?_
      clear hK
      rw [HSN.out]
      have HP2 := Lib.hid (HP.out.below hBW)
      have HT2 := Lib.hid (HT.out.below hBW)
      have HG2 : Hid (RowI G [x0, x1, x2, x3, x4, x5, x6, x7, x8, x9] W2) := Lib.hid ⟨Nat.lt_of_lt_of_le HG.out.1 hBW.size, fun j hj => (hBW.cell (p := ⟨G, j, none⟩) HG.out.1).trans (HG.out.2 j hj)⟩
      have HB2 := Lib.hid (HB.out.trans (hBW.mono HB.out.size))
      clear HP HT HG HB hBW hcg hS hNM hDG HSN hSe HXE hxin
      go_wp2
      go_roundg g
      case measure => omega
      case rel => exact ⟨i + 1, rfl, by go_num, by omega, HP2, HT2, HG2, HB2⟩
    | zero =>
      obtain rfl : i = 10 := by omega
      rw [show ((10 : Nat) : Int) = 10 from rfl]
      have hS : (tx (headN [x0, x1, x2, x3, x4, x5, x6, x7, x8, x9] 10)).size ≤ 280 := by rw [tx_len]; have := head_len [x0, x1, x2, x3, x4, x5, x6, x7, x8, x9] HNI.out 10; omega
      have hz0 : (9223372036854775807 < (tx (headN [x0, x1, x2, x3, x4, x5, x6, x7, x8, x9] 10)).size + 6) = False := eq_false (by omega)
      have hcat : tx (headN [x0, x1, x2, x3, x4, x5, x6, x7, x8, x9] 10) ++ ⟨#[116, 105, 101, 114, 115, 61]⟩ = tx (headN [x0, x1, x2, x3, x4, x5, x6, x7, x8, x9] 10 ++ [116, 105, 101, 114, 115, 61] ++ slashN t 0) := by
        rw [show (⟨#[116, 105, 101, 114, 115, 61]⟩ : ByteArray) = tx [116, 105, 101, 114, 115, 61] from rfl, tx_append, show slashN t 0 = [] from rfl, List.append_nil]
      obtain ⟨H, hH⟩ : ∃ H, headN [x0, x1, x2, x3, x4, x5, x6, x7, x8, x9] 10 ++ [116, 105, 101, 114, 115, 61] = H := ⟨_, rfl⟩
      have hHl : H.length ≤ 286 := by rw [← hH, List.length_append]; rw [tx_len] at hS; simp; omega
      have HRE : Hid (R = H ++ slashN t l) := Lib.hid (by rw [HR.out, ← hH, List.append_assoc])
      rw [hH] at hcat
      obtain ⟨S, hSe⟩ : ∃ S, tx (headN [x0, x1, x2, x3, x4, x5, x6, x7, x8, x9] 10) = S := ⟨_, rfl⟩
      rw [hSe] at hcat hz0 ⊢
      clear hH hSe hS hig
      go_wp2
      go_loopg [3, 6] l (fun g s3 s6 wx => ∃ i : Nat, s3 = .string (tx (H ++ slashN t i)) ∧ s6 = .int .i64 (i : Int) ∧ i + g = l ∧ Hid (CellsAt N #[.int .i64 x0, .int .i64 x1, .int .i64 x2, .int .i64 x3, .int .i64 x4, .int .i64 x5, .int .i64 x6, .int .i64 x7, .int .i64 x8, .int .i64 x9, .slice q l d] wx) ∧ Hid (Tr (fun _ => False) (.slice q l d) t wx) ∧ Hid (Below w.heap.size w wx))
      case atStart => exact ⟨0, rfl, rfl, by omega, HP, HT, HB⟩
      case round =>
        clear HP HT HB hcat hz0
        obtain ⟨i, rfl, rfl, hig, HP, HT, HB⟩ := hrel
        have k10 := HP.out.cell 10 _ rfl
        have kl := HP.out.lt
        simp only [List.getElem_toArray, List.getElem_cons_zero, List.getElem_cons_succ] at k10
        cases gk with
        | succ g =>
          have hit : i < t.length := by rw [HLT.out]; omega
          have hil : (i : Int) < (l : Int) := by omega
          obtain ⟨C, off, rfl, hC, hcell⟩ := HT.out.at.2.2.2.2 i hit
          have hxin := HIN.out _ (List.getElem_mem hit)
          have HSU := Lib.hid (slashN_succ t i hit)
          have hlen := slashN_len t HIN.out i
          obtain ⟨x, hx⟩ : ∃ x, t[i] = x := ⟨_, rfl⟩
          rw [hx] at hcell hxin HSU
          have hdig := fun W => ref_digits x hxin W
          have hDG : (tx (digF x)).size ≤ 20 := by rw [tx_len]; exact dig_len21 hxin
          have hsz : (tx (H ++ slashN t i)).size ≤ 286 + 21 * i := by rw [tx_len, List.length_append]; omega
          clear hx hit hxin hlen
          by_cases h0 : i = 0
          · subst h0
            rw [Nat.add_zero] at hcell
            have hcat : tx (H ++ slashN t 0) ++ tx (digF x) = tx (H ++ slashN t (0 + 1)) := by
              rw [HSU.out, if_pos rfl, tx_append, show slashN t 0 = [] from rfl, List.append_nil]
            have hz1 : (9223372036854775807 < (tx (H ++ slashN t 0)).size + (tx (digF x)).size) = False := eq_false (by omega)
            obtain ⟨S, hSe⟩ : ∃ S, tx (H ++ slashN t 0) = S := ⟨_, rfl⟩
            obtain ⟨D, hDe⟩ : ∃ S, tx (digF x) = S := ⟨_, rfl⟩
            rw [hSe] at hcat hz1 hsz ⊢
            rw [hDe] at hcat hz1 hDG
            simp only [hDe] at hdig
            have HSe := Lib.hid hSe
            clear hSe hDe
            go_wp2_with fail
            refine (hdig _).mono ?_
            rintro e w5 ⟨rfl, hBx⟩
            replace HP := Lib.hid (HP.out.below hBx)
            replace HT := Lib.hid (HT.out.below hBx)
            replace HB := Lib.hid (HB.out.trans (hBx.mono HB.out.size))
            clear hBx hdig k10 kl hC hcell
            go_wp2
            obtain rfl := HSe.out
            go_roundg g
            case measure => omega
            case rel => exact ⟨0 + 1, rfl, by go_num, by omega, HP, HT, HB⟩
          · have hi0 : (0 : Int) < (i : Int) := by omega
            have hcat : tx (H ++ slashN t i) ++ (⟨#[47]⟩ : ByteArray) ++ tx (digF x) = tx (H ++ slashN t (i + 1)) := by
              rw [HSU.out, if_neg h0, show (⟨#[47]⟩ : ByteArray) = tx [47] from rfl, tx_append, tx_append]
              simp [List.append_assoc]
            have hz0 : (9223372036854775807 < (tx (H ++ slashN t i)).size + 1) = False := eq_false (by omega)
            have hz1 : (9223372036854775807 < (tx (H ++ slashN t i)).size + 1 + (tx (digF x)).size) = False := eq_false (by omega)
            obtain ⟨S, hSe⟩ : ∃ S, tx (H ++ slashN t i) = S := ⟨_, rfl⟩
            obtain ⟨D, hDe⟩ : ∃ S, tx (digF x) = S := ⟨_, rfl⟩
            rw [hSe] at hcat hz0 hz1 hsz ⊢
            rw [hDe] at hcat hz1 hDG
            simp only [hDe] at hdig
            clear hSe hDe h0
            go_wp2_with fail
            refine (hdig _).mono ?_
            rintro e w5 ⟨rfl, hBx⟩
            replace HP := Lib.hid (HP.out.below hBx)
            replace HT := Lib.hid (HT.out.below hBx)
            replace HB := Lib.hid (HB.out.trans (hBx.mono HB.out.size))
            clear hBx hdig k10 kl hC hcell
            go_wp2
            go_roundg g
            case measure => omega
            case rel => exact ⟨i + 1, rfl, by go_num, by omega, HP, HT, HB⟩
        | zero =>
          obtain rfl : i = l := by omega
          go_wp2
          go_ret
          exact ⟨by rw [HRE.out]; rfl, HB.out⟩
theorem ref_text (n t : List Int) (q : Option Addr) (d : Nat) (hn : n.length = 10) (hin : ∀ x ∈ n, In64 x) (w : World) (hl : t.length ≤ 1099511627776) (hT : Tr (fun _ => False) (.slice q t.length d) t w) :
    Calls Tryd.prog 20 #[.agg (valsP n (.slice q t.length d))] w fun e w' => e = .returned (.string (tx (textZ n t))) ∧ Below w.heap.size w w' := by
  obtain ⟨x0, x1, x2, x3, x4, x5, x6, x7, x8, x9, rfl⟩ := ten_of hn
  exact ref_text_in x0 x1 x2 x3 x4 x5 x6 x7 x8 x9 q t.length d t rfl w hin hl hT
end Go.Proofs.YtdhkonaebhpeeaaDoor.Po

