/- The chapter's own sketch of its registers. -/
import Derived.Test.YtdcjfefnkjdchaaDoorHRefA
import Derived.Test.YtdcjfefnkjdchaaDoorReg
namespace Go.Proofs.YtdcjfefnkjdchaaDoor
open Go Go.RowKit

def OfPhi (s : ByteArray) (P A M k : Nat) (x : Int) : Nat → Value → World → Prop
  | i, v, _ => v = ([.pointer (some ⟨P, 0, none⟩), .pointer (some ⟨P, 0, none⟩), .pointer (some ⟨P, 0, none⟩), .slice (some ⟨A, 0, none⟩) M M, .int .i64 k, .string s, .int .i64 k, .int .u8 x, .int .i64 x, .pointer (some ⟨A, k, none⟩), undef] : List Value).getD i undef
theorem OfPhi.stays {s : ByteArray} {P A M k : Nat} {x : Int} : ∀ i v wx wy, OfPhi s P A M k x i v wx → Reg.Old wx wy → OfPhi s P A M k x i v wy := fun _ _ _ _ h _ => h

/-- The first k registers are written. -/
def fillL (M k : Nat) (l : List UInt8) : List UInt8 := l.take k ++ List.replicate (M - k) 0
theorem fill_zero (M : Nat) (l : List UInt8) : fillL M 0 l = List.replicate M 0 := by simp [fillL]
theorem fill_length {M : Nat} {l : List UInt8} (h : l.length = M) (k : Nat) (hk : k ≤ M) : (fillL M k l).length = M := by
  simp only [fillL, List.length_append, List.length_take, List.length_replicate]
  omega
theorem fill_all {M : Nat} {l : List UInt8} (h : l.length = M) : fillL M M l = l := by
  simp only [fillL, Nat.sub_self, List.replicate_zero, List.append_nil]
  exact List.take_of_length_le (by omega)
theorem fill_set {M : Nat} {l : List UInt8} (h : l.length = M) (k : Nat) (hk : k < M) (x : UInt8) (hx : l[k]? = some x) : (fillL M k l).set k x = fillL M (k + 1) l := by
  unfold fillL
  rw [List.set_append, if_neg (by rw [List.length_take]; omega), List.length_take, show k - min k l.length = 0 by omega, List.take_add_one, hx,
    show M - k = (M - (k + 1)) + 1 by omega, List.replicate_succ, List.set_cons_zero]
  simp
theorem fill_at {M : Nat} {l : List UInt8} (h : l.length = M) (k : Nat) (hk : k < M) : (fillL M k l)[k]? = some 0 := by
  unfold fillL
  rw [List.getElem?_append_right (by rw [List.length_take]; omega), List.length_take, show k - min k l.length = 0 by omega, List.getElem?_replicate, if_pos (by omega)]
def LowTo (s : ByteArray) (k : Nat) : Prop := ∀ j (h : j < s.size), j < k → (s[j]).toNat ≤ 26
/-- What Of comes to. -/
def RefOf (s : ByteArray) (w : World) (e : Ending) (w' : World) : Prop :=
  Below w.heap.size w w' ∧ ((∃ b P A, Regd b s ∧ e = .returned (.pointer (some ⟨P, 0, none⟩)) ∧ RSk P A b s.data.toList w' ∧ w.heap.size ≤ P ∧ w.heap.size ≤ A) ∨ ((∀ b, ¬ Regd b s) ∧ e = .returned (.pointer none)))
set_option maxRecDepth 100000 in
set_option maxHeartbeats 4000000 in
theorem ref_of_any (s : ByteArray) (hs : s.size ≤ 9223372036854775807) (w : World) :
    Calls Tryd.prog 26 #[.string s] w (RefOf s w) := by
  have hsl : s.data.toList.length = s.size := (Lib.size_eq s).symm
  have HSL := Lib.hid hsl
  have HPW := Lib.hid (show ∀ b : Nat, b ≤ 10 → IntKind.i64.wrap ((2 : Int) ^ b) = ((2 ^ b : Nat) : Int) from fun b hb => by
    have h1 : 2 ^ b ≤ 2 ^ 10 := Nat.pow_le_pow_right (by decide) hb
    rw [show (2 : Int) ^ b = ((2 ^ b : Nat) : Int) by push_cast; rfl]
    generalize 2 ^ b = z at *
    exact IntWalk.i64_in _ (by omega))
  obtain ⟨n, hsn⟩ : ∃ n, s.size = n := ⟨_, rfl⟩
  rw [hsn] at hs
  clear hsl
  go_enter Tryd.func26, Tryd.ntmps26
  go_wp2_with fail
  go_loop [3] (fun i => ∃ b : Nat, 4 ≤ b ∧ b ≤ 11 ∧ i = .int .i64 b ∧ ∀ c, 4 ≤ c → c < b → ¬ 2 ^ c = n) (fun i => 11 - (intOf i).toNat)
  case atStart => exact ⟨4, by omega, by omega, rfl, fun c h1 h2 => absurd h2 (by omega)⟩
  case round =>
    obtain ⟨b, lo, hi, rfl, hno⟩ := hrel
    have HNO := Lib.hid hno
    clear hno
    by_cases hb : b ≤ 10
    · have hpw := HPW.out b hb
      by_cases hbn : 2 ^ b = n
      · have hmn := ref_new_any b lo hb w
        have hM := pow_hi lo hb
        have HBN := Lib.hid hbn
        rw [hbn] at hpw hM
        obtain ⟨hM1, hM2⟩ := hM
        clear hbn
        go_wp2_with fail
        refine hmn.mono ?_
        rintro e W ⟨P, A, rfl, hB, hS, hPw, hAw⟩
        have hS0 : RSk P A b (fillL n 0 s.data.toList) W := by rw [fill_zero, ← HBN.out]; exact hS
        clear hS hmn
        go_wp2_with fail
        go_loopw [5] (fun i wx => ∃ k : Nat, k ≤ n ∧ i = .int .i64 k ∧ RSk P A b (fillL n k s.data.toList) wx ∧ Below w.heap.size w wx ∧ LowTo s k) (fun i _ => n - (intOf i).toNat)
        case atStart => exact ⟨0, Nat.zero_le _, rfl, hS0, hB, fun j _ h => absurd h (by omega)⟩
        case round =>
          obtain ⟨k, hk, rfl, hS, hBw, hlow⟩ := hrel
          have HLow := Lib.hid hlow
          clear hlow hS0 hB
          by_cases hlt : k < n
          · have hks : k < s.size := by rw [hsn]; exact hlt
            by_cases hv : (s[k]).toNat ≤ 26
            · have hv2 : ¬ (26 : Int) < (((s[k]).toNat : Nat) : Int) := by omega
              have hst := hS.set k (s[k]) (by rw [fill_length (HSL.out.trans hsn) k hk]; exact hlt)
              rw [fill_set (HSL.out.trans hsn) k hlt _ (get_list s k hks)] at hst
              have hcA0 : wr.cell? ⟨A, k, none⟩ = some (.int .i64 0) := by
                have h1 := hS.cell k (by rw [fill_length (HSL.out.trans hsn) k hk]; exact hlt)
                have h2 := fill_at (HSL.out.trans hsn) k hlt
                rw [List.getElem?_eq_getElem (by rw [fill_length (HSL.out.trans hsn) k hk]; exact hlt)] at h2
                rw [h1, Option.some.inj h2]
                rfl
              have HST := Lib.hid (show ∀ wx, RSk P A b (fillL n k s.data.toList) wx → RSk P A b (fillL n (k + 1) s.data.toList) (wx.setCell ⟨A, k, none⟩ (.int .i64 (s[k].toNat : Int))) from fun wx hx => by
                have := hx.set k (s[k]) (by rw [fill_length (HSL.out.trans hsn) k hk]; exact hlt)
                rwa [fill_set (HSL.out.trans hsn) k hlt _ (get_list s k hks)] at this)
              have HV := Lib.hid hv
              have HS := Lib.hid hS
              have HB := Lib.hid hBw
              have hxe : ∃ x : Nat, x = (s[k]).toNat := ⟨_, rfl⟩
              have hcPL : P < wr.drew.heap.size := hS.ltP
              have hcAL : A < wr.drew.heap.size := hS.ltA
              have hcP0 := hS.ptr
              rw [HBN.out] at hcP0
              have hcP : wr.drew.cell? ⟨P, 0, none⟩ = some (.slice (some ⟨A, 0, none⟩) n n) := hcP0
              have hcA : wr.drew.cell? ⟨A, k, none⟩ = some (.int .i64 0) := hcA0
              have hf : wr.drew.frozen? ⟨A, k, none⟩ = false := hS.fro k (by rw [fill_length (HSL.out.trans hsn) k hk]; exact hlt)
              clear hv hS hBw hst hcA0 hcP0 hxe
              go_wp2_with fail
              refine Reg.wp_region_last (n := 38) 10 (OfPhi s P A n k (s[k].toNat : Int)) (by kernel_rfl) rfl (by kernel_rfl) (by kernel_rfl) rfl OfPhi.stays ?_ ?_
              · refine ⟨?_, ?_, ?_, ?_, ?_, ?_, ?_, ?_, ?_, ?_, ?_, trivial⟩
                · intro _ cx wc hB hp hs
                  have g4 : cx.tmps[4]? = some (.pointer (some ⟨P, 0, none⟩)) := (hs 4 (by kernel_rfl)).trans rfl
                  refine Reg.ok_value Reg.Old.refl (v := .pointer (some ⟨P, 0, none⟩)) (Reg.wanted_none rfl) ?_ rfl
                  go_simp
                · intro _ cx wc hB hp hs
                  have g27 : cx.tmps[27]? = some (.pointer (some ⟨P, 0, none⟩)) := by obtain ⟨_, g, hv⟩ := Reg.pred hp 0 27 (by kernel_rfl) rfl rfl; exact g.trans (congrArg some hv)
                  refine Reg.ok_value Reg.Old.refl (v := .pointer (some ⟨P, 0, none⟩)) (Reg.wanted_none rfl) ?_ rfl
                  go_simp
                · intro _ cx wc hB hp hs
                  have g28 : cx.tmps[28]? = some (.pointer (some ⟨P, 0, none⟩)) := by obtain ⟨_, g, hv⟩ := Reg.pred hp 1 28 (by kernel_rfl) rfl rfl; exact g.trans (congrArg some hv)
                  refine Reg.ok_value Reg.Old.refl (v := .pointer (some ⟨P, 0, none⟩)) (Reg.wanted_none rfl) ?_ rfl
                  go_simp
                · intro _ cx wc hB hp hs
                  have g29 : cx.tmps[29]? = some (.pointer (some ⟨P, 0, none⟩)) := by obtain ⟨_, g, hv⟩ := Reg.pred hp 2 29 (by kernel_rfl) rfl rfl; exact g.trans (congrArg some hv)
                  have kx : wc.cell? ⟨P, 0, none⟩ = some (.slice (some ⟨A, 0, none⟩) n n) := (Below.cell (p := ⟨P, 0, none⟩) hB hcPL).trans hcP
                  refine Reg.ok_value Reg.Old.refl (v := .slice (some ⟨A, 0, none⟩) n n) (Reg.wanted_none rfl) ?_ rfl
                  go_simp
                · intro _ cx wc hB hp hs
                  have g5 : cx.tmps[5]? = some (.int .i64 k) := (hs 5 (by kernel_rfl)).trans rfl
                  refine Reg.ok_value Reg.Old.refl (v := .int .i64 k) (Reg.wanted_none rfl) ?_ rfl
                  go_simp
                · intro _ cx wc hB hp hs
                  have g0 : cx.tmps[0]? = some (.string s) := (hs 0 (by kernel_rfl)).trans rfl
                  refine Reg.ok_value Reg.Old.refl (v := .string s) (Reg.wanted_none rfl) ?_ rfl
                  go_simp
                · intro _ cx wc hB hp hs
                  have g5 : cx.tmps[5]? = some (.int .i64 k) := (hs 5 (by kernel_rfl)).trans rfl
                  refine Reg.ok_value Reg.Old.refl (v := .int .i64 k) (Reg.wanted_none rfl) ?_ rfl
                  go_simp
                · intro _ cx wc hB hp hs
                  have g32 : cx.tmps[32]? = some (.string s) := by obtain ⟨_, g, hv⟩ := Reg.pred hp 5 32 (by kernel_rfl) rfl rfl; exact g.trans (congrArg some hv)
                  have g33 : cx.tmps[33]? = some (.int .i64 k) := by obtain ⟨_, g, hv⟩ := Reg.pred hp 6 33 (by kernel_rfl) rfl rfl; exact g.trans (congrArg some hv)
                  have i0 : (0 : Int) ≤ (k : Int) := by omega
                  have i1 : (k : Int) < (n : Int) := by omega
                  have i2 : k < s.size := by omega
                  refine Reg.ok_value Reg.Old.refl (v := .int .u8 (s[k].toNat : Int)) (Reg.wanted_none rfl) ?_ rfl
                  go_simp
                · intro _ cx wc hB hp hs
                  have g34 : cx.tmps[34]? = some (.int .u8 (s[k].toNat : Int)) := by obtain ⟨_, g, hv⟩ := Reg.pred hp 7 34 (by kernel_rfl) rfl rfl; exact g.trans (congrArg some hv)
                  refine Reg.ok_value Reg.Old.refl (v := .int .i64 (s[k].toNat : Int)) (Reg.wanted_none rfl) ?_ rfl
                  go_simp
                  exact IntWalk.i64_in _ (by have := HV.out; omega)
                · intro _ cx wc hB hp hs
                  have g30 : cx.tmps[30]? = some (.slice (some ⟨A, 0, none⟩) n n) := by obtain ⟨_, g, hv⟩ := Reg.pred hp 3 30 (by kernel_rfl) rfl rfl; exact g.trans (congrArg some hv)
                  have g31 : cx.tmps[31]? = some (.int .i64 k) := by obtain ⟨_, g, hv⟩ := Reg.pred hp 4 31 (by kernel_rfl) rfl rfl; exact g.trans (congrArg some hv)
                  have i0 : (0 : Int) ≤ (k : Int) := by omega
                  have i1 : (k : Int) < (n : Int) := by omega
                  refine Reg.ok_value Reg.Old.refl (v := .pointer (some ⟨A, k, none⟩)) (Reg.wanted_none rfl) ?_ rfl
                  go_simp
                · exact fun h => absurd rfl h
              · intro c wc hB hsz hdf hv ho
                have hfr := Reg.frame_eq [_, _, _, _, _, _, _, _, _, _, _, _, _, _, _, _, _, _, _, _, _, _, _, _, _, _, _, .pointer (some ⟨P, 0, none⟩), .pointer (some ⟨P, 0, none⟩), .pointer (some ⟨P, 0, none⟩), .slice (some ⟨A, 0, none⟩) n n, .int .i64 k, .string s, .int .i64 k, .int .u8 (s[k].toNat : Int), .int .i64 (s[k].toNat : Int), .pointer (some ⟨A, k, none⟩), _] (by simpa using hsz) hdf ⟨((Reg.kept_but ho 0 (by kernel_rfl)).trans rfl), ((Reg.kept_but ho 1 (by kernel_rfl)).trans rfl), ((Reg.kept_but ho 2 (by kernel_rfl)).trans rfl), ((Reg.kept_but ho 3 (by kernel_rfl)).trans rfl), ((Reg.kept_but ho 4 (by kernel_rfl)).trans rfl), ((Reg.kept_but ho 5 (by kernel_rfl)).trans rfl), ((Reg.kept_but ho 6 (by kernel_rfl)).trans rfl), ((Reg.kept_but ho 7 (by kernel_rfl)).trans rfl), ((Reg.kept_but ho 8 (by kernel_rfl)).trans rfl), ((Reg.kept_but ho 9 (by kernel_rfl)).trans rfl), ((Reg.kept_but ho 10 (by kernel_rfl)).trans rfl), ((Reg.kept_but ho 11 (by kernel_rfl)).trans rfl), ((Reg.kept_but ho 12 (by kernel_rfl)).trans rfl), ((Reg.kept_but ho 13 (by kernel_rfl)).trans rfl), ((Reg.kept_but ho 14 (by kernel_rfl)).trans rfl), ((Reg.kept_but ho 15 (by kernel_rfl)).trans rfl), ((Reg.kept_but ho 16 (by kernel_rfl)).trans rfl), ((Reg.kept_but ho 17 (by kernel_rfl)).trans rfl), ((Reg.kept_but ho 18 (by kernel_rfl)).trans rfl), ((Reg.kept_but ho 19 (by kernel_rfl)).trans rfl), ((Reg.kept_but ho 20 (by kernel_rfl)).trans rfl), ((Reg.kept_but ho 21 (by kernel_rfl)).trans rfl), ((Reg.kept_but ho 22 (by kernel_rfl)).trans rfl), ((Reg.kept_but ho 23 (by kernel_rfl)).trans rfl), ((Reg.kept_but ho 24 (by kernel_rfl)).trans rfl), ((Reg.kept_but ho 25 (by kernel_rfl)).trans rfl), ((Reg.kept_but ho 26 (by kernel_rfl)).trans rfl), (by obtain ⟨_, g, hx⟩ := hv 0 _ 27 (by decide) rfl rfl; exact g.trans (congrArg some hx)), (by obtain ⟨_, g, hx⟩ := hv 1 _ 28 (by decide) rfl rfl; exact g.trans (congrArg some hx)), (by obtain ⟨_, g, hx⟩ := hv 2 _ 29 (by decide) rfl rfl; exact g.trans (congrArg some hx)), (by obtain ⟨_, g, hx⟩ := hv 3 _ 30 (by decide) rfl rfl; exact g.trans (congrArg some hx)), (by obtain ⟨_, g, hx⟩ := hv 4 _ 31 (by decide) rfl rfl; exact g.trans (congrArg some hx)), (by obtain ⟨_, g, hx⟩ := hv 5 _ 32 (by decide) rfl rfl; exact g.trans (congrArg some hx)), (by obtain ⟨_, g, hx⟩ := hv 6 _ 33 (by decide) rfl rfl; exact g.trans (congrArg some hx)), (by obtain ⟨_, g, hx⟩ := hv 7 _ 34 (by decide) rfl rfl; exact g.trans (congrArg some hx)), (by obtain ⟨_, g, hx⟩ := hv 8 _ 35 (by decide) rfl rfl; exact g.trans (congrArg some hx)), (by obtain ⟨_, g, hx⟩ := hv 9 _ 36 (by decide) rfl rfl; exact g.trans (congrArg some hx)), ((Reg.kept_but ho 37 (by kernel_rfl)).trans rfl), trivial⟩
                subst hfr
                have kx : wc.cell? ⟨A, k, none⟩ = some (.int .i64 0) := (Below.cell (p := ⟨A, k, none⟩) hB hcAL).trans hcA
                have fx : wc.frozen? ⟨A, k, none⟩ = false := (Below.frozen (p := ⟨A, k, none⟩) hB hcAL).trans hf
                have hS2 := HST.out wc ((HS.out.drewN 1).below hB)
                have hB2 : Below w.heap.size w (wc.setCell ⟨A, k, none⟩ (.int .i64 (s[k].toNat : Int))) := (HB.out.drew.trans (hB.mono (Nat.le_trans hAw (Nat.le_of_lt hcAL)))).setCell hAw _
                refine Reg.store_then (w2 := wc.setCell ⟨A, k, none⟩ (.int .i64 (s[k].toNat : Int))) ?_ rfl ?_
                · go_simp
                clear kx fx hv ho hB
                generalize wc.setCell ⟨A, k, none⟩ (.int .i64 (s[k].toNat : Int)) = wd at *
                have HL2 := Lib.hid (show LowTo s (k + 1) from fun j hj hjk => by
                  by_cases hjk2 : j < k
                  · exact HLow.out j hj hjk2
                  · obtain rfl : j = k := by omega
                    exact HV.out)
                have HS2 := Lib.hid hS2
                have HB2 := Lib.hid hB2
                clear hS2 hB2
                go_wp2
                first | exact HL2.out | exact ⟨⟨k + 1, by omega, by go_num, HS2.out, HB2.out, HL2.out⟩, by simp [intOf]; omega⟩
            · have hv2 : (26 : Int) < (((s[k]).toNat : Nat) : Int) := by omega
              have hend : RefOf s w (.returned (.pointer none)) wr := ⟨hBw, .inr ⟨fun c hc => hv (hc.2.2.2 _ (List.mem_of_getElem? (get_list s k hks))), rfl⟩⟩
              have HE := Lib.hid hend
              clear hend hv hS hBw
              go_wp2
              go_ret
              exact HE.out
          · obtain rfl : k = n := by omega
            rw [fill_all (HSL.out.trans hsn)] at hS
            have hend : RefOf s w (.returned (.pointer (some ⟨P, 0, none⟩))) wr := ⟨hBw, .inl ⟨b, P, A, ⟨lo, hb, by rw [hsn]; exact HBN.out, fun x hx => by
              obtain ⟨j, hj, rfl⟩ := List.mem_iff_getElem.1 hx
              rw [HSL.out] at hj
              exact HLow.out j hj (by omega)⟩, rfl, hS, hPw, hAw⟩⟩
            have HE := Lib.hid hend
            clear hend hS hBw
            go_wp2
            go_ret
            exact HE.out
      · have hne : ¬ (n : Int) = ((2 ^ b : Nat) : Int) := fun h => hbn (Int.ofNat.inj h).symm
        have HBN := Lib.hid hbn
        obtain ⟨z, hze⟩ : ∃ z, 2 ^ b = z := ⟨_, rfl⟩
        rw [hze] at hpw hne
        clear hbn hze
        go_wp2
        refine ⟨⟨b + 1, by omega, by omega, by go_num, fun c h1 h2 => ?_⟩, by simp [intOf]; omega⟩
        by_cases hcb : c < b
        · exact HNO.out c h1 hcb
        · obtain rfl : c = b := by omega
          exact HBN.out
    · obtain rfl : b = 11 := by omega
      have hend : RefOf s w (.returned (.pointer none)) w := ⟨Below.refl _ _, .inr ⟨fun c hc => HNO.out c hc.1 (by have := hc.2.1; omega) (by rw [← hsn]; exact hc.2.2.1), rfl⟩⟩
      have HE := Lib.hid hend
      clear hend
      go_wp2
      go_ret
      exact HE.out
end Go.Proofs.YtdcjfefnkjdchaaDoor
