/- FixedMoves, walked. -/
import Derived.Test.YtpbphocpkmkoeaaDoorFxWho
namespace Go.Proofs.YtpbphocpkmkoeaaDoor
open Go Go.RowKit

theorem i32_in {n : Int} (h : (Lit.int .i32 n).wf = true) : -2147483648 ≤ n ∧ n ≤ 2147483647 := by
  simpa [Lit.wf, IntKind.min, IntKind.max, IntKind.signed, IntKind.bits] using h
theorem exm (m : Nat) (h : (Lib.decDigits m).length ≤ 4) : ExT (101 :: ([45] ++ Lib.decDigits m)) (-(m : Int)) := by
  have := ExT.some (c := 101) (.inl rfl) SgT.minus (dec_all m) (dec_len m) h
  rwa [dec_val] at this
theorem exE (m : Nat) (h : (Lib.decDigits m).length ≤ 4) : ExT (69 :: ([] ++ Lib.decDigits m)) (m : Int) := by
  have := ExT.some (c := 69) (.inr rfl) SgT.none (dec_all m) (dec_len m) h
  rwa [dec_val] at this
theorem shV_back {b : Bool} {f k : Nat} : shV b (f * 10 ^ k) (-(k : Int)) = fitF b f := by
  by_cases h0 : f = 0
  · subst h0
    rw [Nat.zero_mul]
    unfold shV fitF
    rw [if_pos rfl, if_pos (Nat.zero_le _)]
    cases b <;> rfl
  · rw [shV_pow k h0, show -(k : Int) + k = 0 by omega, shV_zero]
section
variable {s : List UInt8} {b : Bool} {f k : Nat}
theorem mv_a (hs : SgT s b) (hf : f ≤ 2147483648) : readF (s ++ (Lib.decDigits f ++ [101, 45, 54])) = fitF b f := by
  have h10 : (Lib.decDigits f).length ≤ 10 := dec_le (k := 9) (by omega)
  have hsl : s.length ≤ 1 := by rcases hs with ⟨rfl, _⟩ | ⟨rfl, _⟩ | ⟨rfl, _⟩ <;> simp
  have hx : ExT [101, 45, 54] (-6) := by
    have := exm 6 (by rw [Lib.decDigits_one (by decide)]; decide)
    rwa [Lib.decDigits_one (by decide)] at this
  rw [read_int hs (dec_all f) (dec_ne f) hx (by simp; omega), dec_val]
  exact shV_zero b f
theorem mv_b (hs : SgT s b) (hf : f ≤ 2147483648) (hk : k ≤ 8) : readF (s ++ ((Lib.decDigits f ++ List.replicate k 48) ++ 101 :: ([45] ++ Lib.decDigits (6 + k)))) = fitF b f := by
  have h10 : (Lib.decDigits f).length ≤ 10 := dec_le (k := 9) (by omega)
  have h2 : (Lib.decDigits (6 + k)).length ≤ 2 := dec_le (k := 1) (by omega)
  have hsl : s.length ≤ 1 := by rcases hs with ⟨rfl, _⟩ | ⟨rfl, _⟩ | ⟨rfl, _⟩ <;> simp
  rw [read_int hs ((dec_all f).app (AllDig.zeros k)) (by simp [dec_ne]) (exm (6 + k) (by omega)) (by simp; omega), val_app, val_zeros, dec_val, List.length_replicate, Nat.add_zero]
  rw [show -((6 + k : Nat) : Int) + 6 = -(k : Int) by omega]
  exact shV_back
theorem mv_c (hs : SgT s b) (hf : f ≤ 2147483648) (hk : k ≤ 8) : readF (s ++ ([48] ++ 46 :: ((List.replicate k 48 ++ Lib.decDigits f) ++ 69 :: ([] ++ Lib.decDigits (k + (Lib.decDigits f).length))))) = shV b f 6 := by
  have h10 : (Lib.decDigits f).length ≤ 10 := dec_le (k := 9) (by omega)
  have h2 : (Lib.decDigits (k + (Lib.decDigits f).length)).length ≤ 2 := dec_le (k := 1) (by omega)
  have hsl : s.length ≤ 1 := by rcases hs with ⟨rfl, _⟩ | ⟨rfl, _⟩ | ⟨rfl, _⟩ <;> simp
  rw [read_pt hs (fun c hc => by rw [List.mem_singleton.1 hc]; decide) ((AllDig.zeros k).app (dec_all f)) (by simp [dec_ne]) (exE _ (by omega)) (by simp; omega), val_48, val_app, val_zeros, dec_val]
  rw [List.length_append, List.length_replicate, Nat.zero_mul, Nat.zero_add]
  congr 1
  omega
theorem mv_d (hs : SgT s b) (hf : f ≤ 2147483648) : readF (s ++ Lib.decDigits f) = shV b f 6 := by
  have h10 : (Lib.decDigits f).length ≤ 10 := dec_le (k := 9) (by omega)
  have hsl : s.length ≤ 1 := by rcases hs with ⟨rfl, _⟩ | ⟨rfl, _⟩ | ⟨rfl, _⟩ <;> simp
  have := read_int hs (dec_all f) (dec_ne f) ExT.none (by simp; omega)
  rw [List.append_nil, dec_val] at this
  exact this
theorem mv_v (hf : f ≤ 2147483648) : shV b f 6 = (sgn b (f * 1000000), 0) := by
  by_cases h0 : f = 0
  · subst h0
    cases b <;> rfl
  · rw [show (6 : Int) = 0 + ((6 : Nat) : Int) by rfl, ← shV_pow 6 h0, shV_zero]
    have : f * 10 ^ 6 ≤ most b := by have h1 : (10 : Nat) ^ 6 = 1000000 := by decide
                                     rw [h1]; cases b <;> (unfold most; simp; omega)
    exact fit_of this
end

set_option maxHeartbeats 8000000 in
set_option maxRecDepth 100000 in
theorem FixedMoves_walk (n : Int) (hn : (Lit.int .i32 n).wf = true) (y : Int) (hy : (Lit.int .u8 y).wf = true) (w : World) (hT : Tens w) :
    Calls Tryd.prog 6 #[.int .i32 n, .int .u8 y] w fun e w' => e = .returned (.bool true) ∧ Below w.heap.size w w' := by
  have HT := Lib.hid hT
  obtain ⟨n0, n1⟩ := i32_in hn
  obtain ⟨y0, y1⟩ := u8_in hy
  have hi : In64 n := ⟨by omega, by omega⟩
  have hft := far_fit hi
  have hsf := sgn_far n
  obtain ⟨z, hz⟩ : ∃ z : Nat, y % 9 = (z : Int) := ⟨(y % 9).toNat, by omega⟩
  have hz8 : z ≤ 8 := by omega
  have hfe : (farF n : Int) = if n < 0 then -n else n := by
    unfold farF
    split <;> omega
  have hmx : max n (-n) = (farF n : Int) := by rw [hfe]; split <;> omega
  have hf : farF n ≤ 2147483648 := by have := hfe; split at this <;> omega
  generalize farF n = f at *
  have hD := fun w => digits19 f (by omega) w
  obtain ⟨i6, h6⟩ : ∃ i : Nat, 6 + z = i := ⟨_, rfl⟩
  obtain ⟨j, hj⟩ : ∃ j : Nat, z + (Lib.decDigits f).length = j := ⟨_, rfl⟩
  have h10 : (Lib.decDigits f).length ≤ 10 := dec_le (k := 9) (by omega)
  have hD6 := fun w => digits19 i6 (by omega) w
  have hDj := fun w => digits19 j (by omega) w
  have hd6 : (Lib.decDigits i6).length ≤ 2 := dec_le (k := 1) (by omega)
  have hdj : (Lib.decDigits j).length ≤ 2 := dec_le (k := 1) (by omega)
  by_cases hneg : n < 0
  · have hnb : negB n = true := decide_eq_true hneg
    rw [hnb] at hft hsf
    clear hfe
    have qa := mv_a (s := [45]) SgT.minus hf
    have qb := mv_b (s := [45]) SgT.minus hf hz8
    have qc := mv_c (s := [45]) SgT.minus hf hz8
    have qd := mv_d (s := [45]) SgT.minus hf
    rw [fit_of hft, hsf] at qa qb
    rw [mv_v hf] at qc qd
    rw [h6] at qb
    rw [hj] at qc
    generalize sgn true (f * 1000000) = V at qc qd
    have hA := fun w => readL_any ([45] ++ (Lib.decDigits f ++ [101, 45, 54])) (by unfold maxLen; simp; omega) w
    have hB := fun w => readL_any ([45] ++ ((Lib.decDigits f ++ List.replicate z 48) ++ 101 :: ([45] ++ Lib.decDigits i6))) (by unfold maxLen; simp; omega) w
    have hC := fun w => readL_any ([45] ++ ([48] ++ 46 :: ((List.replicate z 48 ++ Lib.decDigits f) ++ 69 :: ([] ++ Lib.decDigits j)))) (by unfold maxLen; simp; omega) w
    have hE := fun w => readL_any ([45] ++ Lib.decDigits f) (by unfold maxLen; simp; omega) w
    rw [qa] at hA
    rw [qb] at hB
    rw [qc] at hC
    rw [qd] at hE
    clear qa qb qc qd
    have ta : tx ([45] ++ (Lib.decDigits f ++ [101, 45, 54])) = (tx [45] ++ tx (Lib.decDigits f)) ++ tx [101, 45, 54] := by simp only [tx_app]; simp
    have tb : tx ([45] ++ ((Lib.decDigits f ++ List.replicate z 48) ++ 101 :: ([45] ++ Lib.decDigits i6))) = (((tx [45] ++ tx (Lib.decDigits f)) ++ tx (List.replicate z 48)) ++ tx [101, 45]) ++ tx (Lib.decDigits i6) := by simp only [tx_app]; simp
    have tc : tx ([45] ++ ([48] ++ 46 :: ((List.replicate z 48 ++ Lib.decDigits f) ++ 69 :: ([] ++ Lib.decDigits j)))) = (((tx [45, 48, 46] ++ tx (List.replicate z 48)) ++ tx (Lib.decDigits f)) ++ tx [69]) ++ tx (Lib.decDigits j) := by simp only [tx_app]; simp
    have te : tx ([45] ++ Lib.decDigits f) = (tx [45] ++ tx (Lib.decDigits f)) := by first | rfl | (simp only [tx_app]; try simp)
    rw [ta] at hA
    rw [tb] at hB
    rw [tc] at hC
    rw [te] at hE
    clear ta tb tc te
    have hsD : (tx (Lib.decDigits f)).size = (Lib.decDigits f).length := tx_len _
    have hkl : (z : Int) + ((tx (Lib.decDigits f)).size : Int) = (j : Int) := by rw [hsD]; omega
    have hDs : (tx (Lib.decDigits f)).size ≤ 10 := by rw [hsD]; exact h10
    have hZs : (tx (List.replicate z 48)).size ≤ 8 := by rw [tx_len]; simp; exact hz8
    have h6s : (tx (Lib.decDigits i6)).size ≤ 2 := by rw [tx_len]; exact hd6
    have hjs : (tx (Lib.decDigits j)).size ≤ 2 := by rw [tx_len]; exact hdj
    have h6' : 6 + (z : Int) = (i6 : Int) := by omega
    have hSZ : ∀ k : Nat, k < z → (tx (List.replicate k 48)).size ≤ 8 := fun k hk => by rw [tx_len]; simp; omega
    have HSZ := Lib.hid hSZ
    clear hSZ hsD h6 hj hd6 hdj h10 hft hi hsf hT hn hy
    generalize tx (Lib.decDigits f) = D at *
    generalize tx (Lib.decDigits i6) = D6 at *
    generalize tx (Lib.decDigits j) = DJ at *
    obtain ⟨Z, hZ⟩ : ∃ Z, tx (List.replicate z 48) = Z := ⟨_, rfl⟩
    rw [hZ] at hB hC hZs
    have HZ := Lib.hid hZ
    clear hZ
    have u1 : (⟨#[45]⟩ : ByteArray).size + D.size ≤ 9223372036854775807 := by show 1 + D.size ≤ _; omega
    obtain ⟨X1, hX1⟩ : ∃ X, (⟨#[45]⟩ : ByteArray) ++ D = X := ⟨_, rfl⟩
    have x1 : X1.size ≤ 11 := by rw [← hX1, ByteArray.size_append]; show 1 + D.size ≤ 11; omega
    change ∀ w, Calls _ _ #[.string (((⟨#[45]⟩ : ByteArray) ++ D) ++ tx [101, 45, 54])] w fun e w' => e = .returned (.tuple #[.int .i64 n, .int .i64 0]) ∧ Below w.heap.size w w' at hA
    change ∀ w, Calls _ _ #[.string (((((⟨#[45]⟩ : ByteArray) ++ D) ++ Z) ++ tx [101, 45]) ++ D6)] w fun e w' => e = .returned (.tuple #[.int .i64 n, .int .i64 0]) ∧ Below w.heap.size w w' at hB
    change ∀ w, Calls _ _ #[.string ((⟨#[45]⟩ : ByteArray) ++ D)] w fun e w' => e = .returned (.tuple #[.int .i64 V, .int .i64 0]) ∧ Below w.heap.size w w' at hE
    rw [hX1] at hA hB hE
    have x2s : (X1 ++ Z).size ≤ 19 := by rw [ByteArray.size_append]; omega
    have x3s : (X1 ++ Z ++ (⟨#[101, 45]⟩ : ByteArray)).size ≤ 21 := by rw [ByteArray.size_append]; show (X1 ++ Z).size + 2 ≤ 21; omega
    have y2s : ((⟨#[45, 48, 46]⟩ : ByteArray) ++ Z).size ≤ 11 := by rw [ByteArray.size_append]; show 3 + Z.size ≤ 11; omega
    have y3s : ((⟨#[45, 48, 46]⟩ : ByteArray) ++ Z ++ D).size ≤ 21 := by rw [ByteArray.size_append]; omega
    have y4s : ((⟨#[45, 48, 46]⟩ : ByteArray) ++ Z ++ D ++ (⟨#[69]⟩ : ByteArray)).size ≤ 22 := by rw [ByteArray.size_append]; show ((⟨#[45, 48, 46]⟩ : ByteArray) ++ Z ++ D).size + 1 ≤ 22; omega
    go_enter Tryd.func6, Tryd.ntmps6
    go_wp2_with fail
    refine (examples_any _ HT.out).mono ?_
    rintro e w1 ⟨rfl, hB1⟩
    have hE1 := hB1
    clear hB1
    go_wp2_with fail
    refine (hD _).mono ?_
    rintro e w2 ⟨rfl, hB2⟩
    have hE2 := hE1.trans (hB2.mono hE1.size)
    clear hB2 hE1
    clear hD
    go_wp2
    go_loop [9, 10] (fun s8 i => ∃ k : Nat, k ≤ z ∧ i = .int .i64 k ∧ s8 = .string (tx (List.replicate k 48))) (fun _ i => z - (intOf i).toNat)
    case atStart => exact ⟨0, Nat.zero_le _, rfl, rfl⟩
    case round =>
      obtain ⟨k, hk, rfl, rfl⟩ := hrel
      by_cases hlt : k < z
      · have hsz : (tx (List.replicate k 48)).size + (⟨#[48]⟩ : ByteArray).size ≤ 9223372036854775807 := by have h1 := HSZ.out k hlt; show (tx (List.replicate k 48)).size + 1 ≤ _; omega
        go_wp2
        go_round
        case rel => exact ⟨k + 1, by omega, by go_num, by rw [List.replicate_succ']; exact congrArg Value.string (tx_app _ [48])⟩
        case measure => simp [intOf]; omega
      · obtain rfl : k = z := by omega
        rw [HZ.out]
        clear hlt hk
        go_wp2_with fail
        refine (hA _).mono ?_
        rintro e w3 ⟨rfl, hB3⟩
        have hE3 := hE2.trans (hB3.mono hE2.size)
        clear hB3 hE2
        go_wp2_with fail
        refine (hD6 _).mono ?_
        rintro e w4 ⟨rfl, hB4⟩
        have hE4 := hE3.trans (hB4.mono hE3.size)
        clear hB4 hE3
        go_wp2_with fail
        refine (hB _).mono ?_
        rintro e w5 ⟨rfl, hB5⟩
        have hE5 := hE4.trans (hB5.mono hE4.size)
        clear hB5 hE4
        go_wp2_with fail
        refine (hDj _).mono ?_
        rintro e w6 ⟨rfl, hB6⟩
        have hE6 := hE5.trans (hB6.mono hE5.size)
        clear hB6 hE5
        go_wp2_with fail
        refine (hC _).mono ?_
        rintro e w7 ⟨rfl, hB7⟩
        have hE7 := hE6.trans (hB7.mono hE6.size)
        clear hB7 hE6
        go_wp2_with fail
        refine (hE _).mono ?_
        rintro e w8 ⟨rfl, hB8⟩
        have hE8 := hE7.trans (hB8.mono hE7.size)
        clear hB8 hE7
        clear hA hB hC hE hD6 hDj
        go_wp2
        try go_ret
        exact ⟨rfl, hE8⟩
  · have hnb : negB n = false := decide_eq_false hneg
    rw [hnb] at hft hsf
    clear hfe
    have qa := mv_a (s := []) SgT.none hf
    have qb := mv_b (s := []) SgT.none hf hz8
    have qc := mv_c (s := []) SgT.none hf hz8
    have qd := mv_d (s := []) SgT.none hf
    rw [fit_of hft, hsf] at qa qb
    rw [mv_v hf] at qc qd
    rw [h6] at qb
    rw [hj] at qc
    generalize sgn false (f * 1000000) = V at qc qd
    have hA := fun w => readL_any ([] ++ (Lib.decDigits f ++ [101, 45, 54])) (by unfold maxLen; simp; omega) w
    have hB := fun w => readL_any ([] ++ ((Lib.decDigits f ++ List.replicate z 48) ++ 101 :: ([45] ++ Lib.decDigits i6))) (by unfold maxLen; simp; omega) w
    have hC := fun w => readL_any ([] ++ ([48] ++ 46 :: ((List.replicate z 48 ++ Lib.decDigits f) ++ 69 :: ([] ++ Lib.decDigits j)))) (by unfold maxLen; simp; omega) w
    have hE := fun w => readL_any ([] ++ Lib.decDigits f) (by unfold maxLen; simp; omega) w
    rw [qa] at hA
    rw [qb] at hB
    rw [qc] at hC
    rw [qd] at hE
    clear qa qb qc qd
    have ta : tx ([] ++ (Lib.decDigits f ++ [101, 45, 54])) = tx (Lib.decDigits f) ++ tx [101, 45, 54] := by simp only [tx_app]; simp
    have tb : tx ([] ++ ((Lib.decDigits f ++ List.replicate z 48) ++ 101 :: ([45] ++ Lib.decDigits i6))) = ((tx (Lib.decDigits f) ++ tx (List.replicate z 48)) ++ tx [101, 45]) ++ tx (Lib.decDigits i6) := by simp only [tx_app]; simp
    have tc : tx ([] ++ ([48] ++ 46 :: ((List.replicate z 48 ++ Lib.decDigits f) ++ 69 :: ([] ++ Lib.decDigits j)))) = (((tx [48, 46] ++ tx (List.replicate z 48)) ++ tx (Lib.decDigits f)) ++ tx [69]) ++ tx (Lib.decDigits j) := by simp only [tx_app]; simp
    have te : tx ([] ++ Lib.decDigits f) = tx (Lib.decDigits f) := by first | rfl | (simp only [tx_app]; try simp)
    rw [ta] at hA
    rw [tb] at hB
    rw [tc] at hC
    rw [te] at hE
    clear ta tb tc te
    have hsD : (tx (Lib.decDigits f)).size = (Lib.decDigits f).length := tx_len _
    have hkl : (z : Int) + ((tx (Lib.decDigits f)).size : Int) = (j : Int) := by rw [hsD]; omega
    have hDs : (tx (Lib.decDigits f)).size ≤ 10 := by rw [hsD]; exact h10
    have hZs : (tx (List.replicate z 48)).size ≤ 8 := by rw [tx_len]; simp; exact hz8
    have h6s : (tx (Lib.decDigits i6)).size ≤ 2 := by rw [tx_len]; exact hd6
    have hjs : (tx (Lib.decDigits j)).size ≤ 2 := by rw [tx_len]; exact hdj
    have h6' : 6 + (z : Int) = (i6 : Int) := by omega
    have hSZ : ∀ k : Nat, k < z → (tx (List.replicate k 48)).size ≤ 8 := fun k hk => by rw [tx_len]; simp; omega
    have HSZ := Lib.hid hSZ
    clear hSZ hsD h6 hj hd6 hdj h10 hft hi hsf hT hn hy
    generalize tx (Lib.decDigits f) = D at *
    generalize tx (Lib.decDigits i6) = D6 at *
    generalize tx (Lib.decDigits j) = DJ at *
    obtain ⟨Z, hZ⟩ : ∃ Z, tx (List.replicate z 48) = Z := ⟨_, rfl⟩
    rw [hZ] at hB hC hZs
    have HZ := Lib.hid hZ
    clear hZ
    obtain ⟨X1, hX1⟩ : ∃ X, D = X := ⟨_, rfl⟩
    have x1 : X1.size ≤ 11 := by rw [← hX1]; omega
    clear hX1 x1
    have x2s : (D ++ Z).size ≤ 19 := by rw [ByteArray.size_append]; omega
    have x3s : (D ++ Z ++ (⟨#[101, 45]⟩ : ByteArray)).size ≤ 21 := by rw [ByteArray.size_append]; show (D ++ Z).size + 2 ≤ 21; omega
    have y2s : ((⟨#[48, 46]⟩ : ByteArray) ++ Z).size ≤ 11 := by rw [ByteArray.size_append]; show 2 + Z.size ≤ 11; omega
    have y3s : ((⟨#[48, 46]⟩ : ByteArray) ++ Z ++ D).size ≤ 21 := by rw [ByteArray.size_append]; omega
    have y4s : ((⟨#[48, 46]⟩ : ByteArray) ++ Z ++ D ++ (⟨#[69]⟩ : ByteArray)).size ≤ 22 := by rw [ByteArray.size_append]; show ((⟨#[48, 46]⟩ : ByteArray) ++ Z ++ D).size + 1 ≤ 22; omega
    go_enter Tryd.func6, Tryd.ntmps6
    go_wp2_with fail
    refine (examples_any _ HT.out).mono ?_
    rintro e w1 ⟨rfl, hB1⟩
    have hE1 := hB1
    clear hB1
    go_wp2_with fail
    refine (hD _).mono ?_
    rintro e w2 ⟨rfl, hB2⟩
    have hE2 := hE1.trans (hB2.mono hE1.size)
    clear hB2 hE1
    clear hD
    go_wp2
    go_loop [9, 10] (fun s8 i => ∃ k : Nat, k ≤ z ∧ i = .int .i64 k ∧ s8 = .string (tx (List.replicate k 48))) (fun _ i => z - (intOf i).toNat)
    case atStart => exact ⟨0, Nat.zero_le _, rfl, rfl⟩
    case round =>
      obtain ⟨k, hk, rfl, rfl⟩ := hrel
      by_cases hlt : k < z
      · have hsz : (tx (List.replicate k 48)).size + (⟨#[48]⟩ : ByteArray).size ≤ 9223372036854775807 := by have h1 := HSZ.out k hlt; show (tx (List.replicate k 48)).size + 1 ≤ _; omega
        go_wp2
        go_round
        case rel => exact ⟨k + 1, by omega, by go_num, by rw [List.replicate_succ']; exact congrArg Value.string (tx_app _ [48])⟩
        case measure => simp [intOf]; omega
      · obtain rfl : k = z := by omega
        rw [HZ.out]
        clear hlt hk
        go_wp2_with fail
        refine (hA _).mono ?_
        rintro e w3 ⟨rfl, hB3⟩
        have hE3 := hE2.trans (hB3.mono hE2.size)
        clear hB3 hE2
        go_wp2_with fail
        refine (hD6 _).mono ?_
        rintro e w4 ⟨rfl, hB4⟩
        have hE4 := hE3.trans (hB4.mono hE3.size)
        clear hB4 hE3
        go_wp2_with fail
        refine (hB _).mono ?_
        rintro e w5 ⟨rfl, hB5⟩
        have hE5 := hE4.trans (hB5.mono hE4.size)
        clear hB5 hE4
        go_wp2_with fail
        refine (hDj _).mono ?_
        rintro e w6 ⟨rfl, hB6⟩
        have hE6 := hE5.trans (hB6.mono hE5.size)
        clear hB6 hE5
        go_wp2_with fail
        refine (hC _).mono ?_
        rintro e w7 ⟨rfl, hB7⟩
        have hE7 := hE6.trans (hB7.mono hE6.size)
        clear hB7 hE6
        go_wp2_with fail
        refine (hE _).mono ?_
        rintro e w8 ⟨rfl, hB8⟩
        have hE8 := hE7.trans (hB8.mono hE7.size)
        clear hB8 hE7
        clear hA hB hC hE hD6 hDj
        go_wp2
        try go_ret
        exact ⟨rfl, hE8⟩
end Go.Proofs.YtpbphocpkmkoeaaDoor
