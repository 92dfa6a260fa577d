/- Numbers as bytes, and of bytes. -/
import Derived.Test.YtmjipafhahggpaaDoorMCeAt
import Derived.Test.YtmjipafhahggpaaDoorMwC
import Derived.Test.YtmjipafhahggpaaDoorMcT
namespace Go.Proofs.YtmjipafhahggpaaDoor.Ce
open Go Go.RowKit Hi

theorem bytes_n8 (n : Int) : Wi.bytesOf n = n8 n := by
  unfold n8 Wi.bytesOf Wi.byteAt u64N
  simp only [show List.range 8 = [0, 1, 2, 3, 4, 5, 6, 7] from rfl, List.map_cons, List.map_nil, be]
  refine List.ext_getElem (by simp) fun i h1 h2 => ?_
  have : i = 0 ∨ i = 1 ∨ i = 2 ∨ i = 3 ∨ i = 4 ∨ i = 5 ∨ i = 6 ∨ i = 7 := by simp at h1; omega
  rcases this with rfl | rfl | rfl | rfl | rfl | rfl | rfl | rfl <;>
    (simp only [List.getElem_cons_succ, List.getElem_cons_zero]; refine UInt8.toNat.inj ?_; rw [UInt8.toNat_ofNat', UInt8.toNat_ofNat']; omega)
theorem wide_tx (l : List UInt8) : Wi.tx l = tx l := rfl
theorem put_cells8 (n : Int) (j : Nat) (hj : j < 8) : (Wi.putW (Array.replicate 8 (.int .u8 0)) 0 n 8)[j]? = some (.int .u8 ((Wi.bytesOf n)[j]'(by rw [Wi.bytesOf_length]; exact hj)).toNat) := by
  have h := Wi.putW_in (Array.replicate 8 (.int .u8 0)) 0 n j (by simp; exact hj) 8 hj
  rw [Nat.zero_add] at h
  rw [h]
  simp only [Wi.bytesOf, List.getElem_map, List.getElem_range, Wi.byteAt_nat]
set_option maxRecDepth 100000 in
set_option maxHeartbeats 4000000 in
theorem putnumber_any (n : Int) (hn : In64 n) (w : World) :
    Calls Tryd.prog 30 #[.int .i64 n] w fun e w' => e = .returned (.string (tx (n8 n))) ∧ Below w.heap.size w w' := by
  have n1 := hn.1
  have n2 := hn.2
  clear hn
  go_enter Tryd.func30, Tryd.ntmps30
  go_wp2
  refine wp_gen (fun W => CellsAt w.heap.size (Array.replicate 8 (.int .u8 0)) W ∧ Below w.heap.size w W) ⟨CellsAt.new _ _ _, (Below.refl _ _).alloc (Nat.le_refl _) _⟩ ?_
  intro W ⟨hR, hB0⟩
  go_loopg [5] 8 (fun g s5 wx => ∃ k : Nat, k + g = 8 ∧ s5 = .int .i64 k ∧ CellsAt w.heap.size (Wi.putW (Array.replicate 8 (.int .u8 0)) 0 n k) wx ∧ Below w.heap.size w wx)
  case atStart => exact ⟨0, rfl, rfl, hR, hB0⟩
  case round =>
    clear hR hB0
    obtain ⟨k, hkg, rfl, hC, hB⟩ := hrel
    cases gk with
    | zero =>
      obtain rfl : k = 8 := hkg
      have hcv : (convert 81 9 (.slice (some ⟨w.heap.size, 0, none⟩) 8 8)).run Tryd.prog wr = .ok (.string (tx (n8 n))) wr := by
        have h := run_convert_bytes_back (P := Tryd.prog) wr 81 9 5 ⟨w.heap.size, 0, none⟩ 8 (Wi.bytesOf n) Tryd.underlying81 Tryd.underlying5 Tryd.underlying9 (fun j hj => by
          have hj8 : j < 8 := by simpa [Wi.bytesOf_length] using hj
          rw [Lib.add_plain, Nat.zero_add]
          exact hC.cell j _ (put_cells8 n j hj8))
        rw [show (Wi.bytesOf n).length = 8 by simp [Wi.bytesOf_length], bytes_n8] at h
        exact h
      go_wp2
      go_ret
      exact ⟨rfl, hB⟩
    | succ g =>
      obtain ⟨j, hj⟩ : ∃ j, (7 - k) * 8 = j := ⟨_, rfl⟩
      have hkj : (8 : Int) * (7 - (k : Int)) = j := by omega
      have hk8 : (k : Int) < 8 := by omega
      have hj64 : j < 64 := by omega
      have hlt : 0 + k < (Wi.putW (Array.replicate 8 (.int .u8 0)) 0 n k).size := by rw [Wi.putW_size]; simp; omega
      have hcell := hC.cell (0 + k) ((Wi.putW (Array.replicate 8 (.int .u8 0)) 0 n k)[0 + k]) (by simp)
      have hfro := hC.fro (0 + k) ((Wi.putW (Array.replicate 8 (.int .u8 0)) 0 n k)[0 + k]) (by simp)
      have HC := Lib.hid hC
      have HL := Lib.hid hlt
      clear hC
      generalize (Wi.putW (Array.replicate 8 (.int .u8 0)) 0 n k)[0 + k] = old at hcell hfro
      clear hlt
      rw [Nat.zero_add] at hcell hfro
      go_wp2
      go_roundg g
      case measure => omega
      case rel =>
        refine ⟨k + 1, by omega, by go_num, ?_, hB.setCell (Nat.le_refl _) _⟩
        rw [Wi.putW, hj]
        have := HC.out.set (0 + k) (.int .u8 (n / 2 ^ j % 256)) HL.out
        rw [Nat.zero_add] at this ⊢
        exact this
theorem num_take {l : List UInt8} {k : Nat} (h : k < l.length) : numB (l.take (k + 1)) = numB (l.take k) * 256 + l[k].toNat := by
  rw [List.take_add_one, List.getElem?_eq_getElem h]
  exact numB_snoc _ _
theorem num_small (l : List UInt8) (k : Nat) (h : k ≤ 7) : numB (l.take k) < 72057594037927936 := by
  have h1 := numB_lt (l.take k)
  have h2 : (l.take k).length ≤ 7 := by rw [List.length_take]; omega
  have h3 : 256 ^ (l.take k).length ≤ 256 ^ 7 := Nat.pow_le_pow_right (by omega) h2
  omega
theorem wrap_i64Z (n : Nat) (h : n < 18446744073709551616) : IntKind.i64.wrap (n : Int) = i64Z n := by
  rw [IntKind.wrap_i64]
  unfold i64Z
  split <;> omega
theorem or_byteI (n : Nat) (c : UInt8) (h1 : n < 72057594037927936) : bits .or .i64 (wrap64 ((n : Int) * 256)) (wrap64 (c.toNat : Int)) = i64Z (n * 256 + c.toNat) := by
  have hc : c.toNat < 2 ^ 8 := c.toNat_lt
  obtain ⟨m, hm⟩ : ∃ m, 256 * n = m := ⟨_, rfl⟩
  have e : (n : Int) * 256 = (m : Int) := by omega
  have hw : (BitVec.ofInt 64 (wrap64 (m : Int))).toNat = m := by
    rw [BitVec.toNat_ofInt]
    unfold wrap64
    omega
  have hw2 : wrap64 (c.toNat : Int) = (c.toNat : Int) := by unfold wrap64; omega
  rw [e, hw2]
  show IntKind.i64.wrap ((BitVec.ofInt 64 (wrap64 (m : Int)) ||| BitVec.ofInt 64 (c.toNat : Int)).toNat : Int) = _
  rw [BitVec.toNat_or, hw, ofInt_u64 _ (by omega), ← hm, show 256 * n = 2 ^ 8 * n from rfl, ← Nat.two_pow_add_eq_or_of_lt hc, wrap_i64Z _ (by omega)]
  congr 1
  omega
set_option maxRecDepth 100000 in
set_option maxHeartbeats 4000000 in
theorem getnumber_any (s : ByteArray) (hs8 : 8 ≤ s.size) (hs : s.size ≤ maxLen) (w : World) :
    Calls Tryd.prog 49 #[.string s] w fun e w' => e = .returned (.int .i64 (num8 s.data.toList)) ∧ w = w' := by
  unfold maxLen at hs
  have hlen : s.data.toList.length = s.size := rfl
  have HT : Hid (∀ (k : Nat) (h : k < s.size), numB (s.data.toList.take (k + 1)) = numB (s.data.toList.take k) * 256 + (s[k]'h).toNat) := Lib.hid fun k h => num_take (l := s.data.toList) (k := k) h
  have hle := fun (k : Nat) (h : k ≤ 7) => num_small s.data.toList k h
  have HL := Lib.hid hle
  obtain ⟨N, hN⟩ : ∃ N, numB (s.data.toList.take 8) = N := ⟨_, rfl⟩
  have HN : Hid (numB (s.data.toList.take 8) = N) := Lib.hid hN
  have e8 : num8 s.data.toList = i64Z N := by unfold num8; rw [hN]
  rw [e8]
  clear hN hle hlen e8
  go_enter Tryd.func49, Tryd.ntmps49
  go_wp2
  go_loopg [3, 5] 8 (fun g s3 s5 wx => ∃ k m : Nat, k + g = 8 ∧ s5 = .int .i64 k ∧ s3 = .int .i64 (i64Z m) ∧ Hid (numB (s.data.toList.take k) = m) ∧ w = wx)
  case atStart => exact ⟨0, 0, by omega, rfl, rfl, Lib.hid rfl, rfl⟩
  case round =>
    obtain ⟨k, m, hkg, rfl, rfl, HM, rfl⟩ := hrel
    cases gk with
    | zero =>
      obtain rfl : k = 8 := hkg
      have hmN : Hid (m = N) := Lib.hid (by rw [← HM.out, ← HN.out])
      go_wp2
      go_ret
      exact ⟨by rw [← hmN.out]; rfl, rfl⟩
    | succ g =>
      have hk : k < s.size := by omega
      have hk8 : (k : Int) < 8 := by omega
      have hm7 : m < 72057594037927936 := by rw [← HM.out]; exact HL.out k (by omega)
      have hmi : i64Z m = (m : Int) := by unfold i64Z; rw [if_pos (by omega)]
      rw [hmi]
      have hor := or_byteI m s[k] hm7
      have hT := HT.out k hk
      rw [HM.out] at hT
      have H2 : Hid (numB (s.data.toList.take (k + 1)) = m * 256 + s[k].toNat) := Lib.hid hT
      clear hT HM hmi
      go_wp2
      go_roundg g
      case measure => omega
      case rel => exact ⟨k + 1, m * 256 + s[k].toNat, by omega, by go_num, by first | rfl | (rw [hor]), H2, rfl⟩
end Go.Proofs.YtmjipafhahggpaaDoor.Ce

