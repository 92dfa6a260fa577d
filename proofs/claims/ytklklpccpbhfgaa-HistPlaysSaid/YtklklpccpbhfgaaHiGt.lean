/- A histogram of bytes: Get. -/
import Derived.Test.YtklklpccpbhfgaaHiNum
import Derived.Test.YtklklpccpbhfgaaHiPt
namespace Go.Proofs.Ytklklpccpbhfgaa
open Go Go.RowKit

/-- An item of its ten bytes. -/
def itemB (s : List UInt8) : Hit := ⟨(numB (s.take 4) : Int) - 2147483648, numB ((s.drop 4).take 6)⟩
theorem extract_toList (s : ByteArray) (i j : Nat) : (s.extract i j).data.toList = (s.data.toList.drop i).take (j - i) := by
  simp [ByteArray.data_extract, Array.toList_extract]
theorem num_lt4 (l : List UInt8) : numB (l.take 4) < 4294967296 := by
  have h1 := numB_lt (l.take 4)
  have h2 : (l.take 4).length ≤ 4 := by rw [List.length_take]; omega
  have h3 : 256 ^ (l.take 4).length ≤ 256 ^ 4 := Nat.pow_le_pow_right (by omega) h2
  omega
theorem num_lt6 (l : List UInt8) : numB (l.take 6) < 281474976710656 := by
  have h1 := numB_lt (l.take 6)
  have h2 : (l.take 6).length ≤ 6 := by rw [List.length_take]; omega
  have h3 : 256 ^ (l.take 6).length ≤ 256 ^ 6 := Nat.pow_le_pow_right (by omega) h2
  omega
set_option maxRecDepth 100000 in
set_option maxHeartbeats 4000000 in
theorem getitem_any (s : ByteArray) (hs : s.size = 10) (w : World) :
    Calls Try.prog 49 #[.string s] w fun e w' => e = .returned (.agg #[.int .i64 (itemB s.data.toList).at_, .int .u64 (itemB s.data.toList).many]) ∧ Below w.heap.size w w' := by
  have h1 := fun w => getnumber_any (s.extract 0 4) (by simp [ByteArray.size_extract]; omega) w
  have h2 := fun w => getnumber_any (s.extract 4 10) (by simp [ByteArray.size_extract]; omega) w
  rw [extract_toList] at h1 h2
  obtain ⟨p, hp⟩ : ∃ p, numB (s.data.toList.take 4) = p := ⟨_, rfl⟩
  obtain ⟨q, hq⟩ : ∃ q, numB ((s.data.toList.drop 4).take 6) = q := ⟨_, rfl⟩
  have hi : itemB s.data.toList = ⟨(p : Int) - 2147483648, q⟩ := by unfold itemB; rw [hp, hq]
  rw [List.drop_zero, Nat.sub_zero, hp] at h1
  rw [show 10 - 4 = 6 from rfl, hq] at h2
  have b3 : p < 4294967296 := by rw [← hp]; exact num_lt4 _
  rw [hi]
  clear hi hp hq
  go_enter Try.func49, Try.ntmps49
  go_wp2_with fail
  refine (h1 _).mono ?_
  rintro e w1 ⟨rfl, rfl⟩
  go_wp2_with fail
  refine (h2 _).mono ?_
  rintro e w1 ⟨rfl, rfl⟩
  clear h1 h2 hs
  go_wp2
  refine bodyPost_ret (v := .agg #[.int .i64 ((p : Int) - 2147483648), .int .u64 q]) (by simp [results, Try.results49, go_sem]) rfl ⟨rfl, ?_⟩
  first | exact (Below.refl _ _).alloc (Nat.le_refl _) _ | exact (((Below.refl _ _).alloc (Nat.le_refl _) _).setCell (by simp) _).setCell (by simp) _
end Go.Proofs.Ytklklpccpbhfgaa
