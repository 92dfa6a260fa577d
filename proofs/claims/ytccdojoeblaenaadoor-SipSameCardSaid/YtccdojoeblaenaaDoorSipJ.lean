/- The chapter's statements, walked: SipBytes. -/
import Derived.Test.YtccdojoeblaenaaDoorSipI
import Derived.Lib.Strings
namespace Go.Proofs.YtccdojoeblaenaaDoor
open Go Go.RowKit

/-- The bytes of block b. -/
def BytesAt (w : World) (b : Nat) (l : List UInt8) : Prop := ∀ j (h : j < l.length), w.cell? ⟨b, j, none⟩ = some (.int .u8 (l[j].toNat : Int))
theorem heap_drew_alloc (w : World) (o : Obj) : (w.drew.alloc o).heap[w.heap.size]? = some o := by
  show (w.heap.push o)[w.heap.size]? = _
  simp
theorem bytes_of (s : ByteArray) (w : World) : ∃ (cap : Nat) (w2 : World), (convert 9 30 (.string s)).run Tryd.prog w = .ok (.slice (some ⟨w.heap.size, 0, none⟩) s.size cap) w2 ∧
    Below w.heap.size w w2 ∧ BytesAt w2 w.heap.size s.data.toList ∧ (∀ j, j < s.size → w2.frozen? ⟨w.heap.size, j, none⟩ = false) ∧ w.heap.size < w2.heap.size := by
  refine ⟨_, _, run_bytes_of_string w 9 30 5 s Tryd.underlying9 Tryd.underlying30 Tryd.underlying5, (Below.refl _ _).drew.alloc (Nat.le_refl _) _, ?_, ?_, ?_⟩
  · intro j hj
    have hb := bytesRow_at s (grownCap w s.size 0 5) j (by simpa using hj)
    unfold World.cell?
    rw [heap_drew_alloc]
    simpa using hb
  · intro j hj
    unfold World.frozen?
    rw [heap_drew_alloc]
    have : s.size ≤ (bytesRow s (grownCap w s.size 0 5)).size := by simp [bytesRow]
    simp
    omega
  · show w.heap.size < (w.heap.push _).size
    simp
theorem BytesAt.below {w w' : World} {b : Nat} {l : List UInt8} (h : BytesAt w b l) (hb : b < w.heap.size) (hB : Below w.heap.size w w') : BytesAt w' b l :=
  fun j hj => (hB.cell (p := ⟨b, j, none⟩) hb).trans (h j hj)
theorem BytesAt.back {w : World} {b : Nat} {l : List UInt8} (h : BytesAt w b l) (cap n : Nat) (hn : n = l.length) :
    (convert 30 9 (.slice (some ⟨b, 0, none⟩) n cap)).run Tryd.prog w = .ok (.string ⟨l.toArray⟩) w := by
  subst hn
  refine run_convert_bytes_back w 30 9 5 ⟨b, 0, none⟩ cap l Tryd.underlying30 Tryd.underlying5 Tryd.underlying9 ?_
  intro j hj
  rw [← h j hj]
  congr 1
  simp [Addr.add]
  intro h0
  exact h0.symm
theorem BytesAt.set {w : World} {b : Nat} {l : List UInt8} (h : BytesAt w b l) (k : Nat) (hk : k < l.length) (c : UInt8) : BytesAt (w.setCell ⟨b, k, none⟩ (.int .u8 (c.toNat : Int))) b (l.set k c) := by
  intro j hj
  by_cases hjk : j = k
  · subst hjk
    rw [World.cell?_setCell_same (h := h j hk)]
    simp only [List.getElem_set_self]
  · rw [World.cell?_setCell_other (h := by simp only [ne_eq, Addr.mk.injEq, not_and]; omega)]
    have hj2 : j < l.length := by simpa using hj
    rw [h j hj2]
    simp only [List.getElem_set_ne (Ne.symm hjk)]
theorem xor_u8 (a b : UInt8) : bits BinOp.xor IntKind.u8 (a.toNat : Int) (b.toNat : Int) = ((a ^^^ b).toNat : Int) := by
  have ha := a.toNat_lt
  have hb := b.toNat_lt
  have h1 : (BitVec.ofInt 8 (a.toNat : Int)).toNat = a.toNat := by
    rw [BitVec.ofInt_natCast, BitVec.toNat_ofNat]; exact Nat.mod_eq_of_lt (by omega)
  have h2 : (BitVec.ofInt 8 (b.toNat : Int)).toNat = b.toNat := by
    rw [BitVec.ofInt_natCast, BitVec.toNat_ofNat]; exact Nat.mod_eq_of_lt (by omega)
  show IntKind.u8.wrap ((BitVec.ofInt 8 (a.toNat : Int) ^^^ BitVec.ofInt 8 (b.toNat : Int)).toNat : Int) = _
  rw [BitVec.toNat_xor, h1, h2, UInt8.toNat_xor]
  have hx : a.toNat ^^^ b.toNat < 2 ^ 8 := Nat.xor_lt_two_pow (by omega) (by omega)
  simp [IntKind.wrap, IntKind.signed, IntKind.bits]
  omega

set_option maxHeartbeats 1000000 in
theorem SipBytes_walk (a : Int) (_ha : (Lit.int .u64 a).wf = true) (b : Int) (_hb : (Lit.int .u64 b).wf = true) (s : ByteArray) (hs : s.size ≤ maxLen) (t : Int) (ht : (Lit.int .u8 t).wf = true) (y : Int) (hy : (Lit.int .u8 y).wf = true) (w : World) (hT : Tab w) :
    Calls Tryd.prog 7 #[.int .u64 a, .int .u64 b, .string s, .int .u8 t, .int .u8 y] w fun e w' => e = .returned (.bool true) ∧ Below w.heap.size w w' := by
  obtain ⟨t, rfl, ht⟩ := u8_nat ht
  obtain ⟨y, rfl, hy⟩ := u8_nat hy
  have HT := Lib.hid hT
  have HS := Lib.hid hs
  unfold maxLen at hs
  clear hT
  obtain ⟨u, hsl, hu7⟩ : ∃ u : ByteArray, (∀ wx, (Instr.slice 9 (.string s) none (some (.int .i64 (min (s.size : Int) 7))) none).run Tryd.prog wx = .ok (.string u) wx) ∧ u.size ≤ 7 :=
    ⟨s.extract 0 (min s.size 7), fun wx => by
      rw [show min (s.size : Int) 7 = ((min s.size 7 : Nat) : Int) from by omega]
      exact str_to Tryd.underlying9 s _ (Nat.min_le_left _ _) wx, by rw [ByteArray.size_extract]; omega⟩
  obtain ⟨v, hv, hv1, hv7⟩ : ∃ v : ByteArray, (if u.toList.isEmpty then ⟨#[120]⟩ else u) = v ∧ 1 ≤ v.size ∧ v.size ≤ 7 := by
    by_cases he : u.toList.isEmpty
    · exact ⟨⟨#[120]⟩, by rw [if_pos he], by decide, by decide⟩
    · refine ⟨u, by rw [if_neg he], ?_, hu7⟩
      rcases Nat.eq_zero_or_pos u.size with h | h
      · exfalso; apply he
        have : u.data.toList = [] := List.eq_nil_of_length_eq_zero (by simpa using h)
        have h2 : u.data = #[] := by simpa using this
        have h3 : u = ByteArray.empty := ByteArray.ext h2
        subst h3
        rw [ByteArray.toList_eq]
        rfl
      · exact h
  have HV := Lib.hid hv
  clear hv
  by_cases h7 : (s.size : Int) ≤ 7
  all_goals
    have hm : min (s.size : Int) 7 = if (s.size : Int) ≤ 7 then (s.size : Int) else 7 := by split <;> omega
    rw [hm] at hsl
    simp only [h7, if_true, if_false] at hsl
    clear hm
    cases he : u.toList.isEmpty
  all_goals
    go_enter Tryd.func7, Tryd.ntmps7
    go_wp2_with fail
    refine (examples_any _ HT.out).mono ?_
    rintro e w1 ⟨rfl, hB1⟩
    go_wp2_with fail
    have hv := HV.out
    simp only [he, if_true, Bool.false_eq_true, if_false] at hv
    rw [hv]
    clear hv he hsl
    obtain ⟨cap, w2, hcv, hB2, hby, hfr, hlt⟩ := bytes_of v w1
    obtain ⟨k, hk, hkt⟩ : ∃ k : Nat, k < v.size ∧ (t : Int) % v.size = k := ⟨t % v.size, Nat.mod_lt _ hv1, by simp⟩
    have hk2 : k < v.data.toList.length := by simpa using hk
    have hcell := hby k hk2
    have hfz := hfr k hk
    obtain ⟨c, hc⟩ : ∃ c, c = v.data.toList[k] := ⟨_, rfl⟩
    rw [← hc] at hcell
    have hx : bits BinOp.xor IntKind.u8 (c.toNat : Int) (y : Int) = ((c ^^^ UInt8.ofNat y).toNat : Int) := by
      have := xor_u8 c (UInt8.ofNat y)
      rwa [show (UInt8.ofNat y).toNat = y from by simp; omega] at this
    obtain ⟨d, hd⟩ : ∃ d, d = c ^^^ UInt8.ofNat y := ⟨_, rfl⟩
    rw [← hd] at hx
    have hset := hby.set k hk2 d
    have hback := hset.back cap v.size (by simp)
    have hB3 := (hB1.trans (hB2.mono hB1.size)).setCell (p := ⟨w1.heap.size, k, none⟩) hB1.size (.int .u8 (d.toNat : Int))
    have hvm : v.size ≤ maxLen := by unfold maxLen; omega
    have htm : (ByteArray.mk (v.data.toList.set k d).toArray).size ≤ maxLen := by
      rw [Lib.size_eq]
      simp
      exact hvm
    have HC := Lib.hid hc
    have HD := Lib.hid hd
    have HVM := Lib.hid hvm
    have HTM := Lib.hid htm
    clear hby hset hc hfr hd hvm htm
    go_simp
    go_wp2_with fail
    clear hback hcell hfz hx hcv
    generalize w2.setCell ⟨w1.heap.size, k, none⟩ (.int .u8 (d.toNat : Int)) = w3 at *
    refine (sum_any a b v _ HVM.out).mono ?_
    rintro e w4 ⟨rfl, hB4⟩
    go_wp2_with fail
    refine (sum_any a b (ByteArray.mk (v.data.toList.set k d).toArray) _ HTM.out).mono ?_
    rintro e w5 ⟨rfl, hB5⟩
    have hB6 := hB3.trans (hB4.mono hB3.size)
    have hB7 := hB6.trans (hB5.mono hB6.size)
    clear hB1 hB2 hB3 hB4 hB5 hB6
    by_cases hy0 : y = 0
    · subst hy0
      have hl : v.data.toList.set k d = v.data.toList := by
        rw [HD.out, show c ^^^ UInt8.ofNat 0 = c from by simp, HC.out]
        exact List.set_getElem_self hk2
      have he1 : (v.toList == v.data.toList.set k d) = true := by rw [hl, ByteArray.toList_eq]; simp
      have he2 : (ssum a b v.data.toList == ssum a b (v.data.toList.set k d)) = true := by rw [hl]; simp
      clear hl
      go_wp2
      go_ret
      exact ⟨rfl, hB7⟩
    · have he1 : (v.toList == v.data.toList.set k d) = false := by
        rw [ByteArray.toList_eq, beq_eq_false_iff_ne]
        intro h
        have h2 := congrArg (fun l => l[k]?) h
        simp only [List.getElem?_set_self hk2, List.getElem?_eq_getElem hk2, Option.some.injEq] at h2
        rw [← HC.out, HD.out] at h2
        have h3 : (c ^^^ UInt8.ofNat y) ^^^ c = c ^^^ c := by rw [← h2]
        rw [UInt8.xor_comm, ← UInt8.xor_assoc, UInt8.xor_self, UInt8.zero_xor] at h3
        have h4 := congrArg UInt8.toNat h3
        simp at h4
        omega
      have hy1 : ((y : Int) == 0) = false := by simpa using hy0
      have hy2 : ((y : Int) != 0) = true := by simpa using hy0
      clear hy0
      go_wp2
      go_ret
      exact ⟨rfl, hB7⟩
end Go.Proofs.YtccdojoeblaenaaDoor
