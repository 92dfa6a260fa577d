/- The chapter's own: a histogram as bytes. -/
import Derived.Test.YtdcdhbkgeipdjaaHiBeh
namespace Go.Proofs.Ytdcdhbkgeipdjaa
open Go Go.RowKit

set_option maxRecDepth 100000 in
set_option maxHeartbeats 4000000 in
theorem ref_put_any {base B k : Nat} {v : Value} {l : List Hit} {w : World} (h : Hs base 83 B k v l w) :
    Calls Try.prog 24 #[.pointer (some ⟨B, 0, none⟩)] w fun e w' => e = .returned (.string (tx (putH k l))) ∧ Below w.heap.size w w' := by
  have hlen := h.inv.len
  have hk := h.inv.hk
  have HI := Lib.hid h.inv
  obtain ⟨p, cap, rfl, hcap, hmax⟩ := h.row.cap
  have c0 := h.c0
  have c1 := h.c1
  have hBl := h.lt
  have HL := Lib.hid h.row.form
  obtain ⟨n, hn⟩ : ∃ n, l.length = n := ⟨_, rfl⟩
  have HN := Lib.hid hn
  rw [hn] at c1 hlen
  have hb1 : ∀ W, Calls Try.prog 47 #[.int .u64 (k : Int), .int .i64 1] W fun e w' => e = .returned (.string (tx (be 1 k))) ∧ Below W.heap.size W w' := fun W => ref_bytes_any (c := 1) (n := k) (by omega) (by omega) (by omega) W
  have hb2 : ∀ W, Calls Try.prog 47 #[.int .u64 (n : Int), .int .i64 2] W fun e w' => e = .returned (.string (tx (be 2 n))) ∧ Below W.heap.size W w' := fun W => ref_bytes_any (c := 2) (n := n) (by omega) (by omega) (by omega) W
  have q0 := Beh.cell hBl c0
  have q1 := Beh.cell hBl c1
  have hn0 : (n : Int) ≤ 2001 := by omega
  have hk0 : (k : Int) ≤ 4 := by omega
  have hwk : IntKind.u64.wrap (k : Int) = (k : Int) := by rw [IntKind.wrap_u64]; omega
  have hwn : IntKind.u64.wrap (n : Int) = (n : Int) := by rw [IntKind.wrap_u64]; omega
  have hsz : (9223372036854775807 < (tx (be 1 k)).size + (tx (be 2 n)).size) = False := by rw [tx_size, tx_size, be_length, be_length]; exact eq_false (by omega)
  clear h hn hcap hmax
  go_enter Try.func24, Try.ntmps24
  go_wp2
  refine wp_region_beh (by kernel_rfl) (by kernel_rfl) ?_
  iterate 6 (quiet_step (exact calls_beh _ (hb1 _)))
  repeat (quiet_step (exact calls_beh _ (hb2 _)))
  refine wpQuiet_nil ?_
  intro _ hw'
  obtain ⟨⟨W, hBW⟩, hw''⟩ := hw'
  subst hw''
  have HB := Lib.hid hBW
  have HS : Hid (tx (be 1 k) ++ tx (be 2 n) = tx (be 1 k ++ be 2 n ++ (l.take 0).flatMap putI)) := Lib.hid (by rw [tx_append]; simp)
  generalize hS0 : tx (be 1 k) ++ tx (be 2 n) = S0 at *
  clear hS0 hb1 hb2 q0 q1 hsz
  go_wp2
  go_loopg [3, 4] n (fun g s3 s4 wx => ∃ (j : Nat) (S : ByteArray), j + g = n ∧ s4 = .int .i64 j ∧ s3 = .string S ∧ Hid (S = tx (be 1 k ++ be 2 n ++ (l.take j).flatMap putI)) ∧ Hid (Below w.heap.size w wx))
  case atStart => exact ⟨0, S0, by omega, rfl, rfl, HS, HB⟩
  case round =>
    clear HS HB
    obtain ⟨j, S, hjn, rfl, rfl, HS, HB⟩ := hrel
    have k1 := (HB.out.cell (p := ⟨B, 1, none⟩) hBl).trans c1
    cases gk with
    | zero =>
      obtain rfl : j = n := by omega
      have HE : Hid (S = tx (putH k l)) := Lib.hid (by
        have e := HS.out
        rw [List.take_of_length_le (by rw [HN.out]; exact Nat.le_refl _)] at e
        rw [e]
        unfold putH
        rw [HN.out])
      go_wp2
      go_ret
      exact ⟨by rw [← HE.out]; rfl, HB.out⟩
    | succ g =>
      have hj : j < n := by omega
      have hjl : j < l.length := by rw [HN.out]; exact hj
      rcases HL.out with ⟨_, h0⟩ | ⟨gg, cap', e, _, hg, _, _, hc, _⟩
      · rw [h0] at hjl; cases hjl
      · simp only [Value.slice.injEq] at e
        obtain ⟨rfl, _, rfl⟩ := e
        obtain ⟨c10, c11⟩ := hc j hjl
        have d0 := (HB.out.cell (p := ⟨gg, j * 2, none⟩) hg).trans c10
        have d1 := (HB.out.cell (p := ⟨gg, j * 2 + 1, none⟩) hg).trans c11
        have hgr := Nat.lt_of_lt_of_le hg HB.out.size
        have hat := HI.out.at hjl
        have hmany := HI.out.many hjl
        have hpt := putI_take hjl
        obtain ⟨a, ha⟩ : ∃ a, l[j]!.at_ = a := ⟨_, rfl⟩
        obtain ⟨m, hm⟩ : ∃ m, l[j]!.many = m := ⟨_, rfl⟩
        rw [show putI l[j]! = be 4 (a + 2147483648).toNat ++ be 6 m by unfold putI; rw [ha, hm]] at hpt
        rw [ha] at d0 hat
        rw [hm] at d1 hmany
        obtain ⟨q, hq⟩ : ∃ q, (a + 2147483648).toNat = q := ⟨_, rfl⟩
        rw [hq] at hpt
        have hqI : (a + 2147483648 : Int) = (q : Int) := by omega
        have hqb : q < 4294967296 := by omega
        have hw1 : IntKind.i64.wrap (q : Int) = (q : Int) := by rw [IntKind.wrap_i64]; omega
        have hw2 : IntKind.u64.wrap (q : Int) = (q : Int) := by rw [IntKind.wrap_u64]; omega
        have HP : Hid (S ++ tx (be 4 q) ++ tx (be 6 m) = tx (be 1 k ++ be 2 n ++ (l.take (j + 1)).flatMap putI)) := Lib.hid (by
          rw [hpt, HS.out, tx_append, tx_append, List.append_assoc, List.append_assoc])
        have q1 := Beh.cell (Nat.lt_of_lt_of_le hBl HB.out.size) k1
        have q2 := Beh.cell hgr d0
        have q3 := Beh.cell hgr d1
        have hb4 : ∀ W, Calls Try.prog 47 #[.int .u64 (q : Int), .int .i64 4] W fun e w' => e = .returned (.string (tx (be 4 q))) ∧ Below W.heap.size W w' := fun W => ref_bytes_any (c := 4) (n := q) (by omega) (by omega) (by omega) W
        have hb6 : ∀ W, Calls Try.prog 47 #[.int .u64 (m : Int), .int .i64 6] W fun e w' => e = .returned (.string (tx (be 6 m))) ∧ Below W.heap.size W w' := fun W => ref_bytes_any (c := 6) (n := m) (by omega) (by omega) (by omega) W
        have hjnI : (j : Int) < (n : Int) := by omega
        have hSs : S.size ≤ 20013 := by
          rw [HS.out, tx_size, List.length_append, List.length_append, be_length, be_length, Go.Proofs.Ytdcdhbkgeipdjaa.flat_length, List.length_take]
          omega
        have hsz1 : (9223372036854775807 < S.size + (tx (be 4 q)).size) = False := by rw [tx_size, be_length]; exact eq_false (by omega)
        have hsz2 : (9223372036854775807 < (S ++ tx (be 4 q)).size + (tx (be 6 m)).size) = False := by rw [ByteArray.size_append, tx_size, tx_size, be_length, be_length]; exact eq_false (by omega)
        have hsz3 : (9223372036854775807 < S.size + (tx (be 4 q)).size + (tx (be 6 m)).size) = False := by rw [tx_size, tx_size, be_length, be_length]; exact eq_false (by omega)
        clear c10 c11 hc hpt hat hmany ha hm hq d0 d1
        go_wp2
        refine wp_region_beh (by kernel_rfl) (by kernel_rfl) ?_
        iterate 12 (quiet_step (exact calls_beh _ (hb4 _)))
        repeat (quiet_step (exact calls_beh _ (hb6 _)))
        refine wpQuiet_nil ?_
        intro _ hw'
        obtain ⟨⟨W, hBW⟩, hw''⟩ := hw'
        subst hw''
        have HB2 := Lib.hid (below_on HB.out hBW (Nat.le_refl _))
        clear hb4 hb6 q1 q2 q3 hBW hsz1 hsz2 hsz3
        generalize S ++ tx (be 4 q) ++ tx (be 6 m) = S2 at *
        go_wp2
        go_roundg g
        case measure => omega
        case rel => exact ⟨j + 1, S2, by omega, by go_num, rfl, HP, HB2⟩
end Go.Proofs.Ytdcdhbkgeipdjaa
