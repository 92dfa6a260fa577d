/- A top's small calls: a new one, its room, whether there is room, how many came. -/
import Derived.Test.YtnkhieackclniaaTp
import Derived.Deep.LoopGhost
import Derived.Deep.QuietTactic
import Derived.BigQuiet
import Derived.IntWalk
namespace Go.Proofs.Ytnkhieackclniaa
open Go Go.RowKit

theorem new_out (x : Int) (h : x < 1 ∨ 16 < x) (w : World) :
    Calls Try.prog 10 #[.int .i64 x] w fun e w' => e = .returned (.tuple #[.pointer none, .int .i64 1]) ∧ w = w' := by
  by_cases h4 : x < 1
  · clear h
    go_enter Try.func10, Try.ntmps10
    go_wp2
    go_ret2
    exact ⟨rfl, rfl⟩
  · have h10 : 16 < x := by omega
    clear h
    go_enter Try.func10, Try.ntmps10
    go_wp2
    go_ret2
    exact ⟨rfl, rfl⟩
theorem new_in (x : Int) (h1 : 1 ≤ x) (h16 : x ≤ 16) (w : World) :
    Calls Try.prog 10 #[.int .i64 x] w fun e w' => e = .returned (.tuple #[.pointer (some ⟨w.heap.size, 0, none⟩), .int .i64 0]) ∧ w.alloc (.cells #[.int .i64 x, .slice none 0 0] 63) = w' := by
  go_enter Try.func10, Try.ntmps10
  go_wp2
  go_ret2
  exact ⟨rfl, rfl⟩
/-- A new top. -/
theorem new_any (room : Nat) (h1 : 1 ≤ room) (h16 : room ≤ 16) (w : World) :
    Calls Try.prog 10 #[.int .i64 room] w fun e w' => e = .returned (.tuple #[.pointer (some ⟨w.heap.size, 0, none⟩), .int .i64 0]) ∧ Below w.heap.size w w' ∧ Tp w.heap.size w.heap.size room (.slice none 0 0) [] w' := by
  refine (new_in room (by omega) (by omega) w).mono ?_
  rintro e w' ⟨rfl, rfl⟩
  have hC := CellsAt.new #[.int .i64 room, .slice none 0 0] 63 w
  exact ⟨rfl, (Below.refl _ _).alloc (Nat.le_refl _) _, ⟨hC.lt, Nat.le_refl _, inv_nil h1 h16, hC.cell 0 _ rfl, hC.cell 1 _ rfl, hC.fro 1 _ rfl, Its.nil _ _ _, by simp [Value.ownBlock]⟩⟩

theorem room_any {base B room : Nat} {v : Value} {l : List Itm} {w : World} (h : Tp base B room v l w) :
    Calls Try.prog 25 #[.pointer (some ⟨B, 0, none⟩)] w fun e w' => e = .returned (.int .i64 room) ∧ w = w' := by
  have c0 := h.c0
  clear h
  go_enter Try.func25, Try.ntmps25
  go_wp2
  go_ret
  exact ⟨rfl, rfl⟩
theorem clear_any {base B room : Nat} {v : Value} {l : List Itm} {w : World} (h : Tp base B room v l w) :
    Calls Try.prog 18 #[.pointer (some ⟨B, 0, none⟩)] w fun e w' => e = .returned (.tuple #[]) ∧ Mov (OwnT B v) w w' ∧ Tp base B room (.slice none 0 0) [] w' := by
  have c1 := h.c1
  have f1 := h.f1
  have H := Lib.hid h
  clear h
  go_enter Try.func18, Try.ntmps18
  go_wp2
  go_end0
  have h := H.out
  refine ⟨rfl, (Mov.refl _ _).set (.inl rfl) _ _, ⟨by have := h.lt; simpa using this, h.lo, inv_nil h.inv.lo h.inv.hi, ?_, ?_, ?_, Its.nil _ _ _, by simp [Value.ownBlock]⟩⟩
  · rw [World.cell?_setCell_other (h := by simp)]; exact h.c0
  · exact World.cell?_setCell_same w ⟨B, 1, none⟩ _ h.c1
  · rw [World.frozen?_setCell]; exact h.f1
theorem hasroom_any {base B room : Nat} {v : Value} {l : List Itm} {w : World} (h : Tp base B room v l w) :
    Calls Try.prog 30 #[.pointer (some ⟨B, 0, none⟩)] w fun e w' => e = .returned (.bool (decide (l.length < room))) ∧ ∃ n, w' = w.drewN n := by
  obtain ⟨p, cap, rfl, hcap, hmax⟩ := h.row.cap
  have c0 := h.c0
  have c1 := h.c1
  have hl := h.inv.len
  have hh := h.inv.hi
  clear h
  generalize l.length = n at *
  go_enter Try.func30, Try.ntmps30
  go_wp2
  go_quiet (fail)
  go_wp2
  go_ret
  exact ⟨by simp, _, rfl⟩

/-- What comes: the rows of the loop over the items. -/
theorem seen_walk {base B room : Nat} {v : Value} {l : List Itm} {w : World} (h : Tp base B room v l w) :
    Calls Try.prog 15 #[.pointer (some ⟨B, 0, none⟩)] w fun e w' => e = .returned (.int .u64 (seen l)) ∧ Below w.heap.size w w' := by
  have c1 := h.c1
  have HL := Lib.hid h.row.form
  have hl := h.inv.len
  have hh := h.inv.hi
  have hsum := h.inv.sum
  obtain ⟨p, cap, hv, hcap, hmax⟩ := h.row.cap
  subst hv
  clear h
  obtain ⟨n, hn⟩ : ∃ n, l.length = n := ⟨_, rfl⟩
  have HN := Lib.hid hn
  rw [hn] at hl hcap c1
  clear hn
  go_enter Try.func15, Try.ntmps15
  go_wp2
  go_loopg [3, 11] (n) (fun g s i wx => ∃ k : Nat, k + g = n ∧ i = .int .i64 k ∧ s = .int .u64 (seen (l.take k)) ∧ Below w.heap.size w wx)
  case atStart => exact ⟨0, by omega, rfl, rfl, Below.refl _ _⟩
  case round =>
    obtain ⟨k, hkg, rfl, rfl, hB⟩ := hrel
    cases gk with
    | zero =>
      obtain rfl : k = n := by omega
      have HE : Hid (seen (l.take k) = seen l) := Lib.hid (by rw [List.take_of_length_le (by rw [HN.out]; exact Nat.le_refl _)])
      go_wp2
      go_ret
      exact ⟨by rw [HE.out]; rfl, hB⟩
    | succ g =>
      have hk : k < n := by omega
      rcases HL.out with ⟨_, h0⟩ | ⟨gg, cap', e, _, hg, _, _, hc, _⟩
      · rw [← HN.out, h0] at hk; cases hk
      · simp only [Value.slice.injEq] at e
        obtain ⟨rfl, _, rfl⟩ := e
        obtain ⟨c10, c11, c12⟩ := hc k (by rw [HN.out]; exact hk)
        have d0 := (hB.cell (p := ⟨gg, k * 3, none⟩) hg).trans c10
        have d1 := (hB.cell (p := ⟨gg, k * 3 + 1, none⟩) hg).trans c11
        have d2 := (hB.cell (p := ⟨gg, k * 3 + 2, none⟩) hg).trans c12
        have hs := seen_snoc l k (by rw [HN.out]; exact hk)
        have hle := seen_take_le l (k + 1)
        have HS := Lib.hid hs
        generalize l[k]!.name = nm at *
        generalize l[k]!.many = m at *
        generalize l[k]!.over = ov at *
        have hsm : seen (l.take k) + m ≤ 4611686018427387904 := by omega
        clear c10 c11 c12 hc hs hle
        generalize seen (l.take k) = q at *
        go_wp2
        go_roundg g
        case measure => omega
        case rel => exact ⟨k + 1, by omega, by go_num, by rw [HS.out]; go_num, hB.trans ((Below.refl _ _).alloc hB.size _)⟩
end Go.Proofs.Ytnkhieackclniaa
