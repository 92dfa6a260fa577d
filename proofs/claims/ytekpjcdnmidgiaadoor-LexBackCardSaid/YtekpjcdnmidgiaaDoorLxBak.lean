/- LexBack: what was escaped is cut as it was. -/
import Derived.Test.YtekpjcdnmidgiaaDoorLxPla
namespace Go.Proofs.YtekpjcdnmidgiaaDoor
open Go Go.RowKit

def three : List UInt8 := [44, 61, 32]
theorem three_esc : ∀ b, b ∈ three → esc4 b = true := by
  intro b hb
  simp only [three, List.mem_cons, List.not_mem_nil, or_false] at hb
  rcases hb with rfl | rfl | rfl <;> decide
theorem tx_cat (a b : List UInt8) : tx a ++ tx b = tx (a ++ b) := by
  apply ByteArray.ext
  simp [tx, ByteArray.data_append]
theorem esc_size (l : List UInt8) (h : l.length ≤ 60) : (tx (escL l)).size ≤ 120 := by rw [tx_len]; have := escL_le l; omega
theorem wf_third {a : Int} (h : (Lit.int .u8 a).wf = true) : 0 ≤ a ∧ a ≤ 255 := by simpa [Lit.wf, IntKind.min, IntKind.max, IntKind.signed, IntKind.bits] using h
theorem byte_in (c : UInt8) (W : World) (g : Nat) (h : W.cell? ⟨g, 0, none⟩ = some (.int .u8 (c.toNat : Int))) : (convert 22 9 (.slice (some ⟨g, 0, none⟩) 1 1)).run Tryd.prog W = .ok (.string (tx [c])) W :=
  run_convert_bytes_back (P := Tryd.prog) W 22 9 5 ⟨g, 0, none⟩ 1 [c] Tryd.underlying22 Tryd.underlying5 Tryd.underlying9 (fun j hj => by
    have : j = 0 := by simp at hj; omega
    subst this
    rw [Addr.add_lit, Nat.zero_add]
    exact h)
/-- Up to the stop. -/
theorem back_stop (l : List UInt8) (hl : plainL l = true) (hn : l.length ≤ 60) (x : UInt8) (hx : x ∈ three) (t : ByteArray) (ht : t.size ≤ 140737488355328) (w : World) :
    Calls Tryd.prog 11 #[.string (tx (escL l) ++ tx [x] ++ t), .string ⟨#[44, 61, 32]⟩] w fun e w' => e = .returned (.tuple #[.string (tx l), .string t, .int .u8 (x.toNat : Int), .int .i64 0]) ∧ Below w.heap.size w w' := by
  have hd : (tx (escL l) ++ tx [x] ++ t).data.toList = escL l ++ x :: t.data.toList := by rw [cat_list, cat_list, list_tx, list_tx]; simp
  have h9 : (92 : UInt8) ∉ three := by decide
  have hsz := esc_size l hn
  have h := cut_ok (tx (escL l) ++ tx [x] ++ t) ⟨#[44, 61, 32]⟩ (by rw [ByteArray.size_append, ByteArray.size_append, tx_len [x]]; simp only [List.length_singleton]; omega) (by decide)
    (by rw [hd, show (⟨#[44, 61, 32]⟩ : ByteArray).data.toList = three from rfl, gone_esc three three_esc h9 _ l hl, gone_stop three x hx]; omega) w
  rw [hd, show (⟨#[44, 61, 32]⟩ : ByteArray).data.toList = three from rfl, cut_esc_stop three three_esc h9 x hx l _ hl] at h
  rw [show cutV (some (l, t.data.toList, some x)) = .tuple #[.string (tx l), .string (tx t.data.toList), .int .u8 (x.toNat : Int), .int .i64 0] from rfl, tx_list] at h
  exact h
theorem back_end (l : List UInt8) (hl : plainL l = true) (hn : l.length ≤ 60) (w : World) :
    Calls Tryd.prog 11 #[.string (tx (escL l)), .string ⟨#[44, 61, 32]⟩] w fun e w' => e = .returned (.tuple #[.string (tx l), .string ⟨#[]⟩, .int .u8 0, .int .i64 0]) ∧ Below w.heap.size w w' := by
  have h9 : (92 : UInt8) ∉ three := by decide
  have hsz := esc_size l hn
  have h := cut_ok (tx (escL l)) ⟨#[44, 61, 32]⟩ (by omega) (by decide)
    (by rw [list_tx, show (⟨#[44, 61, 32]⟩ : ByteArray).data.toList = three from rfl]; have := goneL_le three (escL l); have := escL_le l; omega) w
  rw [list_tx, show (⟨#[44, 61, 32]⟩ : ByteArray).data.toList = three from rfl, cut_esc_end three three_esc h9 l hl] at h
  exact h

set_option maxRecDepth 100000 in
set_option maxHeartbeats 8000000 in
theorem LexBack_walk (s : ByteArray) (hs : s.size ≤ maxLen) (hs2 : s.size ≤ 140737488355328) (t : ByteArray) (ht : t.size ≤ maxLen) (ht2 : t.size ≤ 140737488355328) (b : Int) (hb : (Lit.int .u8 b).wf = true) (w : World) :
    Calls Tryd.prog 4 #[.string s, .string t, .int .u8 b] w fun e w' => e = .returned (.bool true) ∧ Below w.heap.size w w' := by
  obtain ⟨hb0, hb1⟩ := wf_third hb
  have hw := fun w => word_ok s hs w
  have hlp := wordL_plain s.data.toList
  have hln := wordL_len s.data.toList
  generalize wordL s.data.toList = l at hw hlp hln
  have he := fun w => escape_ok (tx l) (by rw [tx_len]; omega) w
  rw [list_tx] at he
  have hend := fun w => back_end l hlp hln w
  have hE := esc_size l hln
  have hEl : ((tx l).size : Int) ≤ ((tx (escL l)).size : Int) := by rw [tx_len, tx_len]; have := escL_len l; omega
  have hex := fun w => ex_ok w
  clear hs hs2 ht hb
  obtain ⟨r, h3, hr⟩ : ∃ r : Nat, b % 3 = (r : Int) ∧ r < 3 := ⟨(b % 3).toNat, by omega, by omega⟩
  have hst0 := Lib.hid (fun x hx w => back_stop l hlp hln x hx t ht2 w)
  generalize tx (escL l) = E at *
  generalize tx l = W at *
  clear hlp hln
  go_enter Tryd.func4, Tryd.ntmps4
  go_wp2_with fail
  refine (hex _).mono ?_
  rintro e w1 ⟨rfl, hB1⟩
  go_wp2_with fail
  refine (hw _).mono ?_
  rintro e w2 ⟨rfl, hB2⟩
  have hB := hB1.trans (hB2.mono hB1.size)
  clear hB1 hB2
  go_wp2_with fail
  generalize hx : (⟨#[44, 61, 32]⟩ : ByteArray)[r] = x
  have hx3 : x ∈ three := by
    rw [← hx]
    have : r = 0 ∨ r = 1 ∨ r = 2 := by omega
    rcases this with rfl | rfl | rfl
    · show (44 : UInt8) ∈ three; decide
    · show (61 : UInt8) ∈ three; decide
    · show (32 : UInt8) ∈ three; decide
  have hst := hst0.out x hx3
  have one := fun W g => byte_in x W g
  clear hst0 hx hx3
  have hM : (tx [x]).size = 1 := by rw [tx_len]; rfl
  generalize tx [x] = M at *
  generalize (x.toNat : Int) = n at *
  have z1 : (9223372036854775807 < E.size + M.size) = False := eq_false (by omega)
  have z2 : (9223372036854775807 < E.size + M.size + t.size) = False := eq_false (by omega)
  clear hM hE ht2 h3
  go_region_with (first
    | (refine (he _).mono ?_; rintro e w3 ⟨rfl, hB3⟩; have y := fun h => hB3.cell (p := ⟨w2.heap.size, 0, none⟩) h; simp at y)
    | (refine (hst _).mono ?_; rintro e w4 ⟨rfl, hB4⟩))
  all_goals
    have hW : Below w.heap.size w w4 := by
      first
        | (have hA1 : Below w.heap.size w w3 := hB.drew.trans (hB3.mono (by simpa using hB.size))
           exact (hA1.alloc hA1.size _).trans (hB4.mono (by have := hA1.size; simp; omega)))
        | (have hA1 := (hB.drew.alloc (by simpa using hB.size) _).trans (hB3.mono (by have := hB.size; simp; omega))
           exact hA1.trans (hB4.mono hA1.size))
    clear hB hB3 hB4 y one hst z1 z2
    go_wp2_with fail
    refine (he _).mono ?_
    rintro e w5 ⟨rfl, hB5⟩
    have hW5 := hW.trans (hB5.mono hW.size)
    clear hW hB5
    go_wp2_with fail
    refine (hend _).mono ?_
    rintro e w6 ⟨rfl, hB6⟩
    have hW6 := hW5.trans (hB6.mono hW5.size)
    clear hW5 hB6
    go_wp2_with fail
    refine (he _).mono ?_
    rintro e w7 ⟨rfl, hB7⟩
    have hW7 := hW6.trans (hB7.mono hW6.size)
    clear hW6 hB7
    go_wp2
    go_ret
    exact ⟨rfl, hW7⟩
end Go.Proofs.YtekpjcdnmidgiaaDoor
