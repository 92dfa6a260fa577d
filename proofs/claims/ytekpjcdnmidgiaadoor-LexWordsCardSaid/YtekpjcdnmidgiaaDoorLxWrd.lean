/- LexWords: words that are escaped, with a stop between each two, are cut one behind the other, each as it was. -/
import Derived.Test.YtekpjcdnmidgiaaDoorLxOpen
import Derived.Test.YtekpjcdnmidgiaaDoorLxBak
namespace Go.Proofs.YtekpjcdnmidgiaaDoor
open Go Go.RowKit

/-- Words that are escaped, with a stop between each two. -/
def allL (x : UInt8) : List (List UInt8) → List UInt8
  | [] => []
  | [w] => escL w
  | w :: v :: r => escL w ++ x :: allL x (v :: r)
theorem all_snoc (x : UInt8) (w : List UInt8) : ∀ ws : List (List UInt8), ws ≠ [] → allL x (ws ++ [w]) = allL x ws ++ x :: escL w
  | [], h => absurd rfl h
  | [v], _ => rfl
  | v :: u :: r, _ => by
    have ih := all_snoc x w (u :: r) (by simp)
    simp only [List.cons_append] at ih ⊢
    rw [allL, ih, allL]
    simp
/-- What a list of the laws' words is. -/
def Words (ws : List (List UInt8)) : Prop := ∀ w ∈ ws, plainL w = true ∧ w.length ≤ 60
theorem Words.drop {ws : List (List UInt8)} (h : Words ws) (k : Nat) : Words (ws.drop k) := fun w hw => h w (List.mem_of_mem_drop hw)
theorem Words.snoc {ws : List (List UInt8)} (h : Words ws) {w : List UInt8} (h1 : plainL w = true) (h2 : w.length ≤ 60) : Words (ws ++ [w]) := fun v hv => by
  rcases List.mem_append.1 hv with hv | hv
  · exact h v hv
  · obtain rfl : v = w := by simpa using hv
    exact ⟨h1, h2⟩
section
variable {x : UInt8} (hx : x ∈ three)
include hx
theorem one_esc : ∀ b, b ∈ [x] → esc4 b = true := fun b hb => by
  obtain rfl : b = x := by simpa using hb
  exact three_esc _ hx
theorem one_92 : (92 : UInt8) ∉ [x] := fun h => by
  obtain rfl : (92 : UInt8) = x := by simpa using h
  exact absurd hx (by decide)
/-- One word is cut off. -/
theorem words_cut {w : List UInt8} {r : List (List UInt8)} (hw : plainL w = true) (hl : w.length ≤ 60) (hs : (allL x (w :: r)).length ≤ 9223372036854775806) (W : World) :
    Calls Tryd.prog 11 #[.string (tx (allL x (w :: r))), .string (tx [x])] W fun e w' => e = .returned (.tuple #[.string (tx w), .string (tx (allL x r)), .int .u8 (if r = [] then 0 else (x.toNat : Int)), .int .i64 0]) ∧ Below W.heap.size W w' := by
  cases r with
  | nil =>
    have h := cut_ok (tx (escL w)) (tx [x]) (by rw [tx_len]; have := escL_le w; omega) (by rw [list_tx]; exact one_92 hx)
      (by rw [list_tx, list_tx]; have := goneL_le [x] (escL w); have := escL_le w; omega) W
    rw [list_tx, list_tx, cut_esc_end [x] (one_esc hx) (one_92 hx) w hw] at h
    exact h
  | cons v r =>
    have h := cut_ok (tx (allL x (w :: v :: r))) (tx [x]) (by rw [tx_len]; exact hs) (by rw [list_tx]; exact one_92 hx)
      (by rw [list_tx, list_tx, show allL x (w :: v :: r) = escL w ++ x :: allL x (v :: r) from rfl, gone_esc [x] (one_esc hx) (one_92 hx) _ w hw, gone_stop [x] x (by simp)]; omega) W
    rw [list_tx, list_tx, show allL x (w :: v :: r) = escL w ++ x :: allL x (v :: r) from rfl, cut_esc_stop [x] (one_esc hx) (one_92 hx) x (by simp) w _ hw] at h
    rw [if_neg (by simp)]
    exact h
end
theorem all_le (x : UInt8) (w : List UInt8) (r : List (List UInt8)) : (allL x r).length ≤ (allL x (w :: r)).length := by
  cases r with
  | nil => simp [allL]
  | cons v r => rw [show allL x (w :: v :: r) = escL w ++ x :: allL x (v :: r) from rfl, List.length_append, List.length_cons]; omega
theorem own_tx {B : Nat} {v : Value} {ws : List (List UInt8)} {w : World} (h : OwnS B v ws w) (hw : Words ws) : ∃ p cap, v = .slice p ws.length cap ∧ ws.length ≤ cap ∧ Tx p (ws.map tx) w := by
  by_cases h0 : ws.length = 0
  · obtain rfl : ws = [] := List.eq_nil_of_length_eq_zero h0
    rcases h.2 with ⟨rfl, _⟩ | ⟨g, cap, cur, rfl, _, _, hn, _⟩
    · exact ⟨none, 0, rfl, Nat.le_refl _, fun k hk => by simp at hk⟩
    · exact ⟨_, cap, rfl, hn, fun k hk => by simp at hk⟩
  · obtain ⟨g, cap, rfl, _, hg, hcap, hc⟩ := strs_at h (by omega)
    refine ⟨some ⟨g, 0, none⟩, cap, rfl, hcap, fun k hk => ?_⟩
    rw [List.length_map] at hk
    refine ⟨g, 0, rfl, hg, ?_, ?_⟩
    · rw [Nat.zero_add, hc k hk, List.getElem_map]
    · rw [List.getElem_map, tx_len]
      have := (hw ws[k] (List.getElem_mem hk)).2
      unfold maxLen
      omega

set_option maxRecDepth 100000 in
set_option maxHeartbeats 8000000 in
theorem LexWords_walk (p : Option Addr) (l : List ByteArray) (cap : Nat) (hl : l.length ≤ cap) (hm : cap ≤ maxLen) (b : Int) (hb : (Lit.int .u8 b).wf = true) (w : World) (hT : Tx p l w) :
    Calls Tryd.prog 7 #[.slice p l.length cap, .int .u8 b] w fun e w' => e = .returned (.bool true) ∧ Below w.heap.size w w' := by
  unfold maxLen at hm
  obtain ⟨hb0, hb1⟩ := wf_third hb
  obtain ⟨r, h3, hr⟩ : ∃ r : Nat, b % 3 = (r : Int) ∧ r < 3 := ⟨(b % 3).toNat, by omega, by omega⟩
  have hex := fun w => ex_ok w
  have HT := Lib.hid hT
  obtain ⟨n, hn⟩ : ∃ n, l.length = n := ⟨_, rfl⟩
  rw [hn] at hl ⊢
  have HN := Lib.hid hn
  clear hT hn
  go_enter Tryd.func7, Tryd.ntmps7
  go_wp2_with fail
  refine (hex _).mono ?_
  rintro e w1 ⟨rfl, hB1⟩
  have HB1 := Lib.hid hB1
  clear hB1 hex
  go_wp2
  generalize hx : (⟨#[44, 61, 32]⟩ : ByteArray)[r] = x
  have hx3 : x ∈ three := by
    rw [← hx]
    have : r = 0 ∨ r = 1 ∨ r = 2 := by omega
    rcases this with rfl | rfl | rfl
    · show (44 : UInt8) ∈ three; decide
    · show (61 : UInt8) ∈ three; decide
    · show (32 : UInt8) ∈ three; decide
  clear hx
  have one := fun w => one_byte x w
  have hx0 : ((0 : Int) == (x.toNat : Int)) = false := by
    simp only [three, List.mem_cons, List.not_mem_nil, or_false] at hx3
    rcases hx3 with rfl | rfl | rfl <;> decide
  have hM : (tx [x]).size = 1 := by rw [tx_len]; rfl
  go_loopg [7, 8, 9] 6 (fun g s7 s8 s9 wx => ∃ (k : Nat) (ws : List (List UInt8)), s9 = .int .i64 (k : Int) ∧ s7 = .string (tx (allL x ws)) ∧ g + k = 6 ∧ k ≤ n ∧ ws.length = k ∧ (allL x ws).length ≤ 121 * k ∧ Hid (Words ws) ∧ Hid (GrewS w1.heap.size (.slice none 0 0) ws w1 s8 wx))
  case atStart => exact ⟨0, [], rfl, rfl, rfl, Nat.zero_le _, rfl, Nat.zero_le _, Lib.hid (fun _ h => by cases h), Lib.hid (GrewS.refl (OwnS.nil _ _))⟩
  case round =>
    obtain ⟨k, ws, rfl, rfl, hgk, hkn, hwl, has, HW, HG⟩ := hrel
    have hsz := HG.out.2.1.size
    have hlow := HG.out.low (N := w1.heap.size) (by intro g hg; cases hg) (Nat.le_refl _)
    have hB := HB1.out.trans (hlow.mono HB1.out.size)
    by_cases hgo : k < n ∧ k < 6
    · obtain ⟨hk1, hk2⟩ := hgo
      have hkl : k < l.length := by rw [HN.out]; exact hk1
      obtain ⟨C, off, rfl, hcell, hls⟩ := HT.out.at_ hB hkl
      have hw := fun w => word_ok l[k] hls w
      have hWp := wordL_plain l[k].data.toList
      have hWl := wordL_len l[k].data.toList
      generalize wordL l[k].data.toList = W at hw hWp hWl
      have he := fun w => escape_ok (tx W) (by rw [tx_len]; omega) w
      rw [list_tx] at he
      have hEs := esc_size W hWl
      have hEL := escL_le W
      have HW2 := Lib.hid (HW.out.snoc hWp hWl)
      have hcl := fun (W' : World) (h : Below w.heap.size w W') => HT.out.at_ h hkl
      generalize l[k] = X at hcell hw hcl
      clear hls hkl
      by_cases hk0 : k = 0
      · subst hk0
        rw [Nat.add_zero] at hcell
        obtain rfl : ws = [] := List.eq_nil_of_length_eq_zero hwl
        have z1 : (9223372036854775807 < (tx (allL x [])).size + (tx (escL W)).size) = False := eq_false (by rw [tx_len]; simp [allL]; omega)
        have hA : Hid (tx (allL x ([] ++ [W])) = tx (allL x []) ++ tx (escL W)) := Lib.hid (by rw [tx_cat]; rfl)
        have hAl : (allL x ([] ++ [W])).length ≤ 121 * (0 + 1) := by show (escL W).length ≤ _; omega
        generalize hAe : tx (allL x []) = A at *
        generalize tx (escL W) = E at *
        generalize hMx : tx W = M2 at *
        have z0 := hB.size
        go_wp2_with fail
        refine (hw _).mono ?_
        rintro e w2 ⟨rfl, hB2⟩
        have hB3 := hB.trans (hB2.mono z0)
        go_wp2_with fail
        refine (he _).mono ?_
        rintro e w3 ⟨rfl, hB4⟩
        have hB5 := hB3.trans (hB4.mono hB3.size)
        obtain ⟨C2, off2, heq, hcell2, _⟩ := hcl _ hB5
        obtain ⟨rfl, rfl⟩ : C = C2 ∧ off = off2 := by simpa using heq
        rw [Nat.add_zero] at hcell2
        have HG2 := Lib.hid ((HG.out.past hB2).past hB4)
        clear hB2 hB3 hB4 heq
        go_wp2_with fail
        refine (hw _).mono ?_
        rintro e w4 ⟨rfl, hB6⟩
        have HG3 := Lib.hid (HG2.out.past hB6)
        obtain ⟨v5, w5, hr5, hG5⟩ := append_text 31 HG3.out.1 W (by simp) HG3.out.2.1.size
        rw [hMx] at hr5
        have HG5 := Lib.hid (HG3.out.trans hG5)
        clear HG HG2 HG3 hG5 hB6 hw he hcl
        go_wp2_with (at_builtin; refine Lib.wpList_append_run _ rfl _ _ _ _ rfl _ _ rfl rfl _ _ hr5 ?_)
        go_roundg (6 - (0 + 1))
        case measure => omega
        case rel => exact ⟨0 + 1, [] ++ [W], by go_num, by rw [hA.out], by omega, by omega, by simp, hAl, HW2, HG5⟩
      · have hws : ws ≠ [] := by intro e; rw [e] at hwl; simp at hwl; omega
        have z1 : (9223372036854775807 < (tx (allL x ws)).size + (tx [x]).size) = False := eq_false (by rw [hM, tx_len]; omega)
        have z2 : (9223372036854775807 < (tx (allL x ws)).size + (tx [x]).size + (tx (escL W)).size) = False := eq_false (by rw [hM, tx_len]; omega)
        have hA : Hid (tx (allL x (ws ++ [W])) = tx (allL x ws) ++ tx [x] ++ tx (escL W)) := Lib.hid (by rw [tx_cat, tx_cat, all_snoc x W ws hws]; simp)
        have hAl : (allL x (ws ++ [W])).length ≤ 121 * (k + 1) := by rw [all_snoc x W ws hws, List.length_append, List.length_cons]; omega
        have hkp : (0 : Int) < (k : Int) := by omega
        generalize hAe : tx (allL x ws) = A at *
        generalize tx (escL W) = E at *
        generalize tx [x] = M at *
        generalize (x.toNat : Int) = xn at *
        generalize hMx : tx W = M2 at *
        have onew := one wr
        clear hM
        have hB0 := hB.alloc hB.size (.cells #[.int .u8 xn] 5)
        have HG0 := HG.out.past ((Below.refl wr.heap.size wr).alloc (Nat.le_refl _) (.cells #[.int .u8 xn] 5))
        obtain ⟨C1, off1, heq1, hcell1, _⟩ := hcl _ hB0
        obtain ⟨rfl, rfl⟩ : C = C1 ∧ off = off1 := by simpa using heq1
        clear heq1 hcell
        go_wp2_with fail
        refine (hw _).mono ?_
        rintro e w2 ⟨rfl, hB2⟩
        have hB3 := hB0.trans (hB2.mono hB0.size)
        go_wp2_with fail
        refine (he _).mono ?_
        rintro e w3 ⟨rfl, hB4⟩
        have hB5 := hB3.trans (hB4.mono hB3.size)
        obtain ⟨C2, off2, heq, hcell2, _⟩ := hcl _ hB5
        obtain ⟨rfl, rfl⟩ : C = C2 ∧ off = off2 := by simpa using heq
        have HG2 := Lib.hid ((HG0.past hB2).past hB4)
        clear hB2 hB3 hB4 heq HG0 onew hB0 hcell1
        go_wp2_with fail
        refine (hw _).mono ?_
        rintro e w4 ⟨rfl, hB6⟩
        have HG3 := Lib.hid (HG2.out.past hB6)
        obtain ⟨v5, w5, hr5, hG5⟩ := append_text 31 HG3.out.1 W (by omega) HG3.out.2.1.size
        rw [hMx] at hr5
        have HG5 := Lib.hid (HG3.out.trans hG5)
        clear HG HG2 HG3 hG5 hB6 hw he hcl
        go_wp2_with (at_builtin; refine Lib.wpList_append_run _ rfl _ _ _ _ rfl _ _ rfl rfl _ _ hr5 ?_)
        go_roundg (6 - (k + 1))
        case measure => omega
        case rel => exact ⟨k + 1, ws ++ [W], by go_num, by rw [hA.out], by omega, by omega, by rw [List.length_append, List.length_singleton]; omega, hAl, HW2, HG5⟩
    · have hend : (((k : Int) < (n : Int)) = False) ∨ ((k : Int) < (n : Int) ∧ ((k : Int) < 6) = False) := by
        by_cases h1 : k < n
        · exact .inr ⟨by omega, eq_false (by omega)⟩
        · exact .inl (eq_false (by omega))
      obtain ⟨q, cq, rfl, hcq, hTx⟩ := own_tx HG.out.1 HW.out
      have HTx := Lib.hid hTx
      have HBx := Lib.hid hB
      have has2 : (allL x ws).length ≤ 726 := by omega
      have hM2 := hM
      have hn6 : ws.length ≤ 6 := by omega
      subst hwl
      clear hgo hTx hlow hB hsz HG hM HN HT hl has hgk hkn
      rcases hend with h1 | ⟨h1, h2⟩
      · skip
        go_wp2
        clear h1
        go_loopg [7, 10] ws.length (fun g s7 s10 wx => ∃ j : Nat, s10 = .int .i64 (j : Int) ∧ g + j = ws.length ∧ s7 = .string (tx (allL x (ws.drop j))) ∧ (allL x (ws.drop j)).length ≤ 726 ∧ Hid (Below wr.heap.size wr wx))
        case atStart => exact ⟨0, rfl, rfl, by rw [List.drop_zero], by rw [List.drop_zero]; exact has2, Lib.hid (Below.refl _ _)⟩
        case round =>
          obtain ⟨j, rfl, hgj, rfl, hal, HV⟩ := hrel
          by_cases hj : j < ws.length
          · obtain ⟨c, rr, hcr, hcj⟩ : ∃ c rr, ws.drop j = c :: rr ∧ ws[j] = c := ⟨ws[j], ws.drop (j + 1), List.drop_eq_getElem_cons hj, rfl⟩
            have hrr : ws.drop (j + 1) = rr := by rw [List.drop_eq_getElem_cons hj] at hcr; exact (List.cons.injEq _ _ _ _ ▸ hcr).2
            have hcw : plainL c = true ∧ c.length ≤ 60 := HW.out c (by rw [← hcj]; exact List.getElem_mem hj)
            have hcut := fun W => words_cut hx3 (w := c) (r := rr) hcw.1 hcw.2 (by rw [← hcr]; omega) W
            obtain ⟨C, off, rfl, hcell, _⟩ := HTx.out.at_ HV.out (k := j) (by rw [List.length_map]; exact hj)
            rw [List.getElem_map, hcj] at hcell
            have hal2 : (allL x (ws.drop (j + 1))).length ≤ 726 := by
              rw [hrr]
              have := all_le x c rr
              rw [← hcr] at this
              omega
            have hO := HV.out.size
            have onew := one wr
            have hB4 := HV.out.alloc HV.out.size (.cells #[.int .u8 (x.toNat : Int)] 5)
            obtain ⟨C4, off4, heq4, hcell4, _⟩ := HTx.out.at_ (w' := wr.alloc (.cells #[.int .u8 (x.toNat : Int)] 5)) hB4 (k := j) (by rw [List.length_map]; exact hj)
            obtain ⟨rfl, rfl⟩ : C = C4 ∧ off = off4 := by simpa using heq4
            rw [hcr]
            have hlr : ws.length = j + 1 + rr.length := by
              have := congrArg List.length hcr
              rw [List.length_drop, List.length_cons] at this
              omega
            have HTc := fun W' h => HTx.out.at_ (w' := W') h (k := j) (by rw [List.length_map]; exact hj)
            simp only [List.getElem_map, hcj] at HTc
            clear hcell hcell4 heq4 hcj hcr HW
            cases rr with
            | nil =>
              rw [if_pos rfl] at hcut
              have hlast : ((j : Int) + 1 < (ws.length : Int)) = False := eq_false (by simp at hlr; omega)
              have HR := Lib.hid hrr
              clear hrr hlr hx3 hcw
              generalize tx (allL x [c]) = A at *
              generalize hE : tx (allL x []) = A2 at *
              generalize tx c = M2 at *
              generalize tx [x] = M at *
              generalize hxn : (x.toNat : Int) = xn at *
              go_wp2_with fail
              refine (hcut _).mono ?_
              rintro e w7 ⟨rfl, hB7⟩
              have hB8 := hB4.trans (hB7.mono hB4.size)
              obtain ⟨C5, off5, heq5, hcell5, _⟩ := HTc w7 hB8
              obtain ⟨rfl, rfl⟩ : C = C5 ∧ off = off5 := by simpa using heq5
              have HB8 := Lib.hid hB8
              clear hB7 hcut onew hB4 HTc heq5 hB8
              go_wp2
              go_roundg (ws.length - (j + 1))
              case measure => omega
              case rel => exact ⟨j + 1, by go_num, by omega, by rw [HR.out, hE], hal2, HB8⟩
            | cons c2 r2 =>
              rw [if_neg (by simp)] at hcut
              have hnext : (j : Int) + 1 < (ws.length : Int) := by simp at hlr; omega
              have HR := Lib.hid hrr
              clear hrr hlr hx3 hcw
              generalize tx (allL x (c :: c2 :: r2)) = A at *
              generalize hE : tx (allL x (c2 :: r2)) = A2 at *
              generalize tx c = M2 at *
              generalize tx [x] = M at *
              generalize hxn : (x.toNat : Int) = xn at *
              go_wp2_with fail
              refine (hcut _).mono ?_
              rintro e w7 ⟨rfl, hB7⟩
              have hB8 := hB4.trans (hB7.mono hB4.size)
              obtain ⟨C5, off5, heq5, hcell5, _⟩ := HTc w7 hB8
              obtain ⟨rfl, rfl⟩ : C = C5 ∧ off = off5 := by simpa using heq5
              have HB8 := Lib.hid hB8
              clear hB7 hcut onew hB4 HTc heq5 hB8
              go_wp2
              go_roundg (ws.length - (j + 1))
              case measure => omega
              case rel => exact ⟨j + 1, by go_num, by omega, by rw [HR.out, hE], hal2, HB8⟩
          · obtain rfl : j = ws.length := by omega
            have hB2 := HBx.out.trans (HV.out.mono HBx.out.size)
            have he : tx (allL x (ws.drop ws.length)) = ⟨#[]⟩ := by rw [List.drop_length]; rfl
            rw [he]
            clear HV HBx
            go_wp2
            go_ret
            exact ⟨rfl, hB2⟩
      · skip
        go_wp2
        clear h1 h2
        go_loopg [7, 10] ws.length (fun g s7 s10 wx => ∃ j : Nat, s10 = .int .i64 (j : Int) ∧ g + j = ws.length ∧ s7 = .string (tx (allL x (ws.drop j))) ∧ (allL x (ws.drop j)).length ≤ 726 ∧ Hid (Below wr.heap.size wr wx))
        case atStart => exact ⟨0, rfl, rfl, by rw [List.drop_zero], by rw [List.drop_zero]; exact has2, Lib.hid (Below.refl _ _)⟩
        case round =>
          obtain ⟨j, rfl, hgj, rfl, hal, HV⟩ := hrel
          by_cases hj : j < ws.length
          · obtain ⟨c, rr, hcr, hcj⟩ : ∃ c rr, ws.drop j = c :: rr ∧ ws[j] = c := ⟨ws[j], ws.drop (j + 1), List.drop_eq_getElem_cons hj, rfl⟩
            have hrr : ws.drop (j + 1) = rr := by rw [List.drop_eq_getElem_cons hj] at hcr; exact (List.cons.injEq _ _ _ _ ▸ hcr).2
            have hcw : plainL c = true ∧ c.length ≤ 60 := HW.out c (by rw [← hcj]; exact List.getElem_mem hj)
            have hcut := fun W => words_cut hx3 (w := c) (r := rr) hcw.1 hcw.2 (by rw [← hcr]; omega) W
            obtain ⟨C, off, rfl, hcell, _⟩ := HTx.out.at_ HV.out (k := j) (by rw [List.length_map]; exact hj)
            rw [List.getElem_map, hcj] at hcell
            have hal2 : (allL x (ws.drop (j + 1))).length ≤ 726 := by
              rw [hrr]
              have := all_le x c rr
              rw [← hcr] at this
              omega
            have hO := HV.out.size
            have onew := one wr
            have hB4 := HV.out.alloc HV.out.size (.cells #[.int .u8 (x.toNat : Int)] 5)
            obtain ⟨C4, off4, heq4, hcell4, _⟩ := HTx.out.at_ (w' := wr.alloc (.cells #[.int .u8 (x.toNat : Int)] 5)) hB4 (k := j) (by rw [List.length_map]; exact hj)
            obtain ⟨rfl, rfl⟩ : C = C4 ∧ off = off4 := by simpa using heq4
            rw [hcr]
            have hlr : ws.length = j + 1 + rr.length := by
              have := congrArg List.length hcr
              rw [List.length_drop, List.length_cons] at this
              omega
            have HTc := fun W' h => HTx.out.at_ (w' := W') h (k := j) (by rw [List.length_map]; exact hj)
            simp only [List.getElem_map, hcj] at HTc
            clear hcell hcell4 heq4 hcj hcr HW
            cases rr with
            | nil =>
              rw [if_pos rfl] at hcut
              have hlast : ((j : Int) + 1 < (ws.length : Int)) = False := eq_false (by simp at hlr; omega)
              have HR := Lib.hid hrr
              clear hrr hlr hx3 hcw
              generalize tx (allL x [c]) = A at *
              generalize hE : tx (allL x []) = A2 at *
              generalize tx c = M2 at *
              generalize tx [x] = M at *
              generalize hxn : (x.toNat : Int) = xn at *
              go_wp2_with fail
              refine (hcut _).mono ?_
              rintro e w7 ⟨rfl, hB7⟩
              have hB8 := hB4.trans (hB7.mono hB4.size)
              obtain ⟨C5, off5, heq5, hcell5, _⟩ := HTc w7 hB8
              obtain ⟨rfl, rfl⟩ : C = C5 ∧ off = off5 := by simpa using heq5
              have HB8 := Lib.hid hB8
              clear hB7 hcut onew hB4 HTc heq5 hB8
              go_wp2
              go_roundg (ws.length - (j + 1))
              case measure => omega
              case rel => exact ⟨j + 1, by go_num, by omega, by rw [HR.out, hE], hal2, HB8⟩
            | cons c2 r2 =>
              rw [if_neg (by simp)] at hcut
              have hnext : (j : Int) + 1 < (ws.length : Int) := by simp at hlr; omega
              have HR := Lib.hid hrr
              clear hrr hlr hx3 hcw
              generalize tx (allL x (c :: c2 :: r2)) = A at *
              generalize hE : tx (allL x (c2 :: r2)) = A2 at *
              generalize tx c = M2 at *
              generalize tx [x] = M at *
              generalize hxn : (x.toNat : Int) = xn at *
              go_wp2_with fail
              refine (hcut _).mono ?_
              rintro e w7 ⟨rfl, hB7⟩
              have hB8 := hB4.trans (hB7.mono hB4.size)
              obtain ⟨C5, off5, heq5, hcell5, _⟩ := HTc w7 hB8
              obtain ⟨rfl, rfl⟩ : C = C5 ∧ off = off5 := by simpa using heq5
              have HB8 := Lib.hid hB8
              clear hB7 hcut onew hB4 HTc heq5 hB8
              go_wp2
              go_roundg (ws.length - (j + 1))
              case measure => omega
              case rel => exact ⟨j + 1, by go_num, by omega, by rw [HR.out, hE], hal2, HB8⟩
          · obtain rfl : j = ws.length := by omega
            have hB2 := HBx.out.trans (HV.out.mono HBx.out.size)
            have he : tx (allL x (ws.drop ws.length)) = ⟨#[]⟩ := by rw [List.drop_length]; rfl
            rw [he]
            clear HV HBx
            go_wp2
            go_ret
            exact ⟨rfl, hB2⟩
end Go.Proofs.YtekpjcdnmidgiaaDoor
