/- What the laws use: a word that is plain; a text behind a row of texts; whether two lists are the same. -/
import Derived.Test.YtekpjcdnmidgiaaDoorLxX
import Derived.BigQuiet
namespace Go.Proofs.YtekpjcdnmidgiaaDoor
open Go Go.RowKit

/-- A word of the laws: what is plain of the first sixty bytes. -/
def wordL (l : List UInt8) : List UInt8 := keepL (l.take 60)
theorem wordL_plain (l : List UInt8) : plainL (wordL l) = true := keepL_plain _
theorem wordL_len (l : List UInt8) : (wordL l).length ≤ 60 := by
  unfold wordL keepL
  exact Nat.le_trans (List.length_filter_le _ _) (List.length_take_le _ _)
theorem keep_snoc (l : List UInt8) (b : UInt8) : keepL (l ++ [b]) = if okB b then keepL l ++ [b] else keepL l := by
  unfold keepL
  rw [List.filter_append]
  by_cases h : okB b = true
  · rw [if_pos h]; simp [h]
  · have h : okB b = false := by simpa using h
    rw [h]; simp [h]

set_option maxRecDepth 100000 in
set_option maxHeartbeats 4000000 in
theorem word_ok (s : ByteArray) (hs : s.size ≤ maxLen) (w : World) : Calls Tryd.prog 20 #[.string s] w fun e w' => e = .returned (.string (tx (wordL s.data.toList))) ∧ Below w.heap.size w w' := by
  unfold maxLen at hs
  have G0 := Lib.hid (Grew.refl (OwnB.nil w.heap.size w))
  go_enter Tryd.func20, Tryd.ntmps20
  go_wp2
  go_loopg [3, 4] 60 (fun g s3 s4 wx => ∃ k : Nat, s4 = .int .i64 (k : Int) ∧ g + k = 60 ∧ k ≤ s.size ∧ ∃ A, Hid (A = keepL (s.data.toList.take k)) ∧ A.length ≤ k ∧ Hid (Grew w.heap.size (.slice none 0 0) A w s3 wx))
  case atStart => exact ⟨0, rfl, rfl, Nat.zero_le _, [], Lib.hid rfl, Nat.le_refl _, G0⟩
  case round =>
    clear G0
    obtain ⟨k, rfl, hgk, hks, A, HA, hAl, HG⟩ := hrel
    have hsz := HG.out.2.1.size
    have hB := HG.out.below (N := w.heap.size) (by intro g hg; cases hg) (Nat.le_refl _)
    have fin : (k = s.size ∨ k = 60) → A = wordL s.data.toList := fun h => by
      rw [HA.out, wordL]
      rcases h with rfl | rfl
      · rw [List.take_of_length_le (by rw [size_list]; exact Nat.le_refl _), List.take_of_length_le (by rw [size_list]; omega)]
      · rfl
    by_cases hlt : k < s.size
    · by_cases h60 : k < 60
      · have ht := take_at hlt
        have hn := okB_nat s[k]
        have hks2 := keep_snoc (s.data.toList.take k) s[k]
        rw [← ht] at hks2
        clear ht fin hB
        by_cases h1 : 32 ≤ s[k].toNat
        · have h1' : (32 : Int) ≤ (s[k].toNat : Int) := by omega
          by_cases h2 : s[k].toNat = 127
          · have h2' : ((s[k].toNat : Int) != 127) = false := by rw [h2]; rfl
            rw [show okB s[k] = false by rw [hn]; simp [h2], if_neg (by decide)] at hks2
            have HK := Lib.hid (HA.out.trans hks2.symm)
            clear hn h2 hks2 HA
            go_wp2
            go_roundg (60 - (k + 1))
            case measure => omega
            case rel => exact ⟨k + 1, by go_num, by omega, by omega, A, HK, by omega, HG⟩
          · have h2' : ((s[k].toNat : Int) != 127) = true := by rw [bne_iff_ne]; omega
            rw [show okB s[k] = true by rw [hn]; simp [h1, h2], if_pos rfl] at hks2
            have HK : Hid (A ++ [s[k]] = keepL (s.data.toList.take (k + 1))) := Lib.hid (by rw [hks2, HA.out])
            obtain ⟨v2, w2, hr2, hG2⟩ := append_byte 22 HG.out.1 s[k] (by omega) hsz
            have HG' := Lib.hid (HG.out.trans hG2)
            clear hn h2 hks2 HA HG hG2
            go_wp2_with (at_builtin; refine Lib.wpList_append_run _ rfl _ _ _ _ rfl _ _ rfl rfl _ _ hr2 ?_)
            go_roundg (60 - (k + 1))
            case measure => omega
            case rel => exact ⟨k + 1, by go_num, by omega, by omega, _, HK, by rw [List.length_append, List.length_singleton]; omega, HG'⟩
        · have h1' : ((32 : Int) ≤ (s[k].toNat : Int)) = False := eq_false (by omega)
          rw [show okB s[k] = false by rw [hn]; simp [h1], if_neg (by decide)] at hks2
          have HK := Lib.hid (HA.out.trans hks2.symm)
          clear hn h1 hks2 HA
          go_wp2
          go_roundg (60 - (k + 1))
          case measure => omega
          case rel => exact ⟨k + 1, by go_num, by omega, by omega, A, HK, by omega, HG⟩
      · have hk : k = 60 := by omega
        have hcv := own_back HG.out.1
        rw [fin (.inr hk)] at hcv
        subst hk
        clear HA HG fin
        go_wp2
        go_ret
        exact ⟨rfl, hB⟩
    · have hk : k = s.size := by omega
      have hcv := own_back HG.out.1
      rw [fin (.inl hk)] at hcv
      subst hk
      clear HA HG fin
      go_wp2
      go_ret
      exact ⟨rfl, hB⟩

/-- What a row of texts with others behind it is. -/
def GrewS (B : Nat) (v : Value) (l : List (List UInt8)) (w : World) (v' : Value) (w' : World) : Prop :=
  OwnS B v' l w' ∧ Mov (fun j => v.ownBlock = some j) w w' ∧ ∀ g, v'.ownBlock = some g → v.ownBlock = some g ∨ w.heap.size ≤ g
theorem GrewS.refl {B : Nat} {v : Value} {l : List (List UInt8)} {w : World} (h : OwnS B v l w) : GrewS B v l w v w := ⟨h, Mov.refl _ _, fun _ hg => .inl hg⟩
theorem GrewS.trans {B : Nat} {v v' v'' : Value} {l m : List (List UInt8)} {w w' w'' : World} (h : GrewS B v l w v' w') (k : GrewS B v' m w' v'' w'') : GrewS B v m w v'' w'' :=
  ⟨k.1, h.2.1.trans k.2.1 (fun i hi hT => by
    rcases h.2.2 i hT with e | e
    · exact e
    · omega), fun g hg => by
    rcases k.2.2 g hg with e | e
    · exact h.2.2 g e
    · exact .inr (Nat.le_trans h.2.1.size e)⟩
theorem OwnS.below {B : Nat} {v : Value} {l : List (List UInt8)} {w w' : World} (h : OwnS B v l w) (hB : Below w.heap.size w w') : OwnS B v l w' := h.mov (Mov.of hB) fun g hg => by have := (h.lt hg).2; omega
theorem GrewS.past {B : Nat} {v v' : Value} {l : List (List UInt8)} {w w' w'' : World} (h : GrewS B v l w v' w') (hB : Below w'.heap.size w' w'') : GrewS B v l w v' w'' :=
  h.trans ⟨h.1.below hB, Mov.ofB hB, fun _ hg => .inl hg⟩
theorem GrewS.low {B N : Nat} {v v' : Value} {l : List (List UInt8)} {w w' : World} (h : GrewS B v l w v' w') (hv : ∀ g, v.ownBlock = some g → N ≤ g) (hN : N ≤ w.heap.size) : Below N w w' := h.2.1.below hv hN
/-- append of one text. -/
theorem append_text {B : Nat} {v : Value} {l : List (List UInt8)} {w : World} (ty : TypeId) (hO : OwnS B v l w) (x : List UInt8) (hlen : l.length + 1 ≤ 4398046511104) (hB : B ≤ w.heap.size) :
    ∃ v' w', (Builtin.append_ #[31, 31] ty #[v, .slice (some ⟨w.heap.size, 0, none⟩) 1 1]).run Tryd.prog (w.alloc (.cells #[.string (tx x)] 9)) = .ok v' w' ∧ GrewS B v (l ++ [x]) w v' w' := by
  obtain ⟨i, hi, hz0, hz1, hz2⟩ := info_parts info_str
  obtain ⟨v', w', h1, h2, h3, h4⟩ := run_append_at (P := Tryd.prog) (w.alloc (.cells #[.string (tx x)] 9)) B 31 ty 9 i (.string ⟨#[]⟩) 1 16 Tryd.underlying31 hi hz0 hz1 hz2 rfl (by decide) v l.length (strs l) (World.ownsRow.alloc hO _) ⟨w.heap.size, 0, none⟩ 1 1 (strs [x]) (by simp [strs]) (new_row (strs [x]) 9 w)
    (fun u hu => by obtain ⟨y, _, rfl⟩ := List.mem_map.1 hu; rfl) (by unfold maxLen; omega) (by omega) (by simp; omega)
  refine ⟨v', w', h1, ?_, ((Mov.refl _ _).alloc _).trans (Mov.grown h3) (fun _ _ h => h), fun g hg => (h4 g hg).imp id fun e => by simp at e; omega⟩
  unfold OwnS
  rw [List.length_append, show strs (l ++ [x]) = strs l ++ strs [x] from List.map_append]
  exact h2

set_option maxHeartbeats 4000000 in
/-- Two lists that are the same. -/
theorem same_ok {B C : Nat} {u v : Value} {l : List (List UInt8)} {w : World} (hl : l.length ≤ 4398046511104) (hu : OwnS B u l w) (hv : OwnS C v l w) :
    Calls Tryd.prog 13 #[u, v] w fun e w' => e = .returned (.bool true) ∧ Below w.heap.size w w' := by
  by_cases h0 : l.length = 0
  · obtain rfl : l = [] := List.eq_nil_of_length_eq_zero h0
    have form : ∀ {B : Nat} {u : Value}, OwnS B u [] w → ∃ p cap, u = .slice p 0 cap := fun h => by
      rcases h.2 with ⟨rfl, _⟩ | ⟨g, cap, cur, rfl, _⟩
      · exact ⟨_, _, rfl⟩
      · exact ⟨_, _, rfl⟩
    obtain ⟨p, cp, rfl⟩ := form hu
    obtain ⟨q, cq, rfl⟩ := form hv
    clear hu hv form hl h0
    go_enter Tryd.func13, Tryd.ntmps13
    go_wp2
    go_loopg [5] 1 (fun g s5 wx => s5 = .int .i64 0 ∧ wx = w)
    case atStart => exact ⟨rfl, rfl⟩
    case round =>
      obtain ⟨rfl, rfl⟩ := hrel
      go_wp2
      go_ret
      exact ⟨rfl, Below.refl _ _⟩
  · obtain ⟨g, cp, rfl, _, hg, hcp, hc⟩ := strs_at hu (by omega)
    obtain ⟨g2, cq, rfl, _, hg2, hcq, hd⟩ := strs_at hv (by omega)
    have HC := Lib.hid hc
    have HD := Lib.hid hd
    obtain ⟨n, hn⟩ : ∃ n, l.length = n := ⟨_, rfl⟩
    rw [hn] at hcp hcq hl h0 ⊢
    have HN := Lib.hid hn
    clear hu hv hc hd hn
    go_enter Tryd.func13, Tryd.ntmps13
    go_wp2
    go_loopg [5] n (fun g s5 wx => ∃ k : Nat, s5 = .int .i64 (k : Int) ∧ g + k = n ∧ Hid (Mov (fun _ => False) w wx))
    case atStart => exact ⟨0, rfl, rfl, Lib.hid (Mov.refl _ _)⟩
    case round =>
      obtain ⟨k, rfl, hgk, HW⟩ := hrel
      by_cases hk : k < n
      · have hkl : k < l.length := by rw [HN.out]; exact hk
        have c0 : wr.cell? ⟨g, k, none⟩ = some (.string (tx l[k])) := (HW.out.cell hg (fun h => h)).trans (HC.out k hkl)
        have c1 : wr.cell? ⟨g2, k, none⟩ = some (.string (tx l[k])) := (HW.out.cell hg2 (fun h => h)).trans (HD.out k hkl)
        clear HC HD
        generalize tx l[k] = M at c0 c1
        go_wp2
        go_quiet (fail)
        go_wp2
        go_roundg (n - (k + 1))
        case measure => omega
        case rel => exact ⟨k + 1, by go_num, by omega, Lib.hid (HW.out.drewN _)⟩
      · have hk : k = n := by omega
        subst hk
        go_wp2
        go_ret
        exact ⟨rfl, HW.out.below (fun _ h => h.elim) (Nat.le_refl _)⟩
end Go.Proofs.YtekpjcdnmidgiaaDoor
