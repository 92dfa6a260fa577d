/- The listed variable: what the rows' premise gives; a world for the witness; what a wish is made to. -/
import Derived.Test.YtcgkgdhbipbnfaaGreatDoorQuX
import Derived.Test.YtcgkgdhbipbnfaaGreatDoorMtE
import Derived.Test.YtcgkgdhbipbnfaaGreatDoorPoWo
import Derived.Test.YtcgkgdhbipbnfaaGreatDoorLaw
import Derived.Stop.LaidErr
import Derived.Lib.SmallJoins
import Derived.ChangeArms
import Derived.ChangeSlices
import Derived.ChangeSame
namespace Go.Proofs.YtcgkgdhbipbnfaaGreatDoor
open Go Go.RowKit

theorem gTab : Tryz.prog.globalNamed "math/bits.deBruijn64tab" = some 1 := by kernel_rfl
theorem gTabType : (Tryz.prog.globals[1]?).map (·.type) = some 196 := by kernel_rfl
theorem cellsTab : Tryz.prog.cellsOf 196 = 64 := by kernel_rfl
theorem cellsU8 : Tryz.prog.cellsOf 5 = 1 := by kernel_rfl
theorem laid_of {W : World} {rest : List (String × DataW Unit)} (h : laidMet Tryz.prog (("math/bits.deBruijn64tab", Rows.laid_math_bits_deBruijn64tab) :: rest) W) : Hl.Tab W := fun j hj => by
  have ht : Lib.TabIs Tryz.prog W "math/bits.deBruijn64tab" .u8 (Lib.deBruijn64tab.map fun (n : Nat) => (n : Int)) :=
    Lib.tabIs_of_head (rest := rest) gTab gTabType Tryz.underlying196 Tryz.underlying5 cellsU8 cellsTab h
  have h2 := ht.cell gTab j (by simpa [Lib.deBruijn64tab] using hj)
  rw [h2]
  simp [List.getD, List.getElem?_map]
  cases Lib.deBruijn64tab[j]? <;> rfl
/-- A world for the witness: the settled one, the table holding what its initialiser lays. -/
noncomputable def laidWorld (os : Os) : World :=
  { World.holding Tryz.prog os ⟨#[], #[], []⟩ with heap := (World.holding Tryz.prog os ⟨#[], #[], []⟩).heap.modify 1 fun
      | .cells _ t frozen => .cells (Lib.deBruijn64tab.map fun (n : Nat) => Value.int .u8 n).toArray t frozen
      | o => o }


theorem octs_of {H : Type} {enc : TypeId × Value → H} {P : Program} {W : World} {spare : Nat → Bool} {held : Bool} {t e : TypeId} {v : Value} {d : DataW H} {ps : List MemPlace} (ht : P.underlying t = some (.slice e)) (he : P.underlying e = some (.int .u8)) (hc : P.cellsOf e = 1)
    (hv : ∃ p len cap, v = .slice p len cap) (h : DataW.Trod enc P W 0 spare held t v d ps) (hlt : ∀ x ∈ ps, x.block < W.heap.size) :
    ∃ (p : Option Addr) (hs : List Nat) (cap : Nat), v = .slice p hs.length cap ∧ hs.length ≤ cap ∧ cap ≤ maxLen ∧ Tq.Octs p hs W ∧ (p = none → cap = 0) := Tq.octs_of ht he hc hv h hlt
end Go.Proofs.YtcgkgdhbipbnfaaGreatDoor
namespace Go.Proofs.YtcgkgdhbipbnfaaGreatDoor.Qu
open Go Go.RowKit

/-- What a wish with Own is made to. -/
structure Lit (hs : List Nat) (x0 x1 x2 x5 x6 x7 x8 x9 : Int) (r b l : Nat) (t : List Int) : Prop where
  nums : Po.wishN hs = [x0, x1, x2, (r : Int), (b : Int), x5, x6, x7, x8, x9]
  tiers : Po.wishT hs (Po.hA hs 11 % 3) = t
  len : t.length = l
  right : Po.rightZ [x0, x1, x2, (r : Int), (b : Int), x5, x6, x7, x8, x9] t = true
theorem lit_of (hs : List Nat) : ∃ (x0 x1 x2 x5 x6 x7 x8 x9 : Int) (r b l : Nat) (t : List Int), Lit hs x0 x1 x2 x5 x6 x7 x8 x9 r b l t := by
  have hr := Po.wish_right hs (Po.hA hs 11 % 3)
  obtain ⟨x0, x1, x2, x3, x4, x5, x6, x7, x8, x9, hn⟩ := Po.ten_of (show (Po.wishN hs).length = 10 from rfl)
  rw [hn] at hr
  have hi := (Po.right_in hr).1
  have h3 := hi x3 (by simp)
  have h4 := hi x4 (by simp)
  obtain ⟨r, rfl⟩ : ∃ r : Nat, x3 = r := ⟨x3.toNat, by omega⟩
  obtain ⟨b, rfl⟩ : ∃ b : Nat, x4 = b := ⟨x4.toNat, by omega⟩
  exact ⟨x0, x1, x2, x5, x6, x7, x8, x9, r, b, _, _, hn, rfl, rfl, hr⟩
theorem Lit.wish {hs : List Nat} {x0 x1 x2 x5 x6 x7 x8 x9 : Int} {r b l : Nat} {t : List Int} (h : Lit hs x0 x1 x2 x5 x6 x7 x8 x9 r b l t) (a0 a1 a2 a3 a4 a5 a6 a7 a8 a9 : Int) (q : Option Addr) (l0 d0 : Nat) (p : Option Addr) (c : Nat) (w : World) (hl : hs.length ≤ 9223372036854775807) (hS : Po.Shorts p hs w) :
    Calls Tryz.prog 10 #[.agg #[.int .i64 a0, .int .i64 a1, .int .i64 a2, .int .i64 a3, .int .i64 a4, .int .i64 a5, .int .i64 a6, .int .i64 a7, .int .i64 a8, .int .i64 a9, .slice q l0 d0, .bool true, .slice p hs.length c]] w fun e w' => ∃ q d, e = .returned (.agg #[.int .i64 x0, .int .i64 x1, .int .i64 x2, .int .i64 (r : Int), .int .i64 (b : Int), .int .i64 x5, .int .i64 x6, .int .i64 x7, .int .i64 x8, .int .i64 x9, .slice q l d]) ∧ Po.Tr (fun _ => False) (.slice q l d) t w' ∧ Below w.heap.size w w' := by
  refine (Po.wish_any a0 a1 a2 a3 a4 a5 a6 a7 a8 a9 q l0 d0 p hs c w hl hS).mono ?_
  rintro e w' ⟨v, rfl, hT, hB⟩
  rw [h.tiers] at hT
  rw [h.nums]
  obtain ⟨q, d, rfl⟩ := hT.len
  rw [h.len] at hT ⊢
  exact ⟨q, d, rfl, hT, hB⟩
theorem Lit.bounds {hs : List Nat} {x0 x1 x2 x5 x6 x7 x8 x9 : Int} {r b l : Nat} {t : List Int} (h : Lit hs x0 x1 x2 x5 x6 x7 x8 x9 r b l t) : (0 ≤ x1 ∧ x1 ≤ 1000000000) ∧ (0 ≤ x2 ∧ x2 ≤ 1000000000) ∧ x1 ≤ x2 ∧ 4 ≤ b ∧ b ≤ 10 ∧ 1 ≤ r ∧ r ≤ 16 := by
  obtain ⟨hn1, hn2, hn3, hn4, hbd⟩ := Po.right_in h.right
  have h1 := hn1 x1 (by simp)
  have h2 := hn1 x2 (by simp)
  have hb := hbd
  simp [Po.boundZ, Po.inZ] at hb
  omega
/-- The letters of a list come in one by one: what stays of the quota. -/
structure Run (VN : Nat) (a : Ad) (s : St) (win : Int) (b r : Nat) (lo hi : Int) (V wx : World) : Prop where
  q : Qo VN a s wx
  bel : Below VN V wx
  eWin : s.win = win
  bits : s.b = b
  eLo : s.lo = lo
  eHi : s.hi = hi
  room : s.room = r
  old : s.old = zl b
theorem admitS_keeps (s : St) (key metric : ByteArray) (kn fu : Bool) : (admitS s key metric kn fu).win = s.win ∧ (admitS s key metric kn fu).b = s.b ∧ (admitS s key metric kn fu).lo = s.lo ∧ (admitS s key metric kn fu).hi = s.hi ∧ (admitS s key metric kn fu).room = s.room ∧ (admitS s key metric kn fu).old = s.old := by
  unfold admitS
  split
  · exact ⟨rfl, rfl, rfl, rfl, rfl, rfl⟩
  · simp only []
    split <;> exact ⟨rfl, rfl, rfl, rfl, rfl, rfl⟩
theorem Run.admit {VN : Nat} {a : Ad} {s : St} {win lo hi : Int} {b r : Nat} {V wx : World} (h : Run VN a s win b r lo hi V wx) (hV : VN = V.heap.size) (hT : Hl.Tab V) (key metric : ByteArray) (hk : key.size ≤ maxLen) (hm : metric.size ≤ maxLen) (kn fu : Bool) :
    Calls Tryz.prog 26 #[.pointer (some ⟨a.B, 0, none⟩), .string key, .string metric, .bool kn, .bool fu] wx fun e w' => e = .returned (.int .i64 (admitC s key metric kn fu)) ∧ ∃ v', Run VN ⟨a.B, a.N, a.P, a.T, v'⟩ (admitS s key metric kn fu) win b r lo hi V w' := by
  obtain ⟨k1, k2, k3, k4, k5, k6⟩ := admitS_keeps s key metric kn fu
  refine (admit_any h.q (hT.below (hV ▸ h.bel)) key metric hk hm kn fu).mono ?_
  rintro e w' ⟨he, v', hq, hM, _⟩
  exact ⟨he, v', hq, h.bel.trans (h.q.out hM), k1.trans h.eWin, k2.trans h.bits, k3.trans h.eLo, k4.trans h.eHi, k5.trans h.room, k6.trans h.old⟩
theorem Run.below {VN : Nat} {a : Ad} {s : St} {win lo hi : Int} {b r : Nat} {V wx wy : World} (h : Run VN a s win b r lo hi V wx) (hB : Below wx.heap.size wx wy) (hV : VN = V.heap.size) : Run VN a s win b r lo hi V wy :=
  ⟨h.q.below hB, h.bel.trans (hB.mono (by rw [hV]; exact h.bel.size)), h.eWin, h.bits, h.eLo, h.eHi, h.room, h.old⟩
end Go.Proofs.YtcgkgdhbipbnfaaGreatDoor.Qu

