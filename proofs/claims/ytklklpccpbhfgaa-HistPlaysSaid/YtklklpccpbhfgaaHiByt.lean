/- Rows of bytes: a byte behind them, a number's bytes behind them; the text of them. -/
import Derived.Test.YtklklpccpbhfgaaHiApp
import Derived.Test.YtklklpccpbhfgaaHiPut
import Derived.Deep.LoopGhost
import Derived.IntWalk
import Derived.Laws.MakeOwn
import Derived.Lib.AppendZeros
namespace Go.Proofs.Ytklklpccpbhfgaa
open Go Go.RowKit

def tx (l : List UInt8) : ByteArray := ⟨l.toArray⟩
theorem tx_size (l : List UInt8) : (tx l).size = l.length := by simp [tx, ByteArray.size]
theorem info_u8 : (Try.prog.info? 5).map (fun i => (i.zero, i.size, i.bytes)) = some (some (.int .u8 0), 1, 1) := by kernel_rfl
def u8s (l : List UInt8) : List Value := l.map fun x => Value.int .u8 (x.toNat : Int)
theorem u8s_append (l m : List UInt8) : u8s (l ++ m) = u8s l ++ u8s m := List.map_append
/-- A slice of bytes that lies in a block from B on. -/
def OwnB (B : Nat) (v : Value) (l : List UInt8) (w : World) : Prop := w.ownsRow B 5 1 v l.length (u8s l)
theorem OwnB.nil (B : Nat) (w : World) : OwnB B (.slice none 0 0) [] w := World.ownsRow_nil _ _ _ _
theorem OwnB.mov {B : Nat} {v : Value} {l : List UInt8} {w w' : World} {S : Nat → Prop} (h : OwnB B v l w) (hM : Mov S w w') (hn : ∀ g, v.ownBlock = some g → ¬ S g) : OwnB B v l w' := hM.row h hn
theorem OwnB.lt {B : Nat} {v : Value} {l : List UInt8} {w : World} (h : OwnB B v l w) {g : Nat} (hg : v.ownBlock = some g) : B ≤ g ∧ g < w.heap.size := World.ownsRow.lt h g hg
theorem OwnB.below {B : Nat} {v : Value} {l : List UInt8} {w w' : World} (h : OwnB B v l w) (hB : Below w.heap.size w w') : OwnB B v l w' := h.mov (Mov.of hB) fun g hg => by have := (h.lt hg).2; omega
theorem own_back {B : Nat} {v : Value} {l : List UInt8} {w : World} (h : OwnB B v l w) (hpos : 0 < l.length) : (convert 90 9 v).run Try.prog w = .ok (.string (tx l)) w := by
  rcases h.2 with ⟨rfl, h0⟩ | ⟨g, cap, cur, rfl, hb, hg, hn, hm, _, _⟩
  · omega
  · have hh := run_convert_bytes_back (P := Try.prog) w 90 9 5 ⟨g, 0, none⟩ cap l Try.underlying90 Try.underlying5 Try.underlying9 (fun j hj => by
      rw [Addr.add_lit, Nat.zero_add, World.ownsRow.cellAt h j (by omega)]
      unfold u8s
      rw [List.getElem?_map, List.getElem?_eq_getElem hj]
      rfl)
    exact hh
/-- What a row of bytes with others behind it is. -/
def Grew (B : Nat) (v : Value) (l : List UInt8) (w : World) (v' : Value) (w' : World) : Prop :=
  OwnB B v' l w' ∧ Mov (fun j => v.ownBlock = some j) w w' ∧ ∀ g, v'.ownBlock = some g → v.ownBlock = some g ∨ w.heap.size ≤ g
theorem Grew.refl {B : Nat} {v : Value} {l : List UInt8} {w : World} (h : OwnB B v l w) : Grew B v l w v w := ⟨h, Mov.refl _ _, fun _ hg => .inl hg⟩
theorem Grew.trans {B : Nat} {v v' v'' : Value} {l m : List UInt8} {w w' w'' : World} (h : Grew B v l w v' w') (k : Grew B v' m w' v'' w'') : Grew B v m w v'' w'' :=
  ⟨k.1, h.2.1.trans k.2.1 (fun i hi hT => by
    rcases h.2.2 i hT with e | e
    · exact e
    · omega), fun g hg => by
    rcases k.2.2 g hg with e | e
    · exact h.2.2 g e
    · exact .inr (Nat.le_trans h.2.1.size e)⟩
theorem Grew.past {B : Nat} {v v' : Value} {l : List UInt8} {w w' w'' : World} (h : Grew B v l w v' w') (hB : Below w'.heap.size w' w'') : Grew B v l w v' w'' :=
  h.trans ⟨h.1.below hB, Mov.ofB hB, fun _ hg => .inl hg⟩
theorem Grew.below {B N : Nat} {v v' : Value} {l : List UInt8} {w w' : World} (h : Grew B v l w v' w') (hv : ∀ g, v.ownBlock = some g → N ≤ g) (hN : N ≤ w.heap.size) : Below N w w' := h.2.1.below hv hN
/-- append of one byte. -/
theorem append_byte {B : Nat} {v : Value} {l : List UInt8} {w : World} (ty : TypeId) (hO : OwnB B v l w) (x : UInt8) (hlen : l.length + 1 ≤ 1000000) (hB : B ≤ w.heap.size) :
    ∃ v' w', (Builtin.append_ #[90, 90] ty #[v, .slice (some ⟨w.heap.size, 0, none⟩) 1 1]).run Try.prog (w.alloc (.cells #[.int .u8 (x.toNat : Int)] 5)) = .ok v' w' ∧ Grew B v (l ++ [x]) w v' w' := by
  obtain ⟨i, hi, hz0, hz1, hz2⟩ := info_parts info_u8
  obtain ⟨v', w', h1, h2, h3, h4⟩ := run_append_at (P := Try.prog) (w.alloc (.cells #[.int .u8 (x.toNat : Int)] 5)) B 90 ty 5 i (.int .u8 0) 1 1 Try.underlying90 hi hz0 hz1 hz2 rfl (by decide) v l.length (u8s l) (World.ownsRow.alloc hO _) ⟨w.heap.size, 0, none⟩ 1 1 (u8s [x]) (by simp [u8s]) (new_row (u8s [x]) 5 w)
    (fun u hu => by obtain ⟨y, _, rfl⟩ := List.mem_map.1 hu; rfl) (by unfold maxLen; omega) (by omega) (by simp; omega)
  refine ⟨v', w', h1, ?_, ((Mov.refl _ _).alloc _).trans (Mov.grown h3) (fun _ _ h => h), fun g hg => (h4 g hg).imp id fun e => by simp at e; omega⟩
  unfold OwnB
  rw [List.length_append, u8s_append]
  exact h2
theorem byte_eq (n m : Nat) : ((UInt8.ofNat (n / 256 ^ m)).toNat : Int) = (n : Int) / 2 ^ (8 * m) % 256 := by
  rw [UInt8.toNat_ofNat']
  have e : ((2 : Int) ^ (8 * m)) = ((256 ^ m : Nat) : Int) := by rw [Int.natCast_pow, Int.pow_mul]; rfl
  rw [e]
  omega
set_option maxRecDepth 100000 in
set_option maxHeartbeats 4000000 in
/-- A number's bytes behind a row. -/
theorem putnumber_any {B c n : Nat} {v : Value} {L : List UInt8} {w : World} (hO : OwnB B v L w) (hB : B ≤ w.heap.size) (hL : L.length ≤ 900000) (hc : c ≤ 8) (hn : n < 18446744073709551616) :
    Calls Try.prog 46 #[v, .int .i64 c, .int .u64 n] w fun e w' => ∃ v', e = .returned v' ∧ Grew B v (L ++ be c n) w v' w' := by
  have G0 := Lib.hid (Grew.refl hO)
  clear hO
  go_enter Try.func46, Try.ntmps46
  go_wp2
  go_loopg [0, 7] c (fun g s0 s7 wx => s7 = .int .i64 ((g : Int) - 1) ∧ g ≤ c ∧ ∃ A, A ++ be g n = be c n ∧ Hid (Grew B v (L ++ A) w s0 wx))
  case atStart => exact ⟨rfl, Nat.le_refl _, [], rfl, by simpa using G0⟩
  case round =>
    clear G0
    obtain ⟨rfl, hgc, A, hA, HG⟩ := hrel
    cases gk with
    | zero =>
      simp only [be, List.append_nil] at hA
      have HA := Lib.hid hA
      clear hA
      rw [show ((0 : Nat) : Int) - 1 = -1 from rfl]
      go_wp2
      go_ret
      exact ⟨_, rfl, by rw [← HA.out]; exact HG.out⟩
    | succ g =>
      have e7 : ((g + 1 : Nat) : Int) - 1 = (g : Int) := by omega
      rw [e7]
      have hAl : (L ++ A).length + 1 ≤ 1000000 := by
        have h1 := congrArg List.length hA
        rw [List.length_append, be_length, be_length] at h1
        rw [List.length_append]
        omega
      have HA := Lib.hid hA
      have hs := HG.out.2.1.size
      obtain ⟨v', w', hr, hG'⟩ := append_byte 90 HG.out.1 (UInt8.ofNat (n / 256 ^ g)) hAl (Nat.le_trans hB hs)
      have HG' := Lib.hid (HG.out.trans hG')
      rw [byte_eq] at hr
      obtain ⟨j, hj⟩ : ∃ j, 8 * g = j := ⟨_, rfl⟩
      rw [hj] at hr
      have hkj : (8 : Int) * (g : Int) = (j : Int) := by omega
      have hj64 : j < 64 := by omega
      clear hG' HG hA hAl hs e7 hj
      go_wp2_with (at_builtin; refine Lib.wpList_append_run _ rfl _ _ _ _ rfl _ _ rfl rfl _ _ hr ?_)
      go_roundg g
      case measure => omega
      case rel =>
        refine ⟨by go_num, by omega, A ++ [UInt8.ofNat (n / 256 ^ g)], ?_, ?_⟩
        · rw [← HA.out, List.append_assoc]; rfl
        · rw [← List.append_assoc]; exact HG'
set_option maxRecDepth 100000 in
set_option maxHeartbeats 4000000 in
/-- The chapter's own: a number's bytes as a text. -/
theorem ref_bytes_any {c n : Nat} (hc0 : 0 < c) (hc : c ≤ 8) (hn : n < 18446744073709551616) (w : World) :
    Calls Try.prog 47 #[.int .u64 n, .int .i64 c] w fun e w' => e = .returned (.string (tx (be c n))) ∧ Below w.heap.size w w' := by
  have G0 := Lib.hid (Grew.refl (OwnB.nil w.heap.size w))
  go_enter Try.func47, Try.ntmps47
  go_wp2
  go_loopg [5, 6] c (fun g s0 s7 wx => s7 = .int .i64 ((g : Int) - 1) ∧ g ≤ c ∧ ∃ A, A ++ be g n = be c n ∧ Hid (Grew w.heap.size (.slice none 0 0) A w s0 wx))
  case atStart => exact ⟨rfl, Nat.le_refl _, [], rfl, G0⟩
  case round =>
    clear G0
    obtain ⟨rfl, hgc, A, hA, HG⟩ := hrel
    cases gk with
    | zero =>
      simp only [be, List.append_nil] at hA
      have hcv := own_back HG.out.1 (by rw [hA, be_length]; exact hc0)
      have hB := HG.out.below (N := w.heap.size) (by intro g hg; cases hg) (Nat.le_refl _)
      rw [hA] at hcv
      clear hA HG
      rw [show ((0 : Nat) : Int) - 1 = -1 from rfl]
      go_wp2
      go_ret
      exact ⟨rfl, hB⟩
    | succ g =>
      have e7 : ((g + 1 : Nat) : Int) - 1 = (g : Int) := by omega
      rw [e7]
      have hAl : A.length + 1 ≤ 1000000 := by
        have h1 := congrArg List.length hA
        rw [List.length_append, be_length, be_length] at h1
        omega
      have HA := Lib.hid hA
      have hs := HG.out.2.1.size
      obtain ⟨v', w', hr, hG'⟩ := append_byte 90 HG.out.1 (UInt8.ofNat (n / 256 ^ g)) hAl hs
      have HG' := Lib.hid (HG.out.trans hG')
      rw [byte_eq] at hr
      obtain ⟨j, hj⟩ : ∃ j, 8 * g = j := ⟨_, rfl⟩
      rw [hj] at hr
      have hkj : (8 : Int) * (g : Int) = (j : Int) := by omega
      have hj64 : j < 64 := by omega
      clear hG' HG hA hAl hs e7 hj
      go_wp2_with (at_builtin; refine Lib.wpList_append_run _ rfl _ _ _ _ rfl _ _ rfl rfl _ _ hr ?_)
      go_roundg g
      case measure => omega
      case rel =>
        refine ⟨by go_num, by omega, A ++ [UInt8.ofNat (n / 256 ^ g)], ?_, HG'⟩
        rw [← HA.out, List.append_assoc]; rfl
end Go.Proofs.Ytklklpccpbhfgaa
