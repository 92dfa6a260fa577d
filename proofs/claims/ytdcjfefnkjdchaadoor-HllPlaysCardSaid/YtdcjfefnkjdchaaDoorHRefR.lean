/- The registers of the chapter's own sketch as a text. -/
import Derived.Test.YtdcjfefnkjdchaaDoorHRefA
import Derived.Test.YtdcjfefnkjdchaaDoorHApp
namespace Go.Proofs.YtdcjfefnkjdchaaDoor
open Go Go.RowKit

def u8s (l : List UInt8) : List Value := l.map fun x => Value.int .u8 (x.toNat : Int)
/-- A slice of bytes that lies in a block from B on. -/
def OwnB (B : Nat) (v : Value) (l : List UInt8) (w : World) : Prop := w.ownsRow B 5 1 v l.length (u8s l)
theorem OwnB.nil (B : Nat) (w : World) : OwnB B (.slice none 0 0) [] w := World.ownsRow_nil _ _ _ _
theorem append_byte {B : Nat} {v : Value} {l : List UInt8} {w : World} (ty : TypeId) (hO : OwnB B v l w) (x : UInt8) (hlen : l.length + 1 ≤ 1000000) (hB : B ≤ w.heap.size) :
    ∃ v' w', (Builtin.append_ #[42, 42] ty #[v, .slice (some ⟨w.heap.size, 0, none⟩) 1 1]).run Tryd.prog (w.alloc (.cells #[.int .u8 (x.toNat : Int)] 5)) = .ok v' w' ∧ OwnB B v' (l ++ [x]) w' ∧ Below B w w' := by
  obtain ⟨i, hi, hz0, hz1, hz2⟩ := info_parts info_u8
  have hnews : ∀ j u, (u8s [x])[j]? = some u → (w.alloc (.cells #[.int .u8 (x.toNat : Int)] 5)).cell? ((⟨w.heap.size, 0, none⟩ : Addr).add j) = some u := fun j u hj => by
    have hjl : j < 1 := by
      have := (List.getElem?_eq_some_iff.1 hj).1
      simpa [u8s] using this
    obtain rfl : j = 0 := by omega
    rw [addr_add, World.cell?_alloc_new, ← hj]
    rfl
  obtain ⟨v', w', h1, h2, h3, _⟩ := run_append_own (P := Tryd.prog) (w.alloc (.cells #[.int .u8 (x.toNat : Int)] 5)) B 42 ty 5 i (.int .u8 0) 1 1 Tryd.underlying42 hi hz0 hz1 hz2 rfl (by decide) v l.length (u8s l) (World.ownsRow.alloc hO _) ⟨w.heap.size, 0, none⟩ 1 1 (u8s [x]) (by simp [u8s]) hnews
    (fun u hu => by obtain ⟨y, _, rfl⟩ := List.mem_map.1 hu; rfl) (by unfold maxLen; omega) (by omega) (by simp; omega)
  refine ⟨v', w', h1, ?_, ?_⟩
  · unfold OwnB
    rw [List.length_append, show u8s (l ++ [x]) = u8s l ++ u8s [x] from List.map_append]
    exact h2
  · exact ((Below.refl B w).alloc hB _).trans ((Below.refl B _).grown h3 (by simp; omega) fun k hk => (World.ownsRow.lt hO k hk).1)
theorem own_back {B : Nat} {v : Value} {l : List UInt8} {w : World} (h : OwnB B v l w) (hpos : 0 < l.length) : (convert 42 9 v).run Tryd.prog w = .ok (.string (tx l)) w := by
  rcases h.2 with ⟨rfl, h0⟩ | ⟨g, cap, cur, rfl, hb, hg, hn, hm, _, _⟩
  · omega
  · have hh := run_convert_bytes_back (P := Tryd.prog) w 42 9 5 ⟨g, 0, none⟩ cap l Tryd.underlying42 Tryd.underlying5 Tryd.underlying9 (fun j hj => by
      rw [addr_add, Nat.zero_add, World.ownsRow.cellAt h j (by omega)]
      unfold u8s
      rw [List.getElem?_map, List.getElem?_eq_getElem hj]
      rfl)
    exact hh
/-- The chapter's own registers as a text. -/
def TextOf (t : ByteArray) (w : World) (e : Ending) (w' : World) : Prop := e = .returned (.string t) ∧ Below w.heap.size w w'
set_option maxRecDepth 100000 in
set_option maxHeartbeats 4000000 in
theorem ref_registers_any {P A b : Nat} {l : List UInt8} {w : World} (hS : RSk P A b l w) :
    Calls Tryd.prog 19 #[.pointer (some ⟨P, 0, none⟩)] w (TextOf (tx l) w) := by
  have hM := pow_hi hS.lo hS.hi
  have hlen := hS.len
  have hPA := hS.ptr
  obtain ⟨M, hMe⟩ : ∃ M, 2 ^ b = M := ⟨_, rfl⟩
  rw [hMe] at hM hlen hPA
  obtain ⟨hM1, hM2⟩ := hM
  have HS := Lib.hid hS
  have HL := Lib.hid hlen
  have HPT := Lib.hid hPA
  clear hS hlen hMe hPA
  go_enter Tryd.func19, Tryd.ntmps19
  go_wp2_with fail
  go_loopg [3, 4] M (fun g s i wx => ∃ k : Nat, k + g = M ∧ i = .int .i64 k ∧ ∃ v, s = v ∧ OwnB w.heap.size v (l.take k) wx ∧ Below w.heap.size w wx)
  case atStart => exact ⟨0, by omega, rfl, _, rfl, OwnB.nil _ _, Below.refl _ _⟩
  case round =>
    obtain ⟨k, hkg, rfl, v, rfl, hO, hBw⟩ := hrel
    have hpt := (hBw.cell (p := ⟨P, 0, none⟩) HS.out.ltP).trans HPT.out
    cases gk with
    | zero =>
      obtain rfl : k = M := by omega
      rw [List.take_of_length_le (by rw [HL.out]; exact Nat.le_refl _)] at hO
      have hcv := own_back hO (by rw [HL.out]; omega)
      have HB := Lib.hid hBw
      generalize tx l = t at *
      clear hO hkg hBw
      go_wp2
      go_ret
      exact ⟨rfl, HB.out⟩
    | succ g =>
      have hkM : k < M := by omega
      have hkl : k < l.length := by rw [HL.out]; exact hkM
      have hcx := (hBw.cell (p := ⟨A, k, none⟩) HS.out.ltA).trans (HS.out.cell k hkl)
      obtain ⟨v1, w1, hap, hO1, hB1⟩ := append_byte 42 hO l[k] (by rw [List.length_take]; omega) hBw.size
      have hst : l.take k ++ [l[k]] = l.take (k + 1) := by rw [List.take_add_one, List.getElem?_eq_getElem hkl]; rfl
      rw [hst] at hO1
      have hx8 : l[k].toNat < 256 := l[k].toNat_lt
      have hBe := hBw.trans hB1
      generalize l[k].toNat = x at *
      have HA1 := Lib.hid hap
      clear hap hst hB1 hkl hO
      go_wp2_with (first | (at_builtin; refine wpList_append_run rfl (.tmp 14) (.tmp 23) 42 rfl _ _ _ rfl rfl HA1.out ?_))
      go_roundg g
      case measure => omega
      case rel => exact ⟨k + 1, by omega, by go_num, _, rfl, hO1, hBe⟩
end Go.Proofs.YtdcjfefnkjdchaaDoor
