/- The chapter's table made; a deed's key; deeds that come in, opened. -/
import Derived.Test.YtiiadoeohmcfiaaSlM
import Derived.Test.YtiiadoeohmcfiaaLaw
import Derived.Deep.Slices
import Derived.Deep.Fields
import Derived.SizedLaws
namespace Go.Proofs.Ytiiadoeohmcfiaa
open Go Go.RowKit

theorem newr_out (x : Int) (h : x < 1 ∨ 256 < x) (w : World) :
    Calls Try.prog 9 #[.int .i64 x] w fun e w' => e = .returned (.pointer none) ∧ w = w' := by
  by_cases h4 : x < 1
  · clear h
    go_enter Try.func9, Try.ntmps9
    go_wp2
    go_ret
    exact ⟨rfl, rfl⟩
  · have h10 : 256 < x := by omega
    clear h
    go_enter Try.func9, Try.ntmps9
    go_wp2
    go_ret
    exact ⟨rfl, rfl⟩
set_option maxRecDepth 100000 in
theorem newr_any (n : Nat) (h1 : 1 ≤ n) (h2 : n ≤ 256) (w : World) :
    Calls Try.prog 9 #[.int .i64 (n : Int)] w fun e w' => ∃ X Y, e = .returned (.pointer (some ⟨X, 0, none⟩)) ∧ Below w.heap.size w w' ∧ w.heap.size ≤ X ∧ w.heap.size ≤ Y ∧ RTab X Y (List.replicate n []) w' := by
  obtain ⟨w1, hr, hB, hlt, hc, hf⟩ := make_str n h2 w
  have HE : Hid (Below w.heap.size w (w1.alloc (.cells #[.slice (some ⟨w.heap.size, 0, none⟩) n n] 62)) ∧ RTab w1.heap.size w.heap.size (List.replicate n []) (w1.alloc (.cells #[.slice (some ⟨w.heap.size, 0, none⟩) n n] 62))) := Lib.hid (by
    have hN := CellsAt.new #[.slice (some ⟨w.heap.size, 0, none⟩) n n] 62 w1
    refine ⟨hB.alloc hB.size _, hN.lt, by simp; omega, by omega, ?_, fun s hs => ?_, fun s hs => ?_, by rw [List.length_replicate]; exact h2⟩
    · rw [List.length_replicate]; exact hN.cell 0 _ rfl
    · rw [List.length_replicate] at hs
      rw [keyOf_rep, World.cell?_alloc_past _ _ _ hlt]
      exact hc s hs
    · rw [List.length_replicate] at hs
      rw [World.frozen?_alloc_past _ _ _ hlt]
      exact hf s hs)
  have hz : w.heap.size ≤ w1.heap.size := hB.size
  have HR := Lib.hid hr
  clear hB hlt hc hf hr
  go_enter Try.func9, Try.ntmps9
  have hr := HR.out
  go_wp2
  go_ret
  exact ⟨_, _, rfl, HE.out.1, hz, Nat.le_refl _, HE.out.2⟩

structure DeedV where
  kind : Nat
  k : Nat
  s : ByteArray
  raw : Bool
def DeedV.val (d : DeedV) : Value := .agg #[.int .u8 (d.kind : Int), .int .u16 (d.k : Int), .string d.s, .bool d.raw]
/-- A deed's key. -/
def DeedV.key (d : DeedV) (many : Nat) : Key := if d.raw then d.s.data.toList else [107, UInt8.ofNat (d.k % max many 1 / 256), UInt8.ofNat (d.k % max many 1)]
theorem DeedV.fit {d : DeedV} (h : d.s.size ≤ maxLen) (many : Nat) : (d.key many).length ≤ maxLen := by
  unfold DeedV.key
  split
  · have : d.s.data.toList.length = d.s.size := by rcases d.s with ⟨⟨l⟩⟩; rfl
    rw [this]; exact h
  · exact one_fit (by simp)
theorem wrap8_ofNat (n : Nat) : IntKind.u8.wrap (n : Int) = ((UInt8.ofNat n).toNat : Int) := by
  rw [UInt8.toNat_ofNat']
  simp [IntKind.wrap, IntKind.signed, IntKind.bits]
theorem bytes3_in (a b c : UInt8) (W : World) (g : Nat) (h0 : W.cell? ⟨g, 0, none⟩ = some (.int .u8 (a.toNat : Int))) (h1 : W.cell? ⟨g, 1, none⟩ = some (.int .u8 (b.toNat : Int))) (h2 : W.cell? ⟨g, 2, none⟩ = some (.int .u8 (c.toNat : Int))) :
    (convert 50 9 (.slice (some ⟨g, 0, none⟩) 3 3)).run Try.prog W = .ok (.string (tx [a, b, c])) W :=
  run_convert_bytes_back (P := Try.prog) W 50 9 5 ⟨g, 0, none⟩ 3 [a, b, c] Try.underlying50 Try.underlying5 Try.underlying9 (fun j hj => by
    rw [Addr.add_lit, Nat.zero_add]
    match j, hj with
    | 0, _ => exact h0
    | 1, _ => exact h1
    | 2, _ => exact h2)
set_option maxRecDepth 100000 in
set_option maxHeartbeats 4000000 in
theorem dkey_any (d : DeedV) (many : Nat) (hk : d.k < 65536) (hm : many < 65536) (w : World) :
    Calls Try.prog 10 #[d.val, .int .u16 (many : Int)] w fun e w' => e = .returned (.string (tx (d.key many))) ∧ Below w.heap.size w w' := by
  obtain ⟨kind, k, s, raw⟩ := d
  unfold DeedV.val DeedV.key
  simp only at hk ⊢
  cases raw with
  | true =>
    rw [if_pos rfl, tx_list]
    go_enter Try.func10, Try.ntmps10
    go_wp2
    go_ret
    exact ⟨rfl, (Below.refl _ _).alloc (Nat.le_refl _) _⟩
  | false =>
    rw [if_neg (by simp)]
    obtain ⟨mx, hmx, h1, h2⟩ : ∃ mx, max many 1 = mx ∧ 1 ≤ mx ∧ mx < 65536 := ⟨_, rfl, by omega, by omega⟩
    have hmi : max (many : Int) 1 = (mx : Int) := by omega
    rw [hmx]
    obtain ⟨n, hn, hn2⟩ : ∃ n, k % mx = n ∧ n < 65536 := ⟨_, rfl, by have := Nat.mod_lt k (show 0 < mx by omega); omega⟩
    have hni : (k : Int) % (mx : Int) = (n : Int) := by rw [← hn]; rfl
    have hnt : (k : Int).tmod (mx : Int) = (n : Int) := by rw [Int.tmod_eq_emod_of_nonneg (by omega), hni]
    rw [hn]
    have q1 : (n : Int) / 256 = ((n / 256 : Nat) : Int) := by omega
    have w1 := wrap8_ofNat (n / 256)
    have w0 := wrap8_ofNat n
    have one := bytes3_in 107 (UInt8.ofNat (n / 256)) (UInt8.ofNat n)
    have e7 : ((107 : UInt8).toNat : Int) = 107 := rfl
    rw [e7] at one
    obtain ⟨x1, hx1⟩ : ∃ x, (UInt8.ofNat (n / 256)).toNat = x := ⟨_, rfl⟩
    obtain ⟨x0, hx0⟩ : ∃ x, (UInt8.ofNat n).toNat = x := ⟨_, rfl⟩
    rw [hx1] at one w1
    rw [hx0] at one w0
    obtain ⟨T, hT⟩ : ∃ T, tx [107, UInt8.ofNat (n / 256), UInt8.ofNat n] = T := ⟨_, rfl⟩
    rw [hT] at one ⊢
    clear hT e7 hx0 hx1 hn hmx
    generalize n / 256 = y1 at *
    have hmx0 : (mx : Int) ≠ 0 := by omega
    have hmx1 : ((mx : Int) == 0) = false := by rw [beq_eq_false_iff_ne]; exact hmx0
    go_enter Try.func10, Try.ntmps10
    go_wp2
    go_ret
    exact ⟨rfl, ((Below.refl _ _).alloc (Nat.le_refl _) _).alloc (by simp) _⟩

/-- A slice of deeds that lies somewhere. -/
def Deeds (p : Option Addr) (n : Nat) (w : World) : Prop :=
  ∀ i, i < n → ∃ (D off : Nat) (d : DeedV), p = some ⟨D, off, none⟩ ∧ D < w.heap.size ∧ w.cell? ⟨D, off + i * 4, none⟩ = some (.int .u8 (d.kind : Int)) ∧ w.cell? ⟨D, off + i * 4 + 1, none⟩ = some (.int .u16 (d.k : Int)) ∧
    w.cell? ⟨D, off + i * 4 + 2, none⟩ = some (.string d.s) ∧ w.cell? ⟨D, off + i * 4 + 3, none⟩ = some (.bool d.raw) ∧ d.kind < 256 ∧ d.k < 65536 ∧ d.s.size ≤ maxLen
theorem Deeds.below {p : Option Addr} {n : Nat} {w w' : World} (h : Deeds p n w) (hB : Below w.heap.size w w') : Deeds p n w' := fun i hi => by
  obtain ⟨D, off, d, h1, h2, h3, h4, h5, h6, h7⟩ := h i hi
  exact ⟨D, off, d, h1, Nat.lt_of_lt_of_le h2 hB.size, (hB.cell (p := ⟨D, _, none⟩) h2).trans h3, (hB.cell (p := ⟨D, _, none⟩) h2).trans h4, (hB.cell (p := ⟨D, _, none⟩) h2).trans h5, (hB.cell (p := ⟨D, _, none⟩) h2).trans h6, h7⟩
theorem four_of {α : Type} {l : List α} (h : l.length = 4) : ∃ a b c d, l = [a, b, c, d] := by
  match l, h with
  | [a, b, c, d], _ => exact ⟨a, b, c, d, rfl⟩
set_option maxRecDepth 100000 in
theorem hone_deed : ∃ f0 f1 f2 f3 : Field, Try.prog.underlying 33 = some (.struct #[f0, f1, f2, f3]) ∧ f0.offset = 0 ∧ f1.offset = 1 ∧ f2.offset = 2 ∧ f3.offset = 3 ∧ f0.type = 5 ∧ f1.type = 22 ∧ f2.type = 9 ∧ f3.type = 4 :=
  ⟨_, _, _, _, Try.underlying33, rfl, rfl, rfl, rfl, rfl, rfl, rfl, rfl⟩
theorem deeds_of {H : Type} {enc : TypeId × Value → H} {W : World} {spare : Nat → Bool} {held : Bool} {v : Value} {d : DataW H} {ps : List MemPlace}
    (hv : ∃ p len cap, v = .slice p len cap) (h : DataW.Trod enc Try.prog W 0 spare held 23 v d ps) (hlt : ∀ x ∈ ps, x.block < W.heap.size) :
    ∃ (p : Option Addr) (n cap : Nat), v = .slice p n cap ∧ n ≤ 9223372036854775807 ∧ Deeds p n W := by
  obtain ⟨f0, f1, f2, f3, hu, o0, o1, o2, o3, e0, e1, e2, e3⟩ := hone_deed
  have c4 : Try.prog.cellsOf 33 = 4 := by kernel_rfl
  have n0 : Try.prog.cellsOf 5 = 1 := by kernel_rfl
  have n1 : Try.prog.cellsOf 22 = 1 := by kernel_rfl
  have n2 : Try.prog.cellsOf 9 = 1 := by kernel_rfl
  have n3 : Try.prog.cellsOf 4 = 1 := by kernel_rfl
  obtain ⟨p, len, cap, rfl⟩ := hv
  obtain ⟨fuel, hf⟩ := h
  rcases Deep.open_slice Try.underlying23 hf with ⟨hcs, hx⟩ | ⟨a, len', cap', m, n, D, Pl, hcs, _, hl, hm, hmm, hx, hi⟩
  · simp [Value.cells] at hcs
    obtain ⟨rfl, rfl, rfl⟩ := hcs
    exact ⟨none, 0, 0, rfl, by omega, fun k hk => by omega⟩
  · simp [Value.cells] at hcs
    obtain ⟨rfl, rfl, rfl⟩ := hcs
    simp only [Prod.mk.injEq] at hx
    obtain ⟨rfl, rfl⟩ := hx
    refine ⟨some a, len, cap, rfl, by unfold maxLen at hm; omega, fun k hk => ?_⟩
    have hkm : k < m := by rw [hmm]; split <;> omega
    obtain ⟨cs', hc, hd⟩ := hi k hkm
    rw [c4] at hc
    obtain ⟨_, hlen, hcell⟩ := World.cells?_some hc
    obtain ⟨xs, n', _, hxx, _, hxl, hfl⟩ := DataW.trod_struct hu hd
    obtain ⟨v0, v1, v2, v3, rfl⟩ := four_of hlen
    have g0 := hfl 0 f0 rfl
    have g1 := hfl 1 f1 rfl
    have g2 := hfl 2 f2 rfl
    have g3 := hfl 3 f3 rfl
    rw [o0, e0, n0] at g0
    rw [o1, e1, n1] at g1
    rw [o2, e2, n2] at g2
    rw [o3, e3, n3] at g3
    obtain ⟨x0, x1, x2, x3, rfl⟩ := four_of (l := xs) hxl
    obtain ⟨b, off, spot⟩ := a
    obtain ⟨cs0, hcs0, _⟩ := hi 0 (by omega)
    rw [c4] at hcs0
    obtain ⟨_, hlen0, hcell0⟩ := World.cells?_some hcs0
    obtain ⟨y0, y1, y2, y3, rfl⟩ := four_of hlen0
    have hspot : spot = none := by simpa [Addr.add] using World.cell?_spot (hcell0 0 (by omega))
    subst hspot
    have k0 := hcell 0 (by omega)
    have k1 := hcell 1 (by omega)
    have k2 := hcell 2 (by omega)
    have k3 := hcell 3 (by omega)
    rw [Addr.add_lit, Addr.add_lit] at k0 k1 k2 k3
    obtain ⟨b0, j0, _, w0⟩ := DataW.trod_int Try.underlying5 g0
    obtain ⟨b1, j1, _, w1⟩ := DataW.trod_int Try.underlying22 g1
    obtain ⟨b2, j2, _, w2⟩ := DataW.trod_string Try.underlying9 g2
    obtain ⟨b3, j3, _⟩ := DataW.trod_bool Try.underlying4 g3
    simp only [List.drop_zero, List.drop_succ_cons, List.take_succ_cons, List.take_zero, List.cons.injEq, and_true] at j0 j1 j2 j3
    subst j0 j1 j2 j3
    have q0 : 0 ≤ b0 ∧ b0 ≤ 255 := by simpa [Lit.wf, IntKind.min, IntKind.max, IntKind.signed, IntKind.bits] using w0
    have q1 : 0 ≤ b1 ∧ b1 ≤ 65535 := by simpa [Lit.wf, IntKind.min, IntKind.max, IntKind.signed, IntKind.bits] using w1
    obtain ⟨z0, rfl⟩ : ∃ z : Nat, b0 = z := ⟨b0.toNat, by omega⟩
    obtain ⟨z1, rfl⟩ : ∃ z : Nat, b1 = z := ⟨b1.toNat, by omega⟩
    exact ⟨b, off, ⟨z0, z1, b2, b3⟩, rfl, hlt (.cell b off) (List.mem_append.2 (.inl (MemPlace.mem_row.2 ⟨0, by rw [c4]; omega, by simp⟩))), k0, k1, k2, k3, by show z0 < 256; omega, by show z1 < 65536; omega, w2⟩
end Go.Proofs.Ytiiadoeohmcfiaa
