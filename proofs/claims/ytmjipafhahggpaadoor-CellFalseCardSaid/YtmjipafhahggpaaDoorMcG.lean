/- A histogram's bytes: Put. A histogram of bytes: Get. -/
import Derived.Test.YtmjipafhahggpaaDoorMcT
import Derived.Test.YtmjipafhahggpaaDoorMcI
namespace Go.Proofs.YtmjipafhahggpaaDoor.Hi
open Go Go.RowKit

/-- A make of which the run is known. -/
theorem wpList_make_run {P : Program} {w w' : World} {ops : Array Oper} {rest : List Oper} {o : Oper} {a : Act} {Q : Exit → Act → World → Prop} (hg : o.guard = none) (l c : Operand) (t : TypeId) (hop : o.op = Op.makeSlice t l c)
    (x y v' : Value) (hl : a.eval l = x) (hc : a.eval c = y) (hrun : (Instr.makeSlice t x y).run P w = .ok v' w') (h : wpList P ops Q rest (a.put o.dst v') w') : wpList P ops Q (o :: rest) a w := by
  refine wpList_plain hg fun K hK' => ?_
  unfold Oper.wp
  simp [execOp, hop, hl, hc, hrun, Result.andThen]
  exact hK' _ _ h
theorem make_bytes (c : Nat) (hc : c ≤ 1000000) (w : World) : ∃ w', (Instr.makeSlice 81 (.int .i64 0) (.int .i64 (c : Int))).run Tryd.prog w = .ok (.slice (some ⟨w.heap.size, 0, none⟩) 0 c) w' ∧ Grew w.heap.size (.slice none 0 0) [] w (.slice (some ⟨w.heap.size, 0, none⟩) 0 c) w' := by
  obtain ⟨i, hi, hz0, hz1, hz2⟩ := info_parts info_u8
  obtain ⟨w', h1, h2, h3⟩ := run_make_own (P := Tryd.prog) w w.heap.size 81 5 i (.int .u8 0) 1 Tryd.underlying81 hi hz0 hz1 .i64 .i64 c (by rw [hz2]; omega) (by unfold maxLen; omega) (Nat.le_refl _)
  refine ⟨w', h1, h2, ⟨h3.os, h3.tape, h3.output, h3.size, fun k hk hn => h3.block k hk (fun e => hn e.symm)⟩, fun g hg => .inr ?_⟩
  have : w.heap.size = g := by simpa [Value.ownBlock] using hg
  omega
theorem putI_take {l : List Hit} {i : Nat} (h : i < l.length) : (l.take (i + 1)).flatMap putI = (l.take i).flatMap putI ++ putI l[i]! := by
  rw [List.take_add_one, List.getElem?_eq_getElem h, List.flatMap_append, getElem!_pos l i h]
  simp
set_option maxRecDepth 100000 in
set_option maxHeartbeats 4000000 in
theorem put_any {base B k : Nat} {v : Value} {l : List Hit} {w : World} (h : Hs base 66 B k v l w) :
    Calls Tryd.prog 31 #[.pointer (some ⟨B, 0, none⟩)] w fun e w' => e = .returned (.string (tx (putH k l))) ∧ Below w.heap.size w w' := by
  have hlen := h.inv.len
  have hk := h.inv.hk
  obtain ⟨p, cap, rfl, hcap, hmax⟩ := h.row.cap
  have c1 := h.c1
  obtain ⟨n, hn⟩ : ∃ n, l.length = n := ⟨_, rfl⟩
  obtain ⟨c, hc⟩ : ∃ c, 3 + n * 10 = c := ⟨_, rfl⟩
  have hcI : (3 : Int) + (n : Int) * 10 = (c : Int) := by omega
  rw [hn] at c1 hlen
  obtain ⟨w1, hmk, hG1⟩ := make_bytes c (by omega) w
  have hBase := hG1.2.1.size
  have hB1 := hG1.below (N := w.heap.size) (by intro g hg; cases hg) (Nat.le_refl _)
  have H1 := Lib.hid (h.below hB1)
  obtain ⟨v2, w2, hr2, hG2⟩ := append_byte 81 hG1.1 (UInt8.ofNat k) (by simp) hBase
  have hkb : (((UInt8.ofNat k).toNat : Nat) : Int) = (k : Int) := by rw [UInt8.toNat_ofNat']; omega
  rw [hkb] at hr2
  have hG2' := hG1.trans hG2
  have hB2 := hG2'.below (N := w.heap.size) (by intro g hg; cases hg) (Nat.le_refl _)
  have H2 := Lib.hid (h.below hB2)
  have hpn := putnumber_any (c := 2) (n := n) hG2'.1 hG2'.2.1.size (by simp) (by omega) (by omega)
  have HG2 := Lib.hid hG2'
  have H := Lib.hid h
  have k0 := H1.out.c0
  have k1 := H2.out.c1
  rw [hn] at k1
  have HN := Lib.hid hn
  have hkI : (k : Int) ≤ 4 := by omega
  clear h hG1 hG2 hG2' hB1 hB2 hkb hBase hc hn
  go_enter Tryd.func31, Tryd.ntmps31
  go_wp2_with (first
    | (at_builtin; refine wpList_make_run rfl _ _ 81 rfl _ _ _ rfl rfl hmk ?_)
    | (at_builtin; refine Lib.wpList_append_run _ rfl _ _ _ _ rfl _ _ rfl rfl _ _ hr2 ?_))
  refine hpn.mono ?_
  rintro e w3 ⟨v3, rfl, hG3⟩
  have hG := HG2.out.trans hG3
  have hB3 := hG.below (N := w.heap.size) (by intro g hg; cases hg) (Nat.le_refl _)
  have k3 := (H.out.below hB3).c1
  rw [HN.out] at k3
  have HG : Hid (Grew w.heap.size (.slice none 0 0) (be 1 k ++ be 2 n ++ (l.take 0).flatMap putI) w v3 w3) := Lib.hid (by simpa [be] using hG)
  have HL := Lib.hid H.out.row.form
  have HI := Lib.hid H.out.inv
  clear hpn hG3 hG hB3 k0 k1 c1 HG2 hr2 hmk
  go_wp2
  go_loopg [3, 35] n (fun g s3 s35 wx => ∃ i : Nat, i + g = n ∧ s35 = .int .i64 i ∧ Hid (Grew w.heap.size (.slice none 0 0) (be 1 k ++ be 2 n ++ (l.take i).flatMap putI) w s3 wx))
  case atStart => exact ⟨0, by omega, rfl, HG⟩
  case round =>
    clear HG k3
    obtain ⟨i, hig, rfl, HG⟩ := hrel
    cases gk with
    | zero =>
      obtain rfl : i = n := by omega
      have hcv := own_back HG.out.1 (by rw [List.length_append, List.length_append, be_length, be_length]; omega)
      have hB := HG.out.below (N := w.heap.size) (by intro g hg; cases hg) (Nat.le_refl _)
      have HE : Hid (be 1 k ++ be 2 i ++ (l.take i).flatMap putI = putH k l) := Lib.hid (by rw [List.take_of_length_le (by rw [HN.out]; exact Nat.le_refl _)]; unfold putH; rw [HN.out])
      clear HG
      go_wp2
      go_ret
      exact ⟨by rw [← HE.out]; rfl, hB⟩
    | succ g =>
      have hi : i < n := by omega
      have hil : i < l.length := by rw [HN.out]; exact hi
      rcases HL.out with ⟨_, h0⟩ | ⟨gg, cap', e, _, hg, _, _, hc, _⟩
      · rw [h0] at hil; cases hil
      · simp only [Value.slice.injEq] at e
        obtain ⟨rfl, _, rfl⟩ := e
        obtain ⟨c10, c11⟩ := hc i hil
        have hB := HG.out.below (N := w.heap.size) (by intro g hg; cases hg) (Nat.le_refl _)
        have d0 := (hB.cell (p := ⟨gg, i * 2, none⟩) hg).trans c10
        have d1 := (hB.cell (p := ⟨gg, i * 2 + 1, none⟩) hg).trans c11
        have hat := HI.out.at hil
        have hmany := HI.out.many hil
        have hpt := putI_take hil
        have hll : (be 1 k ++ be 2 n ++ (l.take i).flatMap putI).length ≤ 30000 := by
          rw [List.length_append, List.length_append, be_length, be_length, Go.Proofs.YtmjipafhahggpaaDoor.Hi.flat_length, List.length_take]
          omega
        obtain ⟨a, ha⟩ : ∃ a, l[i]!.at_ = a := ⟨_, rfl⟩
        obtain ⟨m, hm⟩ : ∃ m, l[i]!.many = m := ⟨_, rfl⟩
        rw [show putI l[i]! = be 4 (a + 2147483648).toNat ++ be 6 m by unfold putI; rw [ha, hm]] at hpt
        rw [ha] at d0 hat
        rw [hm] at d1 hmany
        have HPT := Lib.hid hpt
        obtain ⟨q, hq⟩ : ∃ q, (a + 2147483648).toNat = q := ⟨_, rfl⟩
        rw [hq] at HPT
        have hqI : (a + 2147483648 : Int) = (q : Int) := by omega
        have hP := (Below.refl wr.heap.size wr).alloc (Nat.le_refl _) (.cells #[.int .i64 a, .int .u64 m] 66)
        have hGa := HG.out.past hP
        have hX := CellsAt.new #[.int .i64 a, .int .u64 m] 66 wr
        have hXo : ∀ {s : Value}, s.ownBlock = some wr.heap.size → ¬ OwnB w.heap.size s (be 1 k ++ be 2 n ++ (l.take i).flatMap putI) wr := fun hs ho => by have := (ho.lt hs).2; omega
        have hp1 := putnumber_any (c := 4) (n := q) hGa.1 hGa.2.1.size (by omega) (by omega) (by omega)
        have HX := Lib.hid hX
        have HXO := Lib.hid (fun hs => hXo hs HG.out.1)
        have HGA := Lib.hid hGa
        have HLL := Lib.hid hll
        clear c10 c11 hc hpt hP hX hGa hB HG hXo hll ha hm hq
        go_wp2_with fail
        refine hp1.mono ?_
        rintro e w4 ⟨v4, rfl, hG4⟩
        have hX4 := HX.out.mov hG4.2.1 HXO.out
        have y1 := hX4.cell 1 _ rfl
        have hG4' := HGA.out.trans hG4
        have hp2 := putnumber_any (c := 6) (n := m) hG4'.1 hG4'.2.1.size (by rw [List.length_append, be_length]; have := HLL.out; omega) (by omega) (by omega)
        have HG4 := Lib.hid hG4'
        clear hp1 hG4 hX4 hG4'
        go_wp2_with fail
        refine hp2.mono ?_
        rintro e w5 ⟨v5, rfl, hG5⟩
        have HG5 := Lib.hid (HG4.out.trans hG5)
        clear hp2 hG5 y1
        go_wp2
        go_roundg g
        case measure => omega
        case rel => exact ⟨i + 1, by omega, by go_num, by rw [HPT.out, ← List.append_assoc, ← List.append_assoc]; exact HG5⟩
end Go.Proofs.YtmjipafhahggpaaDoor.Hi

namespace Go.Proofs.YtmjipafhahggpaaDoor.Hi
open Go Go.RowKit

/-- An item of its ten bytes. -/
def itemB (s : List UInt8) : Hit := ⟨(numB (s.take 4) : Int) - 2147483648, numB ((s.drop 4).take 6)⟩
theorem extract_toList (s : ByteArray) (i j : Nat) : (s.extract i j).data.toList = (s.data.toList.drop i).take (j - i) := by
  simp [ByteArray.data_extract, Array.toList_extract]
theorem num_lt4 (l : List UInt8) : numB (l.take 4) < 4294967296 := by
  have h1 := numB_lt (l.take 4)
  have h2 : (l.take 4).length ≤ 4 := by rw [List.length_take]; omega
  have h3 : 256 ^ (l.take 4).length ≤ 256 ^ 4 := Nat.pow_le_pow_right (by omega) h2
  omega
theorem num_lt6 (l : List UInt8) : numB (l.take 6) < 281474976710656 := by
  have h1 := numB_lt (l.take 6)
  have h2 : (l.take 6).length ≤ 6 := by rw [List.length_take]; omega
  have h3 : 256 ^ (l.take 6).length ≤ 256 ^ 6 := Nat.pow_le_pow_right (by omega) h2
  omega
set_option maxRecDepth 100000 in
set_option maxHeartbeats 4000000 in
theorem getitem_any (s : ByteArray) (hs : s.size = 10) (w : World) :
    Calls Tryd.prog 63 #[.string s] w fun e w' => e = .returned (.agg #[.int .i64 (itemB s.data.toList).at_, .int .u64 (itemB s.data.toList).many]) ∧ Below w.heap.size w w' := by
  have h1 := fun w => getnumber_any (s.extract 0 4) (by simp [ByteArray.size_extract]; omega) w
  have h2 := fun w => getnumber_any (s.extract 4 10) (by simp [ByteArray.size_extract]; omega) w
  rw [extract_toList] at h1 h2
  obtain ⟨p, hp⟩ : ∃ p, numB (s.data.toList.take 4) = p := ⟨_, rfl⟩
  obtain ⟨q, hq⟩ : ∃ q, numB ((s.data.toList.drop 4).take 6) = q := ⟨_, rfl⟩
  have hi : itemB s.data.toList = ⟨(p : Int) - 2147483648, q⟩ := by unfold itemB; rw [hp, hq]
  rw [List.drop_zero, Nat.sub_zero, hp] at h1
  rw [show 10 - 4 = 6 from rfl, hq] at h2
  have b3 : p < 4294967296 := by rw [← hp]; exact num_lt4 _
  rw [hi]
  clear hi hp hq
  go_enter Tryd.func63, Tryd.ntmps63
  go_wp2_with fail
  refine (h1 _).mono ?_
  rintro e w1 ⟨rfl, rfl⟩
  go_wp2_with fail
  refine (h2 _).mono ?_
  rintro e w1 ⟨rfl, rfl⟩
  clear h1 h2 hs
  go_wp2
  refine bodyPost_ret (v := .agg #[.int .i64 ((p : Int) - 2147483648), .int .u64 q]) (by simp [results, Tryd.results63, go_sem]) rfl ⟨rfl, ?_⟩
  first | exact (Below.refl _ _).alloc (Nat.le_refl _) _ | exact (((Below.refl _ _).alloc (Nat.le_refl _) _).setCell (by simp) _).setCell (by simp) _
end Go.Proofs.YtmjipafhahggpaaDoor.Hi

