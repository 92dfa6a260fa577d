/- A cell of bytes: read, and what is thrown is caught. -/
import Derived.Test.YtmjipafhahggpaaDoorMCeB
import Derived.Test.YtmjipafhahggpaaDoorMCeN
import Derived.Test.YtmjipafhahggpaaDoorMCeT
import Derived.Test.YtmjipafhahggpaaDoorMCeP
import Derived.Test.YtmjipafhahggpaaDoorMcJ
import Derived.Test.YtmjipafhahggpaaDoorMwC
import Derived.Laws.StructEq
import Derived.ChangeKeysEq
import Derived.Tactics2
import Derived.Defers
import Derived.Recover
import Derived.Laws.Pointers
namespace Go.Proofs.YtmjipafhahggpaaDoor.Ce
open Go Go.RowKit Hi

theorem sum_guard (x y : Operand) (xs ys : Array Value) (w : World) : (eqGuard .eql 26 x y (.agg xs) (.agg ys)).run Tryd.prog w = .ok () w := run_eqGuard_agg w _ _ _ _ _ _ (by kernel_rfl)
theorem sum_struct : Tryd.prog.underlying 26 = some (.struct (Tryd.prog.fieldsOf 26)) := by
  have h := Tryd.underlying26
  rw [h]
  unfold Program.fieldsOf
  rw [h]
set_option maxRecDepth 100000 in
theorem sum_fields : (Tryd.prog.fieldsOf 26).toList.map (fun f => (f.name, f.type, f.offset)) = [("High", 2, 0), ("Low", 24, 1)] := by kernel_rfl
theorem sum_held : Tryd.prog.stoodInHeld 26 = false := by kernel_rfl
theorem two_fields {l : List Field} {a b : String × TypeId × Nat} (h : l.map (fun f => (f.name, f.type, f.offset)) = [a, b]) : ∃ f g : Field, l = [f, g] ∧ (f.name, f.type, f.offset) = a ∧ (g.name, g.type, g.offset) = b := by
  rcases l with _ | ⟨f, _ | ⟨g, _ | ⟨h', t⟩⟩⟩ <;> simp at h
  exact ⟨f, g, rfl, h.1, h.2⟩
set_option maxHeartbeats 4000000 in
theorem sum_eql (b b' c c' : Int) (w : World) : (binOp .eql 26 (.agg #[.int .i64 b, .int .u64 c]) (.agg #[.int .i64 b', .int .u64 c'])).run Tryd.prog w = .ok (.bool ((b == b') && (c == c'))) w := by
  rw [run_eql_struct, run_equalIn_struct w 9999 _ _ _ sum_struct sum_held]
  obtain ⟨g, k, hl, hg, hk⟩ := two_fields sum_fields
  rw [hl]
  simp only [Prod.mk.injEq] at hg hk
  obtain ⟨g1, g2, g3⟩ := hg
  obtain ⟨k1, k2, k3⟩ := hk
  have s1 := run_equalIn_int (P := Tryd.prog) w 9998 2 .i64 .i64 b b' Tryd.underlying2
  have s2 := run_equalIn_int (P := Tryd.prog) w 9998 24 .u64 .u64 c c' Tryd.underlying24
  have hi : Tryd.prog.plainKey 2 = true := by kernel_rfl
  have hu : Tryd.prog.plainKey 24 = true := by kernel_rfl
  have p1 := run_part_plain (P := Tryd.prog) w hi (xs := #[.int .i64 b, .int .u64 c]) (off := 0) rfl
  have q1 := run_part_plain (P := Tryd.prog) w hi (xs := #[.int .i64 b', .int .u64 c']) (off := 0) rfl
  have p2 := run_part_plain (P := Tryd.prog) w hu (xs := #[.int .i64 b, .int .u64 c]) (off := 1) rfl
  have q2 := run_part_plain (P := Tryd.prog) w hu (xs := #[.int .i64 b', .int .u64 c']) (off := 1) rfl
  cases h1 : b == b'
  · simp [Op.eqFields, g1, g2, g3, k1, k2, k3, p1, q1, s1, h1]
  · cases h2 : c == c' <;> simp [Op.eqFields, g1, g2, g3, k1, k2, k3, p1, q1, p2, q2, s1, s2, h1, h2]
theorem sum_same {a b : Int} : ((Wi.shi a == Wi.shi b) && (Wi.slo a == Wi.slo b)) = decide (a = b) := by
  by_cases h : a = b
  · subst h; simp
  · simp only [h, decide_false, Bool.and_eq_false_iff, beq_eq_false_iff_ne, ne_eq]
    by_cases h1 : Wi.shi a = Wi.shi b
    · exact .inr fun h2 => h (Wi.parts_inj h1 h2)
    · exact .inl h1
theorem none_of {l : List Hit} (h : Rising l) (h0 : countH l = 0) : l = [] := by
  cases l with
  | nil => rfl
  | cons x l =>
    have := h.2 x (by simp)
    simp only [countH] at h0
    omega
/-- What read answers, or throws. -/
def ReadV (N : Nat) (r : Option (Cel × List UInt8)) (e : Ending) (w' : World) : Prop :=
  match r with
  | none => e = PE
  | some (c, t) => ∃ C S, e = .returned (.tuple #[.pointer (some ⟨C, 0, none⟩), .string (tx t)]) ∧ At S C c w' ∧ ∀ i, S i → N ≤ i
set_option maxRecDepth 100000 in
set_option maxHeartbeats 4000000 in
theorem read_short (s : ByteArray) (h : s.size < 40) (w : World) :
    Calls Tryd.prog 33 #[.string s] w fun e w' => e = PE ∧ Below w.heap.size w w' := by
  have h40 : decide ((40 : Int) ≤ (s.size : Int)) = false := decide_eq_false (by omega)
  go_enter Tryd.func33, Tryd.ntmps33
  go_wp2_with fail
  refine (must_no _).mono ?_
  rintro e w1 ⟨rfl, hB⟩
  go_wp2
  exact ⟨rfl, rfl, hB⟩
set_option maxRecDepth 100000 in
set_option maxHeartbeats 4000000 in
theorem read_none (s : ByteArray) (h : 40 ≤ s.size) (hm : s.size ≤ maxLen) (hF : getF (s.data.toList.drop 40) = none) (w : World) :
    Calls Tryd.prog 33 #[.string s] w fun e w' => e = PE ∧ Below w.heap.size w w' := by
  have hg : ∀ W, Calls Tryd.prog 48 #[.string (s.extract 40 s.size)] W fun e w' => e = .returned noneV ∧ Below W.heap.size W w' := fun W => by
    have := Hi.get_any (s.extract 40 s.size) (by rw [ByteArray.size_extract]; omega) W
    rwa [drop_toList, hF] at this
  have HG := Lib.hid hg
  unfold maxLen at hm
  have h40 : decide ((40 : Int) ≤ (s.size : Int)) = true := decide_eq_true (by omega)
  clear hg hF
  go_enter Tryd.func33, Tryd.ntmps33
  go_wp2_with fail
  refine (must_yes _).mono ?_
  rintro e w1 ⟨rfl, hB1⟩
  go_wp2_with fail
  refine (HG.out _).mono ?_
  rintro e w2 ⟨rfl, hB2⟩
  have HB2 : Hid (Below w.heap.size w w2) := Lib.hid (hB1.trans (hB2.mono hB1.size))
  clear hB1 hB2 HG
  unfold noneV
  go_wp2_with fail
  refine (must_no _).mono ?_
  rintro e w3 ⟨rfl, hB3⟩
  have HB3 : Hid (Below w.heap.size w w3) := Lib.hid (HB2.out.trans (hB3.mono HB2.out.size))
  clear hB3
  go_wp2
  exact ⟨rfl, rfl, HB3.out⟩
def RdPhi (s : ByteArray) (lo hi : Int) : Nat → Value → World → Prop
  | i, v, _ => v = ([.string s, .string (s.extract 24 s.size), .int .i64 lo, .string s, .string (s.extract 32 s.size), .int .i64 hi, .int .i64 lo, .int .i64 hi] : List Value).getD i undef
theorem RdPhi.stays {s : ByteArray} {lo hi : Int} : ∀ i v wx wy, RdPhi s lo hi i v wx → Reg.Old wx wy → RdPhi s lo hi i v wy := fun _ _ _ _ h _ => h
set_option maxRecDepth 100000 in
set_option maxHeartbeats 4000000 in
theorem read_e1 (s : ByteArray) (h : 40 ≤ s.size) (hm : s.size ≤ maxLen) {k : Nat} {l : List Hit} {t : List UInt8} (hF : getF (s.data.toList.drop 40) = some (k, l, t)) (hc0 : countH l = 0) (hz : ¬ sumB s.data.toList = 0) (w : World) :
    Calls Tryd.prog 33 #[.string s] w fun e w' => e = PE ∧ Below w.heap.size w w' := by
  have HG : Hid (∀ W, Calls Tryd.prog 48 #[.string (s.extract 40 s.size)] W fun e w' => (∃ B v, e = .returned (.tuple #[.pointer (some ⟨B, 0, none⟩), .string (tx t), .int .i64 0]) ∧ Hs W.heap.size 66 B k v l w') ∧ Below W.heap.size W w') := Lib.hid fun W => by
    have := Hi.get_any (s.extract 40 s.size) (by rw [ByteArray.size_extract]; omega) W
    rwa [drop_toList, hF] at this
  have HN0 : Hid (∀ W, Calls Tryd.prog 49 #[.string s] W fun e w' => e = .returned (.int .i64 (num8 s.data.toList)) ∧ W = w') := Lib.hid fun W => getnumber_any s (by omega) hm W
  have HN1 : Hid (∀ W, Calls Tryd.prog 49 #[.string (s.extract 24 s.size)] W fun e w' => e = .returned (.int .i64 (lowB s.data.toList)) ∧ Below W.heap.size W w') := Lib.hid fun W => by
    have := getnumber_any (s.extract 24 s.size) (by rw [ByteArray.size_extract]; omega) (by rw [ByteArray.size_extract]; omega) W
    rw [drop_toList] at this
    exact this.mono fun e w' h => ⟨h.1, h.2 ▸ Below.refl _ _⟩
  have HN2 : Hid (∀ W, Calls Tryd.prog 49 #[.string (s.extract 32 s.size)] W fun e w' => e = .returned (.int .i64 (topB s.data.toList)) ∧ Below W.heap.size W w') := Lib.hid fun W => by
    have := getnumber_any (s.extract 32 s.size) (by rw [ByteArray.size_extract]; omega) (by rw [ByteArray.size_extract]; omega) W
    rw [drop_toList] at this
    exact this.mono fun e w' h => ⟨h.1, h.2 ▸ Below.refl _ _⟩
  have HW : Hid (∀ W, Calls Tryd.prog 50 #[.string (s.extract 8 24)] W fun e w' => e = .returned (.tuple #[Wi.sv (sumB s.data.toList), .bool true]) ∧ Below W.heap.size W w') := Lib.hid fun W => by
    have := Wi.get_full (s.extract 8 24) (by rw [ByteArray.size_extract]; omega) W
    rwa [extract_toList] at this
  have HZ : Hid (Wi.InS (sumB s.data.toList)) := Lib.hid (Wi.getS_parts _).1
  have HLO : Hid (In64 (lowB s.data.toList)) := Lib.hid (num8_in _)
  have HHI : Hid (In64 (topB s.data.toList)) := Lib.hid (num8_in _)
  have HFR : Hid (In64 (num8 s.data.toList)) := Lib.hid (num8_in _)
  have h40 : decide ((40 : Int) ≤ (s.size : Int)) = true := decide_eq_true (by omega)
  unfold maxLen at hm
  clear hF
  generalize sumB s.data.toList = z at *
  generalize lowB s.data.toList = lo at *
  generalize topB s.data.toList = hi at *
  generalize num8 s.data.toList = f at *
  have HC0 := Lib.hid hc0
  clear hc0
  have HZZ := Lib.hid hz
  clear hz
  go_enter Tryd.func33, Tryd.ntmps33
  go_wp2_with fail
  refine (must_yes _).mono ?_
  rintro e w1 ⟨rfl, hB1⟩
  go_wp2_with fail
  refine (HG.out _).mono ?_
  rintro e w2 ⟨⟨B, v, rfl, hH⟩, hB2⟩
  have HB2 : Hid (Below w.heap.size w w2) := Lib.hid (hB1.trans (hB2.mono hB1.size))
  have HH := Lib.hid (hH.mono hB1.size)
  clear hB1 hB2 HG hH
  go_wp2_with fail
  refine (must_yes _).mono ?_
  rintro e w3 ⟨rfl, hB3⟩
  have HB3 : Hid (Below w.heap.size w w3) := Lib.hid (HB2.out.trans (hB3.mono HB2.out.size))
  have HH3 := Lib.hid (HH.out.below hB3)
  clear hB3 HB2 HH
  go_wp2_with fail
  refine (HN0.out _).mono ?_
  rintro e _ ⟨rfl, rfl⟩
  have hb := bits_any HH3.out
  clear HN0
  go_wp2_with fail
  refine hb.mono ?_
  rintro e _ ⟨rfl, rfl⟩
  have hn := new_any k HH3.out.inv.hk f HFR.out w3
  clear hb
  go_wp2_with fail
  refine hn.mono ?_
  rintro e w4 ⟨C, S, rfl, hA, hlo, hB4⟩
  have HB4 : Hid (Below w.heap.size w w4) := Lib.hid (HB3.out.trans (hB4.mono HB3.out.size))
  have HH4 := Lib.hid (HH3.out.below hB4)
  have HA := Lib.hid hA
  have HS : Hid (∀ i, S i → w3.heap.size ≤ i) := Lib.hid hlo
  have HBL : Hid (∀ i, i = B ∨ v.ownBlock = some i → i < w3.heap.size) := Lib.hid fun i hi => by
    rcases hi with h | h
    · rw [h]; exact HH3.out.lt
    · exact (HH3.out.row.lt h).2
  have hs34 := Lib.hid hB4.size
  have hs03 := Lib.hid HB3.out.size
  clear hn hA hlo hB4 HB3 HH3
  go_wp2_with fail
  refine (HW.out _).mono ?_
  rintro e w5 ⟨rfl, hB5⟩
  rw [show Wi.sv z = .agg #[.int .i64 (Wi.shi z), .int .u64 (Wi.slo z)] from rfl]
  have HB5 : Hid (Below w.heap.size w w5) := Lib.hid (HB4.out.trans (hB5.mono HB4.out.size))
  have hX := CellsAt.new #[.int .i64 (Wi.shi z), .int .u64 (Wi.slo z)] 26 w5
  have hBx : Below w5.heap.size w5 (w5.alloc (.cells #[.int .i64 (Wi.shi z), .int .u64 (Wi.slo z)] 26)) := (Below.refl _ _).alloc (Nat.le_refl _) _
  have HH6 := Lib.hid ((HH4.out.below hB5).below hBx)
  have HA6 := Lib.hid ((HA.out.below hB5).below hBx)
  have HB6 : Hid (Below w.heap.size w (w5.alloc (.cells #[.int .i64 (Wi.shi z), .int .u64 (Wi.slo z)] 26))) := Lib.hid (HB5.out.alloc HB5.out.size _)
  have HX := Lib.hid hX
  have HCX : Hid (∀ i, S i → i < w5.heap.size) := Lib.hid fun i hi => Nat.lt_of_lt_of_le (HA.out.own i hi) hB5.size
  clear hB5 hX hBx HB5 HH4 HA HW HB4
  go_wp2_with fail
  generalize w5.alloc (.cells #[.int .i64 (Wi.shi z), .int .u64 (Wi.slo z)] 26) = w6 at *
  generalize w5.heap.size = X at *
  refine Reg.wp_region_inv (n := 77) (RdPhi s lo hi) (by kernel_rfl) (by kernel_rfl) rfl RdPhi.stays ?_ ?_
  · refine ⟨?_, ?_, ?_, ?_, ?_, ?_, ?_, ?_, trivial⟩
    · intro cx wc hB hp hs
      have g0 : cx.tmps[0]? = some (.string s) := (hs 0 (by kernel_rfl)).trans rfl
      refine Reg.ok_value Reg.Old.refl (v := .string s) (Reg.wanted_none rfl) ?_ rfl
      go_simp
    · intro cx wc hB hp hs
      have g41 : cx.tmps[41]? = some (.string s) := by obtain ⟨_, g, hv⟩ := Reg.pred hp 0 41 (by kernel_rfl) rfl rfl; exact g.trans (congrArg some hv)
      refine Reg.ok_value Reg.Old.refl (v := .string (s.extract 24 s.size)) (Reg.wanted_none rfl) ?_ rfl
      go_simp
      intro hh
      exact absurd hh (by omega)
    · intro cx wc hB hp hs
      have g42 : cx.tmps[42]? = some (.string (s.extract 24 s.size)) := by obtain ⟨_, g, hv⟩ := Reg.pred hp 1 42 (by kernel_rfl) rfl rfl; exact g.trans (congrArg some hv)
      refine Reg.ok_call (f := 49) (args := #[.string (s.extract 24 s.size)]) (Reg.wanted_none rfl) (by go_simp) ((HN1.out wc).mono ?_)
      rintro e w' ⟨rfl, hB2⟩
      exact ⟨_, rfl, hB2, rfl⟩
    · intro cx wc hB hp hs
      have g0 : cx.tmps[0]? = some (.string s) := (hs 0 (by kernel_rfl)).trans rfl
      refine Reg.ok_value Reg.Old.refl (v := .string s) (Reg.wanted_none rfl) ?_ rfl
      go_simp
    · intro cx wc hB hp hs
      have g44 : cx.tmps[44]? = some (.string s) := by obtain ⟨_, g, hv⟩ := Reg.pred hp 3 44 (by kernel_rfl) rfl rfl; exact g.trans (congrArg some hv)
      refine Reg.ok_value Reg.Old.refl (v := .string (s.extract 32 s.size)) (Reg.wanted_none rfl) ?_ rfl
      go_simp
      intro hh
      exact absurd hh (by omega)
    · intro cx wc hB hp hs
      have g45 : cx.tmps[45]? = some (.string (s.extract 32 s.size)) := by obtain ⟨_, g, hv⟩ := Reg.pred hp 4 45 (by kernel_rfl) rfl rfl; exact g.trans (congrArg some hv)
      refine Reg.ok_call (f := 49) (args := #[.string (s.extract 32 s.size)]) (Reg.wanted_none rfl) (by go_simp) ((HN2.out wc).mono ?_)
      rintro e w' ⟨rfl, hB2⟩
      exact ⟨_, rfl, hB2, rfl⟩
    · intro cx wc hB hp hs
      have g43 : cx.tmps[43]? = some (.int .i64 lo) := by obtain ⟨_, g, hv⟩ := Reg.pred hp 2 43 (by kernel_rfl) rfl rfl; exact g.trans (congrArg some hv)
      refine Reg.ok_value Reg.Old.refl (v := .int .i64 lo) (Reg.wanted_none rfl) ?_ rfl
      go_simp
    · intro cx wc hB hp hs
      have g46 : cx.tmps[46]? = some (.int .i64 hi) := by obtain ⟨_, g, hv⟩ := Reg.pred hp 5 46 (by kernel_rfl) rfl rfl; exact g.trans (congrArg some hv)
      refine Reg.ok_value Reg.Old.refl (v := .int .i64 hi) (Reg.wanted_none rfl) ?_ rfl
      go_simp
  intro cx w7 hB hsz hdf hv ho
  have hcx := Reg.frame_eq [_, _, _, _, _, _, _, _, _, _, _, .int .i64 lo, .int .i64 hi, _, _, _, _, _, _, _, _, _, _, _, _, _, _, _, _, _, _, _, _, _, _, _, _, _, _, _, _, .string s, .string (s.extract 24 s.size), .int .i64 lo, .string s, .string (s.extract 32 s.size), .int .i64 hi, _, _, _, _, _, _, _, _, _, _, _, _, _, _, _, _, _, _, _, _, _, _, _, _, _, _, _, _, _, _] (by simpa using hsz) hdf ⟨((Reg.kept ho 0 (by kernel_rfl)).trans rfl), ((Reg.kept ho 1 (by kernel_rfl)).trans rfl), ((Reg.kept ho 2 (by kernel_rfl)).trans rfl), ((Reg.kept ho 3 (by kernel_rfl)).trans rfl), ((Reg.kept ho 4 (by kernel_rfl)).trans rfl), ((Reg.kept ho 5 (by kernel_rfl)).trans rfl), ((Reg.kept ho 6 (by kernel_rfl)).trans rfl), ((Reg.kept ho 7 (by kernel_rfl)).trans rfl), ((Reg.kept ho 8 (by kernel_rfl)).trans rfl), ((Reg.kept ho 9 (by kernel_rfl)).trans rfl), ((Reg.kept ho 10 (by kernel_rfl)).trans rfl), (by obtain ⟨_, g, hx⟩ := hv 6 _ 11 rfl rfl; exact g.trans (congrArg some hx)), (by obtain ⟨_, g, hx⟩ := hv 7 _ 12 rfl rfl; exact g.trans (congrArg some hx)), ((Reg.kept ho 13 (by kernel_rfl)).trans rfl), ((Reg.kept ho 14 (by kernel_rfl)).trans rfl), ((Reg.kept ho 15 (by kernel_rfl)).trans rfl), ((Reg.kept ho 16 (by kernel_rfl)).trans rfl), ((Reg.kept ho 17 (by kernel_rfl)).trans rfl), ((Reg.kept ho 18 (by kernel_rfl)).trans rfl), ((Reg.kept ho 19 (by kernel_rfl)).trans rfl), ((Reg.kept ho 20 (by kernel_rfl)).trans rfl), ((Reg.kept ho 21 (by kernel_rfl)).trans rfl), ((Reg.kept ho 22 (by kernel_rfl)).trans rfl), ((Reg.kept ho 23 (by kernel_rfl)).trans rfl), ((Reg.kept ho 24 (by kernel_rfl)).trans rfl), ((Reg.kept ho 25 (by kernel_rfl)).trans rfl), ((Reg.kept ho 26 (by kernel_rfl)).trans rfl), ((Reg.kept ho 27 (by kernel_rfl)).trans rfl), ((Reg.kept ho 28 (by kernel_rfl)).trans rfl), ((Reg.kept ho 29 (by kernel_rfl)).trans rfl), ((Reg.kept ho 30 (by kernel_rfl)).trans rfl), ((Reg.kept ho 31 (by kernel_rfl)).trans rfl), ((Reg.kept ho 32 (by kernel_rfl)).trans rfl), ((Reg.kept ho 33 (by kernel_rfl)).trans rfl), ((Reg.kept ho 34 (by kernel_rfl)).trans rfl), ((Reg.kept ho 35 (by kernel_rfl)).trans rfl), ((Reg.kept ho 36 (by kernel_rfl)).trans rfl), ((Reg.kept ho 37 (by kernel_rfl)).trans rfl), ((Reg.kept ho 38 (by kernel_rfl)).trans rfl), ((Reg.kept ho 39 (by kernel_rfl)).trans rfl), ((Reg.kept ho 40 (by kernel_rfl)).trans rfl), (by obtain ⟨_, g, hx⟩ := hv 0 _ 41 rfl rfl; exact g.trans (congrArg some hx)), (by obtain ⟨_, g, hx⟩ := hv 1 _ 42 rfl rfl; exact g.trans (congrArg some hx)), (by obtain ⟨_, g, hx⟩ := hv 2 _ 43 rfl rfl; exact g.trans (congrArg some hx)), (by obtain ⟨_, g, hx⟩ := hv 3 _ 44 rfl rfl; exact g.trans (congrArg some hx)), (by obtain ⟨_, g, hx⟩ := hv 4 _ 45 rfl rfl; exact g.trans (congrArg some hx)), (by obtain ⟨_, g, hx⟩ := hv 5 _ 46 rfl rfl; exact g.trans (congrArg some hx)), ((Reg.kept ho 47 (by kernel_rfl)).trans rfl), ((Reg.kept ho 48 (by kernel_rfl)).trans rfl), ((Reg.kept ho 49 (by kernel_rfl)).trans rfl), ((Reg.kept ho 50 (by kernel_rfl)).trans rfl), ((Reg.kept ho 51 (by kernel_rfl)).trans rfl), ((Reg.kept ho 52 (by kernel_rfl)).trans rfl), ((Reg.kept ho 53 (by kernel_rfl)).trans rfl), ((Reg.kept ho 54 (by kernel_rfl)).trans rfl), ((Reg.kept ho 55 (by kernel_rfl)).trans rfl), ((Reg.kept ho 56 (by kernel_rfl)).trans rfl), ((Reg.kept ho 57 (by kernel_rfl)).trans rfl), ((Reg.kept ho 58 (by kernel_rfl)).trans rfl), ((Reg.kept ho 59 (by kernel_rfl)).trans rfl), ((Reg.kept ho 60 (by kernel_rfl)).trans rfl), ((Reg.kept ho 61 (by kernel_rfl)).trans rfl), ((Reg.kept ho 62 (by kernel_rfl)).trans rfl), ((Reg.kept ho 63 (by kernel_rfl)).trans rfl), ((Reg.kept ho 64 (by kernel_rfl)).trans rfl), ((Reg.kept ho 65 (by kernel_rfl)).trans rfl), ((Reg.kept ho 66 (by kernel_rfl)).trans rfl), ((Reg.kept ho 67 (by kernel_rfl)).trans rfl), ((Reg.kept ho 68 (by kernel_rfl)).trans rfl), ((Reg.kept ho 69 (by kernel_rfl)).trans rfl), ((Reg.kept ho 70 (by kernel_rfl)).trans rfl), ((Reg.kept ho 71 (by kernel_rfl)).trans rfl), ((Reg.kept ho 72 (by kernel_rfl)).trans rfl), ((Reg.kept ho 73 (by kernel_rfl)).trans rfl), ((Reg.kept ho 74 (by kernel_rfl)).trans rfl), ((Reg.kept ho 75 (by kernel_rfl)).trans rfl), ((Reg.kept ho 76 (by kernel_rfl)).trans rfl), trivial⟩
  subst hcx
  have HB7 : Hid (Below w.heap.size w w7) := Lib.hid (HB6.out.trans (hB.mono HB6.out.size))
  have HH7 := Lib.hid (HH6.out.below hB)
  have HA7 := Lib.hid (HA6.out.below hB)
  have HX7 := Lib.hid (HX.out.below hB)
  have hc := Hi.count_any HH7.out
  clear hv ho hB hsz hdf HB6 HH6 HA6 HX HN1 HN2
  go_wp2_with fail
  rw [HC0.out] at hc
  refine hc.mono ?_
  rintro e w8 ⟨rfl, hB8⟩
  have HB8 : Hid (Below w.heap.size w w8) := Lib.hid (HB7.out.trans (hB8.mono HB7.out.size))
  have HH8 := Lib.hid (HH7.out.below hB8)
  have HA8 := Lib.hid (HA7.out.below hB8)
  have HX8 := Lib.hid (HX7.out.below hB8)
  clear hc hB8 HB7 HH7 HA7 HX7
  have c0 := HX8.out.cell 0 _ rfl
  have c1 := HX8.out.cell 1 _ rfl
  have heq := fun W => sum_eql (Wi.shi z) 0 (Wi.slo z) 0 W
  have hgu := fun x y W => sum_guard x y #[.int .i64 (Wi.shi z), .int .u64 (Wi.slo z)] #[.int .i64 0, .int .u64 0] W
  have hzz : ((Wi.shi z == 0) && (Wi.slo z == 0)) = false := by
    have := sum_same (a := z) (b := 0)
    rw [show Wi.shi 0 = 0 from rfl, show Wi.slo 0 = 0 from rfl] at this
    rw [this]
    simp [HZZ.out]
  go_wp2_with fail
  refine (must_no _).mono ?_
  rintro e w9 ⟨rfl, hB9⟩
  have HB9 : Hid (Below w.heap.size w w9) := Lib.hid (HB8.out.trans (hB9.mono HB8.out.size))
  clear hB9
  go_wp2
  exact ⟨rfl, rfl, HB9.out⟩
set_option maxRecDepth 100000 in
set_option maxHeartbeats 4000000 in
theorem read_e2 (s : ByteArray) (h : 40 ≤ s.size) (hm : s.size ≤ maxLen) {k : Nat} {l : List Hit} {t : List UInt8} (hF : getF (s.data.toList.drop 40) = some (k, l, t)) (hc0 : countH l = 0) (hz : sumB s.data.toList = 0) (hl : ¬ lowB s.data.toList = 0) (w : World) :
    Calls Tryd.prog 33 #[.string s] w fun e w' => e = PE ∧ Below w.heap.size w w' := by
  have HG : Hid (∀ W, Calls Tryd.prog 48 #[.string (s.extract 40 s.size)] W fun e w' => (∃ B v, e = .returned (.tuple #[.pointer (some ⟨B, 0, none⟩), .string (tx t), .int .i64 0]) ∧ Hs W.heap.size 66 B k v l w') ∧ Below W.heap.size W w') := Lib.hid fun W => by
    have := Hi.get_any (s.extract 40 s.size) (by rw [ByteArray.size_extract]; omega) W
    rwa [drop_toList, hF] at this
  have HN0 : Hid (∀ W, Calls Tryd.prog 49 #[.string s] W fun e w' => e = .returned (.int .i64 (num8 s.data.toList)) ∧ W = w') := Lib.hid fun W => getnumber_any s (by omega) hm W
  have HN1 : Hid (∀ W, Calls Tryd.prog 49 #[.string (s.extract 24 s.size)] W fun e w' => e = .returned (.int .i64 (lowB s.data.toList)) ∧ Below W.heap.size W w') := Lib.hid fun W => by
    have := getnumber_any (s.extract 24 s.size) (by rw [ByteArray.size_extract]; omega) (by rw [ByteArray.size_extract]; omega) W
    rw [drop_toList] at this
    exact this.mono fun e w' h => ⟨h.1, h.2 ▸ Below.refl _ _⟩
  have HN2 : Hid (∀ W, Calls Tryd.prog 49 #[.string (s.extract 32 s.size)] W fun e w' => e = .returned (.int .i64 (topB s.data.toList)) ∧ Below W.heap.size W w') := Lib.hid fun W => by
    have := getnumber_any (s.extract 32 s.size) (by rw [ByteArray.size_extract]; omega) (by rw [ByteArray.size_extract]; omega) W
    rw [drop_toList] at this
    exact this.mono fun e w' h => ⟨h.1, h.2 ▸ Below.refl _ _⟩
  have HW : Hid (∀ W, Calls Tryd.prog 50 #[.string (s.extract 8 24)] W fun e w' => e = .returned (.tuple #[Wi.sv (sumB s.data.toList), .bool true]) ∧ Below W.heap.size W w') := Lib.hid fun W => by
    have := Wi.get_full (s.extract 8 24) (by rw [ByteArray.size_extract]; omega) W
    rwa [extract_toList] at this
  have HZ : Hid (Wi.InS (sumB s.data.toList)) := Lib.hid (Wi.getS_parts _).1
  have HLO : Hid (In64 (lowB s.data.toList)) := Lib.hid (num8_in _)
  have HHI : Hid (In64 (topB s.data.toList)) := Lib.hid (num8_in _)
  have HFR : Hid (In64 (num8 s.data.toList)) := Lib.hid (num8_in _)
  have h40 : decide ((40 : Int) ≤ (s.size : Int)) = true := decide_eq_true (by omega)
  unfold maxLen at hm
  clear hF
  generalize sumB s.data.toList = z at *
  generalize lowB s.data.toList = lo at *
  generalize topB s.data.toList = hi at *
  generalize num8 s.data.toList = f at *
  have HC0 := Lib.hid hc0
  clear hc0
  have HZZ := Lib.hid hz
  have HLL := Lib.hid hl
  clear hz hl
  go_enter Tryd.func33, Tryd.ntmps33
  go_wp2_with fail
  refine (must_yes _).mono ?_
  rintro e w1 ⟨rfl, hB1⟩
  go_wp2_with fail
  refine (HG.out _).mono ?_
  rintro e w2 ⟨⟨B, v, rfl, hH⟩, hB2⟩
  have HB2 : Hid (Below w.heap.size w w2) := Lib.hid (hB1.trans (hB2.mono hB1.size))
  have HH := Lib.hid (hH.mono hB1.size)
  clear hB1 hB2 HG hH
  go_wp2_with fail
  refine (must_yes _).mono ?_
  rintro e w3 ⟨rfl, hB3⟩
  have HB3 : Hid (Below w.heap.size w w3) := Lib.hid (HB2.out.trans (hB3.mono HB2.out.size))
  have HH3 := Lib.hid (HH.out.below hB3)
  clear hB3 HB2 HH
  go_wp2_with fail
  refine (HN0.out _).mono ?_
  rintro e _ ⟨rfl, rfl⟩
  have hb := bits_any HH3.out
  clear HN0
  go_wp2_with fail
  refine hb.mono ?_
  rintro e _ ⟨rfl, rfl⟩
  have hn := new_any k HH3.out.inv.hk f HFR.out w3
  clear hb
  go_wp2_with fail
  refine hn.mono ?_
  rintro e w4 ⟨C, S, rfl, hA, hlo, hB4⟩
  have HB4 : Hid (Below w.heap.size w w4) := Lib.hid (HB3.out.trans (hB4.mono HB3.out.size))
  have HH4 := Lib.hid (HH3.out.below hB4)
  have HA := Lib.hid hA
  have HS : Hid (∀ i, S i → w3.heap.size ≤ i) := Lib.hid hlo
  have HBL : Hid (∀ i, i = B ∨ v.ownBlock = some i → i < w3.heap.size) := Lib.hid fun i hi => by
    rcases hi with h | h
    · rw [h]; exact HH3.out.lt
    · exact (HH3.out.row.lt h).2
  have hs34 := Lib.hid hB4.size
  have hs03 := Lib.hid HB3.out.size
  clear hn hA hlo hB4 HB3 HH3
  go_wp2_with fail
  refine (HW.out _).mono ?_
  rintro e w5 ⟨rfl, hB5⟩
  rw [show Wi.sv z = .agg #[.int .i64 (Wi.shi z), .int .u64 (Wi.slo z)] from rfl]
  have HB5 : Hid (Below w.heap.size w w5) := Lib.hid (HB4.out.trans (hB5.mono HB4.out.size))
  have hX := CellsAt.new #[.int .i64 (Wi.shi z), .int .u64 (Wi.slo z)] 26 w5
  have hBx : Below w5.heap.size w5 (w5.alloc (.cells #[.int .i64 (Wi.shi z), .int .u64 (Wi.slo z)] 26)) := (Below.refl _ _).alloc (Nat.le_refl _) _
  have HH6 := Lib.hid ((HH4.out.below hB5).below hBx)
  have HA6 := Lib.hid ((HA.out.below hB5).below hBx)
  have HB6 : Hid (Below w.heap.size w (w5.alloc (.cells #[.int .i64 (Wi.shi z), .int .u64 (Wi.slo z)] 26))) := Lib.hid (HB5.out.alloc HB5.out.size _)
  have HX := Lib.hid hX
  have HCX : Hid (∀ i, S i → i < w5.heap.size) := Lib.hid fun i hi => Nat.lt_of_lt_of_le (HA.out.own i hi) hB5.size
  clear hB5 hX hBx HB5 HH4 HA HW HB4
  go_wp2_with fail
  generalize w5.alloc (.cells #[.int .i64 (Wi.shi z), .int .u64 (Wi.slo z)] 26) = w6 at *
  generalize w5.heap.size = X at *
  refine Reg.wp_region_inv (n := 77) (RdPhi s lo hi) (by kernel_rfl) (by kernel_rfl) rfl RdPhi.stays ?_ ?_
  · refine ⟨?_, ?_, ?_, ?_, ?_, ?_, ?_, ?_, trivial⟩
    · intro cx wc hB hp hs
      have g0 : cx.tmps[0]? = some (.string s) := (hs 0 (by kernel_rfl)).trans rfl
      refine Reg.ok_value Reg.Old.refl (v := .string s) (Reg.wanted_none rfl) ?_ rfl
      go_simp
    · intro cx wc hB hp hs
      have g41 : cx.tmps[41]? = some (.string s) := by obtain ⟨_, g, hv⟩ := Reg.pred hp 0 41 (by kernel_rfl) rfl rfl; exact g.trans (congrArg some hv)
      refine Reg.ok_value Reg.Old.refl (v := .string (s.extract 24 s.size)) (Reg.wanted_none rfl) ?_ rfl
      go_simp
      intro hh
      exact absurd hh (by omega)
    · intro cx wc hB hp hs
      have g42 : cx.tmps[42]? = some (.string (s.extract 24 s.size)) := by obtain ⟨_, g, hv⟩ := Reg.pred hp 1 42 (by kernel_rfl) rfl rfl; exact g.trans (congrArg some hv)
      refine Reg.ok_call (f := 49) (args := #[.string (s.extract 24 s.size)]) (Reg.wanted_none rfl) (by go_simp) ((HN1.out wc).mono ?_)
      rintro e w' ⟨rfl, hB2⟩
      exact ⟨_, rfl, hB2, rfl⟩
    · intro cx wc hB hp hs
      have g0 : cx.tmps[0]? = some (.string s) := (hs 0 (by kernel_rfl)).trans rfl
      refine Reg.ok_value Reg.Old.refl (v := .string s) (Reg.wanted_none rfl) ?_ rfl
      go_simp
    · intro cx wc hB hp hs
      have g44 : cx.tmps[44]? = some (.string s) := by obtain ⟨_, g, hv⟩ := Reg.pred hp 3 44 (by kernel_rfl) rfl rfl; exact g.trans (congrArg some hv)
      refine Reg.ok_value Reg.Old.refl (v := .string (s.extract 32 s.size)) (Reg.wanted_none rfl) ?_ rfl
      go_simp
      intro hh
      exact absurd hh (by omega)
    · intro cx wc hB hp hs
      have g45 : cx.tmps[45]? = some (.string (s.extract 32 s.size)) := by obtain ⟨_, g, hv⟩ := Reg.pred hp 4 45 (by kernel_rfl) rfl rfl; exact g.trans (congrArg some hv)
      refine Reg.ok_call (f := 49) (args := #[.string (s.extract 32 s.size)]) (Reg.wanted_none rfl) (by go_simp) ((HN2.out wc).mono ?_)
      rintro e w' ⟨rfl, hB2⟩
      exact ⟨_, rfl, hB2, rfl⟩
    · intro cx wc hB hp hs
      have g43 : cx.tmps[43]? = some (.int .i64 lo) := by obtain ⟨_, g, hv⟩ := Reg.pred hp 2 43 (by kernel_rfl) rfl rfl; exact g.trans (congrArg some hv)
      refine Reg.ok_value Reg.Old.refl (v := .int .i64 lo) (Reg.wanted_none rfl) ?_ rfl
      go_simp
    · intro cx wc hB hp hs
      have g46 : cx.tmps[46]? = some (.int .i64 hi) := by obtain ⟨_, g, hv⟩ := Reg.pred hp 5 46 (by kernel_rfl) rfl rfl; exact g.trans (congrArg some hv)
      refine Reg.ok_value Reg.Old.refl (v := .int .i64 hi) (Reg.wanted_none rfl) ?_ rfl
      go_simp
  intro cx w7 hB hsz hdf hv ho
  have hcx := Reg.frame_eq [_, _, _, _, _, _, _, _, _, _, _, .int .i64 lo, .int .i64 hi, _, _, _, _, _, _, _, _, _, _, _, _, _, _, _, _, _, _, _, _, _, _, _, _, _, _, _, _, .string s, .string (s.extract 24 s.size), .int .i64 lo, .string s, .string (s.extract 32 s.size), .int .i64 hi, _, _, _, _, _, _, _, _, _, _, _, _, _, _, _, _, _, _, _, _, _, _, _, _, _, _, _, _, _, _] (by simpa using hsz) hdf ⟨((Reg.kept ho 0 (by kernel_rfl)).trans rfl), ((Reg.kept ho 1 (by kernel_rfl)).trans rfl), ((Reg.kept ho 2 (by kernel_rfl)).trans rfl), ((Reg.kept ho 3 (by kernel_rfl)).trans rfl), ((Reg.kept ho 4 (by kernel_rfl)).trans rfl), ((Reg.kept ho 5 (by kernel_rfl)).trans rfl), ((Reg.kept ho 6 (by kernel_rfl)).trans rfl), ((Reg.kept ho 7 (by kernel_rfl)).trans rfl), ((Reg.kept ho 8 (by kernel_rfl)).trans rfl), ((Reg.kept ho 9 (by kernel_rfl)).trans rfl), ((Reg.kept ho 10 (by kernel_rfl)).trans rfl), (by obtain ⟨_, g, hx⟩ := hv 6 _ 11 rfl rfl; exact g.trans (congrArg some hx)), (by obtain ⟨_, g, hx⟩ := hv 7 _ 12 rfl rfl; exact g.trans (congrArg some hx)), ((Reg.kept ho 13 (by kernel_rfl)).trans rfl), ((Reg.kept ho 14 (by kernel_rfl)).trans rfl), ((Reg.kept ho 15 (by kernel_rfl)).trans rfl), ((Reg.kept ho 16 (by kernel_rfl)).trans rfl), ((Reg.kept ho 17 (by kernel_rfl)).trans rfl), ((Reg.kept ho 18 (by kernel_rfl)).trans rfl), ((Reg.kept ho 19 (by kernel_rfl)).trans rfl), ((Reg.kept ho 20 (by kernel_rfl)).trans rfl), ((Reg.kept ho 21 (by kernel_rfl)).trans rfl), ((Reg.kept ho 22 (by kernel_rfl)).trans rfl), ((Reg.kept ho 23 (by kernel_rfl)).trans rfl), ((Reg.kept ho 24 (by kernel_rfl)).trans rfl), ((Reg.kept ho 25 (by kernel_rfl)).trans rfl), ((Reg.kept ho 26 (by kernel_rfl)).trans rfl), ((Reg.kept ho 27 (by kernel_rfl)).trans rfl), ((Reg.kept ho 28 (by kernel_rfl)).trans rfl), ((Reg.kept ho 29 (by kernel_rfl)).trans rfl), ((Reg.kept ho 30 (by kernel_rfl)).trans rfl), ((Reg.kept ho 31 (by kernel_rfl)).trans rfl), ((Reg.kept ho 32 (by kernel_rfl)).trans rfl), ((Reg.kept ho 33 (by kernel_rfl)).trans rfl), ((Reg.kept ho 34 (by kernel_rfl)).trans rfl), ((Reg.kept ho 35 (by kernel_rfl)).trans rfl), ((Reg.kept ho 36 (by kernel_rfl)).trans rfl), ((Reg.kept ho 37 (by kernel_rfl)).trans rfl), ((Reg.kept ho 38 (by kernel_rfl)).trans rfl), ((Reg.kept ho 39 (by kernel_rfl)).trans rfl), ((Reg.kept ho 40 (by kernel_rfl)).trans rfl), (by obtain ⟨_, g, hx⟩ := hv 0 _ 41 rfl rfl; exact g.trans (congrArg some hx)), (by obtain ⟨_, g, hx⟩ := hv 1 _ 42 rfl rfl; exact g.trans (congrArg some hx)), (by obtain ⟨_, g, hx⟩ := hv 2 _ 43 rfl rfl; exact g.trans (congrArg some hx)), (by obtain ⟨_, g, hx⟩ := hv 3 _ 44 rfl rfl; exact g.trans (congrArg some hx)), (by obtain ⟨_, g, hx⟩ := hv 4 _ 45 rfl rfl; exact g.trans (congrArg some hx)), (by obtain ⟨_, g, hx⟩ := hv 5 _ 46 rfl rfl; exact g.trans (congrArg some hx)), ((Reg.kept ho 47 (by kernel_rfl)).trans rfl), ((Reg.kept ho 48 (by kernel_rfl)).trans rfl), ((Reg.kept ho 49 (by kernel_rfl)).trans rfl), ((Reg.kept ho 50 (by kernel_rfl)).trans rfl), ((Reg.kept ho 51 (by kernel_rfl)).trans rfl), ((Reg.kept ho 52 (by kernel_rfl)).trans rfl), ((Reg.kept ho 53 (by kernel_rfl)).trans rfl), ((Reg.kept ho 54 (by kernel_rfl)).trans rfl), ((Reg.kept ho 55 (by kernel_rfl)).trans rfl), ((Reg.kept ho 56 (by kernel_rfl)).trans rfl), ((Reg.kept ho 57 (by kernel_rfl)).trans rfl), ((Reg.kept ho 58 (by kernel_rfl)).trans rfl), ((Reg.kept ho 59 (by kernel_rfl)).trans rfl), ((Reg.kept ho 60 (by kernel_rfl)).trans rfl), ((Reg.kept ho 61 (by kernel_rfl)).trans rfl), ((Reg.kept ho 62 (by kernel_rfl)).trans rfl), ((Reg.kept ho 63 (by kernel_rfl)).trans rfl), ((Reg.kept ho 64 (by kernel_rfl)).trans rfl), ((Reg.kept ho 65 (by kernel_rfl)).trans rfl), ((Reg.kept ho 66 (by kernel_rfl)).trans rfl), ((Reg.kept ho 67 (by kernel_rfl)).trans rfl), ((Reg.kept ho 68 (by kernel_rfl)).trans rfl), ((Reg.kept ho 69 (by kernel_rfl)).trans rfl), ((Reg.kept ho 70 (by kernel_rfl)).trans rfl), ((Reg.kept ho 71 (by kernel_rfl)).trans rfl), ((Reg.kept ho 72 (by kernel_rfl)).trans rfl), ((Reg.kept ho 73 (by kernel_rfl)).trans rfl), ((Reg.kept ho 74 (by kernel_rfl)).trans rfl), ((Reg.kept ho 75 (by kernel_rfl)).trans rfl), ((Reg.kept ho 76 (by kernel_rfl)).trans rfl), trivial⟩
  subst hcx
  have HB7 : Hid (Below w.heap.size w w7) := Lib.hid (HB6.out.trans (hB.mono HB6.out.size))
  have HH7 := Lib.hid (HH6.out.below hB)
  have HA7 := Lib.hid (HA6.out.below hB)
  have HX7 := Lib.hid (HX.out.below hB)
  have hc := Hi.count_any HH7.out
  clear hv ho hB hsz hdf HB6 HH6 HA6 HX HN1 HN2
  go_wp2_with fail
  rw [HC0.out] at hc
  refine hc.mono ?_
  rintro e w8 ⟨rfl, hB8⟩
  have HB8 : Hid (Below w.heap.size w w8) := Lib.hid (HB7.out.trans (hB8.mono HB7.out.size))
  have HH8 := Lib.hid (HH7.out.below hB8)
  have HA8 := Lib.hid (HA7.out.below hB8)
  have HX8 := Lib.hid (HX7.out.below hB8)
  clear hc hB8 HB7 HH7 HA7 HX7
  have c0 := HX8.out.cell 0 _ rfl
  have c1 := HX8.out.cell 1 _ rfl
  have heq := fun W => sum_eql (Wi.shi z) 0 (Wi.slo z) 0 W
  have hgu := fun x y W => sum_guard x y #[.int .i64 (Wi.shi z), .int .u64 (Wi.slo z)] #[.int .i64 0, .int .u64 0] W
  have hzz : ((Wi.shi z == 0) && (Wi.slo z == 0)) = true := by
    have := sum_same (a := z) (b := 0)
    rw [show Wi.shi 0 = 0 from rfl, show Wi.slo 0 = 0 from rfl] at this
    rw [this]
    simp [HZZ.out]
  have hl1 : (lo == 0) = false := by simp [HLL.out]
  go_wp2_with fail
  refine (must_no _).mono ?_
  rintro e w9 ⟨rfl, hB9⟩
  have HB9 : Hid (Below w.heap.size w w9) := Lib.hid (HB8.out.trans (hB9.mono HB8.out.size))
  clear hB9
  go_wp2
  exact ⟨rfl, rfl, HB9.out⟩
set_option maxRecDepth 100000 in
set_option maxHeartbeats 4000000 in
theorem read_e3 (s : ByteArray) (h : 40 ≤ s.size) (hm : s.size ≤ maxLen) {k : Nat} {l : List Hit} {t : List UInt8} (hF : getF (s.data.toList.drop 40) = some (k, l, t)) (hc0 : countH l = 0) (hz : sumB s.data.toList = 0) (hl : lowB s.data.toList = 0) (ht : ¬ topB s.data.toList = 0) (w : World) :
    Calls Tryd.prog 33 #[.string s] w fun e w' => e = PE ∧ Below w.heap.size w w' := by
  have HG : Hid (∀ W, Calls Tryd.prog 48 #[.string (s.extract 40 s.size)] W fun e w' => (∃ B v, e = .returned (.tuple #[.pointer (some ⟨B, 0, none⟩), .string (tx t), .int .i64 0]) ∧ Hs W.heap.size 66 B k v l w') ∧ Below W.heap.size W w') := Lib.hid fun W => by
    have := Hi.get_any (s.extract 40 s.size) (by rw [ByteArray.size_extract]; omega) W
    rwa [drop_toList, hF] at this
  have HN0 : Hid (∀ W, Calls Tryd.prog 49 #[.string s] W fun e w' => e = .returned (.int .i64 (num8 s.data.toList)) ∧ W = w') := Lib.hid fun W => getnumber_any s (by omega) hm W
  have HN1 : Hid (∀ W, Calls Tryd.prog 49 #[.string (s.extract 24 s.size)] W fun e w' => e = .returned (.int .i64 (lowB s.data.toList)) ∧ Below W.heap.size W w') := Lib.hid fun W => by
    have := getnumber_any (s.extract 24 s.size) (by rw [ByteArray.size_extract]; omega) (by rw [ByteArray.size_extract]; omega) W
    rw [drop_toList] at this
    exact this.mono fun e w' h => ⟨h.1, h.2 ▸ Below.refl _ _⟩
  have HN2 : Hid (∀ W, Calls Tryd.prog 49 #[.string (s.extract 32 s.size)] W fun e w' => e = .returned (.int .i64 (topB s.data.toList)) ∧ Below W.heap.size W w') := Lib.hid fun W => by
    have := getnumber_any (s.extract 32 s.size) (by rw [ByteArray.size_extract]; omega) (by rw [ByteArray.size_extract]; omega) W
    rw [drop_toList] at this
    exact this.mono fun e w' h => ⟨h.1, h.2 ▸ Below.refl _ _⟩
  have HW : Hid (∀ W, Calls Tryd.prog 50 #[.string (s.extract 8 24)] W fun e w' => e = .returned (.tuple #[Wi.sv (sumB s.data.toList), .bool true]) ∧ Below W.heap.size W w') := Lib.hid fun W => by
    have := Wi.get_full (s.extract 8 24) (by rw [ByteArray.size_extract]; omega) W
    rwa [extract_toList] at this
  have HZ : Hid (Wi.InS (sumB s.data.toList)) := Lib.hid (Wi.getS_parts _).1
  have HLO : Hid (In64 (lowB s.data.toList)) := Lib.hid (num8_in _)
  have HHI : Hid (In64 (topB s.data.toList)) := Lib.hid (num8_in _)
  have HFR : Hid (In64 (num8 s.data.toList)) := Lib.hid (num8_in _)
  have h40 : decide ((40 : Int) ≤ (s.size : Int)) = true := decide_eq_true (by omega)
  unfold maxLen at hm
  clear hF
  generalize sumB s.data.toList = z at *
  generalize lowB s.data.toList = lo at *
  generalize topB s.data.toList = hi at *
  generalize num8 s.data.toList = f at *
  have HC0 := Lib.hid hc0
  clear hc0
  have HZZ := Lib.hid hz
  have HLL := Lib.hid hl
  have HTT := Lib.hid ht
  clear hz hl ht
  go_enter Tryd.func33, Tryd.ntmps33
  go_wp2_with fail
  refine (must_yes _).mono ?_
  rintro e w1 ⟨rfl, hB1⟩
  go_wp2_with fail
  refine (HG.out _).mono ?_
  rintro e w2 ⟨⟨B, v, rfl, hH⟩, hB2⟩
  have HB2 : Hid (Below w.heap.size w w2) := Lib.hid (hB1.trans (hB2.mono hB1.size))
  have HH := Lib.hid (hH.mono hB1.size)
  clear hB1 hB2 HG hH
  go_wp2_with fail
  refine (must_yes _).mono ?_
  rintro e w3 ⟨rfl, hB3⟩
  have HB3 : Hid (Below w.heap.size w w3) := Lib.hid (HB2.out.trans (hB3.mono HB2.out.size))
  have HH3 := Lib.hid (HH.out.below hB3)
  clear hB3 HB2 HH
  go_wp2_with fail
  refine (HN0.out _).mono ?_
  rintro e _ ⟨rfl, rfl⟩
  have hb := bits_any HH3.out
  clear HN0
  go_wp2_with fail
  refine hb.mono ?_
  rintro e _ ⟨rfl, rfl⟩
  have hn := new_any k HH3.out.inv.hk f HFR.out w3
  clear hb
  go_wp2_with fail
  refine hn.mono ?_
  rintro e w4 ⟨C, S, rfl, hA, hlo, hB4⟩
  have HB4 : Hid (Below w.heap.size w w4) := Lib.hid (HB3.out.trans (hB4.mono HB3.out.size))
  have HH4 := Lib.hid (HH3.out.below hB4)
  have HA := Lib.hid hA
  have HS : Hid (∀ i, S i → w3.heap.size ≤ i) := Lib.hid hlo
  have HBL : Hid (∀ i, i = B ∨ v.ownBlock = some i → i < w3.heap.size) := Lib.hid fun i hi => by
    rcases hi with h | h
    · rw [h]; exact HH3.out.lt
    · exact (HH3.out.row.lt h).2
  have hs34 := Lib.hid hB4.size
  have hs03 := Lib.hid HB3.out.size
  clear hn hA hlo hB4 HB3 HH3
  go_wp2_with fail
  refine (HW.out _).mono ?_
  rintro e w5 ⟨rfl, hB5⟩
  rw [show Wi.sv z = .agg #[.int .i64 (Wi.shi z), .int .u64 (Wi.slo z)] from rfl]
  have HB5 : Hid (Below w.heap.size w w5) := Lib.hid (HB4.out.trans (hB5.mono HB4.out.size))
  have hX := CellsAt.new #[.int .i64 (Wi.shi z), .int .u64 (Wi.slo z)] 26 w5
  have hBx : Below w5.heap.size w5 (w5.alloc (.cells #[.int .i64 (Wi.shi z), .int .u64 (Wi.slo z)] 26)) := (Below.refl _ _).alloc (Nat.le_refl _) _
  have HH6 := Lib.hid ((HH4.out.below hB5).below hBx)
  have HA6 := Lib.hid ((HA.out.below hB5).below hBx)
  have HB6 : Hid (Below w.heap.size w (w5.alloc (.cells #[.int .i64 (Wi.shi z), .int .u64 (Wi.slo z)] 26))) := Lib.hid (HB5.out.alloc HB5.out.size _)
  have HX := Lib.hid hX
  have HCX : Hid (∀ i, S i → i < w5.heap.size) := Lib.hid fun i hi => Nat.lt_of_lt_of_le (HA.out.own i hi) hB5.size
  clear hB5 hX hBx HB5 HH4 HA HW HB4
  go_wp2_with fail
  generalize w5.alloc (.cells #[.int .i64 (Wi.shi z), .int .u64 (Wi.slo z)] 26) = w6 at *
  generalize w5.heap.size = X at *
  refine Reg.wp_region_inv (n := 77) (RdPhi s lo hi) (by kernel_rfl) (by kernel_rfl) rfl RdPhi.stays ?_ ?_
  · refine ⟨?_, ?_, ?_, ?_, ?_, ?_, ?_, ?_, trivial⟩
    · intro cx wc hB hp hs
      have g0 : cx.tmps[0]? = some (.string s) := (hs 0 (by kernel_rfl)).trans rfl
      refine Reg.ok_value Reg.Old.refl (v := .string s) (Reg.wanted_none rfl) ?_ rfl
      go_simp
    · intro cx wc hB hp hs
      have g41 : cx.tmps[41]? = some (.string s) := by obtain ⟨_, g, hv⟩ := Reg.pred hp 0 41 (by kernel_rfl) rfl rfl; exact g.trans (congrArg some hv)
      refine Reg.ok_value Reg.Old.refl (v := .string (s.extract 24 s.size)) (Reg.wanted_none rfl) ?_ rfl
      go_simp
      intro hh
      exact absurd hh (by omega)
    · intro cx wc hB hp hs
      have g42 : cx.tmps[42]? = some (.string (s.extract 24 s.size)) := by obtain ⟨_, g, hv⟩ := Reg.pred hp 1 42 (by kernel_rfl) rfl rfl; exact g.trans (congrArg some hv)
      refine Reg.ok_call (f := 49) (args := #[.string (s.extract 24 s.size)]) (Reg.wanted_none rfl) (by go_simp) ((HN1.out wc).mono ?_)
      rintro e w' ⟨rfl, hB2⟩
      exact ⟨_, rfl, hB2, rfl⟩
    · intro cx wc hB hp hs
      have g0 : cx.tmps[0]? = some (.string s) := (hs 0 (by kernel_rfl)).trans rfl
      refine Reg.ok_value Reg.Old.refl (v := .string s) (Reg.wanted_none rfl) ?_ rfl
      go_simp
    · intro cx wc hB hp hs
      have g44 : cx.tmps[44]? = some (.string s) := by obtain ⟨_, g, hv⟩ := Reg.pred hp 3 44 (by kernel_rfl) rfl rfl; exact g.trans (congrArg some hv)
      refine Reg.ok_value Reg.Old.refl (v := .string (s.extract 32 s.size)) (Reg.wanted_none rfl) ?_ rfl
      go_simp
      intro hh
      exact absurd hh (by omega)
    · intro cx wc hB hp hs
      have g45 : cx.tmps[45]? = some (.string (s.extract 32 s.size)) := by obtain ⟨_, g, hv⟩ := Reg.pred hp 4 45 (by kernel_rfl) rfl rfl; exact g.trans (congrArg some hv)
      refine Reg.ok_call (f := 49) (args := #[.string (s.extract 32 s.size)]) (Reg.wanted_none rfl) (by go_simp) ((HN2.out wc).mono ?_)
      rintro e w' ⟨rfl, hB2⟩
      exact ⟨_, rfl, hB2, rfl⟩
    · intro cx wc hB hp hs
      have g43 : cx.tmps[43]? = some (.int .i64 lo) := by obtain ⟨_, g, hv⟩ := Reg.pred hp 2 43 (by kernel_rfl) rfl rfl; exact g.trans (congrArg some hv)
      refine Reg.ok_value Reg.Old.refl (v := .int .i64 lo) (Reg.wanted_none rfl) ?_ rfl
      go_simp
    · intro cx wc hB hp hs
      have g46 : cx.tmps[46]? = some (.int .i64 hi) := by obtain ⟨_, g, hv⟩ := Reg.pred hp 5 46 (by kernel_rfl) rfl rfl; exact g.trans (congrArg some hv)
      refine Reg.ok_value Reg.Old.refl (v := .int .i64 hi) (Reg.wanted_none rfl) ?_ rfl
      go_simp
  intro cx w7 hB hsz hdf hv ho
  have hcx := Reg.frame_eq [_, _, _, _, _, _, _, _, _, _, _, .int .i64 lo, .int .i64 hi, _, _, _, _, _, _, _, _, _, _, _, _, _, _, _, _, _, _, _, _, _, _, _, _, _, _, _, _, .string s, .string (s.extract 24 s.size), .int .i64 lo, .string s, .string (s.extract 32 s.size), .int .i64 hi, _, _, _, _, _, _, _, _, _, _, _, _, _, _, _, _, _, _, _, _, _, _, _, _, _, _, _, _, _, _] (by simpa using hsz) hdf ⟨((Reg.kept ho 0 (by kernel_rfl)).trans rfl), ((Reg.kept ho 1 (by kernel_rfl)).trans rfl), ((Reg.kept ho 2 (by kernel_rfl)).trans rfl), ((Reg.kept ho 3 (by kernel_rfl)).trans rfl), ((Reg.kept ho 4 (by kernel_rfl)).trans rfl), ((Reg.kept ho 5 (by kernel_rfl)).trans rfl), ((Reg.kept ho 6 (by kernel_rfl)).trans rfl), ((Reg.kept ho 7 (by kernel_rfl)).trans rfl), ((Reg.kept ho 8 (by kernel_rfl)).trans rfl), ((Reg.kept ho 9 (by kernel_rfl)).trans rfl), ((Reg.kept ho 10 (by kernel_rfl)).trans rfl), (by obtain ⟨_, g, hx⟩ := hv 6 _ 11 rfl rfl; exact g.trans (congrArg some hx)), (by obtain ⟨_, g, hx⟩ := hv 7 _ 12 rfl rfl; exact g.trans (congrArg some hx)), ((Reg.kept ho 13 (by kernel_rfl)).trans rfl), ((Reg.kept ho 14 (by kernel_rfl)).trans rfl), ((Reg.kept ho 15 (by kernel_rfl)).trans rfl), ((Reg.kept ho 16 (by kernel_rfl)).trans rfl), ((Reg.kept ho 17 (by kernel_rfl)).trans rfl), ((Reg.kept ho 18 (by kernel_rfl)).trans rfl), ((Reg.kept ho 19 (by kernel_rfl)).trans rfl), ((Reg.kept ho 20 (by kernel_rfl)).trans rfl), ((Reg.kept ho 21 (by kernel_rfl)).trans rfl), ((Reg.kept ho 22 (by kernel_rfl)).trans rfl), ((Reg.kept ho 23 (by kernel_rfl)).trans rfl), ((Reg.kept ho 24 (by kernel_rfl)).trans rfl), ((Reg.kept ho 25 (by kernel_rfl)).trans rfl), ((Reg.kept ho 26 (by kernel_rfl)).trans rfl), ((Reg.kept ho 27 (by kernel_rfl)).trans rfl), ((Reg.kept ho 28 (by kernel_rfl)).trans rfl), ((Reg.kept ho 29 (by kernel_rfl)).trans rfl), ((Reg.kept ho 30 (by kernel_rfl)).trans rfl), ((Reg.kept ho 31 (by kernel_rfl)).trans rfl), ((Reg.kept ho 32 (by kernel_rfl)).trans rfl), ((Reg.kept ho 33 (by kernel_rfl)).trans rfl), ((Reg.kept ho 34 (by kernel_rfl)).trans rfl), ((Reg.kept ho 35 (by kernel_rfl)).trans rfl), ((Reg.kept ho 36 (by kernel_rfl)).trans rfl), ((Reg.kept ho 37 (by kernel_rfl)).trans rfl), ((Reg.kept ho 38 (by kernel_rfl)).trans rfl), ((Reg.kept ho 39 (by kernel_rfl)).trans rfl), ((Reg.kept ho 40 (by kernel_rfl)).trans rfl), (by obtain ⟨_, g, hx⟩ := hv 0 _ 41 rfl rfl; exact g.trans (congrArg some hx)), (by obtain ⟨_, g, hx⟩ := hv 1 _ 42 rfl rfl; exact g.trans (congrArg some hx)), (by obtain ⟨_, g, hx⟩ := hv 2 _ 43 rfl rfl; exact g.trans (congrArg some hx)), (by obtain ⟨_, g, hx⟩ := hv 3 _ 44 rfl rfl; exact g.trans (congrArg some hx)), (by obtain ⟨_, g, hx⟩ := hv 4 _ 45 rfl rfl; exact g.trans (congrArg some hx)), (by obtain ⟨_, g, hx⟩ := hv 5 _ 46 rfl rfl; exact g.trans (congrArg some hx)), ((Reg.kept ho 47 (by kernel_rfl)).trans rfl), ((Reg.kept ho 48 (by kernel_rfl)).trans rfl), ((Reg.kept ho 49 (by kernel_rfl)).trans rfl), ((Reg.kept ho 50 (by kernel_rfl)).trans rfl), ((Reg.kept ho 51 (by kernel_rfl)).trans rfl), ((Reg.kept ho 52 (by kernel_rfl)).trans rfl), ((Reg.kept ho 53 (by kernel_rfl)).trans rfl), ((Reg.kept ho 54 (by kernel_rfl)).trans rfl), ((Reg.kept ho 55 (by kernel_rfl)).trans rfl), ((Reg.kept ho 56 (by kernel_rfl)).trans rfl), ((Reg.kept ho 57 (by kernel_rfl)).trans rfl), ((Reg.kept ho 58 (by kernel_rfl)).trans rfl), ((Reg.kept ho 59 (by kernel_rfl)).trans rfl), ((Reg.kept ho 60 (by kernel_rfl)).trans rfl), ((Reg.kept ho 61 (by kernel_rfl)).trans rfl), ((Reg.kept ho 62 (by kernel_rfl)).trans rfl), ((Reg.kept ho 63 (by kernel_rfl)).trans rfl), ((Reg.kept ho 64 (by kernel_rfl)).trans rfl), ((Reg.kept ho 65 (by kernel_rfl)).trans rfl), ((Reg.kept ho 66 (by kernel_rfl)).trans rfl), ((Reg.kept ho 67 (by kernel_rfl)).trans rfl), ((Reg.kept ho 68 (by kernel_rfl)).trans rfl), ((Reg.kept ho 69 (by kernel_rfl)).trans rfl), ((Reg.kept ho 70 (by kernel_rfl)).trans rfl), ((Reg.kept ho 71 (by kernel_rfl)).trans rfl), ((Reg.kept ho 72 (by kernel_rfl)).trans rfl), ((Reg.kept ho 73 (by kernel_rfl)).trans rfl), ((Reg.kept ho 74 (by kernel_rfl)).trans rfl), ((Reg.kept ho 75 (by kernel_rfl)).trans rfl), ((Reg.kept ho 76 (by kernel_rfl)).trans rfl), trivial⟩
  subst hcx
  have HB7 : Hid (Below w.heap.size w w7) := Lib.hid (HB6.out.trans (hB.mono HB6.out.size))
  have HH7 := Lib.hid (HH6.out.below hB)
  have HA7 := Lib.hid (HA6.out.below hB)
  have HX7 := Lib.hid (HX.out.below hB)
  have hc := Hi.count_any HH7.out
  clear hv ho hB hsz hdf HB6 HH6 HA6 HX HN1 HN2
  go_wp2_with fail
  rw [HC0.out] at hc
  refine hc.mono ?_
  rintro e w8 ⟨rfl, hB8⟩
  have HB8 : Hid (Below w.heap.size w w8) := Lib.hid (HB7.out.trans (hB8.mono HB7.out.size))
  have HH8 := Lib.hid (HH7.out.below hB8)
  have HA8 := Lib.hid (HA7.out.below hB8)
  have HX8 := Lib.hid (HX7.out.below hB8)
  clear hc hB8 HB7 HH7 HA7 HX7
  have c0 := HX8.out.cell 0 _ rfl
  have c1 := HX8.out.cell 1 _ rfl
  have heq := fun W => sum_eql (Wi.shi z) 0 (Wi.slo z) 0 W
  have hgu := fun x y W => sum_guard x y #[.int .i64 (Wi.shi z), .int .u64 (Wi.slo z)] #[.int .i64 0, .int .u64 0] W
  have hzz : ((Wi.shi z == 0) && (Wi.slo z == 0)) = true := by
    have := sum_same (a := z) (b := 0)
    rw [show Wi.shi 0 = 0 from rfl, show Wi.slo 0 = 0 from rfl] at this
    rw [this]
    simp [HZZ.out]
  have hl1 : (lo == 0) = true := by simp [HLL.out]
  have ht1 : (hi == 0) = false := by simp [HTT.out]
  go_wp2_with fail
  refine (must_no _).mono ?_
  rintro e w9 ⟨rfl, hB9⟩
  have HB9 : Hid (Below w.heap.size w w9) := Lib.hid (HB8.out.trans (hB9.mono HB8.out.size))
  clear hB9
  go_wp2
  exact ⟨rfl, rfl, HB9.out⟩
set_option maxRecDepth 100000 in
set_option maxHeartbeats 4000000 in
theorem read_e4 (s : ByteArray) (h : 40 ≤ s.size) (hm : s.size ≤ maxLen) {k : Nat} {l : List Hit} {t : List UInt8} (hF : getF (s.data.toList.drop 40) = some (k, l, t)) (hc0 : countH l = 0) (hz : sumB s.data.toList = 0) (hl : lowB s.data.toList = 0) (ht : topB s.data.toList = 0) (w : World) :
    Calls Tryd.prog 33 #[.string s] w fun e w' => ReadV w.heap.size (some (⟨k, num8 s.data.toList, l, 0, 9223372036854775807, -9223372036854775808⟩, t)) e w' ∧ Below w.heap.size w w' := by
  have HG : Hid (∀ W, Calls Tryd.prog 48 #[.string (s.extract 40 s.size)] W fun e w' => (∃ B v, e = .returned (.tuple #[.pointer (some ⟨B, 0, none⟩), .string (tx t), .int .i64 0]) ∧ Hs W.heap.size 66 B k v l w') ∧ Below W.heap.size W w') := Lib.hid fun W => by
    have := Hi.get_any (s.extract 40 s.size) (by rw [ByteArray.size_extract]; omega) W
    rwa [drop_toList, hF] at this
  have HN0 : Hid (∀ W, Calls Tryd.prog 49 #[.string s] W fun e w' => e = .returned (.int .i64 (num8 s.data.toList)) ∧ W = w') := Lib.hid fun W => getnumber_any s (by omega) hm W
  have HN1 : Hid (∀ W, Calls Tryd.prog 49 #[.string (s.extract 24 s.size)] W fun e w' => e = .returned (.int .i64 (lowB s.data.toList)) ∧ Below W.heap.size W w') := Lib.hid fun W => by
    have := getnumber_any (s.extract 24 s.size) (by rw [ByteArray.size_extract]; omega) (by rw [ByteArray.size_extract]; omega) W
    rw [drop_toList] at this
    exact this.mono fun e w' h => ⟨h.1, h.2 ▸ Below.refl _ _⟩
  have HN2 : Hid (∀ W, Calls Tryd.prog 49 #[.string (s.extract 32 s.size)] W fun e w' => e = .returned (.int .i64 (topB s.data.toList)) ∧ Below W.heap.size W w') := Lib.hid fun W => by
    have := getnumber_any (s.extract 32 s.size) (by rw [ByteArray.size_extract]; omega) (by rw [ByteArray.size_extract]; omega) W
    rw [drop_toList] at this
    exact this.mono fun e w' h => ⟨h.1, h.2 ▸ Below.refl _ _⟩
  have HW : Hid (∀ W, Calls Tryd.prog 50 #[.string (s.extract 8 24)] W fun e w' => e = .returned (.tuple #[Wi.sv (sumB s.data.toList), .bool true]) ∧ Below W.heap.size W w') := Lib.hid fun W => by
    have := Wi.get_full (s.extract 8 24) (by rw [ByteArray.size_extract]; omega) W
    rwa [extract_toList] at this
  have HZ : Hid (Wi.InS (sumB s.data.toList)) := Lib.hid (Wi.getS_parts _).1
  have HLO : Hid (In64 (lowB s.data.toList)) := Lib.hid (num8_in _)
  have HHI : Hid (In64 (topB s.data.toList)) := Lib.hid (num8_in _)
  have HFR : Hid (In64 (num8 s.data.toList)) := Lib.hid (num8_in _)
  have h40 : decide ((40 : Int) ≤ (s.size : Int)) = true := decide_eq_true (by omega)
  unfold maxLen at hm
  clear hF
  generalize sumB s.data.toList = z at *
  generalize lowB s.data.toList = lo at *
  generalize topB s.data.toList = hi at *
  generalize num8 s.data.toList = f at *
  have HC0 := Lib.hid hc0
  clear hc0
  have HZZ := Lib.hid hz
  have HLL := Lib.hid hl
  have HTT := Lib.hid ht
  clear hz hl ht
  go_enter Tryd.func33, Tryd.ntmps33
  go_wp2_with fail
  refine (must_yes _).mono ?_
  rintro e w1 ⟨rfl, hB1⟩
  go_wp2_with fail
  refine (HG.out _).mono ?_
  rintro e w2 ⟨⟨B, v, rfl, hH⟩, hB2⟩
  have HB2 : Hid (Below w.heap.size w w2) := Lib.hid (hB1.trans (hB2.mono hB1.size))
  have HH := Lib.hid (hH.mono hB1.size)
  clear hB1 hB2 HG hH
  go_wp2_with fail
  refine (must_yes _).mono ?_
  rintro e w3 ⟨rfl, hB3⟩
  have HB3 : Hid (Below w.heap.size w w3) := Lib.hid (HB2.out.trans (hB3.mono HB2.out.size))
  have HH3 := Lib.hid (HH.out.below hB3)
  clear hB3 HB2 HH
  go_wp2_with fail
  refine (HN0.out _).mono ?_
  rintro e _ ⟨rfl, rfl⟩
  have hb := bits_any HH3.out
  clear HN0
  go_wp2_with fail
  refine hb.mono ?_
  rintro e _ ⟨rfl, rfl⟩
  have hn := new_any k HH3.out.inv.hk f HFR.out w3
  clear hb
  go_wp2_with fail
  refine hn.mono ?_
  rintro e w4 ⟨C, S, rfl, hA, hlo, hB4⟩
  have HB4 : Hid (Below w.heap.size w w4) := Lib.hid (HB3.out.trans (hB4.mono HB3.out.size))
  have HH4 := Lib.hid (HH3.out.below hB4)
  have HA := Lib.hid hA
  have HS : Hid (∀ i, S i → w3.heap.size ≤ i) := Lib.hid hlo
  have HBL : Hid (∀ i, i = B ∨ v.ownBlock = some i → i < w3.heap.size) := Lib.hid fun i hi => by
    rcases hi with h | h
    · rw [h]; exact HH3.out.lt
    · exact (HH3.out.row.lt h).2
  have hs34 := Lib.hid hB4.size
  have hs03 := Lib.hid HB3.out.size
  clear hn hA hlo hB4 HB3 HH3
  go_wp2_with fail
  refine (HW.out _).mono ?_
  rintro e w5 ⟨rfl, hB5⟩
  rw [show Wi.sv z = .agg #[.int .i64 (Wi.shi z), .int .u64 (Wi.slo z)] from rfl]
  have HB5 : Hid (Below w.heap.size w w5) := Lib.hid (HB4.out.trans (hB5.mono HB4.out.size))
  have hX := CellsAt.new #[.int .i64 (Wi.shi z), .int .u64 (Wi.slo z)] 26 w5
  have hBx : Below w5.heap.size w5 (w5.alloc (.cells #[.int .i64 (Wi.shi z), .int .u64 (Wi.slo z)] 26)) := (Below.refl _ _).alloc (Nat.le_refl _) _
  have HH6 := Lib.hid ((HH4.out.below hB5).below hBx)
  have HA6 := Lib.hid ((HA.out.below hB5).below hBx)
  have HB6 : Hid (Below w.heap.size w (w5.alloc (.cells #[.int .i64 (Wi.shi z), .int .u64 (Wi.slo z)] 26))) := Lib.hid (HB5.out.alloc HB5.out.size _)
  have HX := Lib.hid hX
  have HCX : Hid (∀ i, S i → i < w5.heap.size) := Lib.hid fun i hi => Nat.lt_of_lt_of_le (HA.out.own i hi) hB5.size
  clear hB5 hX hBx HB5 HH4 HA HW HB4
  go_wp2_with fail
  generalize w5.alloc (.cells #[.int .i64 (Wi.shi z), .int .u64 (Wi.slo z)] 26) = w6 at *
  generalize w5.heap.size = X at *
  refine Reg.wp_region_inv (n := 77) (RdPhi s lo hi) (by kernel_rfl) (by kernel_rfl) rfl RdPhi.stays ?_ ?_
  · refine ⟨?_, ?_, ?_, ?_, ?_, ?_, ?_, ?_, trivial⟩
    · intro cx wc hB hp hs
      have g0 : cx.tmps[0]? = some (.string s) := (hs 0 (by kernel_rfl)).trans rfl
      refine Reg.ok_value Reg.Old.refl (v := .string s) (Reg.wanted_none rfl) ?_ rfl
      go_simp
    · intro cx wc hB hp hs
      have g41 : cx.tmps[41]? = some (.string s) := by obtain ⟨_, g, hv⟩ := Reg.pred hp 0 41 (by kernel_rfl) rfl rfl; exact g.trans (congrArg some hv)
      refine Reg.ok_value Reg.Old.refl (v := .string (s.extract 24 s.size)) (Reg.wanted_none rfl) ?_ rfl
      go_simp
      intro hh
      exact absurd hh (by omega)
    · intro cx wc hB hp hs
      have g42 : cx.tmps[42]? = some (.string (s.extract 24 s.size)) := by obtain ⟨_, g, hv⟩ := Reg.pred hp 1 42 (by kernel_rfl) rfl rfl; exact g.trans (congrArg some hv)
      refine Reg.ok_call (f := 49) (args := #[.string (s.extract 24 s.size)]) (Reg.wanted_none rfl) (by go_simp) ((HN1.out wc).mono ?_)
      rintro e w' ⟨rfl, hB2⟩
      exact ⟨_, rfl, hB2, rfl⟩
    · intro cx wc hB hp hs
      have g0 : cx.tmps[0]? = some (.string s) := (hs 0 (by kernel_rfl)).trans rfl
      refine Reg.ok_value Reg.Old.refl (v := .string s) (Reg.wanted_none rfl) ?_ rfl
      go_simp
    · intro cx wc hB hp hs
      have g44 : cx.tmps[44]? = some (.string s) := by obtain ⟨_, g, hv⟩ := Reg.pred hp 3 44 (by kernel_rfl) rfl rfl; exact g.trans (congrArg some hv)
      refine Reg.ok_value Reg.Old.refl (v := .string (s.extract 32 s.size)) (Reg.wanted_none rfl) ?_ rfl
      go_simp
      intro hh
      exact absurd hh (by omega)
    · intro cx wc hB hp hs
      have g45 : cx.tmps[45]? = some (.string (s.extract 32 s.size)) := by obtain ⟨_, g, hv⟩ := Reg.pred hp 4 45 (by kernel_rfl) rfl rfl; exact g.trans (congrArg some hv)
      refine Reg.ok_call (f := 49) (args := #[.string (s.extract 32 s.size)]) (Reg.wanted_none rfl) (by go_simp) ((HN2.out wc).mono ?_)
      rintro e w' ⟨rfl, hB2⟩
      exact ⟨_, rfl, hB2, rfl⟩
    · intro cx wc hB hp hs
      have g43 : cx.tmps[43]? = some (.int .i64 lo) := by obtain ⟨_, g, hv⟩ := Reg.pred hp 2 43 (by kernel_rfl) rfl rfl; exact g.trans (congrArg some hv)
      refine Reg.ok_value Reg.Old.refl (v := .int .i64 lo) (Reg.wanted_none rfl) ?_ rfl
      go_simp
    · intro cx wc hB hp hs
      have g46 : cx.tmps[46]? = some (.int .i64 hi) := by obtain ⟨_, g, hv⟩ := Reg.pred hp 5 46 (by kernel_rfl) rfl rfl; exact g.trans (congrArg some hv)
      refine Reg.ok_value Reg.Old.refl (v := .int .i64 hi) (Reg.wanted_none rfl) ?_ rfl
      go_simp
  intro cx w7 hB hsz hdf hv ho
  have hcx := Reg.frame_eq [_, _, _, _, _, _, _, _, _, _, _, .int .i64 lo, .int .i64 hi, _, _, _, _, _, _, _, _, _, _, _, _, _, _, _, _, _, _, _, _, _, _, _, _, _, _, _, _, .string s, .string (s.extract 24 s.size), .int .i64 lo, .string s, .string (s.extract 32 s.size), .int .i64 hi, _, _, _, _, _, _, _, _, _, _, _, _, _, _, _, _, _, _, _, _, _, _, _, _, _, _, _, _, _, _] (by simpa using hsz) hdf ⟨((Reg.kept ho 0 (by kernel_rfl)).trans rfl), ((Reg.kept ho 1 (by kernel_rfl)).trans rfl), ((Reg.kept ho 2 (by kernel_rfl)).trans rfl), ((Reg.kept ho 3 (by kernel_rfl)).trans rfl), ((Reg.kept ho 4 (by kernel_rfl)).trans rfl), ((Reg.kept ho 5 (by kernel_rfl)).trans rfl), ((Reg.kept ho 6 (by kernel_rfl)).trans rfl), ((Reg.kept ho 7 (by kernel_rfl)).trans rfl), ((Reg.kept ho 8 (by kernel_rfl)).trans rfl), ((Reg.kept ho 9 (by kernel_rfl)).trans rfl), ((Reg.kept ho 10 (by kernel_rfl)).trans rfl), (by obtain ⟨_, g, hx⟩ := hv 6 _ 11 rfl rfl; exact g.trans (congrArg some hx)), (by obtain ⟨_, g, hx⟩ := hv 7 _ 12 rfl rfl; exact g.trans (congrArg some hx)), ((Reg.kept ho 13 (by kernel_rfl)).trans rfl), ((Reg.kept ho 14 (by kernel_rfl)).trans rfl), ((Reg.kept ho 15 (by kernel_rfl)).trans rfl), ((Reg.kept ho 16 (by kernel_rfl)).trans rfl), ((Reg.kept ho 17 (by kernel_rfl)).trans rfl), ((Reg.kept ho 18 (by kernel_rfl)).trans rfl), ((Reg.kept ho 19 (by kernel_rfl)).trans rfl), ((Reg.kept ho 20 (by kernel_rfl)).trans rfl), ((Reg.kept ho 21 (by kernel_rfl)).trans rfl), ((Reg.kept ho 22 (by kernel_rfl)).trans rfl), ((Reg.kept ho 23 (by kernel_rfl)).trans rfl), ((Reg.kept ho 24 (by kernel_rfl)).trans rfl), ((Reg.kept ho 25 (by kernel_rfl)).trans rfl), ((Reg.kept ho 26 (by kernel_rfl)).trans rfl), ((Reg.kept ho 27 (by kernel_rfl)).trans rfl), ((Reg.kept ho 28 (by kernel_rfl)).trans rfl), ((Reg.kept ho 29 (by kernel_rfl)).trans rfl), ((Reg.kept ho 30 (by kernel_rfl)).trans rfl), ((Reg.kept ho 31 (by kernel_rfl)).trans rfl), ((Reg.kept ho 32 (by kernel_rfl)).trans rfl), ((Reg.kept ho 33 (by kernel_rfl)).trans rfl), ((Reg.kept ho 34 (by kernel_rfl)).trans rfl), ((Reg.kept ho 35 (by kernel_rfl)).trans rfl), ((Reg.kept ho 36 (by kernel_rfl)).trans rfl), ((Reg.kept ho 37 (by kernel_rfl)).trans rfl), ((Reg.kept ho 38 (by kernel_rfl)).trans rfl), ((Reg.kept ho 39 (by kernel_rfl)).trans rfl), ((Reg.kept ho 40 (by kernel_rfl)).trans rfl), (by obtain ⟨_, g, hx⟩ := hv 0 _ 41 rfl rfl; exact g.trans (congrArg some hx)), (by obtain ⟨_, g, hx⟩ := hv 1 _ 42 rfl rfl; exact g.trans (congrArg some hx)), (by obtain ⟨_, g, hx⟩ := hv 2 _ 43 rfl rfl; exact g.trans (congrArg some hx)), (by obtain ⟨_, g, hx⟩ := hv 3 _ 44 rfl rfl; exact g.trans (congrArg some hx)), (by obtain ⟨_, g, hx⟩ := hv 4 _ 45 rfl rfl; exact g.trans (congrArg some hx)), (by obtain ⟨_, g, hx⟩ := hv 5 _ 46 rfl rfl; exact g.trans (congrArg some hx)), ((Reg.kept ho 47 (by kernel_rfl)).trans rfl), ((Reg.kept ho 48 (by kernel_rfl)).trans rfl), ((Reg.kept ho 49 (by kernel_rfl)).trans rfl), ((Reg.kept ho 50 (by kernel_rfl)).trans rfl), ((Reg.kept ho 51 (by kernel_rfl)).trans rfl), ((Reg.kept ho 52 (by kernel_rfl)).trans rfl), ((Reg.kept ho 53 (by kernel_rfl)).trans rfl), ((Reg.kept ho 54 (by kernel_rfl)).trans rfl), ((Reg.kept ho 55 (by kernel_rfl)).trans rfl), ((Reg.kept ho 56 (by kernel_rfl)).trans rfl), ((Reg.kept ho 57 (by kernel_rfl)).trans rfl), ((Reg.kept ho 58 (by kernel_rfl)).trans rfl), ((Reg.kept ho 59 (by kernel_rfl)).trans rfl), ((Reg.kept ho 60 (by kernel_rfl)).trans rfl), ((Reg.kept ho 61 (by kernel_rfl)).trans rfl), ((Reg.kept ho 62 (by kernel_rfl)).trans rfl), ((Reg.kept ho 63 (by kernel_rfl)).trans rfl), ((Reg.kept ho 64 (by kernel_rfl)).trans rfl), ((Reg.kept ho 65 (by kernel_rfl)).trans rfl), ((Reg.kept ho 66 (by kernel_rfl)).trans rfl), ((Reg.kept ho 67 (by kernel_rfl)).trans rfl), ((Reg.kept ho 68 (by kernel_rfl)).trans rfl), ((Reg.kept ho 69 (by kernel_rfl)).trans rfl), ((Reg.kept ho 70 (by kernel_rfl)).trans rfl), ((Reg.kept ho 71 (by kernel_rfl)).trans rfl), ((Reg.kept ho 72 (by kernel_rfl)).trans rfl), ((Reg.kept ho 73 (by kernel_rfl)).trans rfl), ((Reg.kept ho 74 (by kernel_rfl)).trans rfl), ((Reg.kept ho 75 (by kernel_rfl)).trans rfl), ((Reg.kept ho 76 (by kernel_rfl)).trans rfl), trivial⟩
  subst hcx
  have HB7 : Hid (Below w.heap.size w w7) := Lib.hid (HB6.out.trans (hB.mono HB6.out.size))
  have HH7 := Lib.hid (HH6.out.below hB)
  have HA7 := Lib.hid (HA6.out.below hB)
  have HX7 := Lib.hid (HX.out.below hB)
  have hc := Hi.count_any HH7.out
  clear hv ho hB hsz hdf HB6 HH6 HA6 HX HN1 HN2
  go_wp2_with fail
  rw [HC0.out] at hc
  refine hc.mono ?_
  rintro e w8 ⟨rfl, hB8⟩
  have HB8 : Hid (Below w.heap.size w w8) := Lib.hid (HB7.out.trans (hB8.mono HB7.out.size))
  have HH8 := Lib.hid (HH7.out.below hB8)
  have HA8 := Lib.hid (HA7.out.below hB8)
  have HX8 := Lib.hid (HX7.out.below hB8)
  clear hc hB8 HB7 HH7 HA7 HX7
  have c0 := HX8.out.cell 0 _ rfl
  have c1 := HX8.out.cell 1 _ rfl
  have heq := fun W => sum_eql (Wi.shi z) 0 (Wi.slo z) 0 W
  have hgu := fun x y W => sum_guard x y #[.int .i64 (Wi.shi z), .int .u64 (Wi.slo z)] #[.int .i64 0, .int .u64 0] W
  have hzz : ((Wi.shi z == 0) && (Wi.slo z == 0)) = true := by
    have := sum_same (a := z) (b := 0)
    rw [show Wi.shi 0 = 0 from rfl, show Wi.slo 0 = 0 from rfl] at this
    rw [this]
    simp [HZZ.out]
  have hl1 : (lo == 0) = true := by simp [HLL.out]
  have ht1 : (hi == 0) = true := by simp [HTT.out]
  go_wp2_with fail
  refine (must_yes _).mono ?_
  rintro e w9 ⟨rfl, hB9⟩
  have HB9 : Hid (Below w.heap.size w w9) := Lib.hid (HB8.out.trans (hB9.mono HB8.out.size))
  have HA9 := Lib.hid (HA8.out.below hB9)
  have HL0 : Hid (l = []) := Lib.hid (none_of HH8.out.inv.ris HC0.out)
  clear hB9 heq hgu c0 c1
  go_wp2
  go_ret2
  refine ⟨⟨C, S, rfl, ?_, fun i hi => Nat.le_trans hs03.out (HS.out i hi)⟩, HB9.out⟩
  rw [HL0.out]
  exact HA9.out
theorem low_le {m : Nat} {n : Int} (hn : In64 n) : -9223372036854775808 * (m : Int) ≤ (m : Int) * n ∧ (m : Int) * n ≤ 9223372036854775807 * (m : Int) := by
  obtain ⟨h1, h2⟩ := hn
  have a1 : (m : Int) * n ≤ (m : Int) * 9223372036854775807 := Int.mul_le_mul_of_nonneg_left h2 (by omega)
  have a2 : (m : Int) * (-9223372036854775808) ≤ (m : Int) * n := Int.mul_le_mul_of_nonneg_left h1 (by omega)
  omega
set_option maxRecDepth 100000 in
set_option maxHeartbeats 4000000 in
theorem read_full (s : ByteArray) (h : 40 ≤ s.size) (hm : s.size ≤ maxLen) {k : Nat} {l : List Hit} {t : List UInt8} (hF : getF (s.data.toList.drop 40) = some (k, l, t)) (hc0 : 0 < countH l) (w : World) :
    Calls Tryd.prog 33 #[.string s] w fun e w' => ReadV w.heap.size (if okC k l (sumB s.data.toList) (lowB s.data.toList) (topB s.data.toList) then some (⟨k, num8 s.data.toList, l, sumB s.data.toList, lowB s.data.toList, topB s.data.toList⟩, t) else none) e w' ∧ Below w.heap.size w w' := by
  have HG : Hid (∀ W, Calls Tryd.prog 48 #[.string (s.extract 40 s.size)] W fun e w' => (∃ B v, e = .returned (.tuple #[.pointer (some ⟨B, 0, none⟩), .string (tx t), .int .i64 0]) ∧ Hs W.heap.size 66 B k v l w') ∧ Below W.heap.size W w') := Lib.hid fun W => by
    have := Hi.get_any (s.extract 40 s.size) (by rw [ByteArray.size_extract]; omega) W
    rwa [drop_toList, hF] at this
  have HN0 : Hid (∀ W, Calls Tryd.prog 49 #[.string s] W fun e w' => e = .returned (.int .i64 (num8 s.data.toList)) ∧ W = w') := Lib.hid fun W => getnumber_any s (by omega) hm W
  have HN1 : Hid (∀ W, Calls Tryd.prog 49 #[.string (s.extract 24 s.size)] W fun e w' => e = .returned (.int .i64 (lowB s.data.toList)) ∧ Below W.heap.size W w') := Lib.hid fun W => by
    have := getnumber_any (s.extract 24 s.size) (by rw [ByteArray.size_extract]; omega) (by rw [ByteArray.size_extract]; omega) W
    rw [drop_toList] at this
    exact this.mono fun e w' h => ⟨h.1, h.2 ▸ Below.refl _ _⟩
  have HN2 : Hid (∀ W, Calls Tryd.prog 49 #[.string (s.extract 32 s.size)] W fun e w' => e = .returned (.int .i64 (topB s.data.toList)) ∧ Below W.heap.size W w') := Lib.hid fun W => by
    have := getnumber_any (s.extract 32 s.size) (by rw [ByteArray.size_extract]; omega) (by rw [ByteArray.size_extract]; omega) W
    rw [drop_toList] at this
    exact this.mono fun e w' h => ⟨h.1, h.2 ▸ Below.refl _ _⟩
  have HW : Hid (∀ W, Calls Tryd.prog 50 #[.string (s.extract 8 24)] W fun e w' => e = .returned (.tuple #[Wi.sv (sumB s.data.toList), .bool true]) ∧ Below W.heap.size W w') := Lib.hid fun W => by
    have := Wi.get_full (s.extract 8 24) (by rw [ByteArray.size_extract]; omega) W
    rwa [extract_toList] at this
  have HZ : Hid (Wi.InS (sumB s.data.toList)) := Lib.hid (Wi.getS_parts _).1
  have HLO : Hid (In64 (lowB s.data.toList)) := Lib.hid (num8_in _)
  have HHI : Hid (In64 (topB s.data.toList)) := Lib.hid (num8_in _)
  have HFR : Hid (In64 (num8 s.data.toList)) := Lib.hid (num8_in _)
  have h40 : decide ((40 : Int) ≤ (s.size : Int)) = true := decide_eq_true (by omega)
  unfold maxLen at hm
  clear hF
  generalize sumB s.data.toList = z at *
  generalize lowB s.data.toList = lo at *
  generalize topB s.data.toList = hi at *
  generalize num8 s.data.toList = f at *
  have HC0 := Lib.hid hc0
  have hz : ¬ ((countH l : Int) = 0) := by omega
  obtain ⟨m, hm0⟩ : ∃ m, countH l = m := ⟨_, rfl⟩
  have HM := Lib.hid hm0
  rw [hm0] at hz
  clear hc0 hm0
  obtain ⟨R, hR⟩ : ∃ R : Option (Cel × List UInt8), (if okC k l z lo hi then some (⟨k, f, l, z, lo, hi⟩, t) else none) = R := ⟨_, rfl⟩
  have HR := Lib.hid hR
  rw [hR]
  clear hR
  go_enter Tryd.func33, Tryd.ntmps33
  go_wp2_with fail
  refine (must_yes _).mono ?_
  rintro e w1 ⟨rfl, hB1⟩
  go_wp2_with fail
  refine (HG.out _).mono ?_
  rintro e w2 ⟨⟨B, v, rfl, hH⟩, hB2⟩
  have HB2 : Hid (Below w.heap.size w w2) := Lib.hid (hB1.trans (hB2.mono hB1.size))
  have HH := Lib.hid (hH.mono hB1.size)
  clear hB1 hB2 HG hH
  go_wp2_with fail
  refine (must_yes _).mono ?_
  rintro e w3 ⟨rfl, hB3⟩
  have HB3 : Hid (Below w.heap.size w w3) := Lib.hid (HB2.out.trans (hB3.mono HB2.out.size))
  have HH3 := Lib.hid (HH.out.below hB3)
  clear hB3 HB2 HH
  go_wp2_with fail
  refine (HN0.out _).mono ?_
  rintro e _ ⟨rfl, rfl⟩
  have hb := bits_any HH3.out
  clear HN0
  go_wp2_with fail
  refine hb.mono ?_
  rintro e _ ⟨rfl, rfl⟩
  have hn := new_any k HH3.out.inv.hk f HFR.out w3
  clear hb
  go_wp2_with fail
  refine hn.mono ?_
  rintro e w4 ⟨C, S, rfl, hA, hlo, hB4⟩
  have HB4 : Hid (Below w.heap.size w w4) := Lib.hid (HB3.out.trans (hB4.mono HB3.out.size))
  have HH4 := Lib.hid (HH3.out.below hB4)
  have HA := Lib.hid hA
  have HS : Hid (∀ i, S i → w3.heap.size ≤ i) := Lib.hid hlo
  have HBL : Hid (∀ i, i = B ∨ v.ownBlock = some i → i < w3.heap.size) := Lib.hid fun i hi => by
    rcases hi with h | h
    · rw [h]; exact HH3.out.lt
    · exact (HH3.out.row.lt h).2
  have hs34 := Lib.hid hB4.size
  have hs03 := Lib.hid HB3.out.size
  clear hn hA hlo hB4 HB3 HH3
  go_wp2_with fail
  refine (HW.out _).mono ?_
  rintro e w5 ⟨rfl, hB5⟩
  rw [show Wi.sv z = .agg #[.int .i64 (Wi.shi z), .int .u64 (Wi.slo z)] from rfl]
  have HB5 : Hid (Below w.heap.size w w5) := Lib.hid (HB4.out.trans (hB5.mono HB4.out.size))
  have hX := CellsAt.new #[.int .i64 (Wi.shi z), .int .u64 (Wi.slo z)] 26 w5
  have hBx : Below w5.heap.size w5 (w5.alloc (.cells #[.int .i64 (Wi.shi z), .int .u64 (Wi.slo z)] 26)) := (Below.refl _ _).alloc (Nat.le_refl _) _
  have HH6 := Lib.hid ((HH4.out.below hB5).below hBx)
  have HA6 := Lib.hid ((HA.out.below hB5).below hBx)
  have HB6 : Hid (Below w.heap.size w (w5.alloc (.cells #[.int .i64 (Wi.shi z), .int .u64 (Wi.slo z)] 26))) := Lib.hid (HB5.out.alloc HB5.out.size _)
  have HX := Lib.hid hX
  have HCX : Hid (∀ i, S i → i < w5.heap.size) := Lib.hid fun i hi => Nat.lt_of_lt_of_le (HA.out.own i hi) hB5.size
  clear hB5 hX hBx HB5 HH4 HA HW HB4
  go_wp2_with fail
  generalize w5.alloc (.cells #[.int .i64 (Wi.shi z), .int .u64 (Wi.slo z)] 26) = w6 at *
  generalize w5.heap.size = X at *
  refine Reg.wp_region_inv (n := 77) (RdPhi s lo hi) (by kernel_rfl) (by kernel_rfl) rfl RdPhi.stays ?_ ?_
  · refine ⟨?_, ?_, ?_, ?_, ?_, ?_, ?_, ?_, trivial⟩
    · intro cx wc hB hp hs
      have g0 : cx.tmps[0]? = some (.string s) := (hs 0 (by kernel_rfl)).trans rfl
      refine Reg.ok_value Reg.Old.refl (v := .string s) (Reg.wanted_none rfl) ?_ rfl
      go_simp
    · intro cx wc hB hp hs
      have g41 : cx.tmps[41]? = some (.string s) := by obtain ⟨_, g, hv⟩ := Reg.pred hp 0 41 (by kernel_rfl) rfl rfl; exact g.trans (congrArg some hv)
      refine Reg.ok_value Reg.Old.refl (v := .string (s.extract 24 s.size)) (Reg.wanted_none rfl) ?_ rfl
      go_simp
      intro hh
      exact absurd hh (by omega)
    · intro cx wc hB hp hs
      have g42 : cx.tmps[42]? = some (.string (s.extract 24 s.size)) := by obtain ⟨_, g, hv⟩ := Reg.pred hp 1 42 (by kernel_rfl) rfl rfl; exact g.trans (congrArg some hv)
      refine Reg.ok_call (f := 49) (args := #[.string (s.extract 24 s.size)]) (Reg.wanted_none rfl) (by go_simp) ((HN1.out wc).mono ?_)
      rintro e w' ⟨rfl, hB2⟩
      exact ⟨_, rfl, hB2, rfl⟩
    · intro cx wc hB hp hs
      have g0 : cx.tmps[0]? = some (.string s) := (hs 0 (by kernel_rfl)).trans rfl
      refine Reg.ok_value Reg.Old.refl (v := .string s) (Reg.wanted_none rfl) ?_ rfl
      go_simp
    · intro cx wc hB hp hs
      have g44 : cx.tmps[44]? = some (.string s) := by obtain ⟨_, g, hv⟩ := Reg.pred hp 3 44 (by kernel_rfl) rfl rfl; exact g.trans (congrArg some hv)
      refine Reg.ok_value Reg.Old.refl (v := .string (s.extract 32 s.size)) (Reg.wanted_none rfl) ?_ rfl
      go_simp
      intro hh
      exact absurd hh (by omega)
    · intro cx wc hB hp hs
      have g45 : cx.tmps[45]? = some (.string (s.extract 32 s.size)) := by obtain ⟨_, g, hv⟩ := Reg.pred hp 4 45 (by kernel_rfl) rfl rfl; exact g.trans (congrArg some hv)
      refine Reg.ok_call (f := 49) (args := #[.string (s.extract 32 s.size)]) (Reg.wanted_none rfl) (by go_simp) ((HN2.out wc).mono ?_)
      rintro e w' ⟨rfl, hB2⟩
      exact ⟨_, rfl, hB2, rfl⟩
    · intro cx wc hB hp hs
      have g43 : cx.tmps[43]? = some (.int .i64 lo) := by obtain ⟨_, g, hv⟩ := Reg.pred hp 2 43 (by kernel_rfl) rfl rfl; exact g.trans (congrArg some hv)
      refine Reg.ok_value Reg.Old.refl (v := .int .i64 lo) (Reg.wanted_none rfl) ?_ rfl
      go_simp
    · intro cx wc hB hp hs
      have g46 : cx.tmps[46]? = some (.int .i64 hi) := by obtain ⟨_, g, hv⟩ := Reg.pred hp 5 46 (by kernel_rfl) rfl rfl; exact g.trans (congrArg some hv)
      refine Reg.ok_value Reg.Old.refl (v := .int .i64 hi) (Reg.wanted_none rfl) ?_ rfl
      go_simp
  intro cx w7 hB hsz hdf hv ho
  have hcx := Reg.frame_eq [_, _, _, _, _, _, _, _, _, _, _, .int .i64 lo, .int .i64 hi, _, _, _, _, _, _, _, _, _, _, _, _, _, _, _, _, _, _, _, _, _, _, _, _, _, _, _, _, .string s, .string (s.extract 24 s.size), .int .i64 lo, .string s, .string (s.extract 32 s.size), .int .i64 hi, _, _, _, _, _, _, _, _, _, _, _, _, _, _, _, _, _, _, _, _, _, _, _, _, _, _, _, _, _, _] (by simpa using hsz) hdf ⟨((Reg.kept ho 0 (by kernel_rfl)).trans rfl), ((Reg.kept ho 1 (by kernel_rfl)).trans rfl), ((Reg.kept ho 2 (by kernel_rfl)).trans rfl), ((Reg.kept ho 3 (by kernel_rfl)).trans rfl), ((Reg.kept ho 4 (by kernel_rfl)).trans rfl), ((Reg.kept ho 5 (by kernel_rfl)).trans rfl), ((Reg.kept ho 6 (by kernel_rfl)).trans rfl), ((Reg.kept ho 7 (by kernel_rfl)).trans rfl), ((Reg.kept ho 8 (by kernel_rfl)).trans rfl), ((Reg.kept ho 9 (by kernel_rfl)).trans rfl), ((Reg.kept ho 10 (by kernel_rfl)).trans rfl), (by obtain ⟨_, g, hx⟩ := hv 6 _ 11 rfl rfl; exact g.trans (congrArg some hx)), (by obtain ⟨_, g, hx⟩ := hv 7 _ 12 rfl rfl; exact g.trans (congrArg some hx)), ((Reg.kept ho 13 (by kernel_rfl)).trans rfl), ((Reg.kept ho 14 (by kernel_rfl)).trans rfl), ((Reg.kept ho 15 (by kernel_rfl)).trans rfl), ((Reg.kept ho 16 (by kernel_rfl)).trans rfl), ((Reg.kept ho 17 (by kernel_rfl)).trans rfl), ((Reg.kept ho 18 (by kernel_rfl)).trans rfl), ((Reg.kept ho 19 (by kernel_rfl)).trans rfl), ((Reg.kept ho 20 (by kernel_rfl)).trans rfl), ((Reg.kept ho 21 (by kernel_rfl)).trans rfl), ((Reg.kept ho 22 (by kernel_rfl)).trans rfl), ((Reg.kept ho 23 (by kernel_rfl)).trans rfl), ((Reg.kept ho 24 (by kernel_rfl)).trans rfl), ((Reg.kept ho 25 (by kernel_rfl)).trans rfl), ((Reg.kept ho 26 (by kernel_rfl)).trans rfl), ((Reg.kept ho 27 (by kernel_rfl)).trans rfl), ((Reg.kept ho 28 (by kernel_rfl)).trans rfl), ((Reg.kept ho 29 (by kernel_rfl)).trans rfl), ((Reg.kept ho 30 (by kernel_rfl)).trans rfl), ((Reg.kept ho 31 (by kernel_rfl)).trans rfl), ((Reg.kept ho 32 (by kernel_rfl)).trans rfl), ((Reg.kept ho 33 (by kernel_rfl)).trans rfl), ((Reg.kept ho 34 (by kernel_rfl)).trans rfl), ((Reg.kept ho 35 (by kernel_rfl)).trans rfl), ((Reg.kept ho 36 (by kernel_rfl)).trans rfl), ((Reg.kept ho 37 (by kernel_rfl)).trans rfl), ((Reg.kept ho 38 (by kernel_rfl)).trans rfl), ((Reg.kept ho 39 (by kernel_rfl)).trans rfl), ((Reg.kept ho 40 (by kernel_rfl)).trans rfl), (by obtain ⟨_, g, hx⟩ := hv 0 _ 41 rfl rfl; exact g.trans (congrArg some hx)), (by obtain ⟨_, g, hx⟩ := hv 1 _ 42 rfl rfl; exact g.trans (congrArg some hx)), (by obtain ⟨_, g, hx⟩ := hv 2 _ 43 rfl rfl; exact g.trans (congrArg some hx)), (by obtain ⟨_, g, hx⟩ := hv 3 _ 44 rfl rfl; exact g.trans (congrArg some hx)), (by obtain ⟨_, g, hx⟩ := hv 4 _ 45 rfl rfl; exact g.trans (congrArg some hx)), (by obtain ⟨_, g, hx⟩ := hv 5 _ 46 rfl rfl; exact g.trans (congrArg some hx)), ((Reg.kept ho 47 (by kernel_rfl)).trans rfl), ((Reg.kept ho 48 (by kernel_rfl)).trans rfl), ((Reg.kept ho 49 (by kernel_rfl)).trans rfl), ((Reg.kept ho 50 (by kernel_rfl)).trans rfl), ((Reg.kept ho 51 (by kernel_rfl)).trans rfl), ((Reg.kept ho 52 (by kernel_rfl)).trans rfl), ((Reg.kept ho 53 (by kernel_rfl)).trans rfl), ((Reg.kept ho 54 (by kernel_rfl)).trans rfl), ((Reg.kept ho 55 (by kernel_rfl)).trans rfl), ((Reg.kept ho 56 (by kernel_rfl)).trans rfl), ((Reg.kept ho 57 (by kernel_rfl)).trans rfl), ((Reg.kept ho 58 (by kernel_rfl)).trans rfl), ((Reg.kept ho 59 (by kernel_rfl)).trans rfl), ((Reg.kept ho 60 (by kernel_rfl)).trans rfl), ((Reg.kept ho 61 (by kernel_rfl)).trans rfl), ((Reg.kept ho 62 (by kernel_rfl)).trans rfl), ((Reg.kept ho 63 (by kernel_rfl)).trans rfl), ((Reg.kept ho 64 (by kernel_rfl)).trans rfl), ((Reg.kept ho 65 (by kernel_rfl)).trans rfl), ((Reg.kept ho 66 (by kernel_rfl)).trans rfl), ((Reg.kept ho 67 (by kernel_rfl)).trans rfl), ((Reg.kept ho 68 (by kernel_rfl)).trans rfl), ((Reg.kept ho 69 (by kernel_rfl)).trans rfl), ((Reg.kept ho 70 (by kernel_rfl)).trans rfl), ((Reg.kept ho 71 (by kernel_rfl)).trans rfl), ((Reg.kept ho 72 (by kernel_rfl)).trans rfl), ((Reg.kept ho 73 (by kernel_rfl)).trans rfl), ((Reg.kept ho 74 (by kernel_rfl)).trans rfl), ((Reg.kept ho 75 (by kernel_rfl)).trans rfl), ((Reg.kept ho 76 (by kernel_rfl)).trans rfl), trivial⟩
  subst hcx
  have HB7 : Hid (Below w.heap.size w w7) := Lib.hid (HB6.out.trans (hB.mono HB6.out.size))
  have HH7 := Lib.hid (HH6.out.below hB)
  have HA7 := Lib.hid (HA6.out.below hB)
  have HX7 := Lib.hid (HX.out.below hB)
  have hc := Hi.count_any HH7.out
  clear hv ho hB hsz hdf HB6 HH6 HA6 HX HN1 HN2
  go_wp2_with fail
  rw [HM.out] at hc
  refine hc.mono ?_
  rintro e w8 ⟨rfl, hB8⟩
  have HB8 : Hid (Below w.heap.size w w8) := Lib.hid (HB7.out.trans (hB8.mono HB7.out.size))
  have HH8 := Lib.hid (HH7.out.below hB8)
  have HA8 := Lib.hid (HA7.out.below hB8)
  have HX8 := Lib.hid (HX7.out.below hB8)
  clear hc hB8 HB7 HH7 HA7 HX7
  obtain ⟨B2, v2, hS2, hCe⟩ := HA8.out
  have hcl : CellsAt C #[.pointer (some ⟨B2, 0, none⟩), .int .i64 f, .int .i64 (Wi.shi 0), .int .u64 (Wi.slo 0), .int .i64 9223372036854775807, .int .i64 (-9223372036854775808)] w8 := hCe.cells
  have hSC : S C := by rw [hS2]; exact .inl rfl
  have hCl := HS.out C hSC
  have hXC : X ≠ C := by have := HCX.out C hSC; omega
  have hB0 : B ≠ C ∧ v.ownBlock ≠ some C := by
    refine ⟨fun e => ?_, fun e => ?_⟩
    · have := HBL.out B (.inl rfl)
      omega
    · have := HBL.out C (.inr e)
      omega
  have HCB : Hid (B ≠ C ∧ v.ownBlock ≠ some C ∧ w.heap.size ≤ C) := Lib.hid ⟨hB0.1, hB0.2, Nat.le_trans hs03.out hCl⟩
  have y0 := hcl.cell 0 _ rfl
  have e0 := hcl.fro 0 _ rfl
  have hX9 := HX8.out.other ⟨C, 0, none⟩ (.pointer (some ⟨B, 0, none⟩)) (fun e => hXC e.symm)
  have x0 := hX9.cell 0 _ rfl
  have x1 := hX9.cell 1 _ rfl
  have HC9 : Hid (CellsAt C #[.pointer (some ⟨B, 0, none⟩), .int .i64 f, .int .i64 (Wi.shi 0), .int .u64 (Wi.slo 0), .int .i64 9223372036854775807, .int .i64 (-9223372036854775808)] (w8.setCell ⟨C, 0, none⟩ (.pointer (some ⟨B, 0, none⟩)))) := Lib.hid (hcl.set 0 (.pointer (some ⟨B, 0, none⟩)) (by simp))
  have HB9 : Hid (Below w.heap.size w (w8.setCell ⟨C, 0, none⟩ (.pointer (some ⟨B, 0, none⟩)))) := Lib.hid (HB8.out.setCell (p := ⟨C, 0, none⟩) HCB.out.2.2 _)
  have HH9 : Hid (Hs w.heap.size 66 B k v l (w8.setCell ⟨C, 0, none⟩ (.pointer (some ⟨B, 0, none⟩)))) := Lib.hid (HH8.out.mov ((Mov.refl (fun i => i = C) w8).set rfl 0 _) HCB.out.1 (fun g hg e => HCB.out.2.1 (e ▸ hg)))
  have hr := reach_any C B f 0 9223372036854775807 (-9223372036854775808) z lo hi (Wi.InS.small (by omega) (by omega)) HZ.out _ HC9.out
  rw [Int.zero_add, Wi.w128_of HZ.out, show min 9223372036854775807 lo = lo by have := HLO.out; unfold In64 at this; omega, show max (-9223372036854775808) hi = hi by have := HHI.out; unfold In64 at this; omega] at hr
  clear hcl hCe hS2 hSC hCl hX9 HA8 HH8 HB8 HX8 hB0
  go_wp2_with fail
  refine hr.mono ?_
  rintro e w9 ⟨rfl, hC9, hM9⟩
  have HH10 := Lib.hid (HH9.out.mov hM9 HCB.out.1 (fun g hg e => HCB.out.2.1 (e ▸ hg)))
  have HB10 : Hid (Below w.heap.size w w9) := Lib.hid (HB9.out.trans (hM9.below (by rintro i rfl; exact HCB.out.2.2) HB9.out.size))
  have hf := fit_any hC9 (HH10.out.mono (Nat.zero_le _)) HC0.out HZ.out HLO.out HHI.out
  have HC10 := Lib.hid hC9
  clear hr hC9 hM9 HC9 HH9 HB9 x0 x1 y0 e0
  go_wp2_with fail
  refine hf.mono ?_
  rintro e w10 ⟨he, hB10⟩
  have HB11 : Hid (Below w.heap.size w w10) := Lib.hid (HB10.out.trans (hB10.mono HB10.out.size))
  have HH11 := Lib.hid (HH10.out.below hB10)
  have HC11 := Lib.hid (HC10.out.below hB10)
  have HM2 := Lib.hid HM.out
  by_cases hok : okC k l z lo hi
  · rw [if_pos hok] at he
    subst he
    have HOK := Lib.hid hok
    clear hf hB10 HB10 HH10 HC10 hok
    go_wp2
    go_ret2
    refine ⟨?_, HB11.out⟩
    rw [← HR.out, if_pos HOK.out]
    refine ⟨C, _, rfl, ⟨B, v, rfl, Ce.of (c := ⟨k, f, l, z, lo, hi⟩) HC11.out (HH11.out.mono (Nat.zero_le _)) (fun e => HCB.out.1 e.symm) HCB.out.2.1 ?_⟩, ?_⟩
    · have h1 := HOK.out
      unfold okC at h1
      rw [if_neg (by have := HC0.out; omega)] at h1
      have h2 := low_le (m := countH l) HLO.out
      have h3 := low_le (m := countH l) HHI.out
      exact ⟨HH11.out.inv, HFR.out, HLO.out, HHI.out, by show -9223372036854775808 * (countH l : Int) ≤ z; omega, by show z ≤ 9223372036854775807 * (countH l : Int); omega⟩
    · rintro i (rfl | rfl | hg)
      · exact HCB.out.2.2
      · exact HH11.out.lo
      · exact (HH11.out.row.lt hg).1
  · rw [if_neg hok] at he
    subst he
    have HOK := Lib.hid hok
    clear hf hB10 HB10 HH10 HC10 hok
    go_wp2
    refine ⟨rfl, ?_, HB11.out⟩
    rw [← HR.out, if_neg HOK.out]
    rfl
/-- read, of any text. -/
theorem read_any (s : ByteArray) (hm : s.size ≤ maxLen) (w : World) :
    Calls Tryd.prog 33 #[.string s] w fun e w' => ReadV w.heap.size (getC s.data.toList) e w' ∧ Below w.heap.size w w' := by
  have hsz : s.data.toList.length = s.size := rfl
  unfold getC
  by_cases h40 : s.size < 40
  · rw [if_pos (by omega)]
    exact read_short s h40 w
  · rw [if_neg (by omega)]
    cases hF : getF (s.data.toList.drop 40) with
    | none => exact read_none s (by omega) hm hF w
    | some r =>
      obtain ⟨k, l, t⟩ := r
      simp only []
      by_cases h0 : countH l = 0
      · unfold okC celB
        simp only [if_pos h0]
        by_cases hz : sumB s.data.toList = 0
        · by_cases hl : lowB s.data.toList = 0
          · by_cases ht : topB s.data.toList = 0
            · rw [if_pos ⟨hz, hl, ht⟩, hz]
              exact read_e4 s (by omega) hm hF h0 hz hl ht w
            · rw [if_neg (fun h => ht h.2.2)]
              exact read_e3 s (by omega) hm hF h0 hz hl ht w
          · rw [if_neg (fun h => hl h.2.1)]
            exact read_e2 s (by omega) hm hF h0 hz hl w
        · rw [if_neg (fun h => hz h.1)]
          exact read_e1 s (by omega) hm hF h0 hz w
      · unfold celB
        simp only [if_neg h0]
        exact read_full s (by omega) hm hF (by omega) w
end Go.Proofs.YtmjipafhahggpaaDoor.Ce

