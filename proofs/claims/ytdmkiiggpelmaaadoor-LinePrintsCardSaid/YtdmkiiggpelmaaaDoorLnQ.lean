/- The chapter's own answer: a line printed. -/
import Derived.Test.YtdmkiiggpelmaaaDoorLnP
import Derived.Test.YtdmkiiggpelmaaaDoorLnT
namespace Go.Proofs.YtdmkiiggpelmaaaDoor.Lx
open Go Go.RowKit

theorem ref_line (n : ByteArray) (p : Option Addr) (m cap : Nat) (a b : Int) (w : World) :
    Calls Tryd.prog 12 #[.agg (lineC n (.slice p m cap) a b)] w fun e w' => e = .returned (.agg (lineC n (.slice p m cap) a b)) ∧ Below w.heap.size w w' := by
  have HC0 := Lib.hid ((CellsAt.new (lineC n (.slice p m cap) a b) 24 w).past (.cells (lineC ⟨#[]⟩ (.slice none 0 0) 0 0) 34))
  have HB0 := Lib.hid (((Below.refl w.heap.size w).alloc (Nat.le_refl _) (.cells (lineC n (.slice p m cap) a b) 24)).alloc (by simp) (.cells (lineC n (.slice p m cap) a b) 34))
  have k0 := HC0.out.cell 0 _ rfl
  have k1 := HC0.out.cell 1 _ rfl
  have k2 := HC0.out.cell 2 _ rfl
  have k3 := HC0.out.cell 3 _ rfl
  go_enter Tryd.func12, Tryd.ntmps12
  go_wp2
  refine bodyPost_ret (v := .agg (lineC n (.slice p m cap) a b)) (by simp [results, Tryd.results12, go_sem]) rfl ⟨rfl, HB0.out⟩

set_option maxRecDepth 100000 in
theorem made_own (x : MadeV) (ho : x.own = false) (w : World) :
    Calls Tryd.prog 9 #[.agg x.vals] w fun e w' => e = .returned (.agg (lineC (tx x.name) (.slice x.lp x.ls.length x.lcap) x.value x.time)) ∧ Below w.heap.size w w' := by
  have hE0 : Below w.heap.size w (w.alloc (.cells x.vals 28)) := (Below.refl _ _).alloc (Nat.le_refl _) _
  have HE1 := Lib.hid (hE0.alloc hE0.size (.cells (lineC (tx x.name) (.slice x.lp x.ls.length x.lcap) x.value x.time) 24))
  have HV := Lib.hid ((CellsAt.new x.vals 28 w).past (.cells (lineC ⟨#[]⟩ (.slice none 0 0) 0 0) 24))
  obtain ⟨name, lp, ls, lcap, value, time, own, np, nm, ncap, ip, it, icap⟩ := x
  simp only at ho
  subst ho
  clear hE0
  simp only [MadeV.vals] at HV HE1 ⊢
  have k0 := HV.out.cell 0 _ rfl
  have k1 := HV.out.cell 1 _ rfl
  have k2 := HV.out.cell 2 _ rfl
  have k3 := HV.out.cell 3 _ rfl
  have k4 := HV.out.cell 4 _ rfl
  go_enter Tryd.func9, Tryd.ntmps9
  go_wp2
  refine bodyPost_ret (v := .agg (lineC (tx name) (.slice lp ls.length lcap) value time)) (by simp [results, Tryd.results9, go_sem]) rfl ⟨rfl, HE1.out⟩

theorem esc_tx (l : List UInt8) (hl : l.length ≤ 64) (w : World) :
    Calls Tryd.prog 20 #[.string (tx l)] w fun e w' => e = .returned (.string (tx (escL l))) ∧ Below w.heap.size w w' := by
  have h := ref_escape (tx l) (by rw [tx_len]; omega) w
  rwa [list_tx] at h
theorem dgs_tx (n : Nat) (hn : n < 18446744073709551616) (w : World) :
    Calls Tryd.prog 22 #[.int .u64 n] w fun e w' => e = .returned (.string (tx (Lib.decDigits n))) ∧ Below w.heap.size w w' := Go.Proofs.YtdmkiiggpelmaaaDoor.ref_dgs n hn w
theorem txt_tx (n : Int) (hn : In64 n) (w : World) :
    Calls Tryd.prog 21 #[.int .i64 n] w fun e w' => e = .returned (.string (tx (textF n))) ∧ Below w.heap.size w w' := Go.Proofs.YtdmkiiggpelmaaaDoor.ref_text n hn w

set_option maxRecDepth 100000 in
set_option maxHeartbeats 4000000 in
theorem ref_print_wrong (n : List UInt8) (hn : n.length ≤ maxLen) (p : Option Addr) (cap : Nat) (ls : List Lab) (a b : Int) (hlm : ls.length ≤ maxLen) (hr : rightF ⟨n, ls, a, b⟩ = false) (w : World) (hL : LbAt p ls w) :
    Calls Tryd.prog 11 #[.agg (lineC (tx n) (.slice p ls.length cap) a b)] w fun e w' => e = .returned (.tuple #[.string ⟨#[]⟩, .bool false]) ∧ Below w.heap.size w w' := by
  have hR := fun w h => ref_right n hn p cap ls a b hlm w h
  rw [hr] at hR
  have hbel : Below w.heap.size w (w.alloc (.cells (lineC (tx n) (.slice p ls.length cap) a b) 34)) := (Below.refl _ _).alloc (Nat.le_refl _) _
  have HL0 := Lib.hid (hL.below hbel)
  have HB0 := Lib.hid hbel
  clear hr hL hbel
  go_enter Tryd.func11, Tryd.ntmps11
  go_wp2_with fail
  refine (hR _ HL0.out).mono ?_
  rintro e w1 ⟨rfl, hB1⟩
  have HB1 := Lib.hid (HB0.out.trans (hB1.mono HB0.out.size))
  clear hR hB1 HL0 HB0
  go_wp2
  go_ret2
  exact ⟨rfl, HB1.out⟩

end Go.Proofs.YtdmkiiggpelmaaaDoor.Lx
