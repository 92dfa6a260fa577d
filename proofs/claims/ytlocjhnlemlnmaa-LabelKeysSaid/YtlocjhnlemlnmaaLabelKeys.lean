/- LabelKeys: for every input the call returns true and each argument reads afterwards as it read before. No condition beside the row's own. -/
import Derived.Test.YtlocjhnlemlnmaaLbFn
import Derived.Test.YtlocjhnlemlnmaaLaw
namespace Go.Proofs.Ytlocjhnlemlnmaa.labelKeys
open Go Go.RowKit Go.ChangeShapes Go.WideShapes Go.ChangeAt Go.ChangeMaps

theorem own : ownKnob Try.prog.godebug = none := by kernel_rfl

set_option maxRecDepth 100000 in
/-- WHAT THE WALK GIVES, FOR EVERY ARGUMENT. -/
theorem contract (H : Type) (enc : TypeId × Value → H) (W : World) (base : Nat) (args : Array Value) (ds gs : List (DataW H)) (before : List MemPlace)
    (hval : ∀ (j : Nat) t v, Try.f3.params[j]? = some t → args[j]? = some v → Value.okWide Try.prog W .any base t v)
    (hW : DataW.Whole enc Try.prog Try.f3.params.toList Rows.labelKeysSpec.vars false W args.toList ds gs before)
    (hsz : (DataW.weightsEach Try.prog (Try.f3.params.toList ++ Rows.labelKeysSpec.plain.varTypes Try.prog) (ds ++ gs)).all (· ≤ reachBytes) = true) :
    Calls Try.prog 3 args W fun e W' => ∃ v, e = .returned v ∧ Rows.labelKeysSpec.post enc Try.prog Try.f3 false true false false W args v W' := by
  have hW' := hW
  obtain ⟨p, q, hA0, hV, rfl, hfz, hnd⟩ := hW
  have hA : DataW.TrodAll enc Try.prog W 0 (fun _ => true) true Try.f3.params.toList args.toList ds p := hA0
  rw [Try.params3] at hA hval hsz
  obtain ⟨v0, vs0, d0, ds0, p0, q0, hargs, rfl, rfl, r0, s0⟩ := trodAll_cons hA
  obtain ⟨v1, vs1, d1, ds1, p1, q1, rfl, rfl, rfl, r1, s1⟩ := trodAll_cons s0
  obtain ⟨v2, vs2, d2, ds2, p2, q2, rfl, rfl, rfl, r2, s2⟩ := trodAll_cons s1
  obtain ⟨v3, vs3, d3, ds3, p3, q3, rfl, rfl, rfl, r3, s3⟩ := trodAll_cons s2
  obtain ⟨v4, vs4, d4, ds4, p4, q4, rfl, rfl, rfl, r4, s4⟩ := trodAll_cons s3
  obtain ⟨v5, vs5, d5, ds5, p5, q5, rfl, rfl, rfl, r5, s5⟩ := trodAll_cons s4
  obtain ⟨rfl, rfl, rfl⟩ := trodAll_nil s5
  obtain rfl : args = #[v0, v1, v2, v3, v4, v5] := by cases args; simp_all
  obtain ⟨p0x, l0, cap0, rfl, hl0, hm0, hz0, hr0⟩ := Lx.rows_of (okWide_slice Try.underlying22 (hval 0 22 v0 rfl rfl)) r0 (fun x hx => by simpa using hW'.lt x (by simp [hx]))
  obtain ⟨p1x, l1, cap1, rfl, hl1, hm1, hz1, hr1⟩ := Lx.labs_of (okWide_slice Try.underlying23 (hval 1 23 v1 rfl rfl)) r1 (fun x hx => by simpa using hW'.lt x (by simp [hx]))
  have hb1 : l1.length ≤ 4398046511104 := by
    rcases Lx.rows_len Try.underlying23 r1 with hz | ⟨elems, rest, hd, hlen⟩
    · omega
    · have hs := sized_slice hsz (j := 1) (t := 23) (e := 47) (elems := elems) (spare := rest) rfl (by rw [hd]; rfl) Try.underlying23
      have hrb := reachBytes_lt
      rw [Lx.label_bytes, hlen] at hs
      omega
  obtain ⟨a2, rfl, rfl, rfl⟩ := open_bool Try.underlying4 (hval 2 4 v2 rfl rfl) r2
  obtain ⟨a3, rfl, rfl, rfl, h3⟩ := open_string Try.underlying9 (hval 3 9 v3 rfl rfl) r3
  obtain ⟨p4x, l4, cap4, rfl, hl4, hm4, hz4, hr4⟩ := Lx.octs_of (okWide_slice Try.underlying24 (hval 4 24 v4 rfl rfl)) r4 (fun x hx => by simpa using hW'.lt x (by simp [hx]))
  obtain ⟨a5, rfl, rfl, rfl⟩ := open_bool Try.underlying4 (hval 5 4 v5 rfl rfl) r5
  obtain ⟨rfl, rfl⟩ := trodVars_none hV
  clear hA0
  refine (Ytlocjhnlemlnmaa.Lx.LabelKeys_walk p0x l0 cap0 hl0 hm0 hz0 p1x l1 cap1 hl1 hm1 hz1 hb1 a2 a3 h3 p4x l4 cap4 hl4 hm4 hz4 a5 W hr0 hr1 hr4).mono fun e W' ⟨he, hB⟩ => ?_
  subst he
  exact ⟨_, rfl, law_post (tb := 4) laidOutAll (by kernel_rfl) (by kernel_rfl) (by kernel_rfl) Try.underlying4 rfl rfl hW' hB⟩

set_option maxRecDepth 100000 in
theorem lifted (os : Os) (started : os.Started) (H : Type) (enc : TypeId × Value → H) :
    ReturnsInHanded {} Try.checked os 3 .any (Rows.labelKeysSpec.pre6 enc Try.prog Try.f3 Rows.labelKeysRow.domain false) (Rows.labelKeysSpec.post enc Try.prog Try.f3 false true false false) := by
  refine returnsInHanded_of_change_sized (C := Try.checked) own started (by kernel_rfl) Try.func3
    (ChangeSpec.witness6 (enc := enc) (C := Try.checked) false ⟨#[], #[.slice none 0 0, .slice none 0 0, .bool false, .string ⟨#[]⟩, .slice none 0 0, .bool false], []⟩ 8 (by kernel_rfl) (by kernel_rfl) (by kernel_rfl) (by kernel_rfl)) ?_
  intro W base args ds gs before hval hW _ hsz _
  exact contract H enc W base args ds gs before hval hW hsz
theorem said : Rows.LabelKeysSaid :=
  OpenClaim.holds_of_wide 3 Try.f3 rfl rfl rfl rfl rfl rfl rfl ⟨rfl, rfl, rfl, rfl, rfl⟩ rfl rfl rfl rfl rfl (by kernel_rfl) Try.func3 (by kernel_rfl)
    (of_decide_eq_true (by kernel_rfl)) (by unfold Func.isWrapper; first | (rw [if_pos (by decide +kernel)]; kernel_rfl) | (rw [if_neg (by decide +kernel)]; exact ⟨rfl, rfl⟩))
    (fun os started H enc _ => lifted os started H enc)

end Go.Proofs.Ytlocjhnlemlnmaa.labelKeys
