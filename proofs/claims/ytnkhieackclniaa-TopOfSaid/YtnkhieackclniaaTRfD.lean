/- append of a piece of a row, nil or not; an item put in among those that are told. -/
import Derived.Test.YtnkhieackclniaaTRfC
import Derived.Laws.AppendOwnNone
namespace Go.Proofs.Ytnkhieackclniaa
open Go Go.RowKit

/-- Cells behind an address, or none. -/
def Src (w : World) (A : Option Addr) (c m size : Nat) (news : List Value) : Prop :=
  news.length = m * size ∧ ((A = none ∧ m = 0 ∧ c = 0) ∨ ∃ ad, A = some ad ∧ ∀ j u, news[j]? = some u → w.cell? (ad.add j) = some u)
section
variable {P : Program} (w : World)
theorem run_append_src (base : Nat) (t ty e : TypeId) (i : TypeInfo) (z : Value) (size bytes : Nat) (ht : P.underlying t = some (.slice e)) (hi : P.info? e = some i) (hz : i.zero = some z)
    (hsize : i.size = size) (hby : i.bytes = bytes) (hzs : z.cells.size = size) (hsz : 0 < size)
    (v : Value) (n : Nat) (xs : List Value) (hown : w.ownsRow base e size v n xs)
    (A : Option Addr) (m c : Nat) (news : List Value) (hs : Src w A c m size news) (h1 : ∀ u ∈ news, u.oneCell' = true)
    (h63 : n + m ≤ maxLen) (hbytes : (n + m) * bytes ≤ 140737488355328) (hbase : base ≤ w.heap.size) :
    ∃ v' w', (Builtin.append_ #[t, t] ty #[v, .slice A m c]).run P w = .ok v' w' ∧ w'.ownsRow base e size v' (n + m) (xs ++ news) ∧ w.grownBy w' v.ownBlock ∧
      ∀ g, v'.ownBlock = some g → v.ownBlock = some g ∨ w.heap.size ≤ g := by
  obtain ⟨hl, ⟨rfl, rfl, rfl⟩ | ⟨ad, rfl, hc⟩⟩ := hs
  · obtain rfl : news = [] := List.eq_nil_of_length_eq_zero (by simpa using hl)
    exact ⟨v, w, run_append_owned_none (P := P) (w := w) base t ty e i size ht hi v n xs hown, by simpa using hown, World.grownBy.refl w _, fun _ h => .inl h⟩
  · exact run_append_at w base t ty e i z size bytes ht hi hz hsize hby hzs hsz v n xs hown ad m c news hl hc h1 h63 hbytes hbase
theorem wpList_append_src {ops : Array Oper} {rest : List Oper} {o : Oper} {a : Act} {Q : Exit → Act → World → Prop} (hgd : o.guard = none) (s x : Operand) (t : TypeId)
    (ho : o.op = .call { callee := .builtin .append, args := #[s, x], argTypes := #[t, t] })
    (base : Nat) (e : TypeId) (i : TypeInfo) (z : Value) (size bytes : Nat) (ht : P.underlying t = some (.slice e)) (hi : P.info? e = some i) (hz : i.zero = some z)
    (hsize : i.size = size) (hby : i.bytes = bytes) (hzs : z.cells.size = size) (hsz : 0 < size)
    (v : Value) (n : Nat) (xs : List Value) (hs : a.eval s = v) (hown : w.ownsRow base e size v n xs)
    (A : Option Addr) (m c : Nat) (news : List Value) (hx : a.eval x = .slice A m c) (hr : Src w A c m size news) (h1 : ∀ u ∈ news, u.oneCell' = true)
    (h63 : n + m ≤ maxLen) (hbytes : (n + m) * bytes ≤ 140737488355328) (hbase : base ≤ w.heap.size)
    (h : ∀ v' w', w'.ownsRow base e size v' (n + m) (xs ++ news) → w.grownBy w' v.ownBlock → (∀ g, v'.ownBlock = some g → v.ownBlock = some g ∨ w.heap.size ≤ g) → wpList P ops Q rest (a.put o.dst v') w') : wpList P ops Q (o :: rest) a w := by
  refine wpList_plain hgd fun K hK => ?_
  obtain ⟨v', w', hrun, h2, h3, h4⟩ := run_append_src (P := P) w base t o.type e i z size bytes ht hi hz hsize hby hzs hsz v n xs hown A m c news hr h1 h63 hbytes hbase
  unfold Oper.wp execOp
  simp only [ho, resolve, invoke, builtin, Sem.run_bind, Sem.run_pure, Result.andThen_ok, List.map_toArray, List.map_cons, List.map_nil, hs, hx, hrun]
  exact hK _ _ (h v' w' h2 h3 h4)
end
theorem flat_take : ∀ (l : List Itm) (k : Nat), flat (l.take k) = (flat l).take (k * 3)
  | [], k => by simp [flat_nil]
  | x :: l, 0 => by simp [flat_nil]
  | x :: l, k + 1 => by
    rw [List.take_succ_cons, flat_cons, flat_cons, flat_take l k, show (k + 1) * 3 = k * 3 + 3 by omega]
    simp [encI]
theorem flat_drop : ∀ (l : List Itm) (k : Nat), flat (l.drop k) = (flat l).drop (k * 3)
  | [], k => by simp [flat_nil]
  | x :: l, 0 => by simp
  | x :: l, k + 1 => by
    rw [List.drop_succ_cons, flat_cons, flat_drop l k, show (k + 1) * 3 = k * 3 + 3 by omega]
    simp [encI]
/-- The first of a row. -/
theorem Its.src_take {base T cap : Nat} {p : Option Addr} {s : List Itm} {w : World} (h : Its base T (.slice p s.length cap) s w) (k : Nat) (hk : k ≤ s.length) : Src w p cap k 3 (flat (s.take k)) := by
  refine ⟨by rw [flat_length, List.length_take, Nat.min_eq_left hk], ?_⟩
  rcases h.form with ⟨e, rfl⟩ | ⟨g, cap', e, _, hg, _⟩
  · simp only [Value.slice.injEq] at e
    obtain ⟨rfl, _, rfl⟩ := e
    exact .inl ⟨rfl, by simpa using hk, rfl⟩
  · simp only [Value.slice.injEq] at e
    obtain ⟨rfl, _, rfl⟩ := e
    refine .inr ⟨_, rfl, fun j u hu => World.ownsRow.cells h (g := g) rfl j u ?_⟩
    rw [flat_take, List.getElem?_take] at hu
    split at hu
    · exact hu
    · cases hu
/-- The last of a row. -/
theorem Its.src_drop {base T g cap n c : Nat} {s : List Itm} {w : World} (h : Its base T (.slice (some ⟨g, 0, none⟩) n cap) s w) (k : Nat) : Src w (some ⟨g, k * 3, none⟩) c (s.length - k) 3 (flat (s.drop k)) := by
  refine ⟨by rw [flat_length, List.length_drop], .inr ⟨_, rfl, fun j u hu => ?_⟩⟩
  rw [flat_drop, List.getElem?_drop] at hu
  have := World.ownsRow.cells h (g := g) rfl (k * 3 + j) u hu
  rw [Addr.add_lit, Nat.zero_add] at this
  rw [Addr.add_lit]
  exact this
theorem src_none (w : World) (c : Nat) (a : Addr) : Src w (some a) c 0 3 [] := ⟨rfl, .inr ⟨a, rfl, fun j u hu => by simp at hu⟩⟩
theorem src_nil (w : World) : Src w none 0 0 3 [] := ⟨rfl, .inl ⟨rfl, rfl, rfl⟩⟩
theorem src_one (x : Itm) (c : Nat) (T : TypeId) (w : World) : Src (w.alloc (.cells #[.string x.name, .int .u64 x.many, .int .u64 x.over] T)) (some ⟨w.heap.size, 0, none⟩) c 1 3 [.string x.name, .int .u64 x.many, .int .u64 x.over] :=
  ⟨rfl, .inr ⟨_, rfl, new_row [.string x.name, .int .u64 x.many, .int .u64 x.over] T w⟩⟩
/-- Three pieces are a row. -/
theorem its_ins {base T n : Nat} {v : Value} {s : List Itm} {x : Itm} {k : Nat} {w : World} (h : w.ownsRow base T 3 v n ((flat (s.take k) ++ [.string x.name, .int .u64 x.many, .int .u64 x.over]) ++ flat (s.drop k))) (hn : n = s.length + 1) : Its base T v (s.take k ++ x :: s.drop k) w := by
  unfold Its
  have h1 : flat (s.take k ++ x :: s.drop k) = (flat (s.take k) ++ [.string x.name, .int .u64 x.many, .int .u64 x.over]) ++ flat (s.drop k) := by
    rw [flat_append, flat_cons]; simp [encI]
  have h2 : (s.take k ++ x :: s.drop k).length = n := by
    rw [hn]
    have := congrArg List.length (List.take_append_drop k s)
    simp only [List.length_append, List.length_cons] at this ⊢
    omega
  rw [h1, h2]
  exact h
theorem perm_ins {l s : List Itm} {i k : Nat} (hp : s.Perm (l.take i)) (hi : i < l.length) : (s.take k ++ l[i]! :: s.drop k).Perm (l.take (i + 1)) := by
  rw [List.take_succ_eq_append_getElem hi, ← getE l i hi]
  refine List.perm_middle.trans ?_
  rw [List.take_append_drop]
  exact ((List.Perm.cons _ hp).trans (List.perm_append_singleton _ _).symm)
theorem told_ins {s : List Itm} {x : Itm} {k : Nat} (hs : Told s) (hk : k ≤ s.length) (h1 : ∀ j, j < k → tells s[j]! x = true) (h2 : k < s.length → tells s[k]! x = false) : Told (s.take k ++ x :: s.drop k) := by
  unfold Told at hs ⊢
  rw [← List.take_append_drop k s, List.pairwise_append] at hs
  obtain ⟨a, b, c⟩ := hs
  rw [List.pairwise_append, List.pairwise_cons]
  have hB : ∀ y ∈ s.drop k, tells y x = false := by
    by_cases hlt : k < s.length
    · have e : s.drop k = s[k]! :: s.drop (k + 1) := by rw [getE s k hlt]; exact List.drop_eq_getElem_cons hlt
      rw [e] at b ⊢
      rw [List.pairwise_cons] at b
      intro y hy
      rcases List.mem_cons.1 hy with rfl | hy
      · exact h2 hlt
      · exact tells_ntrans (b.1 y hy) (h2 hlt)
    · rw [List.drop_eq_nil_of_le (by omega)]
      intro y hy
      cases hy
  have hA : ∀ y ∈ s.take k, tells x y = false := by
    intro y hy
    obtain ⟨j, hj, rfl⟩ := List.mem_iff_getElem.1 hy
    rw [List.length_take] at hj
    rw [List.getElem_take, ← getE s j (by omega)]
    exact tells_asymm (h1 j (by omega))
  refine ⟨a, ⟨hB, b⟩, fun y hy z hz => ?_⟩
  rcases List.mem_cons.1 hz with rfl | hz
  · exact hA y hy
  · exact c y hy z hz
end Go.Proofs.Ytnkhieackclniaa
