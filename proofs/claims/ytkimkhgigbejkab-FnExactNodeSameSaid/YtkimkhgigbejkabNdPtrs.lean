/- What a node points to, side by side. -/
import Derived.Test.YtkimkhgigbejkabNdOwn
import Derived.Laws.AppendOwn
namespace Go.Proofs.Ytkimkhgigbejkab
open Go.RowKit
theorem run_append_none (v : Value) (c : Nat) (ty : TypeId) (w : World) (hv : v = .slice none 0 0 ∨ ∃ g n cap, v = .slice (some g) n cap ∧ n ≤ cap) :
    (Builtin.append_ #[nodesT, nodesT] ty #[v, .slice none 0 c]).run Try.prog w = .ok v w := by
  obtain ⟨i0, hi, hz0, hz1, hz2⟩ := info_parts infoNd
  rcases hv with rfl | ⟨g, n, cap, rfl, hn⟩
  · simp [Builtin.append_, run_underlying (P := Try.prog) Try.underlying23, sizeOf, typeInfo, hi, Builtin.lenOf, run_firstCells_none]
  · simp [Builtin.append_, run_underlying (P := Try.prog) Try.underlying23, sizeOf, typeInfo, hi, Builtin.lenOf, hn, run_firstCells_none, storeCells]
/-- nodes of some slice. -/
def Src (w : World) (A : Option Addr) (q : List (Nd × Hd)) : Prop := q = [] ∨ ∃ x, A = some x ∧ ∀ j u, (rowOf q)[j]? = some u → w.cell? (x.add j) = some u
theorem run_append_src (base : Nat) (ty : TypeId) (w : World) (v : Value) (n : Nat) (xs : List Value) (hown : w.ownsRow base nodeT 6 v n xs) (A : Option Addr) (c : Nat) (q : List (Nd × Hd)) (hq : Src w A q) (hb : n + q.length ≤ 4000000) (hbase : base ≤ w.heap.size) :
    ∃ v' w', (Builtin.append_ #[nodesT, nodesT] ty #[v, .slice A q.length c]).run Try.prog w = .ok v' w' ∧ w'.ownsRow base nodeT 6 v' (n + q.length) (xs ++ rowOf q) ∧ w.grownBy w' v.ownBlock := by
  obtain ⟨i0, hi, hz0, hz1, hz2⟩ := info_parts infoNd
  cases A with
  | none =>
    have h0 : q = [] := by
      rcases hq with h | ⟨x, hx, _⟩
      · exact h
      · cases hx
    subst h0
    refine ⟨v, w, run_append_none v c ty w ?_, by simpa [rowOf] using hown, ⟨rfl, rfl, rfl, Nat.le_refl _, fun _ _ _ => rfl⟩⟩
    rcases hown.2 with ⟨rfl, _⟩ | ⟨g, cap, cur, rfl, _, _, hc, _⟩
    · exact .inl rfl
    · exact .inr ⟨_, _, _, rfl, hc⟩
  | some x =>
    have hnews : ∀ (j : Nat) (u : Value), (rowOf q)[j]? = some u → w.cell? (x.add j) = some u := by
      rcases hq with h | ⟨x', hx, h⟩
      · subst h; intro j u hj; simp [rowOf] at hj
      · obtain rfl := Option.some.inj hx; exact h
    obtain ⟨v', w', h1, h2, h3, _⟩ := run_append_own (P := Try.prog) w base nodesT ty nodeT i0 _ 6 88 Try.underlying23 hi hz0 hz1 hz2 rfl (by decide) v n xs hown x q.length c (rowOf q) (rowOf_length q) hnews (rowOf_one q) (by unfold maxLen; omega) (by omega) hbase
    exact ⟨v', w', h1, h2, h3⟩
theorem wpList_append_src {ops : Array Oper} {rest : List Oper} {o : Oper} {a : Act} {w : World} {Q : Exit → Act → World → Prop} (hgd : o.guard = none) (s x : Operand)
    (ho : o.op = .call { callee := .builtin .append, args := #[s, x], argTypes := #[nodesT, nodesT] })
    (base : Nat) (v : Value) (n : Nat) (xs : List Value) (hs : a.eval s = v) (hown : w.ownsRow base nodeT 6 v n xs)
    (A : Option Addr) (c k : Nat) (q : List (Nd × Hd)) (hk : k = q.length) (hx : a.eval x = .slice A k c) (hq : Src w A q) (hb : n + q.length ≤ 4000000) (hbase : base ≤ w.heap.size)
    (h : ∀ v' w', w'.ownsRow base nodeT 6 v' (n + q.length) (xs ++ rowOf q) → w.grownBy w' v.ownBlock → wpList Try.prog ops Q rest (a.put o.dst v') w') : wpList Try.prog ops Q (o :: rest) a w :=
  wpList_plain hgd fun _ hK => by
    subst hk
    obtain ⟨v', w', hr, h2, h3⟩ := run_append_src base o.type w v n xs hown A c q hq hb hbase
    unfold Oper.wp execOp
    simp only [ho, resolve, invoke, builtin, Sem.run_bind, Sem.run_pure, Result.andThen_ok, List.map_toArray, List.map_cons, List.map_nil, hs, hx, hr]
    exact hK _ _ (h v' w' h2 h3)
/-- what a node points to: its pointers, and those of its items. -/
def ptrsL (n : Nd) : List Nd := n.ptrs ++ n.items.flatMap Nd.ptrs
theorem src_of {w : World} {S : Nat → Prop} {m : Nat} {A : Option Addr} {l : List Nd} (h : NdsAt w S m A l) : ∃ q : List (Nd × Hd), q.map (·.1) = l ∧ Src w A q ∧ ∀ r ∈ q, NdAt w S (m - 1) r.1 r.2 := by
  cases m with
  | zero =>
    obtain rfl := h.zero
    exact ⟨[], rfl, .inl rfl, fun r h => by cases h⟩
  | succ m =>
    obtain ⟨q, h1, h2, h3⟩ := h.pairs
    exact ⟨q, h1, h3, h2⟩
theorem Src.below {w w' : World} {A : Option Addr} {q : List (Nd × Hd)} (h : Src w A q) (hb : Below w.heap.size w w') : Src w' A q := by
  rcases h with h | ⟨x, hx, h⟩
  · exact .inl h
  · refine .inr ⟨x, hx, fun j u hj => ?_⟩
    have := h j u hj
    exact (hb.cell (World.block_lt_of_cell? w _ this)).trans this
theorem ptrsL_sum (l : List Nd) : (l.flatMap Nd.ptrs).length = (l.map fun n => n.ptrs.length).sum := by
  induction l with
  | nil => rfl
  | cons a t ih => simp [ih]
theorem items_ptrs {w : World} {S : Nat → Prop} {m : Nat} {A : Option Addr} {l : List Nd} (h : NdsAt w S m A l) : (l.map fun n => n.ptrs.length).sum ≤ totL m l := by
  cases m with
  | zero => rw [h.zero]; simp
  | succ m =>
    rw [totL_succ]
    refine sum_le l _ _ fun n hn => ?_
    obtain ⟨hd, h1⟩ := h.mem n hn
    have := len_tot h1.2.1
    unfold totN
    omega
theorem own_sliceN {w : World} {B e n z : Nat} {v : Value} {xs : List Value} (h : w.ownsRow B e z v n xs) : ∃ A cap, v = .slice A n cap := by
  rcases h.2 with ⟨rfl, rfl⟩ | ⟨g, cap, _, rfl, _⟩
  · exact ⟨none, 0, rfl⟩
  · exact ⟨_, cap, rfl⟩
end Go.Proofs.Ytkimkhgigbejkab
