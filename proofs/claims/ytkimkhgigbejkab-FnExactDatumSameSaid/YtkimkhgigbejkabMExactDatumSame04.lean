/- Texts of the proof of the law FnExactDatumSame, side by side: part 4. -/
import Derived.Laws.AppendOwn
import Derived.Lib.QuietBelow
import Derived.Test.YtkimkhgigbejkabMExactDatumSame00
import Derived.Test.YtkimkhgigbejkabMExactDatumSame01
import Derived.Test.YtkimkhgigbejkabMExactDatumSame02
import Derived.Test.YtkimkhgigbejkabMExactDatumSame03
/- How many words a node takes by itself. -/
namespace Go.Proofs.Ytkimkhgigbejkab
open Go.RowKit
/-- words of bytes, and pointers. -/
def ownB (n : Nd) : Nat := (n.data.size + 7) / 8 + n.ptrs.length
/-- how many words a node takes, without what is within. -/
def ownN (n : Nd) : Nat := ownB n + (if n.kind = 2 ∧ n.size = 7 then 1 else 0) + (n.items.map ownB).sum
theorem ownB_tot (m : Nat) (n : Nd) (w : World) (S : Nat → Prop) (h : Hd) (hn : NdAt w S m n h) : ownB n ≤ n.data.size + totL m n.ptrs + 1 := by
  have : n.ptrs.length ≤ totL m n.ptrs := by
    cases m with
    | zero => rw [hn.2.1.zero]; simp
    | succ m => exact totL_len m _
  unfold ownB; omega
theorem own_take (l : List Nd) (k : Nat) (h : k < l.length) : ((l.take (k + 1)).map ownB).sum = ((l.take k).map ownB).sum + ownB l[k] := sum_take_succ l ownB k h
/-- which forms there are. -/
theorem form_cases {n : Nd} (h : formN n = true) :
    (n.kind = 0 ∧ n.data.size = 0 ∧ n.ptrs.length = 0 ∧ n.size = 0 ∧ n.count = 0 ∧ n.items.length = 0) ∨
    (n.kind = 1 ∧ (n.data.size : Int) % 8 = 0 ∧ n.size = 0 ∧ n.count = 0 ∧ n.items.length = 0) ∨
    (n.kind = 2 ∧ (0 ≤ n.count ∧ n.count < 12801) ∧ ((0 ≤ n.size ∧ n.size ≤ 5 ∧ bitsB n.data (n.count * bz n.size) = true ∧ n.ptrs.length = 0 ∧ n.items.length = 0) ∨ (n.size = 6 ∧ n.data.size = 0 ∧ (n.ptrs.length : Int) = n.count ∧ n.items.length = 0) ∨ (n.size = 7 ∧ n.data.size = 0 ∧ n.ptrs.length = 0 ∧ (n.items.length : Int) = n.count ∧ itemsB n.items = true))) := by
  unfold formN noneN strN listN at h
  rw [Bool.or_eq_true, Bool.or_eq_true] at h
  rcases h with h | h | h
  · left; simpa [noneB, and_assoc] using h
  · right; left; simpa [structB] using h
  · right; right
    unfold listB at h
    rw [Bool.and_eq_true, Bool.and_eq_true] at h
    obtain ⟨h1, h2, h3⟩ := h
    refine ⟨by simpa using h1, by simpa [wiB] using h2, ?_⟩
    split at h3
    · rename_i hs
      left
      refine ⟨hs.1, hs.2, ?_⟩
      simpa using h3
    · split at h3
      · rename_i hs
        right; left
        refine ⟨hs, ?_⟩
        simpa using h3
      · split at h3
        · rename_i hs
          right; right
          refine ⟨hs, ?_⟩
          simpa [and_assoc] using h3
        · cases h3
theorem items_str {l : List Nd} (h : itemsB l = true) : ∀ n ∈ l, n.kind = 1 ∧ (n.data.size : Int) % 8 = 0 ∧ n.items.length = 0 := by
  intro n hn
  have := List.all_eq_true.1 h n hn
  unfold itemB at this
  rw [Bool.and_eq_true] at this
  have h1 := this.1
  simp [structB] at h1
  exact ⟨h1.1, h1.2.1, by simpa using h1.2.2.2.2⟩
theorem form_item {n : Nd} (h : formN n = true) : ∀ x ∈ n.items, x.kind = 1 ∧ (x.data.size : Int) % 8 = 0 ∧ x.items.length = 0 := by
  intro x hx
  have hne : n.items.length ≠ 0 := by
    intro h0
    rw [List.eq_nil_of_length_eq_zero h0] at hx
    cases hx
  rcases form_cases h with h | h | ⟨_, _, h | h | h⟩
  · omega
  · omega
  · omega
  · omega
  · exact items_str h.2.2.2.2 x hx
theorem NdsAt.mem {w : World} {S : Nat → Prop} {m : Nat} {A : Option Addr} {l : List Nd} (h : NdsAt w S (m + 1) A l) : ∀ n ∈ l, ∃ h, NdAt w S m n h := by
  obtain ⟨_, q, rfl, _, hr⟩ := h
  intro n hn
  obtain ⟨r, hr1, rfl⟩ := List.mem_map.1 hn
  exact ⟨r.2, hr r hr1⟩
theorem len_tot {w : World} {S : Nat → Prop} {m : Nat} {A : Option Addr} {l : List Nd} (h : NdsAt w S m A l) : l.length ≤ totL m l := by
  cases m with
  | zero => rw [h.zero]; simp
  | succ m => exact totL_len m l
theorem ownB_le {w : World} {S : Nat → Prop} {m : Nat} {n : Nd} {h : Hd} (hn : NdAt w S m n h) : ownB n ≤ totN m n := by
  have := len_tot hn.2.1
  unfold ownB totN
  omega
theorem sum_le (l : List Nd) (f g : Nd → Nat) (h : ∀ n ∈ l, f n ≤ g n) : (l.map f).sum ≤ (l.map g).sum := by
  induction l with
  | nil => simp
  | cons a t ih =>
    have h1 := h a (List.mem_cons_self)
    have h2 := ih (fun n hn => h n (List.mem_cons_of_mem _ hn))
    simp only [List.map_cons, List.sum_cons]
    omega
theorem own_sum {w : World} {S : Nat → Prop} {m : Nat} {A : Option Addr} {l : List Nd} (h : NdsAt w S m A l) : (l.map ownB).sum ≤ totL m l := by
  cases m with
  | zero => rw [h.zero]; simp
  | succ m =>
    rw [totL_succ]
    refine sum_le l _ _ fun n hn => ?_
    obtain ⟨hd, h1⟩ := h.mem n hn
    have := ownB_le h1
    omega
theorem item_small {w : World} {S : Nat → Prop} {m : Nat} {A : Option Addr} {l : List Nd} (h : NdsAt w S m A l) : ∀ n ∈ l, n.data.size ≤ totL m l ∧ n.ptrs.length ≤ totL m l := by
  intro n hn
  cases m with
  | zero => rw [h.zero] at hn; cases hn
  | succ m =>
    obtain ⟨hd, h1⟩ := h.mem n hn
    obtain ⟨k, hk, rfl⟩ := List.mem_iff_getElem.1 hn
    have := totL_at (m := m) hk
    have hl := len_tot h1.2.1
    unfold totN at this
    omega
end Go.Proofs.Ytkimkhgigbejkab

/- What a node points to, side by side. -/
namespace Go.Proofs.Ytkimkhgigbejkab
open Go.RowKit
theorem run_append_none (v : Value) (c : Nat) (ty : TypeId) (w : World) (hv : v = .slice none 0 0 ∨ ∃ g n cap, v = .slice (some g) n cap ∧ n ≤ cap) :
    (Builtin.append_ #[nodesT, nodesT] ty #[v, .slice none 0 c]).run Try.prog w = .ok v w := by
  obtain ⟨i0, hi, hz0, hz1, hz2⟩ := info_parts infoNd
  rcases hv with rfl | ⟨g, n, cap, rfl, hn⟩
  · simp [Builtin.append_, run_underlying (P := Try.prog) Try.underlying23, sizeOf, typeInfo, hi, Builtin.lenOf, run_firstCells_none]
  · simp [Builtin.append_, run_underlying (P := Try.prog) Try.underlying23, sizeOf, typeInfo, hi, Builtin.lenOf, hn, run_firstCells_none, storeCells]
/-- nodes of some slice. -/
def Src (w : World) (A : Option Addr) (q : List (Nd × Hd)) : Prop := q = [] ∨ ∃ x, A = some x ∧ ∀ j u, (rowOf q)[j]? = some u → w.cell? (x.add j) = some u
theorem run_append_src (base : Nat) (ty : TypeId) (w : World) (v : Value) (n : Nat) (xs : List Value) (hown : w.ownsRow base nodeT 6 v n xs) (A : Option Addr) (c : Nat) (q : List (Nd × Hd)) (hq : Src w A q) (hb : n + q.length ≤ 4000000) (hbase : base ≤ w.heap.size) :
    ∃ v' w', (Builtin.append_ #[nodesT, nodesT] ty #[v, .slice A q.length c]).run Try.prog w = .ok v' w' ∧ w'.ownsRow base nodeT 6 v' (n + q.length) (xs ++ rowOf q) ∧ w.grownBy w' v.ownBlock := by
  obtain ⟨i0, hi, hz0, hz1, hz2⟩ := info_parts infoNd
  cases A with
  | none =>
    have h0 : q = [] := by
      rcases hq with h | ⟨x, hx, _⟩
      · exact h
      · cases hx
    subst h0
    refine ⟨v, w, run_append_none v c ty w ?_, by simpa [rowOf] using hown, ⟨rfl, rfl, rfl, Nat.le_refl _, fun _ _ _ => rfl⟩⟩
    rcases hown.2 with ⟨rfl, _⟩ | ⟨g, cap, cur, rfl, _, _, hc, _⟩
    · exact .inl rfl
    · exact .inr ⟨_, _, _, rfl, hc⟩
  | some x =>
    have hnews : ∀ (j : Nat) (u : Value), (rowOf q)[j]? = some u → w.cell? (x.add j) = some u := by
      rcases hq with h | ⟨x', hx, h⟩
      · subst h; intro j u hj; simp [rowOf] at hj
      · obtain rfl := Option.some.inj hx; exact h
    obtain ⟨v', w', h1, h2, h3, _⟩ := run_append_own (P := Try.prog) w base nodesT ty nodeT i0 _ 6 88 Try.underlying23 hi hz0 hz1 hz2 rfl (by decide) v n xs hown x q.length c (rowOf q) (rowOf_length q) hnews (rowOf_one q) (by unfold maxLen; omega) (by omega) hbase
    exact ⟨v', w', h1, h2, h3⟩
theorem wpList_append_src {ops : Array Oper} {rest : List Oper} {o : Oper} {a : Act} {w : World} {Q : Exit → Act → World → Prop} (hgd : o.guard = none) (s x : Operand)
    (ho : o.op = .call { callee := .builtin .append, args := #[s, x], argTypes := #[nodesT, nodesT] })
    (base : Nat) (v : Value) (n : Nat) (xs : List Value) (hs : a.eval s = v) (hown : w.ownsRow base nodeT 6 v n xs)
    (A : Option Addr) (c k : Nat) (q : List (Nd × Hd)) (hk : k = q.length) (hx : a.eval x = .slice A k c) (hq : Src w A q) (hb : n + q.length ≤ 4000000) (hbase : base ≤ w.heap.size)
    (h : ∀ v' w', w'.ownsRow base nodeT 6 v' (n + q.length) (xs ++ rowOf q) → w.grownBy w' v.ownBlock → wpList Try.prog ops Q rest (a.put o.dst v') w') : wpList Try.prog ops Q (o :: rest) a w :=
  wpList_plain hgd fun _ hK => by
    subst hk
    obtain ⟨v', w', hr, h2, h3⟩ := run_append_src base o.type w v n xs hown A c q hq hb hbase
    unfold Oper.wp execOp
    simp only [ho, resolve, invoke, builtin, Sem.run_bind, Sem.run_pure, Result.andThen_ok, List.map_toArray, List.map_cons, List.map_nil, hs, hx, hr]
    exact hK _ _ (h v' w' h2 h3)
/-- what a node points to: its pointers, and those of its items. -/
def ptrsL (n : Nd) : List Nd := n.ptrs ++ n.items.flatMap Nd.ptrs
theorem src_of {w : World} {S : Nat → Prop} {m : Nat} {A : Option Addr} {l : List Nd} (h : NdsAt w S m A l) : ∃ q : List (Nd × Hd), q.map (·.1) = l ∧ Src w A q ∧ ∀ r ∈ q, NdAt w S (m - 1) r.1 r.2 := by
  cases m with
  | zero =>
    obtain rfl := h.zero
    exact ⟨[], rfl, .inl rfl, fun r h => by cases h⟩
  | succ m =>
    obtain ⟨q, h1, h2, h3⟩ := h.pairs
    exact ⟨q, h1, h3, h2⟩
theorem Src.below {w w' : World} {A : Option Addr} {q : List (Nd × Hd)} (h : Src w A q) (hb : Below w.heap.size w w') : Src w' A q := by
  rcases h with h | ⟨x, hx, h⟩
  · exact .inl h
  · refine .inr ⟨x, hx, fun j u hj => ?_⟩
    have := h j u hj
    exact (hb.cell (World.block_lt_of_cell? w _ this)).trans this
theorem ptrsL_sum (l : List Nd) : (l.flatMap Nd.ptrs).length = (l.map fun n => n.ptrs.length).sum := by
  induction l with
  | nil => rfl
  | cons a t ih => simp [ih]
theorem items_ptrs {w : World} {S : Nat → Prop} {m : Nat} {A : Option Addr} {l : List Nd} (h : NdsAt w S m A l) : (l.map fun n => n.ptrs.length).sum ≤ totL m l := by
  cases m with
  | zero => rw [h.zero]; simp
  | succ m =>
    rw [totL_succ]
    refine sum_le l _ _ fun n hn => ?_
    obtain ⟨hd, h1⟩ := h.mem n hn
    have := len_tot h1.2.1
    unfold totN
    omega
theorem own_sliceN {w : World} {B e n z : Nat} {v : Value} {xs : List Value} (h : w.ownsRow B e z v n xs) : ∃ A cap, v = .slice A n cap := by
  rcases h.2 with ⟨rfl, rfl⟩ | ⟨g, cap, _, rfl, _⟩
  · exact ⟨none, 0, rfl⟩
  · exact ⟨_, cap, rfl⟩
end Go.Proofs.Ytkimkhgigbejkab

/- The program's measure of a node: whether it is ok, and its words. -/
namespace Go.Proofs.Ytkimkhgigbejkab
open Go.RowKit
/-- a node is ok, so many deep at most. -/
def okN : Nat → Nd → Bool
  | 0, n => formN n && decide (n.kind = 0)
  | d + 1, n => formN n && (decide (n.kind = 0) || (ptrsL n).all (okN d))
/-- how many words a node takes that is ok, so many deep at most. -/
def wordsN : Nat → Nd → Nat
  | 0, _ => 0
  | d + 1, n => ownN n + ((ptrsL n).map (wordsN d)).sum
theorem ok_form {d : Nat} {n : Nd} (h : formN n = false) : okN d n = false := by
  cases d <;> simp [okN, h]
theorem nil_of_len {α : Type} {l : List α} (h : l.length = 0) : l = [] := List.eq_nil_of_length_eq_zero h
theorem none_words {d : Nat} {n : Nd} (h : formN n = true) (hk : n.kind = 0) : okN d n = true ∧ wordsN d n = 0 := by
  rcases form_cases h with hc | hc | hc
  · obtain ⟨_, h1, h2, _, _, h5⟩ := hc
    have e1 : ptrsL n = [] := by unfold ptrsL; rw [nil_of_len h2, nil_of_len h5]; rfl
    have e2 : ownN n = 0 := by unfold ownN ownB; rw [h1, h2, nil_of_len h5, hk]; rfl
    cases d
    · exact ⟨by simp [okN, h, hk], rfl⟩
    · exact ⟨by simp [okN, h, hk], by simp [wordsN, e1, e2]⟩
  · omega
  · omega
theorem cell_single {w : World} {b : Nat} {v : Value} {T : TypeId} {p : Addr} {n : Nd} {h : Hd} (hb : w.heap[b]? = some (.cells #[v] T (0, 0))) (hc : NdCell w p n h) : p.block ≠ b := by
  intro e
  have h1 := hc.c1
  rw [e, cell_of_row _ _ _ _ _ _ hb] at h1
  simp at h1
theorem NdsAt.keeps {w w' : World} {S : Nat → Prop} {m b : Nat} {A : Option Addr} {l : List Nd} {v : Value} {T : TypeId} (h : NdsAt w S m A l) (hb : w.heap[b]? = some (.cells #[v] T (0, 0))) (hk : Keeps w.heap.size b w w') : NdsAt w' S m A l :=
  NdsAt.map (fun _ h => h) (fun p _ _ _ hc => hc.block (hk.block _ hc.lt (cell_single hb hc))) _ _ _ h
theorem NdAt.keeps {w w' : World} {S : Nat → Prop} {m b : Nat} {n : Nd} {h : Hd} {v : Value} {T : TypeId} (hn : NdAt w S m n h) (hb : w.heap[b]? = some (.cells #[v] T (0, 0))) (hk : Keeps w.heap.size b w w') : NdAt w' S m n h :=
  ⟨hn.1, hn.2.1.keeps hb hk, hn.2.2.keeps hb hk⟩
theorem totL_eq {w : World} {S : Nat → Prop} : ∀ (m : Nat) (A : Option Addr) (l : List Nd), NdsAt w S m A l → totL (m + 1) l = totL m l
  | 0, A, l, h => by rw [h.zero]; rfl
  | m + 1, A, l, h => by
    rw [totL_succ (m + 1), totL_succ m]
    congr 1
    apply List.map_congr_left
    intro n hn
    obtain ⟨hd, h1⟩ := h.mem n hn
    unfold totN
    rw [totL_eq m _ _ h1.2.1, totL_eq m _ _ h1.2.2]
theorem flat_tot (l : List Nd) (m : Nat) : totL (m + 1) (l.flatMap Nd.ptrs) = (l.map fun y => totL (m + 1) y.ptrs).sum := by
  induction l with
  | nil => rfl
  | cons a t ih => rw [List.flatMap_cons, totL_succ, List.map_append, List.sum_append, ← totL_succ, ← totL_succ, ih]; rfl
theorem tot_ptrs {w : World} {S : Nat → Prop} {m : Nat} {n : Nd} {h : Hd} (hn : NdAt w S m n h) : totL m (ptrsL n) ≤ totN m n := by
  cases m with
  | zero => exact Nat.zero_le _
  | succ m =>
    have h1 : totL (m + 1) (ptrsL n) = totL (m + 1) n.ptrs + (n.items.map fun y => totL (m + 1) y.ptrs).sum := by
      unfold ptrsL
      rw [totL_succ, List.map_append, List.sum_append, ← totL_succ, ← totL_succ, flat_tot]
    have h2 : (n.items.map fun y => totL (m + 1) y.ptrs).sum ≤ totL (m + 1) n.items := by
      rw [totL_succ]
      refine sum_le _ _ _ fun y hy => ?_
      obtain ⟨hd, h3⟩ := hn.2.2.mem y hy
      rw [totL_eq m _ _ h3.2.1]
      unfold totN
      omega
    rw [h1]
    unfold totN
    omega
theorem ptrs_len {w : World} {S : Nat → Prop} {m : Nat} {n : Nd} {h : Hd} (hn : NdAt w S m n h) : (ptrsL n).length ≤ totL m (ptrsL n) := by
  cases m with
  | zero =>
    unfold ptrsL
    rw [hn.2.1.zero, hn.2.2.zero]
    simp
  | succ m => exact totL_len m _
theorem own_bound {w : World} {S : Nat → Prop} {m : Nat} {n : Nd} {h : Hd} (hn : NdAt w S m n h) (ht : totN m n ≤ 2000000) : ownN n ≤ 3000000 := by
  have h1 : ownB n ≤ n.data.size + n.ptrs.length := by unfold ownB; omega
  have h2 := own_sum hn.2.2
  have h3 := len_tot hn.2.1
  unfold ownN
  unfold totN at ht
  split <;> omega
theorem own_le_words {d : Nat} {n : Nd} : ownN n ≤ wordsN (d + 1) n := by simp [wordsN]
end Go.Proofs.Ytkimkhgigbejkab

/- Pure facts: what lies at an address is one node alone; pairs of nodes that are closed are the same. No Go text. -/
namespace Go.Proofs.Ytkimkhgigbejkab
open Go.RowKit
theorem cell_unique {w : World} {S S' : Nat → Prop} {m m' : Nat} {p : Addr} {n n' : Nd} {h h' : Hd} (ih : ∀ (m' : Nat) (A : Option Addr) (l l' : List Nd), NdsAt w S m A l → NdsAt w S' m' A l' → l.length = l'.length → l = l')
    (c : NdCell w p n h) (c' : NdCell w p n' h') (a : NdAt w S m n h) (a' : NdAt w S' m' n' h') : n = n' := by
  have e0 := Option.some.inj (c.c0.symm.trans c'.c0)
  have e1 := Option.some.inj (c.c1.symm.trans c'.c1)
  have e2 := Option.some.inj (c.c2.symm.trans c'.c2)
  have e3 := Option.some.inj (c.c3.symm.trans c'.c3)
  have e4 := Option.some.inj (c.c4.symm.trans c'.c4)
  have e5 := Option.some.inj (c.c5.symm.trans c'.c5)
  simp only [Value.int.injEq, Value.string.injEq, Value.slice.injEq, true_and] at e0 e1 e2 e3 e4 e5
  have a1 := a'.2.1
  have a2 := a'.2.2
  rw [← e2.1] at a1
  rw [← e5.1] at a2
  exact (nd_eq n n').2 ⟨e0, e1, e3, e4, ih m' h.A n.ptrs n'.ptrs a.2.1 a1 e2.2.1, ih m' h.B n.items n'.items a.2.2 a2 e5.2.1⟩
theorem nds_unique {w : World} {S S' : Nat → Prop} : ∀ (m m' : Nat) (A : Option Addr) (l l' : List Nd), NdsAt w S m A l → NdsAt w S' m' A l' → l.length = l'.length → l = l'
  | 0, m', A, l, l', h, h', hl => by
    obtain rfl := h.zero
    exact (List.eq_nil_of_length_eq_zero hl.symm).symm
  | m + 1, m', A, l, l', h, h', hl => by
    apply List.ext_getElem hl
    intro k h1 h2
    obtain ⟨x, hx, hA, c, n⟩ := h.at_ h1
    obtain ⟨y, hy, hA', c', n'⟩ := (h'.mono (Nat.le_succ m')).at_ h2
    obtain rfl : x = y := by rw [hA] at hA'; exact Option.some.inj hA'
    exact cell_unique (nds_unique m) c c' n n'
theorem nd_unique {w : World} {S S' : Nat → Prop} {m m' : Nat} {p : Addr} {n n' : Nd} {h h' : Hd} (c : NdCell w p n h) (c' : NdCell w p n' h') (a : NdAt w S m n h) (a' : NdAt w S' m' n' h') : n = n' := cell_unique (nds_unique m) c c' a a'
/-- two nodes are the same but for what is within. -/
def PartsEq (n n' : Nd) : Prop := n.kind = n'.kind ∧ n.data = n'.data ∧ n.size = n'.size ∧ n.count = n'.count ∧ n.ptrs.length = n'.ptrs.length ∧ n.items.length = n'.items.length
def Within (D : List (Nd × Nd)) (l l' : List Nd) : Prop := ∀ (k : Nat) x y, l[k]? = some x → l'[k]? = some y → (x, y) ∈ D
def Closed (D E : List (Nd × Nd)) : Prop := ∀ d ∈ D, PartsEq d.1 d.2 ∧ Within E d.1.ptrs d.2.ptrs ∧ Within E d.1.items d.2.items
theorem nd_size (n : Nd) : SizeOf.sizeOf n.ptrs + SizeOf.sizeOf n.items < SizeOf.sizeOf n := by
  cases n
  simp only [Nd.ptrs, Nd.items, Nd.mk.sizeOf_spec]
  omega
theorem list_same {D : List (Nd × Nd)} {l l' : List Nd} (hl : l.length = l'.length) (h : Within D l l') (ih : ∀ x ∈ l, ∀ y, (x, y) ∈ D → x = y) : l = l' := by
  apply List.ext_getElem hl
  intro k h1 h2
  exact ih _ (List.getElem_mem h1) _ (h k _ _ (List.getElem?_eq_getElem h1) (List.getElem?_eq_getElem h2))
theorem same_closed {D : List (Nd × Nd)} (hD : Closed D D) : ∀ (N : Nat) (n n' : Nd), SizeOf.sizeOf n ≤ N → (n, n') ∈ D → n = n'
  | 0, n, n', h, _ => by have := nd_size n; omega
  | N + 1, n, n', h, hm => by
    obtain ⟨⟨e0, e1, e2, e3, e4, e5⟩, w1, w2⟩ := hD _ hm
    have hs := nd_size n
    refine (nd_eq n n').2 ⟨e0, e1, e2, e3, list_same e4 w1 fun x hx y hy => ?_, list_same e5 w2 fun x hx y hy => ?_⟩
    · have := List.sizeOf_lt_of_mem hx
      exact same_closed hD N x y (by omega) hy
    · have := List.sizeOf_lt_of_mem hx
      exact same_closed hD N x y (by omega) hy
/-- a pair of places, and what lies there. -/
abbrev PT := (Addr × Addr) × (Nd × Nd)
def Lies (w : World) (S : Nat → Prop) (M : Nat) (t : PT) : Prop := S t.1.1.block ∧ S t.1.2.block ∧ ∃ (h h' : Hd) (m' : Nat), NdCell w t.1.1 t.2.1 h ∧ NdAt w S M t.2.1 h ∧ NdCell w t.1.2 t.2.2 h' ∧ NdAt w S m' t.2.2 h'
theorem Lies.below {w w' : World} {S : Nat → Prop} {M : Nat} {t : PT} (h : Lies w S M t) (hb : Below w.heap.size w w') : Lies w' S M t := by
  obtain ⟨s1, s2, x, y, m', c, a, c', a'⟩ := h
  exact ⟨s1, s2, x, y, m', cell_below hb _ _ _ c, a.below hb, cell_below hb _ _ _ c', a'.below hb⟩
theorem Lies.one {w : World} {S : Nat → Prop} {M : Nat} {p : Addr × Addr} {d d' : Nd × Nd} (h : Lies w S M (p, d)) (h' : Lies w S M (p, d')) : d = d' := by
  obtain ⟨_, _, x, y, m', c, a, c', a'⟩ := h
  obtain ⟨_, _, x2, y2, m2', c2, a2, c2', a2'⟩ := h'
  exact Prod.ext (nd_unique c c2 a a2) (nd_unique c' c2' a' a2')
/-- the places of two lists side by side. -/
def pts (x y : Addr) : Nat → List Nd → List Nd → List PT
  | i, a :: l, b :: l' => ((x.add (i * 6), y.add (i * 6)), (a, b)) :: pts x y (i + 1) l l'
  | _, _, _ => []
theorem pts_length (x y : Addr) : ∀ (i : Nat) (l l' : List Nd), l.length = l'.length → (pts x y i l l').length = l.length
  | i, [], [], _ => rfl
  | i, a :: l, b :: l', h => by
    simp only [pts, List.length_cons]
    rw [pts_length x y (i + 1) l l' (by simpa using h)]
  | i, [], b :: l', h => by simp at h
  | i, a :: l, [], h => by simp at h
theorem pts_at (x y : Addr) : ∀ (i : Nat) (l l' : List Nd) (k : Nat) (a b : Nd), l[k]? = some a → l'[k]? = some b → (pts x y i l l')[k]? = some ((x.add ((i + k) * 6), y.add ((i + k) * 6)), (a, b))
  | i, u :: l, v :: l', 0, a, b, ha, hb => by
    simp at ha hb
    subst ha hb
    rfl
  | i, u :: l, v :: l', k + 1, a, b, ha, hb => by
    have := pts_at x y (i + 1) l l' k a b (by simpa using ha) (by simpa using hb)
    rw [show i + 1 + k = i + (k + 1) by omega] at this
    simpa [pts] using this
  | i, [], l', k, a, b, ha, hb => by simp at ha
  | i, u :: l, [], k, a, b, ha, hb => by simp at hb
theorem pts_mem (x y : Addr) (i : Nat) (l l' : List Nd) (t : PT) (hl : l.length = l'.length) (h : t ∈ pts x y i l l') : ∃ k, ∃ h1 : k < l.length, ∃ h2 : k < l'.length, t = ((x.add ((i + k) * 6), y.add ((i + k) * 6)), (l[k], l'[k])) := by
  obtain ⟨k, hk0, rfl⟩ := List.mem_iff_getElem.1 h
  have hk := hk0
  rw [pts_length x y i l l' hl] at hk
  refine ⟨k, hk, by omega, ?_⟩
  have := pts_at x y i l l' k _ _ (List.getElem?_eq_getElem hk) (List.getElem?_eq_getElem (by omega))
  rw [List.getElem?_eq_getElem hk0] at this
  exact Option.some.inj this
theorem pts_sum (x y : Addr) (f : Nd → Nat) : ∀ (i : Nat) (l l' : List Nd), ((pts x y i l l').map fun t => f t.2.1).sum ≤ (l.map f).sum
  | i, [], l' => by cases l' <;> simp [pts]
  | i, a :: l, [] => by simp [pts]
  | i, a :: l, b :: l' => by
    have := pts_sum x y f (i + 1) l l'
    simp only [pts, List.map_cons, List.sum_cons]
    omega
/-- how much is left to be looked at. -/
def wt (M : Nat) (G : List PT) : Nat := (G.map fun t => 1 + totN M t.2.1).sum
theorem wt_app (M : Nat) (G H : List PT) : wt M (G ++ H) = wt M G + wt M H := by unfold wt; rw [List.map_append, List.sum_append]
theorem wt_len (M : Nat) : ∀ G : List PT, G.length ≤ wt M G
  | [] => Nat.le_refl _
  | t :: G => by
    have := wt_len M G
    show G.length + 1 ≤ (1 + totN M t.2.1) + wt M G
    omega
theorem pts_wt {w : World} {S : Nat → Prop} {M : Nat} {A : Option Addr} {l : List Nd} (x y : Addr) (l' : List Nd) (h : NdsAt w S M A l) : wt M (pts x y 0 l l') ≤ totL M l := by
  have h1 := pts_sum x y (fun n => 1 + totN M n) 0 l l'
  have h2 : (l.map fun n => 1 + totN M n).sum = totL M l := by rw [← totL_succ]; exact totL_eq M A l h
  unfold wt
  omega
theorem NdsAt.blk {w : World} {S : Nat → Prop} {m : Nat} {A : Option Addr} {l : List Nd} (h : NdsAt w S m A l) {k : Nat} (hk : k < l.length) : S (A.getD default).block := by
  obtain ⟨j, rfl⟩ := h.pred hk
  obtain ⟨_, q, rfl, hc, _⟩ := h
  rw [List.length_map] at hk
  rcases hc with rfl | ⟨x, rfl, hs, _⟩
  · cases hk
  · exact hs
theorem pts_within (x y : Addr) (l l' : List Nd) : Within ((pts x y 0 l l').map (·.2)) l l' := by
  intro k a b ha hb
  have := pts_at x y 0 l l' k a b ha hb
  exact List.mem_map.2 ⟨_, List.mem_of_getElem? this, rfl⟩
theorem pts_lies {w : World} {S : Nat → Prop} {M m' : Nat} {A B : Option Addr} {l l' : List Nd} (h : NdsAt w S M A l) (h' : NdsAt w S m' B l') (hl : l.length = l'.length) : ∀ t ∈ pts (A.getD default) (B.getD default) 0 l l', Lies w S M t := by
  intro t ht
  obtain ⟨k, h1, h2, rfl⟩ := pts_mem _ _ _ _ _ _ hl ht
  have s1 := h.blk h1
  have s2 := h'.blk h2
  obtain ⟨j, rfl⟩ := h.pred h1
  obtain ⟨j', rfl⟩ := h'.pred h2
  obtain ⟨x, hx, rfl, c, n⟩ := h.at_ h1
  obtain ⟨y, hy, rfl, c', n'⟩ := h'.at_ h2
  rw [Nat.zero_add]
  exact ⟨by rw [addr_block]; exact s1, by rw [addr_block]; exact s2, hx, hy, j', c, n.mono (Nat.le_succ j), c', n'⟩
/-- how the loop stands: G is left, K has been looked at, D is what lies there. -/
structure Inv (w : World) (S : Nat → Prop) (M : Nat) (n0 n0' : Nd) (G : List PT) (K : List (Addr × Addr)) (D : List (Nd × Nd)) : Prop where
  lies : ∀ t ∈ G, Lies w S M t
  keys : ∀ a ∈ K, ∃ d, Lies w S M (a, d) ∧ d ∈ D
  closed : Closed D (D ++ G.map (·.2))
  root : (n0, n0') ∈ D ++ G.map (·.2)
  sound : n0 = n0' → ∀ t ∈ G, t.2.1 = t.2.2
theorem Inv.below {w w' : World} {S : Nat → Prop} {M : Nat} {n0 n0' : Nd} {G : List PT} {K : List (Addr × Addr)} {D : List (Nd × Nd)} (h : Inv w S M n0 n0' G K D) (hb : Below w.heap.size w w') : Inv w' S M n0 n0' G K D :=
  ⟨fun t ht => (h.lies t ht).below hb, fun a ha => by obtain ⟨d, h1, h2⟩ := h.keys a ha; exact ⟨d, h1.below hb, h2⟩, h.closed, h.root, h.sound⟩
theorem Closed.sub {D E E' : List (Nd × Nd)} (h : Closed D E) (hs : ∀ x ∈ E, x ∈ E') : Closed D E' := fun d hd => ⟨(h d hd).1, fun k x y a b => hs _ ((h d hd).2.1 k x y a b), fun k x y a b => hs _ ((h d hd).2.2 k x y a b)⟩
theorem Inv.end_ {w : World} {S : Nat → Prop} {M : Nat} {n0 n0' : Nd} {K : List (Addr × Addr)} {D : List (Nd × Nd)} (h : Inv w S M n0 n0' [] K D) : n0 = n0' := by
  have hc : Closed D D := h.closed.sub (by simp)
  exact same_closed hc _ n0 n0' (Nat.le_refl _) (by simpa using h.root)
theorem Inv.skip {w : World} {S : Nat → Prop} {M : Nat} {n0 n0' : Nd} {G : List PT} {t : PT} {K : List (Addr × Addr)} {D : List (Nd × Nd)} (h : Inv w S M n0 n0' (G ++ [t]) K D) (hk : t.1 ∈ K) : Inv w S M n0 n0' G K D := by
  obtain ⟨d, h1, h2⟩ := h.keys _ hk
  obtain ⟨p, q⟩ := t
  obtain rfl := (h.lies (p, q) (by simp)).one h1
  have hs : ∀ x ∈ D ++ (G ++ [(p, q)]).map (·.2), x ∈ D ++ G.map (·.2) := by
    intro x hx
    simp only [List.map_append, List.map_cons, List.map_nil, List.mem_append, List.mem_cons, List.not_mem_nil, or_false] at hx ⊢
    rcases hx with hx | hx | hx
    · exact .inl hx
    · exact .inr hx
    · exact .inl (hx ▸ h2)
  exact ⟨fun t ht => h.lies t (List.mem_append_left _ ht), h.keys, h.closed.sub hs, hs _ h.root, fun e t ht => h.sound e t (List.mem_append_left _ ht)⟩
theorem Inv.step {w : World} {S : Nat → Prop} {M : Nat} {n0 n0' : Nd} {G H1 H2 : List PT} {t : PT} {K : List (Addr × Addr)} {D : List (Nd × Nd)} (h : Inv w S M n0 n0' (G ++ [t]) K D) (hp : PartsEq t.2.1 t.2.2)
    (l1 : ∀ u ∈ H1, Lies w S M u) (l2 : ∀ u ∈ H2, Lies w S M u) (i1 : Within (H1.map (·.2)) t.2.1.ptrs t.2.2.ptrs) (i2 : Within (H2.map (·.2)) t.2.1.items t.2.2.items)
    (s1 : t.2.1 = t.2.2 → ∀ u ∈ H1, u.2.1 = u.2.2) (s2 : t.2.1 = t.2.2 → ∀ u ∈ H2, u.2.1 = u.2.2) : Inv w S M n0 n0' (G ++ H1 ++ H2) (K ++ [t.1]) (t.2 :: D) := by
  have hs : ∀ x ∈ D ++ (G ++ [t]).map (·.2), x ∈ (t.2 :: D) ++ (G ++ H1 ++ H2).map (·.2) := by
    intro x hx
    simp only [List.map_append, List.map_cons, List.map_nil, List.mem_append, List.mem_cons, List.not_mem_nil, or_false] at hx ⊢
    rcases hx with hx | hx | hx
    · exact .inl (.inr hx)
    · exact .inr (.inl (.inl hx))
    · exact .inl (.inl hx)
  refine ⟨fun u hu => ?_, fun a ha => ?_, fun d hd => ?_, hs _ h.root, fun e u hu => ?_⟩
  · simp only [List.mem_append] at hu
    rcases hu with (hu | hu) | hu
    · exact h.lies u (List.mem_append_left _ hu)
    · exact l1 u hu
    · exact l2 u hu
  · rcases List.mem_append.1 ha with ha | ha
    · obtain ⟨d, h1, h2⟩ := h.keys a ha
      exact ⟨d, h1, List.mem_cons_of_mem _ h2⟩
    · obtain rfl := List.mem_singleton.1 ha
      exact ⟨t.2, h.lies t (by simp), List.mem_cons_self⟩
  · rcases List.mem_cons.1 hd with rfl | hd
    · refine ⟨hp, fun k x y a b => ?_, fun k x y a b => ?_⟩
      · have := i1 k x y a b
        simp only [List.map_append, List.mem_append]
        exact .inr (.inl (.inr this))
      · have := i2 k x y a b
        simp only [List.map_append, List.mem_append]
        exact .inr (.inr this)
    · exact (h.closed.sub hs) d hd
  · simp only [List.mem_append] at hu
    have ht := h.sound e t (by simp)
    rcases hu with (hu | hu) | hu
    · exact h.sound e u (List.mem_append_left _ hu)
    · exact s1 ht u hu
    · exact s2 ht u hu
theorem pts_same (x y : Addr) {l l' : List Nd} (e : l = l') : ∀ u ∈ pts x y 0 l l', u.2.1 = u.2.2 := by
  subst e
  intro u hu
  obtain ⟨k, h1, h2, rfl⟩ := pts_mem _ _ _ _ _ _ rfl hu
  rfl
end Go.Proofs.Ytkimkhgigbejkab

/- Pure facts: what lies at an address is one value alone; pairs of values that are closed are the same. No Go text. -/
namespace Go.Proofs.Ytkimkhgigbejkab
open Go.RowKit
theorem DtsAt.mono {w : World} {S : Nat → Prop} {m k : Nat} {A : Option Addr} {l : List Dt} (h : DtsAt w S m A l) (hk : m ≤ k) : DtsAt w S k A l := by
  induction hk with
  | refl => exact h
  | step _ ih => exact DtsAt.succ _ _ _ ih
theorem DtAt.mono {w : World} {S : Nat → Prop} {m k : Nat} {n : Dt} {h : Hd} (hn : DtAt w S m n h) (hk : m ≤ k) : DtAt w S k n h := ⟨hn.1, hn.2.1.mono hk, hn.2.2⟩
theorem strs_unique {w : World} {A : Option Addr} {s t : List ByteArray} (h : Strs w A s) (h' : Strs w A t) (hl : s.length = t.length) : s = t := by
  apply List.ext_getElem hl
  intro k h1 h2
  obtain ⟨x, hA, _, hc⟩ := h.2.resolve_left (by intro e; rw [e] at h1; simp at h1)
  obtain ⟨y, hA', _, hc'⟩ := h'.2.resolve_left (by intro e; rw [e] at h2; simp at h2)
  obtain rfl : x = y := by rw [hA] at hA'; exact Option.some.inj hA'
  have := (hc k h1).symm.trans (hc' k h2)
  simpa using this
theorem dcell_unique {w : World} {S S' : Nat → Prop} {m m' : Nat} {p : Addr} {n n' : Dt} {h h' : Hd} (ih : ∀ (m' : Nat) (A : Option Addr) (l l' : List Dt), DtsAt w S m A l → DtsAt w S' m' A l' → l.length = l'.length → l = l')
    (c : DtCell w p n h) (c' : DtCell w p n' h') (a : DtAt w S m n h) (a' : DtAt w S' m' n' h') : n = n' := by
  have e0 := Option.some.inj (c.c0.symm.trans c'.c0)
  have e1 := Option.some.inj (c.c1.symm.trans c'.c1)
  have e2 := Option.some.inj (c.c2.symm.trans c'.c2)
  have e3 := Option.some.inj (c.c3.symm.trans c'.c3)
  have e4 := Option.some.inj (c.c4.symm.trans c'.c4)
  simp only [Value.int.injEq, Value.string.injEq, Value.slice.injEq, true_and] at e0 e1 e2 e3 e4
  have a1 := a'.2.1
  have a2 := a'.2.2.2.1
  rw [← e3.1] at a1
  rw [← e4.1] at a2
  exact (dt_eq n n').2 ⟨e0, e1, e2, ih m' h.A n.list n'.list a.2.1 a1 e3.2.1, strs_unique a.2.2.2.1 a2 e4.2.1⟩
theorem dts_unique {w : World} {S S' : Nat → Prop} : ∀ (m m' : Nat) (A : Option Addr) (l l' : List Dt), DtsAt w S m A l → DtsAt w S' m' A l' → l.length = l'.length → l = l'
  | 0, m', A, l, l', h, h', hl => by
    obtain rfl := h.zero
    exact (List.eq_nil_of_length_eq_zero hl.symm).symm
  | m + 1, m', A, l, l', h, h', hl => by
    apply List.ext_getElem hl
    intro k h1 h2
    obtain ⟨x, hx, hA, c, n⟩ := h.at_ h1
    obtain ⟨j, rfl⟩ := h'.pred h2
    obtain ⟨y, hy, hA', c', n'⟩ := h'.at_ h2
    obtain rfl : x = y := by rw [hA] at hA'; exact Option.some.inj hA'
    exact dcell_unique (dts_unique m) c c' n n'
theorem dt_unique {w : World} {S S' : Nat → Prop} {m m' : Nat} {p : Addr} {n n' : Dt} {h h' : Hd} (c : DtCell w p n h) (c' : DtCell w p n' h') (a : DtAt w S m n h) (a' : DtAt w S' m' n' h') : n = n' := dcell_unique (dts_unique m) c c' a a'
theorem totDL_eq {w : World} {S : Nat → Prop} : ∀ (m : Nat) (A : Option Addr) (l : List Dt), DtsAt w S m A l → totDL (m + 1) l = totDL m l
  | 0, A, l, h => by
    obtain rfl := h.zero
    rfl
  | m + 1, A, l, h => by
    obtain ⟨_, q, rfl, _, hr⟩ := h
    rw [totDL_succ, totDL_succ]
    congr 1
    apply List.map_congr_left
    intro n hn
    obtain ⟨r, hrq, rfl⟩ := List.mem_map.1 hn
    have := totDL_eq m _ _ (hr r hrq).2.1
    unfold totD
    omega
/-- two values are the same but for what is within. -/
def DPartsEq (n n' : Dt) : Prop := n.kind = n'.kind ∧ n.num = n'.num ∧ n.text = n'.text ∧ n.list.length = n'.list.length ∧ n.names = n'.names
def DWithin (D : List (Dt × Dt)) (l l' : List Dt) : Prop := ∀ (k : Nat) x y, l[k]? = some x → l'[k]? = some y → (x, y) ∈ D
def DClosed (D E : List (Dt × Dt)) : Prop := ∀ d ∈ D, DPartsEq d.1 d.2 ∧ DWithin E d.1.list d.2.list
theorem dt_size (n : Dt) : SizeOf.sizeOf n.list < SizeOf.sizeOf n := by
  cases n
  simp only [Dt.list, Dt.mk.sizeOf_spec]
  omega
theorem dlist_same {D : List (Dt × Dt)} {l l' : List Dt} (hl : l.length = l'.length) (h : DWithin D l l') (ih : ∀ x ∈ l, ∀ y, (x, y) ∈ D → x = y) : l = l' := by
  apply List.ext_getElem hl
  intro k h1 h2
  exact ih _ (List.getElem_mem h1) _ (h k _ _ (List.getElem?_eq_getElem h1) (List.getElem?_eq_getElem h2))
theorem dsame_closed {D : List (Dt × Dt)} (hD : DClosed D D) : ∀ (N : Nat) (n n' : Dt), SizeOf.sizeOf n ≤ N → (n, n') ∈ D → n = n'
  | 0, n, n', h, _ => by have := dt_size n; omega
  | N + 1, n, n', h, hm => by
    obtain ⟨⟨e0, e1, e2, e3, e4⟩, w1⟩ := hD _ hm
    have hs := dt_size n
    refine (dt_eq n n').2 ⟨e0, e1, e2, dlist_same e3 w1 fun x hx y hy => ?_, e4⟩
    have := List.sizeOf_lt_of_mem hx
    exact dsame_closed hD N x y (by omega) hy
/-- a pair of places, and what lies there. -/
abbrev DPT := (Addr × Addr) × (Dt × Dt)
def DLies (w : World) (S : Nat → Prop) (M : Nat) (t : DPT) : Prop := S t.1.1.block ∧ S t.1.2.block ∧ ∃ (h h' : Hd) (m' : Nat), DtCell w t.1.1 t.2.1 h ∧ DtAt w S M t.2.1 h ∧ DtCell w t.1.2 t.2.2 h' ∧ DtAt w S m' t.2.2 h'
theorem DLies.below {w w' : World} {S : Nat → Prop} {M : Nat} {t : DPT} (h : DLies w S M t) (hb : Below w.heap.size w w') : DLies w' S M t := by
  obtain ⟨s1, s2, x, y, m', c, a, c', a'⟩ := h
  exact ⟨s1, s2, x, y, m', dcell_below hb _ _ _ c, a.below hb, dcell_below hb _ _ _ c', a'.below hb⟩
theorem DLies.one {w : World} {S : Nat → Prop} {M : Nat} {p : Addr × Addr} {d d' : Dt × Dt} (h : DLies w S M (p, d)) (h' : DLies w S M (p, d')) : d = d' := by
  obtain ⟨_, _, x, y, m', c, a, c', a'⟩ := h
  obtain ⟨_, _, x2, y2, m2', c2, a2, c2', a2'⟩ := h'
  exact Prod.ext (dt_unique c c2 a a2) (dt_unique c' c2' a' a2')
/-- the places of two lists side by side. -/
def dpts (x y : Addr) : Nat → List Dt → List Dt → List DPT
  | i, a :: l, b :: l' => ((x.add (i * 5), y.add (i * 5)), (a, b)) :: dpts x y (i + 1) l l'
  | _, _, _ => []
theorem dpts_length (x y : Addr) : ∀ (i : Nat) (l l' : List Dt), l.length = l'.length → (dpts x y i l l').length = l.length
  | i, [], [], _ => rfl
  | i, a :: l, b :: l', h => by
    simp only [dpts, List.length_cons]
    rw [dpts_length x y (i + 1) l l' (by simpa using h)]
  | i, [], b :: l', h => by simp at h
  | i, a :: l, [], h => by simp at h
theorem dpts_at (x y : Addr) : ∀ (i : Nat) (l l' : List Dt) (k : Nat) (a b : Dt), l[k]? = some a → l'[k]? = some b → (dpts x y i l l')[k]? = some ((x.add ((i + k) * 5), y.add ((i + k) * 5)), (a, b))
  | i, u :: l, v :: l', 0, a, b, ha, hb => by
    simp at ha hb
    subst ha hb
    rfl
  | i, u :: l, v :: l', k + 1, a, b, ha, hb => by
    have := dpts_at x y (i + 1) l l' k a b (by simpa using ha) (by simpa using hb)
    rw [show i + 1 + k = i + (k + 1) by omega] at this
    simpa [dpts] using this
  | i, [], l', k, a, b, ha, hb => by simp at ha
  | i, u :: l, [], k, a, b, ha, hb => by simp at hb
theorem dpts_mem (x y : Addr) (i : Nat) (l l' : List Dt) (t : DPT) (hl : l.length = l'.length) (h : t ∈ dpts x y i l l') : ∃ k, ∃ h1 : k < l.length, ∃ h2 : k < l'.length, t = ((x.add ((i + k) * 5), y.add ((i + k) * 5)), (l[k], l'[k])) := by
  obtain ⟨k, hk0, rfl⟩ := List.mem_iff_getElem.1 h
  have hk := hk0
  rw [dpts_length x y i l l' hl] at hk
  refine ⟨k, hk, by omega, ?_⟩
  have := dpts_at x y i l l' k _ _ (List.getElem?_eq_getElem hk) (List.getElem?_eq_getElem (by omega))
  rw [List.getElem?_eq_getElem hk0] at this
  exact Option.some.inj this
theorem dpts_sum (x y : Addr) (f : Dt → Nat) : ∀ (i : Nat) (l l' : List Dt), ((dpts x y i l l').map fun t => f t.2.1).sum ≤ (l.map f).sum
  | i, [], l' => by cases l' <;> simp [dpts]
  | i, a :: l, [] => by simp [dpts]
  | i, a :: l, b :: l' => by
    have := dpts_sum x y f (i + 1) l l'
    simp only [dpts, List.map_cons, List.sum_cons]
    omega
/-- how much is left to be looked at. -/
def dwt (M : Nat) (G : List DPT) : Nat := (G.map fun t => 1 + totD M t.2.1).sum
theorem dwt_app (M : Nat) (G H : List DPT) : dwt M (G ++ H) = dwt M G + dwt M H := by unfold dwt; rw [List.map_append, List.sum_append]
theorem dwt_len (M : Nat) : ∀ G : List DPT, G.length ≤ dwt M G
  | [] => Nat.le_refl _
  | t :: G => by
    have := dwt_len M G
    show G.length + 1 ≤ (1 + totD M t.2.1) + dwt M G
    omega
theorem dpts_wt {w : World} {S : Nat → Prop} {M : Nat} {A : Option Addr} {l : List Dt} (x y : Addr) (l' : List Dt) (h : DtsAt w S M A l) : dwt M (dpts x y 0 l l') ≤ totDL M l := by
  have h1 := dpts_sum x y (fun n => 1 + totD M n) 0 l l'
  have h2 : (l.map fun n => 1 + totD M n).sum = totDL M l := by rw [← totDL_succ]; exact totDL_eq M A l h
  unfold dwt
  omega
theorem DtsAt.blk {w : World} {S : Nat → Prop} {m : Nat} {A : Option Addr} {l : List Dt} (h : DtsAt w S m A l) {k : Nat} (hk : k < l.length) : S (A.getD default).block := by
  obtain ⟨j, rfl⟩ := h.pred hk
  obtain ⟨_, q, rfl, hc, _⟩ := h
  rw [List.length_map] at hk
  rcases hc with rfl | ⟨x, rfl, hs, _⟩
  · cases hk
  · exact hs
theorem dpts_within (x y : Addr) (l l' : List Dt) : DWithin ((dpts x y 0 l l').map (·.2)) l l' := by
  intro k a b ha hb
  have := dpts_at x y 0 l l' k a b ha hb
  exact List.mem_map.2 ⟨_, List.mem_of_getElem? this, rfl⟩
theorem dpts_lies {w : World} {S : Nat → Prop} {M m' : Nat} {A B : Option Addr} {l l' : List Dt} (h : DtsAt w S M A l) (h' : DtsAt w S m' B l') (hl : l.length = l'.length) : ∀ t ∈ dpts (A.getD default) (B.getD default) 0 l l', DLies w S M t := by
  intro t ht
  obtain ⟨k, h1, h2, rfl⟩ := dpts_mem _ _ _ _ _ _ hl ht
  have s1 := h.blk h1
  have s2 := h'.blk h2
  obtain ⟨j, rfl⟩ := h.pred h1
  obtain ⟨j', rfl⟩ := h'.pred h2
  obtain ⟨x, hx, rfl, c, n⟩ := h.at_ h1
  obtain ⟨y, hy, rfl, c', n'⟩ := h'.at_ h2
  rw [Nat.zero_add]
  exact ⟨by rw [addr_block]; exact s1, by rw [addr_block]; exact s2, hx, hy, j', c, n.mono (Nat.le_succ j), c', n'⟩
/-- how the loop stands: G is left, K has been looked at, D is what lies there. -/
structure DInv (w : World) (S : Nat → Prop) (M : Nat) (n0 n0' : Dt) (G : List DPT) (K : List (Addr × Addr)) (D : List (Dt × Dt)) : Prop where
  lies : ∀ t ∈ G, DLies w S M t
  keys : ∀ a ∈ K, ∃ d, DLies w S M (a, d) ∧ d ∈ D
  closed : DClosed D (D ++ G.map (·.2))
  root : (n0, n0') ∈ D ++ G.map (·.2)
  sound : n0 = n0' → ∀ t ∈ G, t.2.1 = t.2.2
theorem DInv.below {w w' : World} {S : Nat → Prop} {M : Nat} {n0 n0' : Dt} {G : List DPT} {K : List (Addr × Addr)} {D : List (Dt × Dt)} (h : DInv w S M n0 n0' G K D) (hb : Below w.heap.size w w') : DInv w' S M n0 n0' G K D :=
  ⟨fun t ht => (h.lies t ht).below hb, fun a ha => by obtain ⟨d, h1, h2⟩ := h.keys a ha; exact ⟨d, h1.below hb, h2⟩, h.closed, h.root, h.sound⟩
theorem DClosed.sub {D E E' : List (Dt × Dt)} (h : DClosed D E) (hs : ∀ x ∈ E, x ∈ E') : DClosed D E' := fun d hd => ⟨(h d hd).1, fun k x y a b => hs _ ((h d hd).2 k x y a b)⟩
theorem DInv.end_ {w : World} {S : Nat → Prop} {M : Nat} {n0 n0' : Dt} {K : List (Addr × Addr)} {D : List (Dt × Dt)} (h : DInv w S M n0 n0' [] K D) : n0 = n0' := by
  have hc : DClosed D D := h.closed.sub (by simp)
  exact dsame_closed hc _ n0 n0' (Nat.le_refl _) (by simpa using h.root)
theorem DInv.skip {w : World} {S : Nat → Prop} {M : Nat} {n0 n0' : Dt} {G : List DPT} {t : DPT} {K : List (Addr × Addr)} {D : List (Dt × Dt)} (h : DInv w S M n0 n0' (G ++ [t]) K D) (hk : t.1 ∈ K) : DInv w S M n0 n0' G K D := by
  obtain ⟨d, h1, h2⟩ := h.keys _ hk
  obtain ⟨p, q⟩ := t
  obtain rfl := (h.lies (p, q) (by simp)).one h1
  have hs : ∀ x ∈ D ++ (G ++ [(p, q)]).map (·.2), x ∈ D ++ G.map (·.2) := by
    intro x hx
    simp only [List.map_append, List.map_cons, List.map_nil, List.mem_append, List.mem_cons, List.not_mem_nil, or_false] at hx ⊢
    rcases hx with hx | hx | hx
    · exact .inl hx
    · exact .inr hx
    · exact .inl (hx ▸ h2)
  exact ⟨fun t ht => h.lies t (List.mem_append_left _ ht), h.keys, h.closed.sub hs, hs _ h.root, fun e t ht => h.sound e t (List.mem_append_left _ ht)⟩
theorem DInv.step {w : World} {S : Nat → Prop} {M : Nat} {n0 n0' : Dt} {G H1 : List DPT} {t : DPT} {K : List (Addr × Addr)} {D : List (Dt × Dt)} (h : DInv w S M n0 n0' (G ++ [t]) K D) (hp : DPartsEq t.2.1 t.2.2)
    (l1 : ∀ u ∈ H1, DLies w S M u) (i1 : DWithin (H1.map (·.2)) t.2.1.list t.2.2.list)
    (s1 : t.2.1 = t.2.2 → ∀ u ∈ H1, u.2.1 = u.2.2) : DInv w S M n0 n0' (G ++ H1) (K ++ [t.1]) (t.2 :: D) := by
  have hs : ∀ x ∈ D ++ (G ++ [t]).map (·.2), x ∈ (t.2 :: D) ++ (G ++ H1).map (·.2) := by
    intro x hx
    simp only [List.map_append, List.map_cons, List.map_nil, List.mem_append, List.mem_cons, List.not_mem_nil, or_false] at hx ⊢
    rcases hx with hx | hx | hx
    · exact .inl (.inr hx)
    · exact .inr (.inl hx)
    · exact .inl (.inl hx)
  refine ⟨fun u hu => ?_, fun a ha => ?_, fun d hd => ?_, hs _ h.root, fun e u hu => ?_⟩
  · simp only [List.mem_append] at hu
    rcases hu with hu | hu
    · exact h.lies u (List.mem_append_left _ hu)
    · exact l1 u hu
  · rcases List.mem_append.1 ha with ha | ha
    · obtain ⟨d, h1, h2⟩ := h.keys a ha
      exact ⟨d, h1, List.mem_cons_of_mem _ h2⟩
    · obtain rfl := List.mem_singleton.1 ha
      exact ⟨t.2, h.lies t (by simp), List.mem_cons_self⟩
  · rcases List.mem_cons.1 hd with rfl | hd
    · refine ⟨hp, fun k x y a b => ?_⟩
      have := i1 k x y a b
      simp only [List.map_append, List.mem_append]
      exact .inr (.inr this)
    · exact (h.closed.sub hs) d hd
  · simp only [List.mem_append] at hu
    have ht := h.sound e t (by simp)
    rcases hu with hu | hu
    · exact h.sound e u (List.mem_append_left _ hu)
    · exact s1 ht u hu
theorem dpts_same (x y : Addr) {l l' : List Dt} (e : l = l') : ∀ u ∈ dpts x y 0 l l', u.2.1 = u.2.2 := by
  subst e
  intro u hu
  obtain ⟨k, h1, h2, rfl⟩ := dpts_mem _ _ _ _ _ _ rfl hu
  rfl
end Go.Proofs.Ytkimkhgigbejkab

/- The program's sameBare, and Equal of lists of strings. -/
namespace Go.Proofs.Ytkimkhgigbejkab
open Go.RowKit Go.Deep
set_option maxHeartbeats 4000000 in
set_option maxRecDepth 100000 in
theorem slEqual_a (A B : Option Addr) (c d : Nat) (ss tt : List ByteArray) (w : World) (b : Bool) (h : Strs w A ss) (k : Strs w B tt) (hn : ss.length ≤ maxLen) (hm : tt.length ≤ maxLen) (hb : b = true ↔ ss = tt) :
    Calls Try.prog 73 #[.slice A ss.length c, .slice B tt.length d] w fun e w' => e = .returned (.bool b) ∧ Below w.heap.size w w' := by
  unfold maxLen at hn hm
  have HQ := Lib.hid hb
  have HA := Lib.hid h
  have HB := Lib.hid k
  clear h k hb
  by_cases hl : ss.length = tt.length
  case neg =>
    have hxb : ((ss.length : Int) != (tt.length : Int)) = true := by simp; omega
    obtain rfl : b = false := bool_no HQ.out (fun e => hl (congrArg List.length e))
    clear hl
    go_enter Try.func73, Try.ntmps73
    go_wp2
    go_ret
    exact ⟨rfl, Below.refl _ _⟩
  have t0 : ((ss.length : Int) != (tt.length : Int)) = false := by simp; omega
  have HL := Lib.hid hl
  clear hl
  go_enter Try.func73, Try.ntmps73
  go_wp2
  clear t0
  go_loopw [13] (fun i wr => ∃ k : Nat, i = .int .i64 k ∧ k ≤ ss.length ∧ Hid (Below w.heap.size w wr) ∧ Hid (∀ j, j < k → ss[j]? = tt[j]?)) (fun i _ => ss.length - (intOf i).toNat)
  case atStart => exact ⟨0, rfl, by omega, Lib.hid (Below.refl _ _), Lib.hid (fun j hj => by omega)⟩
  case round =>
    obtain ⟨k, rfl, hk, HBW, HE⟩ := hrel
    by_cases hlt : k < ss.length
    · have hlt' : k < tt.length := by have := HL.out; omega
      obtain ⟨x, rfl, _, hcx⟩ := (HA.out.below HBW.out).2.resolve_left (by intro h; rw [h] at hlt; simp at hlt)
      obtain ⟨y, rfl, _, hcy⟩ := (HB.out.below HBW.out).2.resolve_left (by intro h; rw [h] at hlt'; simp at hlt')
      have c0 := hcx k hlt
      have d0 := hcy k hlt'
      have HEQ : Hid (ss[k] = tt[k] → ss[k]? = tt[k]?) := Lib.hid (fun e => by rw [List.getElem?_eq_getElem hlt, List.getElem?_eq_getElem hlt', e])
      have HNE : Hid (ss[k] ≠ tt[k] → ss ≠ tt) := Lib.hid (fun e hl => e (List.getElem_of_eq hl hlt))
      generalize ss[k] = p at c0 HEQ HNE
      generalize tt[k] = p' at d0 HEQ HNE
      have hk2 : (k : Int) < (ss.length : Int) := by omega
      have hk3 : (k : Int) < (tt.length : Int) := by omega
      have HB2 := Lib.hid (HBW.out.trans (show Below w.heap.size wr wr.drew from ⟨rfl, rfl, rfl, Nat.le_refl _, fun _ _ => rfl⟩))
      clear hlt' hcx hcy
      by_cases hnn : p = p'
      · have hxb : (p.toList == p'.toList) = true := by rw [toList_eq]; exact decide_eq_true hnn
        have HE1 := Lib.hid (HEQ.out hnn)
        clear hnn HEQ HNE
        go_wp2
        go_region
        all_goals
          go_wp2
          go_roundw
          case rel =>
            refine ⟨k + 1, by go_num, by omega, HB2, Lib.hid fun j hj => ?_⟩
            rcases Nat.lt_or_ge j k with hl | hge
            · exact HE.out j hl
            · obtain rfl : j = k := by omega
              exact HE1.out
          case measure => simp [intOf]; omega
      · have hxb : (p.toList == p'.toList) = false := by rw [toList_eq]; exact decide_eq_false hnn
        obtain rfl : b = false := bool_no HQ.out (fun e => HNE.out hnn e)
        clear hnn HEQ HNE
        go_wp2
        go_region
        all_goals
          go_wp2
          go_ret
          exact ⟨rfl, HB2.out⟩
    · obtain rfl : k = ss.length := by omega
      obtain rfl : b = true := HQ.out.2 (List.ext_getElem? fun j => by
        rcases Nat.lt_or_ge j ss.length with hl | hge
        · exact HE.out j hl
        · rw [List.getElem?_eq_none hge, List.getElem?_eq_none (by have := HL.out; omega)])
      clear HE
      go_wp2
      go_ret
      exact ⟨rfl, HBW.out⟩
set_option maxHeartbeats 8000000 in
set_option maxRecDepth 100000 in
theorem sameBare_a (p p' : Addr) (n n' : Dt) (h h' : Hd) (w : World) (b : Bool) (c : DtCell w p n h) (c' : DtCell w p' n' h') (l1 : n.list.length ≤ maxLen) (l2 : n'.list.length ≤ maxLen) (s1 : StrsIn w Any h.B n.names) (s2 : StrsIn w Any h'.B n'.names) (hb : b = true ↔ DPartsEq n n') :
    Calls Try.prog 44 #[.pointer (some p), .pointer (some p')] w fun e w' => e = .returned (.bool b) ∧ Below w.heap.size w w' := by
  obtain ⟨bn, hbn⟩ : ∃ bn : Bool, (bn = true ↔ n.names = n'.names) := by
    by_cases e : n.names = n'.names
    · exact ⟨true, iff_true_of e⟩
    · exact ⟨false, iff_false_of e⟩
  have HSE : Hid (∀ (d : Nat) (os : Array Obj), Calls Try.prog 73 #[.slice h.B n.names.length h.b, .slice h'.B n'.names.length h'.b] («Sort».grow (redrawn w d) os) fun e w' => e = .returned (.bool bn) ∧ Below («Sort».grow (redrawn w d) os).heap.size («Sort».grow (redrawn w d) os) w') := Lib.hid fun d os => slEqual_a h.B h'.B h.b h'.b n.names n'.names _ bn (s1.2.1.below (below_regrown w d os)) (s2.2.1.below (below_regrown w d os)) s1.1 s2.1 hbn
  obtain ⟨c0, c1, c2, c3, c4⟩ := c
  obtain ⟨d0, d1, d2, d3, d4⟩ := c'
  have q0 := cell_regrown c0
  have q1 := cell_regrown c1
  have q2 := cell_regrown c2
  have q3 := cell_regrown c3
  have q4 := cell_regrown c4
  have r0 := cell_regrown d0
  have r1 := cell_regrown d1
  have r2 := cell_regrown d2
  have r3 := cell_regrown d3
  have r4 := cell_regrown d4
  unfold maxLen at l1 l2
  have HQ := Lib.hid hb
  have HBN := Lib.hid hbn
  clear hb hbn s1 s2
  by_cases hx : n.kind = n'.kind
  case neg =>
    have hxb : (n.kind == n'.kind) = false := by simpa using hx
    obtain rfl : b = false := bool_no HQ.out (fun e => hx e.1)
    clear hx
    go_enter Try.func44, Try.ntmps44
    go_wp2
    try simp only [List.append_eq, List.cons_append, List.nil_append]
    refine wp_region_quiet_below (by kernel_rfl) (by kernel_rfl) ?_
    repeat (first | go_big_quiet_step (first | (go_at_call 73; exact Calls.regrown_of (HSE.out _ _))) | quiet_step (first | (go_at_call 73; exact Calls.regrown_of (HSE.out _ _))))
    refine wpQuiet_nil ?_
    intro _ hw'
    obtain ⟨⟨dq, osq⟩, hw''⟩ := hw'
    subst hw''
    go_wp2
    go_ret
    exact ⟨rfl, below_regrown w dq osq⟩
  have t0 : (n.kind == n'.kind) = true := by simpa using hx
  have H0 := Lib.hid hx
  clear hx
  by_cases hx : n.num = n'.num
  case neg =>
    have hxb : (n.num == n'.num) = false := by simpa using hx
    obtain rfl : b = false := bool_no HQ.out (fun e => hx e.2.1)
    clear hx
    go_enter Try.func44, Try.ntmps44
    go_wp2
    try simp only [List.append_eq, List.cons_append, List.nil_append]
    refine wp_region_quiet_below (by kernel_rfl) (by kernel_rfl) ?_
    repeat (first | go_big_quiet_step (first | (go_at_call 73; exact Calls.regrown_of (HSE.out _ _))) | quiet_step (first | (go_at_call 73; exact Calls.regrown_of (HSE.out _ _))))
    refine wpQuiet_nil ?_
    intro _ hw'
    obtain ⟨⟨dq, osq⟩, hw''⟩ := hw'
    subst hw''
    go_wp2
    go_ret
    exact ⟨rfl, below_regrown w dq osq⟩
  have t1 : (n.num == n'.num) = true := by simpa using hx
  have H1 := Lib.hid hx
  clear hx
  by_cases hx : n.text = n'.text
  case neg =>
    have hxb : (n.text.toList == n'.text.toList) = false := by rw [toList_eq]; exact decide_eq_false hx
    obtain rfl : b = false := bool_no HQ.out (fun e => hx e.2.2.1)
    clear hx
    go_enter Try.func44, Try.ntmps44
    go_wp2
    try simp only [List.append_eq, List.cons_append, List.nil_append]
    refine wp_region_quiet_below (by kernel_rfl) (by kernel_rfl) ?_
    repeat (first | go_big_quiet_step (first | (go_at_call 73; exact Calls.regrown_of (HSE.out _ _))) | quiet_step (first | (go_at_call 73; exact Calls.regrown_of (HSE.out _ _))))
    refine wpQuiet_nil ?_
    intro _ hw'
    obtain ⟨⟨dq, osq⟩, hw''⟩ := hw'
    subst hw''
    go_wp2
    go_ret
    exact ⟨rfl, below_regrown w dq osq⟩
  have t2 : (n.text.toList == n'.text.toList) = true := by rw [toList_eq]; exact decide_eq_true hx
  have H2 := Lib.hid hx
  clear hx
  cases bn
  · obtain rfl : b = false := bool_no HQ.out (fun e => by have := HBN.out.2 e.2.2.2.2; cases this)
    clear HBN
    go_enter Try.func44, Try.ntmps44
    go_wp2
    try simp only [List.append_eq, List.cons_append, List.nil_append]
    refine wp_region_quiet_below (by kernel_rfl) (by kernel_rfl) ?_
    repeat (first | go_big_quiet_step (first | (go_at_call 73; exact Calls.regrown_of (HSE.out _ _))) | quiet_step (first | (go_at_call 73; exact Calls.regrown_of (HSE.out _ _))))
    refine wpQuiet_nil ?_
    intro _ hw'
    obtain ⟨⟨dq, osq⟩, hw''⟩ := hw'
    subst hw''
    go_wp2
    go_ret
    exact ⟨rfl, below_regrown w dq osq⟩
  have H4 := Lib.hid (HBN.out.1 rfl)
  clear HBN
  by_cases hx : n.list.length = n'.list.length
  case neg =>
    have hxb : ((n.list.length : Int) == (n'.list.length : Int)) = false := by simp; omega
    obtain rfl : b = false := bool_no HQ.out (fun e => hx e.2.2.2.1)
    clear hx
    go_enter Try.func44, Try.ntmps44
    go_wp2
    try simp only [List.append_eq, List.cons_append, List.nil_append]
    refine wp_region_quiet_below (by kernel_rfl) (by kernel_rfl) ?_
    repeat (first | go_big_quiet_step (first | (go_at_call 73; exact Calls.regrown_of (HSE.out _ _))) | quiet_step (first | (go_at_call 73; exact Calls.regrown_of (HSE.out _ _))))
    refine wpQuiet_nil ?_
    intro _ hw'
    obtain ⟨⟨dq, osq⟩, hw''⟩ := hw'
    subst hw''
    go_wp2
    go_ret
    exact ⟨rfl, below_regrown w dq osq⟩
  have t3 : ((n.list.length : Int) == (n'.list.length : Int)) = true := by simp; omega
  have H3 := Lib.hid hx
  clear hx
  obtain rfl : b = true := HQ.out.2 ⟨H0.out, H1.out, H2.out, H3.out, H4.out⟩
  go_enter Try.func44, Try.ntmps44
  go_wp2
  try simp only [List.append_eq, List.cons_append, List.nil_append]
  refine wp_region_quiet_below (by kernel_rfl) (by kernel_rfl) ?_
  repeat (first | go_big_quiet_step (first | (go_at_call 73; exact Calls.regrown_of (HSE.out _ _))) | quiet_step (first | (go_at_call 73; exact Calls.regrown_of (HSE.out _ _))))
  refine wpQuiet_nil ?_
  intro _ hw'
  obtain ⟨⟨dq, osq⟩, hw''⟩ := hw'
  subst hw''
  go_wp2
  go_ret
  exact ⟨rfl, below_regrown w dq osq⟩
end Go.Proofs.Ytkimkhgigbejkab
