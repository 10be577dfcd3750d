/- What a node points to, side by side. -/
import Derived.Test.YtfiiopchfmcjdaaNdOwn
import Derived.Laws.AppendOwn
namespace Go.Proofs.Ytfiiopchfmcjdaa
open Go.RowKit
theorem run_append_none (v : Value) (c : Nat) (ty : TypeId) (w : World) (hv : v = .slice none 0 0 ∨ ∃ g n cap, v = .slice (some g) n cap ∧ n ≤ cap) :
    (Builtin.append_ #[nodesT, nodesT] ty #[v, .slice none 0 c]).run Try.prog w = .ok v w := by
  obtain ⟨i0, hi, hz0, hz1, hz2⟩ := info_parts infoNd
  rcases hv with rfl | ⟨g, n, cap, rfl, hn⟩
  · simp [Builtin.append_, run_underlying (P := Try.prog) Try.underlying23, sizeOf, typeInfo, hi, Builtin.lenOf, run_firstCells_none]
  · simp [Builtin.append_, run_underlying (P := Try.prog) Try.underlying23, sizeOf, typeInfo, hi, Builtin.lenOf, hn, run_firstCells_none, storeCells]
/-- nodes of some slice. -/
def Src (w : World) (A : Option Addr) (q : List (Nd × Hd)) : Prop := q = [] ∨ ∃ x, A = some x ∧ ∀ j u, (rowOf q)[j]? = some u → w.cell? (x.add j) = some u
theorem run_append_src (base : Nat) (ty : TypeId) (w : World) (v : Value) (n : Nat) (xs : List Value) (hown : w.ownsRow base nodeT 6 v n xs) (A : Option Addr) (c : Nat) (q : List (Nd × Hd)) (hq : Src w A q) (hb : n + q.length ≤ 4000000) (hbase : base ≤ w.heap.size) :
    ∃ v' w', (Builtin.append_ #[nodesT, nodesT] ty #[v, .slice A q.length c]).run Try.prog w = .ok v' w' ∧ w'.ownsRow base nodeT 6 v' (n + q.length) (xs ++ rowOf q) ∧ w.grownBy w' v.ownBlock := by
  obtain ⟨i0, hi, hz0, hz1, hz2⟩ := info_parts infoNd
  cases A with
  | none =>
    have h0 : q = [] := by
      rcases hq with h | ⟨x, hx, _⟩
      · exact h
      · cases hx
    subst h0
    refine ⟨v, w, run_append_none v c ty w ?_, by simpa [rowOf] using hown, ⟨rfl, rfl, rfl, Nat.le_refl _, fun _ _ _ => rfl⟩⟩
    rcases hown.2 with ⟨rfl, _⟩ | ⟨g, cap, cur, rfl, _, _, hc, _⟩
    · exact .inl rfl
    · exact .inr ⟨_, _, _, rfl, hc⟩
  | some x =>
    have hnews : ∀ (j : Nat) (u : Value), (rowOf q)[j]? = some u → w.cell? (x.add j) = some u := by
      rcases hq with h | ⟨x', hx, h⟩
      · subst h; intro j u hj; simp [rowOf] at hj
      · obtain rfl := Option.some.inj hx; exact h
    obtain ⟨v', w', h1, h2, h3, _⟩ := run_append_own (P := Try.prog) w base nodesT ty nodeT i0 _ 6 88 Try.underlying23 hi hz0 hz1 hz2 rfl (by decide) v n xs hown x q.length c (rowOf q) (rowOf_length q) hnews (rowOf_one q) (by unfold maxLen; omega) (by omega) hbase
    exact ⟨v', w', h1, h2, h3⟩
theorem wpList_append_src {ops : Array Oper} {rest : List Oper} {o : Oper} {a : Act} {w : World} {Q : Exit → Act → World → Prop} (hgd : o.guard = none) (s x : Operand)
    (ho : o.op = .call { callee := .builtin .append, args := #[s, x], argTypes := #[nodesT, nodesT] })
    (base : Nat) (v : Value) (n : Nat) (xs : List Value) (hs : a.eval s = v) (hown : w.ownsRow base nodeT 6 v n xs)
    (A : Option Addr) (c k : Nat) (q : List (Nd × Hd)) (hk : k = q.length) (hx : a.eval x = .slice A k c) (hq : Src w A q) (hb : n + q.length ≤ 4000000) (hbase : base ≤ w.heap.size)
    (h : ∀ v' w', w'.ownsRow base nodeT 6 v' (n + q.length) (xs ++ rowOf q) → w.grownBy w' v.ownBlock → wpList Try.prog ops Q rest (a.put o.dst v') w') : wpList Try.prog ops Q (o :: rest) a w :=
  wpList_plain hgd fun _ hK => by
    subst hk
    obtain ⟨v', w', hr, h2, h3⟩ := run_append_src base o.type w v n xs hown A c q hq hb hbase
    unfold Oper.wp execOp
    simp only [ho, resolve, invoke, builtin, Sem.run_bind, Sem.run_pure, Result.andThen_ok, List.map_toArray, List.map_cons, List.map_nil, hs, hx, hr]
    exact hK _ _ (h v' w' h2 h3)
/-- what a node points to: its pointers, and those of its items. -/
def ptrsL (n : Nd) : List Nd := n.ptrs ++ n.items.flatMap Nd.ptrs
theorem src_of {w : World} {S : Nat → Prop} {m : Nat} {A : Option Addr} {l : List Nd} (h : NdsAt w S m A l) : ∃ q : List (Nd × Hd), q.map (·.1) = l ∧ Src w A q ∧ ∀ r ∈ q, NdAt w S (m - 1) r.1 r.2 := by
  cases m with
  | zero =>
    obtain rfl := h.zero
    exact ⟨[], rfl, .inl rfl, fun r h => by cases h⟩
  | succ m =>
    obtain ⟨q, h1, h2, h3⟩ := h.pairs
    exact ⟨q, h1, h3, h2⟩
theorem Src.below {w w' : World} {A : Option Addr} {q : List (Nd × Hd)} (h : Src w A q) (hb : Below w.heap.size w w') : Src w' A q := by
  rcases h with h | ⟨x, hx, h⟩
  · exact .inl h
  · refine .inr ⟨x, hx, fun j u hj => ?_⟩
    have := h j u hj
    exact (hb.cell (World.block_lt_of_cell? w _ this)).trans this
theorem ptrsL_sum (l : List Nd) : (l.flatMap Nd.ptrs).length = (l.map fun n => n.ptrs.length).sum := by
  induction l with
  | nil => rfl
  | cons a t ih => simp [ih]
theorem items_ptrs {w : World} {S : Nat → Prop} {m : Nat} {A : Option Addr} {l : List Nd} (h : NdsAt w S m A l) : (l.map fun n => n.ptrs.length).sum ≤ totL m l := by
  cases m with
  | zero => rw [h.zero]; simp
  | succ m =>
    rw [totL_succ]
    refine sum_le l _ _ fun n hn => ?_
    obtain ⟨hd, h1⟩ := h.mem n hn
    have := len_tot h1.2.1
    unfold totN
    omega
theorem own_sliceN {w : World} {B e n z : Nat} {v : Value} {xs : List Value} (h : w.ownsRow B e z v n xs) : ∃ A cap, v = .slice A n cap := by
  rcases h.2 with ⟨rfl, rfl⟩ | ⟨g, cap, _, rfl, _⟩
  · exact ⟨none, 0, rfl⟩
  · exact ⟨_, cap, rfl⟩
set_option maxHeartbeats 4000000 in
set_option maxRecDepth 100000 in
theorem ptrsOf_a (m : Nat) (n : Nd) (h : Hd) (w : World) (S : Nat → Prop) (hn : NdAt w S m n h) (ht : totN m n ≤ 2000000) :
    Calls Try.prog 59 #[.agg #[.int .i64 n.kind, .string n.data, .slice h.A n.ptrs.length h.a, .int .i64 n.size, .int .i64 n.count, .slice h.B n.items.length h.b]] w fun e w' => ∃ A c, e = .returned (.slice A (ptrsL n).length c) ∧ NdsAt w' Any m A (ptrsL n) ∧ Below w.heap.size w w' := by
  obtain ⟨qA, qa, qB, qb⟩ := h
  dsimp only at hn ⊢
  have hpl : n.ptrs.length ≤ 2000000 := totL_len' hn.2.1 (by unfold totN at ht; omega)
  have hil : n.items.length ≤ 2000000 := totL_len' hn.2.2 (by unfold totN at ht; omega)
  obtain ⟨q1, hq1, hs1, hr1⟩ := src_of hn.2.1
  have hl1 : n.ptrs.length = q1.length := by rw [← hq1, List.length_map]
  have hlen : ∀ k, (n.ptrs ++ (n.items.take k).flatMap Nd.ptrs).length ≤ 2000000 := fun k => by
    rw [List.length_append, ptrsL_sum]
    have h1 := sum_take_le n.items (fun n => n.ptrs.length) k
    have h2 := items_ptrs hn.2.2
    have h3 := len_tot hn.2.1
    unfold totN at ht
    omega
  have HLEN := Lib.hid hlen
  have HN := Lib.hid hn.2.2
  have HP0 : Hid (m = 0 → n.ptrs = []) := Lib.hid (fun h => by subst h; exact hn.2.1.zero)
  have HR1 := Lib.hid (fun r hr => (hr1 r hr).weak (S' := Any) (fun _ _ => trivial))
  have HQ1 := Lib.hid hq1
  have HS1 := Lib.hid hs1
  have HL1 := Lib.hid hl1
  have hl1m : q1.length ≤ 2000000 := by omega
  clear hn hq1 hs1 hr1 hlen hl1 ht
  go_enter Try.func59, Try.ntmps59
  go_wp2_with (at_builtin; go_must (refine wpList_append_src rfl (.tmp 6) (.tmp 8) rfl w.heap.size (.slice none 0 0) 0 [] rfl (World.ownsRow_nil _ _ _ _) qA qa n.ptrs.length q1 HL1.out rfl (HS1.out.below ((Below.refl _ _).alloc (Nat.le_refl _) _)) (by omega) (by simp) ?_); intro v1 w1 hown1 hgrow1; have hk1 := (hgrow1.block w.heap.size (by simp) (by simp [Value.ownBlock])).trans (heap_alloc_new w _); have HB1 := Lib.hid (((Below.refl w.heap.size w).alloc (Nat.le_refl _) _).grown hgrow1 (by simp) (by intro k hk; simp [Value.ownBlock] at hk)); have HO1 := Lib.hid hown1; obtain ⟨b0, b1, b2, b3, b4, b5⟩ := cells6 hk1; clear hown1 hgrow1 hk1)
  rw [Nat.zero_add, List.nil_append] at HO1
  go_loopw [3, 13] (fun v i wr => ∃ (k : Nat) (q : List (Nd × Hd)), i = .int .i64 k ∧ k ≤ n.items.length ∧ Hid (wr.ownsRow w.heap.size nodeT 6 v q.length (rowOf q)) ∧ Hid (q.map (·.1) = n.ptrs ++ (n.items.take k).flatMap Nd.ptrs) ∧ Hid (∀ r ∈ q, NdAt w Any (m - 1) r.1 r.2) ∧ Hid (Below w.heap.size w wr)) (fun _ i _ => n.items.length - (intOf i).toNat)
  case atStart => exact ⟨0, q1, rfl, by omega, HO1, Lib.hid (by rw [HQ1.out]; simp), HR1, HB1⟩
  case round =>
    obtain ⟨k, q, rfl, hk, HO, HQ, HR, HB⟩ := hrel
    by_cases hlt : k < n.items.length
    · obtain ⟨j, rfl⟩ := HN.out.pred hlt
      obtain ⟨x, hd, rfl, hc0, hy⟩ := HN.out.at_ hlt
      have hc := cell_below HB.out _ _ _ hc0
      have HFL : Hid ((n.items.take (k + 1)).flatMap Nd.ptrs = (n.items.take k).flatMap Nd.ptrs ++ (n.items[k]).ptrs) := Lib.hid (by rw [List.take_succ_eq_append_getElem hlt, List.flatMap_append]; simp)
      generalize n.items[k] = y at hc hy hc0 HFL
      obtain ⟨q2, hq2, hs2, hr2⟩ := src_of hy.2.1
      have HL2 : Hid (y.ptrs.length = q2.length) := Lib.hid (by rw [← hq2, List.length_map])
      have HS2 := Lib.hid (hs2.below HB.out)
      have HR2 : Hid (∀ r ∈ q ++ q2, NdAt w Any (j + 1 - 1) r.1 r.2) := Lib.hid fun r hr => by
        rcases List.mem_append.1 hr with h | h
        · exact HR.out r h
        · exact ((hr2 r h).mono (by omega)).weak (fun _ _ => trivial)
      have HQ2 : Hid ((q ++ q2).map (·.1) = n.ptrs ++ (n.items.take (k + 1)).flatMap Nd.ptrs) := Lib.hid (by rw [List.map_append, HQ.out, hq2, HFL.out, List.append_assoc])
      have hqq : q.length + q2.length ≤ 2000000 := by have := HLEN.out (k + 1); rw [← HQ2.out, List.length_map, List.length_append] at this; exact this
      obtain ⟨d0, d1, d2, d3, d4, d5⟩ := hc
      clear hc0 hy hq2 hs2 hr2
      have hwr := HB.out.size
      go_wp2_with (at_builtin; go_must (refine wpList_append_src rfl (.tmp 17) (.tmp 19) rfl w.heap.size _ q.length (rowOf q) rfl (HO.out.alloc _) hd.A hd.a y.ptrs.length q2 HL2.out rfl (HS2.out.below ((Below.refl _ _).alloc (Nat.le_refl _) _)) (by omega) (by simp; omega) ?_); intro v2 w2 hown2 hgrow2; have HB2 := Lib.hid ((HB.out.alloc HB.out.size _).grown hgrow2 (by simp; omega) (fun k hk => (HO.out.lt k hk).1)); have HO2 := Lib.hid hown2; clear hown2 hgrow2)
      rw [← List.length_append, ← rowOf_app] at HO2
      go_roundw
      case rel => exact ⟨k + 1, q ++ q2, by go_num, by omega, HO2, HQ2, HR2, HB2⟩
      case measure => simp [intOf]; omega
    · obtain rfl : k = n.items.length := by omega
      rw [List.take_of_length_le (Nat.le_refl _)] at HQ
      have hql : q.length = (ptrsL n).length := by have := congrArg List.length HQ.out; rw [List.length_map] at this; exact this
      obtain ⟨A, cap, hv⟩ := own_sliceN HO.out
      rw [hv]
      have HRES : Hid (NdsAt wr Any m A (ptrsL n)) := Lib.hid (by
        cases m with
        | zero =>
          have h0 : q = [] := by
            have h1 : q.length = 0 := by
              have h2 := HN.out.zero
              have h3 := HQ.out
              rw [h2] at h3
              have h4 : n.ptrs = [] := HP0.out rfl
              rw [h4] at h3
              simpa using congrArg List.length h3
            exact List.eq_nil_of_length_eq_zero h1
          have h5 : ptrsL n = [] := by
            rw [h0] at hql
            exact List.eq_nil_of_length_eq_zero hql.symm
          rw [h5]
          exact NdsAt.nil _ _ _ _
        | succ m =>
          obtain ⟨A', cap', hv', hres⟩ := nds_of_own HO.out (S := Any) (fun _ _ => trivial) (by unfold maxLen; have := HLEN.out n.items.length; rw [List.take_of_length_le (Nat.le_refl _), ← HQ.out, List.length_map] at this; omega) (fun r hr => (HR.out r hr).below HB.out)
          rw [hv] at hv'
          injection hv' with e1 e2 e3
          subst e1
          rw [HQ.out] at hres
          exact hres)
      clear hv
      rw [hql]
      go_wp2
      go_ret
      exact ⟨A, cap, rfl, HRES.out, HB.out⟩
end Go.Proofs.Ytfiiopchfmcjdaa
