/- Pairs of nodes: rows of them, sameParts, pairsOf. -/
import Derived.Test.YtfiiopchfmcjdaaNdUniq
import Derived.Test.YtfiiopchfmcjdaaNdRow
import Derived.Deep.RegionLaw
import Derived.Deep.RegionWith
import Derived.BigQuiet
namespace Go.Proofs.Ytfiiopchfmcjdaa
open Go.RowKit Go.Deep
abbrev prT : TypeId := 81
abbrev prsT : TypeId := 82
theorem infoPr : (Try.prog.info? prT).map (fun i => (i.zero, i.size, i.bytes)) = some (some (.agg #[.pointer none, .pointer none]), 2, 16) := by kernel_rfl
/-- the cells of pairs side by side. -/
def rowP : List PT → List Value
  | [] => []
  | t :: r => .pointer (some t.1.1) :: .pointer (some t.1.2) :: rowP r
theorem rowP_length : ∀ G, (rowP G).length = G.length * 2
  | [] => rfl
  | t :: r => by simp only [rowP, List.length_cons, rowP_length r]; omega
theorem rowP_app : ∀ (G H : List PT), rowP (G ++ H) = rowP G ++ rowP H
  | [], _ => rfl
  | t :: r, H => by rw [List.cons_append, rowP, rowP_app r H]; rfl
theorem rowP_one : ∀ (G : List PT), ∀ u ∈ rowP G, u.oneCell' = true
  | [], _, h => by cases h
  | t :: r, u, h => by
    rcases List.mem_cons.1 h with rfl | h
    · rfl
    rcases List.mem_cons.1 h with rfl | h
    · rfl
    exact rowP_one r u h
theorem rowP_last (G : List PT) (t : PT) : (rowP (G ++ [t]))[G.length * 2]? = some (.pointer (some t.1.1)) ∧ (rowP (G ++ [t]))[G.length * 2 + 1]? = some (.pointer (some t.1.2)) := by
  rw [rowP_app]
  have h := rowP_length G
  constructor
  · rw [List.getElem?_append_right (by omega), h, Nat.sub_self]; rfl
  · rw [List.getElem?_append_right (by omega), h, show G.length * 2 + 1 - G.length * 2 = 1 by omega]; rfl
theorem run_append_pts (base base2 : Nat) (ty : TypeId) (w : World) (v v2 : Value) (n : Nat) (xs : List Value) (G : List PT) (hown : w.ownsRow base prT 2 v n xs) (h2 : w.ownsRow base2 prT 2 v2 G.length (rowP G)) (hb : n + G.length ≤ 4000002) (hbase : base ≤ w.heap.size) :
    ∃ v' w', (Builtin.append_ #[prsT, prsT] ty #[v, v2]).run Try.prog w = .ok v' w' ∧ w'.ownsRow base prT 2 v' (n + G.length) (xs ++ rowP G) ∧ w.grownBy w' v.ownBlock := by
  obtain ⟨i0, hi, hz0, hz1, hz2⟩ := info_parts infoPr
  have hlen := rowP_length G
  rcases h2.2 with ⟨rfl, h0⟩ | ⟨g, cap, cur, rfl, _, _⟩
  · obtain rfl := List.eq_nil_of_length_eq_zero h0
    exact ⟨v, w, run_append_owned_none (P := Try.prog) w base prsT ty prT i0 2 Try.underlying82 hi v n xs hown, by simpa [rowP] using hown, ⟨rfl, rfl, rfl, Nat.le_refl _, fun _ _ _ => rfl⟩⟩
  · obtain ⟨v', w', h1, h3, h4, _⟩ := run_append_own (P := Try.prog) w base prsT ty prT i0 _ 2 16 Try.underlying82 hi hz0 hz1 hz2 rfl (by decide) v n xs hown ⟨g, 0, none⟩ G.length cap (rowP G) hlen (fun j u hj => h2.cells (g := g) rfl j u hj) (rowP_one G) (by unfold maxLen; omega) (by omega) hbase
    exact ⟨v', w', h1, h3, h4⟩
theorem step_append_pts {ops : Array Oper} {o : Oper} {a : Act} {w : World} {K : Act → World → Prop} {Q : Exit → Act → World → Prop} {E : Prop} (hgd : o.guard = none) (s x : Operand)
    (ho : o.op = .call { callee := .builtin .append, args := #[s, x], argTypes := #[prsT, prsT] })
    (base base2 : Nat) (v v2 : Value) (n : Nat) (xs : List Value) (G : List PT) (hs : a.eval s = v) (hx : a.eval x = v2) (hown : w.ownsRow base prT 2 v n xs) (h2 : w.ownsRow base2 prT 2 v2 G.length (rowP G)) (hb : n + G.length ≤ 4000002) (hbase : base ≤ w.heap.size)
    (h : ∀ A' c' w', Hid (w'.ownsRow base prT 2 (.slice A' (n + G.length) c') (n + G.length) (xs ++ rowP G)) → Hid (w.grownBy w' v.ownBlock) → K (a.put o.dst (.slice A' (n + G.length) c')) w') :
    if Region.wanted o (yielded ops a.tmps) = true then Oper.wp Try.prog o a w K Q else E := by
  have hw : Region.wanted o (yielded ops a.tmps) = true := by simp [Region.wanted, hgd]
  rw [if_pos hw]
  obtain ⟨v', w', hr, h3, h4⟩ := run_append_pts base base2 o.type w v v2 n xs G hown h2 hb hbase
  obtain ⟨A', c', rfl⟩ := own_sliceN h3
  unfold Oper.wp execOp
  simp only [ho, resolve, invoke, builtin, Sem.run_bind, Sem.run_pure, Result.andThen_ok, List.map_toArray, List.map_cons, List.map_nil, hs, hx, hr]
  exact h A' c' w' h3 h4
/-- one pair in a new row. -/
theorem own_one (w : World) (t : PT) : (w.alloc (.cells #[.pointer (some t.1.1), .pointer (some t.1.2)] prT)).ownsRow w.heap.size prT 2 (.slice (some ⟨w.heap.size, 0, none⟩) 1 1) ([t] : List PT).length (rowP [t]) :=
  World.ownsRow_lit w #[.pointer (some t.1.1), .pointer (some t.1.2)] 1 (Nat.le_refl _) (by decide) rfl
theorem below_drewP (w : World) (d : Nat) : Below w.heap.size w (redrawn w d) := ⟨rfl, rfl, rfl, Nat.le_refl _, fun _ _ => rfl⟩
def parts6 (n n' : Nd) : Bool := decide (n.kind = n'.kind) && decide (n.data = n'.data) && decide (n.size = n'.size) && decide (n.count = n'.count) && decide (n.ptrs.length = n'.ptrs.length) && decide (n.items.length = n'.items.length)
theorem parts6_iff (n n' : Nd) : parts6 n n' = true ↔ PartsEq n n' := by
  unfold parts6 PartsEq
  simp only [Bool.and_eq_true, decide_eq_true_eq]
  exact ⟨fun ⟨⟨⟨⟨⟨a, b⟩, c⟩, d⟩, e⟩, f⟩ => ⟨a, b, c, d, e, f⟩, fun ⟨a, b, c, d, e, f⟩ => ⟨⟨⟨⟨⟨a, b⟩, c⟩, d⟩, e⟩, f⟩⟩
set_option maxHeartbeats 4000000 in
set_option maxRecDepth 100000 in
theorem sameParts_a (p p' : Addr) (n n' : Nd) (h h' : Hd) (w : World) (c : NdCell w p n h) (c' : NdCell w p' n' h') (_l1 : n.ptrs.length ≤ maxLen) (_l2 : n.items.length ≤ maxLen) (_l3 : n'.ptrs.length ≤ maxLen) (_l4 : n'.items.length ≤ maxLen) :
    Calls Try.prog 62 #[.pointer (some p), .pointer (some p')] w fun e w' => e = .returned (.bool (parts6 n n')) ∧ Below w.heap.size w w' := by
  obtain ⟨c0, c1, c2, c3, c4, c5⟩ := c
  obtain ⟨d0, d1, d2, d3, d4, d5⟩ := c'
  unfold maxLen at _l1 _l2 _l3 _l4
  have HQ := Lib.hid (parts6_iff n n')
  generalize parts6 n n' = b at *
  by_cases hx : n.kind = n'.kind
  case neg =>
    have hxb : (n.kind == n'.kind) = false := by simpa using hx
    obtain rfl : b = false := bool_no HQ.out (fun e => hx e.1)
    clear hx
    go_enter Try.func62, Try.ntmps62
    go_wp2
    simp only [List.append_eq, List.cons_append, List.nil_append]
    go_big_quiet (fail)
    go_wp2
    go_ret
    exact ⟨rfl, below_drewP _ _⟩
  have t0 : (n.kind == n'.kind) = true := by simpa using hx
  have H0 := Lib.hid hx
  clear hx
  by_cases hx : n.data = n'.data
  case neg =>
    have hxb : (n.data.toList == n'.data.toList) = false := by rw [toList_eq]; exact decide_eq_false hx
    obtain rfl : b = false := bool_no HQ.out (fun e => hx e.2.1)
    clear hx
    go_enter Try.func62, Try.ntmps62
    go_wp2
    simp only [List.append_eq, List.cons_append, List.nil_append]
    go_big_quiet (fail)
    go_wp2
    go_ret
    exact ⟨rfl, below_drewP _ _⟩
  have t1 : (n.data.toList == n'.data.toList) = true := by rw [toList_eq]; exact decide_eq_true hx
  have H1 := Lib.hid hx
  clear hx
  by_cases hx : n.size = n'.size
  case neg =>
    have hxb : (n.size == n'.size) = false := by simpa using hx
    obtain rfl : b = false := bool_no HQ.out (fun e => hx e.2.2.1)
    clear hx
    go_enter Try.func62, Try.ntmps62
    go_wp2
    simp only [List.append_eq, List.cons_append, List.nil_append]
    go_big_quiet (fail)
    go_wp2
    go_ret
    exact ⟨rfl, below_drewP _ _⟩
  have t2 : (n.size == n'.size) = true := by simpa using hx
  have H2 := Lib.hid hx
  clear hx
  by_cases hx : n.count = n'.count
  case neg =>
    have hxb : (n.count == n'.count) = false := by simpa using hx
    obtain rfl : b = false := bool_no HQ.out (fun e => hx e.2.2.2.1)
    clear hx
    go_enter Try.func62, Try.ntmps62
    go_wp2
    simp only [List.append_eq, List.cons_append, List.nil_append]
    go_big_quiet (fail)
    go_wp2
    go_ret
    exact ⟨rfl, below_drewP _ _⟩
  have t3 : (n.count == n'.count) = true := by simpa using hx
  have H3 := Lib.hid hx
  clear hx
  by_cases hx : n.ptrs.length = n'.ptrs.length
  case neg =>
    have hxb : ((n.ptrs.length : Int) == (n'.ptrs.length : Int)) = false := by simp; omega
    obtain rfl : b = false := bool_no HQ.out (fun e => hx e.2.2.2.2.1)
    clear hx
    go_enter Try.func62, Try.ntmps62
    go_wp2
    simp only [List.append_eq, List.cons_append, List.nil_append]
    go_big_quiet (fail)
    go_wp2
    go_ret
    exact ⟨rfl, below_drewP _ _⟩
  have t4 : ((n.ptrs.length : Int) == (n'.ptrs.length : Int)) = true := by simp; omega
  have H4 := Lib.hid hx
  clear hx
  by_cases hx : n.items.length = n'.items.length
  case neg =>
    have hxb : ((n.items.length : Int) == (n'.items.length : Int)) = false := by simp; omega
    obtain rfl : b = false := bool_no HQ.out (fun e => hx e.2.2.2.2.2)
    clear hx
    go_enter Try.func62, Try.ntmps62
    go_wp2
    simp only [List.append_eq, List.cons_append, List.nil_append]
    go_big_quiet (fail)
    go_wp2
    go_ret
    exact ⟨rfl, below_drewP _ _⟩
  have t5 : ((n.items.length : Int) == (n'.items.length : Int)) = true := by simp; omega
  have H5 := Lib.hid hx
  clear hx
  obtain rfl : b = true := HQ.out.2 ⟨H0.out, H1.out, H2.out, H3.out, H4.out, H5.out⟩
  go_enter Try.func62, Try.ntmps62
  go_wp2
  go_wp2
  try simp only [List.append_eq, List.cons_append, List.nil_append]
  go_big_quiet (fail)
  go_wp2
  go_ret
  exact ⟨rfl, below_drewP _ _⟩
/-- the pairs of two lists, in memory of the call's own. -/
def PairsP (A B : Option Addr) (l l' : List Nd) (w : World) (e : Ending) (w' : World) : Prop :=
  ∃ v, e = .returned v ∧ w'.ownsRow w.heap.size prT 2 v (pts (A.getD default) (B.getD default) 0 l l').length (rowP (pts (A.getD default) (B.getD default) 0 l l')) ∧ Below w.heap.size w w'
theorem pts_take (x y : Addr) (l l' : List Nd) (hl : l.length = l'.length) (k : Nat) (n n' : Nd) (h : l[k]? = some n) (h' : l'[k]? = some n') : (pts x y 0 l l').take (k + 1) = (pts x y 0 l l').take k ++ [((x.add (k * 6), y.add (k * 6)), (n, n'))] := by
  have hp := pts_length x y 0 l l' hl
  have := pts_at x y 0 l l' k _ _ h h'
  obtain ⟨hk, he⟩ := List.getElem?_eq_some_iff.1 this
  rw [List.take_succ_eq_append_getElem hk, he, Nat.zero_add]
set_option maxHeartbeats 4000000 in
set_option maxRecDepth 100000 in
theorem pairsOf_a (A B : Option Addr) (c c' : Nat) (l l' : List Nd) (w : World) (hA : l = [] ∨ ∃ x, A = some x) (hB : l' = [] ∨ ∃ y, B = some y) (hl : l.length = l'.length) (hm : l.length ≤ 2000000) :
    Calls Try.prog 63 #[.slice A l.length c, .slice B l'.length c'] w (PairsP A B l l' w) := by
  have hpl := pts_length (A.getD default) (B.getD default) 0 l l' hl
  have hts : ∀ k n n', l[k]? = some n → l'[k]? = some n' → (pts (A.getD default) (B.getD default) 0 l l').take (k + 1) = (pts (A.getD default) (B.getD default) 0 l l').take k ++ [(((A.getD default).add (k * 6), (B.getD default).add (k * 6)), (n, n'))] := fun k n n' h h' => pts_take _ _ l l' hl k n n' h h'
  rw [← hl]
  have HPL := Lib.hid hpl
  have HTS := Lib.hid hts
  unfold PairsP
  generalize hG : pts (A.getD default) (B.getD default) 0 l l' = G at *
  have HA := Lib.hid hA
  have HBB := Lib.hid hB
  have HL := Lib.hid hl
  clear hG hpl hts hA hB hl
  go_enter Try.func63, Try.ntmps63
  go_wp2_with fail
  go_loopw [5, 9] (fun v i wr => ∃ k : Nat, i = .int .i64 k ∧ k ≤ l.length ∧ Hid (wr.ownsRow w.heap.size prT 2 v k (rowP (G.take k))) ∧ Hid (Below w.heap.size w wr)) (fun _ i _ => l.length - (intOf i).toNat)
  case atStart => exact ⟨0, rfl, by omega, Lib.hid (World.ownsRow_nil _ _ _ _), Lib.hid (Below.refl _ _)⟩
  case round =>
    obtain ⟨k, rfl, hk, HO, HB⟩ := hrel
    by_cases hlt : k < l.length
    · have hlt' : k < l'.length := by have := HL.out; omega
      obtain ⟨x, rfl⟩ : ∃ x, A = some x := by
        rcases HA.out with h | h
        · subst h; cases hlt
        · exact h
      obtain ⟨y, rfl⟩ : ∃ y, B = some y := by
        rcases HBB.out with h | h
        · subst h; cases hlt'
        · exact h
      obtain ⟨n, hn⟩ : ∃ n, l[k]? = some n := ⟨_, List.getElem?_eq_getElem hlt⟩
      obtain ⟨n', hn'⟩ : ∃ n, l'[k]? = some n := ⟨_, List.getElem?_eq_getElem hlt'⟩
      have htk := HTS.out k n n' hn hn'
      have HRT : Hid (rowP (G.take (k + 1)) = rowP (G.take k) ++ rowP [(((x.add (k * 6)), (y.add (k * 6))), (n, n'))]) := Lib.hid (by rw [htk, rowP_app]; rfl)
      have hwr := HB.out.size
      have hk2 : (k : Int) < (l.length : Int) := by omega
      clear htk hn hn'
      go_wp2_with fail
      go_region_law (first | (refine step_append_pts rfl (.tmp 12) (.tmp 20) rfl w.heap.size wr.heap.size _ (.slice (some ⟨wr.heap.size, 0, none⟩) 1 1) k _ [(((x.add (k * 6)), (y.add (k * 6))), (n, n'))] rfl rfl (HO.out.alloc _) (own_one wr (((x.add (k * 6)), (y.add (k * 6))), (n, n'))) (by simp; omega) (by simp; omega) ?_; intro A4 c4 w4 hown4 hgrow4))
      all_goals
        have HO4 : Hid (w4.ownsRow w.heap.size prT 2 (.slice A4 (k + 1) c4) (k + 1) (rowP (G.take (k + 1)))) := Lib.hid (by rw [HRT.out]; exact hown4.out)
        have HB4 := Lib.hid ((HB.out.alloc HB.out.size _).drew.grown hgrow4.out (by simp; omega) (fun k hk => (HO.out.lt k hk).1))
        clear hown4 hgrow4
        go_wp2
        go_roundw
        case rel => exact ⟨k + 1, by go_num, by omega, HO4, HB4⟩
        case measure => simp [intOf]; omega
    · obtain rfl : k = l.length := by omega
      have HO2 := Lib.hid HO.out
      rw [show G.take l.length = G from List.take_of_length_le (by rw [HPL.out]; exact Nat.le_refl _)] at HO2
      go_wp2
      go_ret
      exact ⟨_, rfl, by rw [HPL.out]; exact HO2.out, HB.out⟩
end Go.Proofs.Ytfiiopchfmcjdaa
