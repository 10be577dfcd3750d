/- Texts of the proof of the law FnCanonLeast, side by side: part 24. -/
import Derived.Deep.RegionLaw
import Derived.Deep.RegionWith
import Derived.Test.YtkimkhgigbejkaaMCanonLeast00
import Derived.Test.YtkimkhgigbejkaaMCanonLeast01
import Derived.Test.YtkimkhgigbejkaaMCanonLeast02
import Derived.Test.YtkimkhgigbejkaaMCanonLeast03
import Derived.Test.YtkimkhgigbejkaaMCanonLeast04
import Derived.Test.YtkimkhgigbejkaaMCanonLeast05
import Derived.Test.YtkimkhgigbejkaaMCanonLeast06
import Derived.Test.YtkimkhgigbejkaaMCanonLeast07
import Derived.Test.YtkimkhgigbejkaaMCanonLeast08
import Derived.Test.YtkimkhgigbejkaaMCanonLeast09
import Derived.Test.YtkimkhgigbejkaaMCanonLeast10
import Derived.Test.YtkimkhgigbejkaaMCanonLeast11
import Derived.Test.YtkimkhgigbejkaaMCanonLeast12
import Derived.Test.YtkimkhgigbejkaaMCanonLeast13
import Derived.Test.YtkimkhgigbejkaaMCanonLeast14
import Derived.Test.YtkimkhgigbejkaaMCanonLeast15
import Derived.Test.YtkimkhgigbejkaaMCanonLeast16
import Derived.Test.YtkimkhgigbejkaaMCanonLeast17
import Derived.Test.YtkimkhgigbejkaaMCanonLeast18
import Derived.Test.YtkimkhgigbejkaaMCanonLeast19
import Derived.Test.YtkimkhgigbejkaaMCanonLeast20
import Derived.Test.YtkimkhgigbejkaaMCanonLeast21
import Derived.Test.YtkimkhgigbejkaaMCanonLeast22
import Derived.Test.YtkimkhgigbejkaaMCanonLeast23
/- The specification's copies of nodes: trees of one's own. -/
namespace Go.Proofs.Ytkimkhgigbejkaa
open Go.RowKit Go.Deep
theorem step_append_ndB {ops : Array Oper} {o : Oper} {a : Act} {w : World} {K : Act → World → Prop} {Q : Exit → Act → World → Prop} {E : Prop} (hgd : o.guard = none) (s x : Operand)
    (ho : o.op = .call { callee := .builtin .append, args := #[s, x], argTypes := #[nodesT, nodesT] })
    (base : Nat) (v : Value) (n : Nat) (xs : List Value) (hs : a.eval s = v) (hown : w.ownsRow base nodeT 6 v n xs)
    (ad : Addr) (c : Nat) (r : Nd × Hd) (hx : a.eval x = .slice (some ad) 1 c) (hnews : ∀ j u, (rowOf [r])[j]? = some u → w.cell? (ad.add j) = some u) (hn : n ≤ 3000000) (hbase : base ≤ w.heap.size)
    (h : ∀ A' c' w', Hid (w'.ownsRow base nodeT 6 (.slice A' (n + 1) c') (n + 1) (xs ++ rowOf [r])) → Hid (w.grownBy w' v.ownBlock) → Hid ((Value.slice A' (n + 1) c').ownBlock = v.ownBlock ∨ (Value.slice A' (n + 1) c').ownBlock = some w.heap.size) → K (a.put o.dst (.slice A' (n + 1) c')) w') :
    if Region.wanted o (yielded ops a.tmps) = true then Oper.wp Try.prog o a w K Q else E := by
  have hw : Region.wanted o (yielded ops a.tmps) = true := by simp [Region.wanted, hgd]
  rw [if_pos hw]
  obtain ⟨i0, hi, hz0, hz1, hz2⟩ := info_parts infoNd
  obtain ⟨v', w', hr, h2, h3, _, h5⟩ := run_append_own_at (P := Try.prog) w base nodesT o.type nodeT i0 _ 6 88 Try.underlying23 hi hz0 hz1 hz2 rfl (by decide) v n xs hown ad 1 c (rowOf [r]) rfl hnews (rowOf_one _) (by unfold maxLen; omega) (by omega) hbase
  obtain ⟨A', c', rfl⟩ := own_sliceN h2
  unfold Oper.wp execOp
  simp only [ho, resolve, invoke, builtin, Sem.run_bind, Sem.run_pure, Result.andThen_ok, List.map_toArray, List.map_cons, List.map_nil, hs, hx, hr]
  exact h A' c' w' h2 h3 h5
theorem take_next {α : Type} {l : List α} {k : Nat} (hk : k < l.length) {q : List α} (hq : q = l.take k) : q ++ [l[k]] = l.take (k + 1) := by rw [hq]; exact (List.take_succ_eq_append_getElem hk).symm
/-- nodes appended so far, and what is within. -/
def CpRow (w : World) (B : Nat) (v : Value) (q : List NB) (M : Nat) (l : List Nd) (k : Nat) : Prop := RowO w B v q M ∧ q.map (·.1) = l.take k
theorem CpRow.all {w : World} {B M : Nat} {v : Value} {q : List NB} {l : List Nd} (h : CpRow w B v q M l l.length) : ∃ A c bs, v = .slice A l.length c ∧ OwS w (M + 1) A c l bs ∧ bs.Nodup ∧ ∀ b ∈ bs, B ≤ b ∧ b < w.heap.size := by
  obtain ⟨h1, h2⟩ := h
  rw [List.take_of_length_le (Nat.le_refl _)] at h2
  obtain ⟨A, c, bs, hv, ho, hnd, hge⟩ := h1.done
  have hql : q.length = l.length := by have := congrArg List.length h2; simpa using this
  rw [hql] at hv
  rw [h2] at ho
  exact ⟨A, c, bs, hv, ho, hnd, fun b hb => ⟨hge b hb, (ho.lt _ _ _ _ _ b hb).1⟩⟩
def CpN (m : Nat) : Prop := ∀ (n : Nd) (h : Hd) (w : World) (S : Nat → Prop), NdAt w S m n h → totN m n ≤ 2000000 → Calls Try.prog 37 #[.agg #[.int .i64 n.kind, .string n.data, .slice h.A n.ptrs.length h.a, .int .i64 n.size, .int .i64 n.count, .slice h.B n.items.length h.b]] w (NewO (m + 1) n w)
/-- the result's cells are written. -/
theorem fin6 {w w1 : World} {b : Nat} {T : TypeId} {a0 a1 a2 a3 a4 a5 : Value} (h : w1.heap[b]? = some (.cells #[a0, a1, a2, a3, a4, a5] T (0, 0))) (hp : Below w.heap.size w w1) (hb : w.heap.size ≤ b) (v0 v1 v2 v3 v4 v5 : Value) :
    ∃ wf, ((((((w1.setCell ⟨b, 0, none⟩ v0).setCell ⟨b, 1, none⟩ v1).setCell ⟨b, 2, none⟩ v2).setCell ⟨b, 3, none⟩ v3).setCell ⟨b, 4, none⟩ v4).setCell ⟨b, 5, none⟩ v5) = wf ∧ wf.heap[b]? = some (.cells #[v0, v1, v2, v3, v4, v5] T (0, 0)) ∧ Below w.heap.size w wf ∧ Upon (b + 1) w1 wf := by
  have hk : ∀ (W : World) (i : Nat) (v : Value), Below w.heap.size w W → Below w.heap.size w (W.setCell ⟨b, i, none⟩ v) := fun W i v hW => hW.setCell (p := ⟨b, i, none⟩) hb v
  exact ⟨_, rfl, row_setN (row_setN (row_setN (row_setN (row_setN (row_setN h 0 v0) 1 v1) 2 v2) 3 v3) 4 v4) 5 v5, hk _ _ _ (hk _ _ _ (hk _ _ _ (hk _ _ _ (hk _ _ _ (hk _ _ _ hp))))),
    ((((((Upon.refl (b + 1) w1).setCell (p := ⟨b, 0, none⟩) (by simp) v0).setCell (p := ⟨b, 1, none⟩) (by simp) v1).setCell (p := ⟨b, 2, none⟩) (by simp) v2).setCell (p := ⟨b, 3, none⟩) (by simp) v3).setCell (p := ⟨b, 4, none⟩) (by simp) v4).setCell (p := ⟨b, 5, none⟩) (by simp) v5⟩
set_option maxHeartbeats 8000000 in
set_option maxRecDepth 100000 in
theorem cpN_of (m : Nat) (IH : ∀ j, m = j + 1 → CpN j) : CpN m := by
  intro n h w S hn ht
  obtain ⟨qA, qa, qB, qb⟩ := h
  have hT1 : totL m n.ptrs ≤ 2000000 := by unfold totN at ht; omega
  have hT2 : totL m n.items ≤ 2000000 := by unfold totN at ht; omega
  have hl1 : n.ptrs.length ≤ 2000000 := totL_len' (show NdsAt w S m qA n.ptrs from hn.2.1) hT1
  have hl2 : n.items.length ≤ 2000000 := totL_len' (show NdsAt w S m qB n.items from hn.2.2) hT2
  have HT1 : Hid (∀ j, m = j + 1 → ∀ k (h : k < n.ptrs.length), totN j n.ptrs[k] ≤ 2000000) := Lib.hid fun j hj k h => by subst hj; have := totL_at (m := j) h; omega
  have HT2 : Hid (∀ j, m = j + 1 → ∀ k (h : k < n.items.length), totN j n.items[k] ≤ 2000000) := Lib.hid fun j hj k h => by subst hj; have := totL_at (m := j) h; omega
  have HN := Lib.hid hn
  have HIH := Lib.hid IH
  have hb0 : Below w.heap.size w (((w.alloc (.cells #[.int .i64 n.kind, .string n.data, .slice qA n.ptrs.length qa, .int .i64 n.size, .int .i64 n.count, .slice qB n.items.length qb] nodeT)).alloc (.cells #[.int .i64 0, .string { data := #[] }, .slice none 0 0, .int .i64 0, .int .i64 0, .slice none 0 0] nodeT)).alloc (.cells #[.int .i64 n.kind, .string n.data, .slice none 0 0, .int .i64 n.size, .int .i64 n.count, .slice none 0 0] nodeT)) := (((Below.refl _ w).alloc (Nat.le_refl _) _).alloc (by simp) _).alloc (by simp; omega) _
  have k0 : (((w.alloc (.cells #[.int .i64 n.kind, .string n.data, .slice qA n.ptrs.length qa, .int .i64 n.size, .int .i64 n.count, .slice qB n.items.length qb] nodeT)).alloc (.cells #[.int .i64 0, .string { data := #[] }, .slice none 0 0, .int .i64 0, .int .i64 0, .slice none 0 0] nodeT)).alloc (.cells #[.int .i64 n.kind, .string n.data, .slice none 0 0, .int .i64 n.size, .int .i64 n.count, .slice none 0 0] nodeT)).heap[w.heap.size]? = some (.cells #[.int .i64 n.kind, .string n.data, .slice qA n.ptrs.length qa, .int .i64 n.size, .int .i64 n.count, .slice qB n.items.length qb] nodeT (0, 0)) := (Below.heap_alloc _ _ _ (by simp; omega)).trans ((Below.heap_alloc _ _ _ (by simp)).trans (heap_alloc_new w _))
  have k1 : (((w.alloc (.cells #[.int .i64 n.kind, .string n.data, .slice qA n.ptrs.length qa, .int .i64 n.size, .int .i64 n.count, .slice qB n.items.length qb] nodeT)).alloc (.cells #[.int .i64 0, .string { data := #[] }, .slice none 0 0, .int .i64 0, .int .i64 0, .slice none 0 0] nodeT)).alloc (.cells #[.int .i64 n.kind, .string n.data, .slice none 0 0, .int .i64 n.size, .int .i64 n.count, .slice none 0 0] nodeT)).heap[w.heap.size + 1]? = some (.cells #[.int .i64 0, .string { data := #[] }, .slice none 0 0, .int .i64 0, .int .i64 0, .slice none 0 0] nodeT (0, 0)) := (Below.heap_alloc _ _ _ (by simp)).trans (by have := heap_alloc_new (w.alloc (.cells #[.int .i64 n.kind, .string n.data, .slice qA n.ptrs.length qa, .int .i64 n.size, .int .i64 n.count, .slice qB n.items.length qb] nodeT)) (.cells #[.int .i64 0, .string { data := #[] }, .slice none 0 0, .int .i64 0, .int .i64 0, .slice none 0 0] nodeT); rwa [show (w.alloc (.cells #[.int .i64 n.kind, .string n.data, .slice qA n.ptrs.length qa, .int .i64 n.size, .int .i64 n.count, .slice qB n.items.length qb] nodeT)).heap.size = w.heap.size + 1 by simp] at this)
  have k2 : (((w.alloc (.cells #[.int .i64 n.kind, .string n.data, .slice qA n.ptrs.length qa, .int .i64 n.size, .int .i64 n.count, .slice qB n.items.length qb] nodeT)).alloc (.cells #[.int .i64 0, .string { data := #[] }, .slice none 0 0, .int .i64 0, .int .i64 0, .slice none 0 0] nodeT)).alloc (.cells #[.int .i64 n.kind, .string n.data, .slice none 0 0, .int .i64 n.size, .int .i64 n.count, .slice none 0 0] nodeT)).heap[w.heap.size + 1 + 1]? = some (.cells #[.int .i64 n.kind, .string n.data, .slice none 0 0, .int .i64 n.size, .int .i64 n.count, .slice none 0 0] nodeT (0, 0)) := by have := heap_alloc_new ((w.alloc (.cells #[.int .i64 n.kind, .string n.data, .slice qA n.ptrs.length qa, .int .i64 n.size, .int .i64 n.count, .slice qB n.items.length qb] nodeT)).alloc (.cells #[.int .i64 0, .string { data := #[] }, .slice none 0 0, .int .i64 0, .int .i64 0, .slice none 0 0] nodeT)) (.cells #[.int .i64 n.kind, .string n.data, .slice none 0 0, .int .i64 n.size, .int .i64 n.count, .slice none 0 0] nodeT); rwa [show ((w.alloc (.cells #[.int .i64 n.kind, .string n.data, .slice qA n.ptrs.length qa, .int .i64 n.size, .int .i64 n.count, .slice qB n.items.length qb] nodeT)).alloc (.cells #[.int .i64 0, .string { data := #[] }, .slice none 0 0, .int .i64 0, .int .i64 0, .slice none 0 0] nodeT)).heap.size = w.heap.size + 1 + 1 by simp] at this
  have hs3 : (((w.alloc (.cells #[.int .i64 n.kind, .string n.data, .slice qA n.ptrs.length qa, .int .i64 n.size, .int .i64 n.count, .slice qB n.items.length qb] nodeT)).alloc (.cells #[.int .i64 0, .string { data := #[] }, .slice none 0 0, .int .i64 0, .int .i64 0, .slice none 0 0] nodeT)).alloc (.cells #[.int .i64 n.kind, .string n.data, .slice none 0 0, .int .i64 n.size, .int .i64 n.count, .slice none 0 0] nodeT)).heap.size = w.heap.size + 3 := by simp
  have HB0 := Lib.hid hb0
  have HK0 := Lib.hid k0
  have HK1 := Lib.hid k1
  have HK2 := Lib.hid k2
  have HS3 := Lib.hid hs3
  clear IH hn ht hT1 hT2 hb0 k0 k1 k2 hs3
  go_enter Try.func37, Try.ntmps37
  go_wp2_with fail

  generalize ((w.alloc (.cells #[.int .i64 n.kind, .string n.data, .slice qA n.ptrs.length qa, .int .i64 n.size, .int .i64 n.count, .slice qB n.items.length qb] nodeT)).alloc (.cells #[.int .i64 0, .string { data := #[] }, .slice none 0 0, .int .i64 0, .int .i64 0, .slice none 0 0] nodeT)).alloc (.cells #[.int .i64 n.kind, .string n.data, .slice none 0 0, .int .i64 n.size, .int .i64 n.count, .slice none 0 0] nodeT) = W0 at *
  go_loopw [4] (fun i wr => ∃ k : Nat, i = .int .i64 k ∧ k ≤ n.ptrs.length ∧ Hid (∃ (v : Value) (q : List NB), wr.heap[w.heap.size + 1 + 1]? = some (.cells #[.int .i64 n.kind, .string n.data, v, .int .i64 n.size, .int .i64 n.count, .slice none 0 0] nodeT (0, 0)) ∧ CpRow wr (w.heap.size + 3) v q m n.ptrs k) ∧ Hid (Below (w.heap.size + 2) W0 wr ∧ w.heap.size + 3 ≤ wr.heap.size)) (fun i _ => n.ptrs.length - (intOf i).toNat)
  case atStart => exact ⟨0, rfl, by omega, Lib.hid ⟨_, [], HK2.out, RowO.nil _ _ _, rfl⟩, Lib.hid ⟨Below.refl _ _, by have := HS3.out; omega⟩⟩
  case round =>
    obtain ⟨k, rfl, hk, HS, HP⟩ := hrel
    obtain ⟨v, q, hrow, hnr, hq⟩ := HS.out
    obtain ⟨hbw, hsz⟩ := HP.out
    have hbW : Below w.heap.size w wr := HB0.out.trans (hbw.mono (by omega))
    have hp := (hbw.block w.heap.size (by omega)).trans HK0.out
    have hlt2 := row_lt hrow
    obtain ⟨a0, a1, a2, a3, a4, a5⟩ := cells6 hp
    by_cases hlt : k < n.ptrs.length
    · obtain ⟨j, rfl⟩ := (show NdsAt w S m qA n.ptrs from HN.out.2.1).pred hlt
      obtain ⟨x, hd, hxe, hc, hne⟩ := (show NdsAt w S (j + 1) qA n.ptrs from HN.out.2.1).below hbW |>.at_ hlt
      subst hxe
      have hql : q.length = k := by have := congrArg List.length hq; simp at this; omega
      have hq3 : q.length ≤ 3000000 := by omega
      have htk := HT1.out j rfl k hlt
      have htn := take_next hlt hq
      generalize n.ptrs[k] = y at hc hne htk htn
      have HTN := Lib.hid htn
      have HTK := Lib.hid htk
      obtain ⟨d0, d1, d2, d3, d4, d5⟩ := hc
      obtain ⟨c0, c1', c2, c3, c4', c5⟩ := cells6 hrow
      have HC := Lib.hid (HIH.out j rfl y hd wr.drew S (hne.below ⟨rfl, rfl, rfl, Nat.le_refl _, fun _ _ => rfl⟩) htk)
      have HROW := Lib.hid hrow
      have HNR := Lib.hid hnr
      have HBW := Lib.hid hbw
      have hdr : (wr.drew).heap.size = wr.heap.size := rfl
      unfold NewO at HC
      clear hbw hrow hnr HS HP hq htn htk hne hp hbW hql
      go_wp2_with fail
      go_region_law (first | (refine step_append_ndB rfl (.tmp 23) (.tmp 30) rfl (w.heap.size + 3) v q.length (rowB q) (by simp [Act.eval]) (HO2.out.1.alloc _) ⟨w2.heap.size, 0, none⟩ 1 (y, hy) (by simp [Act.eval]) (cells_six_new w2 (y, hy) _) hq3 (by simp; omega) ?_; intro A4 c4 w4 hown4 hgrow4 hat4; have hx4 := (hgrow4.out.block (w.heap.size + 1 + 1) (by simp; omega) (fun e => by have := (HO2.out.1.lt _ e.symm).1; omega)).trans ((Below.heap_alloc w2 _ (w.heap.size + 1 + 1) (by omega)).trans HX2.out); have qf4 := row_free hx4 2; obtain ⟨r0, r1, r2, r3, r4, r5⟩ := cells6 hx4) | (go_simp; go_at_call 37; (with_reducible refine HC.out.mono ?_); rintro e w2 ⟨hy, bsy, rfl, hny, hndy, hgey, hb2⟩; have hx2 := (hb2.block _ (show w.heap.size + 1 + 1 < wr.drew.heap.size by omega)).trans HROW.out; have HX2 := Lib.hid hx2; have HO2 := Lib.hid (RowO.low (w := wr.drew) HNR.out.drew hb2); have hsz2 : wr.heap.size ≤ w2.heap.size := hb2.size; obtain ⟨q0, q1, q2, q3, q4, q5⟩ := cells6 hx2; have hl2 := row_lt hx2; have qa' : ∀ o, (w2.alloc o).cell? ⟨w.heap.size + 1 + 1, 2, none⟩ = some v := fun o => (((Below.refl w2.heap.size w2).alloc (Nat.le_refl _) o).cell hl2).trans q2))
      all_goals
        have hb3 : Below wr.heap.size wr w2 := ⟨hb2.os, hb2.tape, hb2.output, hb2.size, hb2.block⟩
        have hbel : Below (w.heap.size + 3) w2 w4 := ((Below.refl (w.heap.size + 3) w2).alloc (by omega) _).grown hgrow4.out (by simp; omega) (fun k hk => (HO2.out.1.lt k hk).1)
        have hnx := (HO2.out.alloc _).next (hny.below ((Below.refl w2.heap.size w2).alloc (Nat.le_refl _) _)) hndy hgey (show w.heap.size + 3 ≤ wr.drew.heap.size from hsz) HNR.out.lt (fun k hk => (HNR.out.1.lt k hk).2) hown4.out hgrow4.out hat4.out
        have HS5 : Hid (∃ (v' : Value) (q' : List NB), (w4.setCell ⟨w.heap.size + 1 + 1, 2, none⟩ (.slice A4 (q.length + 1) c4)).heap[w.heap.size + 1 + 1]? = some (.cells #[.int .i64 n.kind, .string n.data, v', .int .i64 n.size, .int .i64 n.count, .slice none 0 0] nodeT (0, 0)) ∧ CpRow (w4.setCell ⟨w.heap.size + 1 + 1, 2, none⟩ (.slice A4 (q.length + 1) c4)) (w.heap.size + 3) v' q' (j + 1) n.ptrs (k + 1)) := Lib.hid ⟨_, _, row_setN hx4 2 _, hnx.store (by omega), by rw [List.map_append]; exact HTN.out⟩
        have HP5 : Hid (Below (w.heap.size + 2) W0 (w4.setCell ⟨w.heap.size + 1 + 1, 2, none⟩ (.slice A4 (q.length + 1) c4)) ∧ w.heap.size + 3 ≤ (w4.setCell ⟨w.heap.size + 1 + 1, 2, none⟩ (.slice A4 (q.length + 1) c4)).heap.size) := Lib.hid ⟨(((HBW.out.trans (hb3.mono (by omega))).trans (hbel.mono (by omega)))).setCell (p := ⟨w.heap.size + 1 + 1, 2, none⟩) (by simp) _, by have := hbel.size; simp [World.setCell]; omega⟩
        skip
        clear hndy hgey hb2 hb3 hbel hnx hx4 hx2 hown4 hgrow4 hat4 q0 q1 q2 q3 q4 q5 r0 r1 r2 r3 r4 r5 qf4 qa' hl2 hny a0 a1 a2 a3 a4 a5 c0 c1' c2 c3 c4' c5 d0 d1 d2 d3 d4 d5
        go_wp2
        go_roundw
        case rel => exact ⟨k + 1, by go_num, by omega, HS5, HP5⟩
        case measure => simp [intOf]; omega
    · obtain rfl : k = n.ptrs.length := by omega
      obtain ⟨A1, c1, bs1, hv, hnds, hnd1, hge1⟩ := CpRow.all ⟨hnr, hq⟩
      subst hv
      have HND := Lib.hid hnds
      have HN1 := Lib.hid hnd1
      have HG1 := Lib.hid hge1
      have HROW1 := Lib.hid hrow
      have HBW1 := Lib.hid hbw
      obtain ⟨B2, hB2⟩ : ∃ B2, B2 = wr.heap.size := ⟨_, rfl⟩
      rw [← hB2] at HG1
      have hB3 : w.heap.size + 3 ≤ B2 := by omega
      have HBB := Lib.hid (Nat.le_of_eq hB2)
      clear hnr hnds hnd1 hge1 hbw hrow hq HS HP hlt hbW hp hlt2 hB2 hsz
      go_wp2_with fail
      clear a0 a1 a2 a3 a4 a5
      go_loopw [5] (fun i wr => ∃ k : Nat, i = .int .i64 k ∧ k ≤ n.items.length ∧ Hid (∃ (v : Value) (q : List NB), wr.heap[w.heap.size + 1 + 1]? = some (.cells #[.int .i64 n.kind, .string n.data, .slice A1 n.ptrs.length c1, .int .i64 n.size, .int .i64 n.count, v] nodeT (0, 0)) ∧ CpRow wr (B2) v q m n.items k) ∧ Hid (Below (w.heap.size + 2) W0 wr ∧ B2 ≤ wr.heap.size) ∧ Hid (OwS wr (m + 1) A1 c1 n.ptrs bs1)) (fun i _ => n.items.length - (intOf i).toNat)
      case atStart => exact ⟨0, rfl, by omega, Lib.hid ⟨_, [], HROW1.out, RowO.nil _ _ _, rfl⟩, Lib.hid ⟨HBW1.out, HBB.out⟩, HND⟩
      case round =>
        obtain ⟨k, rfl, hk, HS, HP, HKN⟩ := hrel
        obtain ⟨v, q, hrow, hnr, hq⟩ := HS.out
        obtain ⟨hbw, hsz⟩ := HP.out
        have hbW : Below w.heap.size w wr := HB0.out.trans (hbw.mono (by omega))
        have hp := (hbw.block w.heap.size (by omega)).trans HK0.out
        have hlt2 := row_lt hrow
        obtain ⟨a0, a1, a2, a3, a4, a5⟩ := cells6 hp
        by_cases hlt : k < n.items.length
        · obtain ⟨j, rfl⟩ := (show NdsAt w S m qB n.items from HN.out.2.2).pred hlt
          obtain ⟨x, hd, hxe, hc, hne⟩ := (show NdsAt w S (j + 1) qB n.items from HN.out.2.2).below hbW |>.at_ hlt
          subst hxe
          have hql : q.length = k := by have := congrArg List.length hq; simp at this; omega
          have hq3 : q.length ≤ 3000000 := by omega
          have htk := HT2.out j rfl k hlt
          have htn := take_next hlt hq
          generalize n.items[k] = y at hc hne htk htn
          have HTN := Lib.hid htn
          have HTK := Lib.hid htk
          obtain ⟨d0, d1, d2, d3, d4, d5⟩ := hc
          obtain ⟨c0, c1', c2, c3, c4', c5⟩ := cells6 hrow
          have HC := Lib.hid (HIH.out j rfl y hd wr.drew S (hne.below ⟨rfl, rfl, rfl, Nat.le_refl _, fun _ _ => rfl⟩) htk)
          have HROW := Lib.hid hrow
          have HNR := Lib.hid hnr
          have HBW := Lib.hid hbw
          have hdr : (wr.drew).heap.size = wr.heap.size := rfl
          unfold NewO at HC
          clear hbw hrow hnr HS HP hq htn htk hne hp hbW hql
          go_wp2_with fail
          go_region_law (first | (refine step_append_ndB rfl (.tmp 41) (.tmp 48) rfl (B2) v q.length (rowB q) (by simp [Act.eval]) (HO2.out.1.alloc _) ⟨w2.heap.size, 0, none⟩ 1 (y, hy) (by simp [Act.eval]) (cells_six_new w2 (y, hy) _) hq3 (by simp; omega) ?_; intro A4 c4 w4 hown4 hgrow4 hat4; have hx4 := (hgrow4.out.block (w.heap.size + 1 + 1) (by simp; omega) (fun e => by have := (HO2.out.1.lt _ e.symm).1; omega)).trans ((Below.heap_alloc w2 _ (w.heap.size + 1 + 1) (by omega)).trans HX2.out); have qf4 := row_free hx4 5; obtain ⟨r0, r1, r2, r3, r4, r5⟩ := cells6 hx4) | (go_simp; go_at_call 37; (with_reducible refine HC.out.mono ?_); rintro e w2 ⟨hy, bsy, rfl, hny, hndy, hgey, hb2⟩; have hx2 := (hb2.block _ (show w.heap.size + 1 + 1 < wr.drew.heap.size by omega)).trans HROW.out; have HX2 := Lib.hid hx2; have HO2 := Lib.hid (RowO.low (w := wr.drew) HNR.out.drew hb2); have hsz2 : wr.heap.size ≤ w2.heap.size := hb2.size; obtain ⟨q0, q1, q2, q3, q4, q5⟩ := cells6 hx2; have hl2 := row_lt hx2; have qa' : ∀ o, (w2.alloc o).cell? ⟨w.heap.size + 1 + 1, 5, none⟩ = some v := fun o => (((Below.refl w2.heap.size w2).alloc (Nat.le_refl _) o).cell hl2).trans q5))
          all_goals
            have hb3 : Below wr.heap.size wr w2 := ⟨hb2.os, hb2.tape, hb2.output, hb2.size, hb2.block⟩
            have hbel : Below (B2) w2 w4 := ((Below.refl (B2) w2).alloc (by omega) _).grown hgrow4.out (by simp; omega) (fun k hk => (HO2.out.1.lt k hk).1)
            have hnx := (HO2.out.alloc _).next (hny.below ((Below.refl w2.heap.size w2).alloc (Nat.le_refl _) _)) hndy hgey (show B2 ≤ wr.drew.heap.size from hsz) HNR.out.lt (fun k hk => (HNR.out.1.lt k hk).2) hown4.out hgrow4.out hat4.out
            have HS5 : Hid (∃ (v' : Value) (q' : List NB), (w4.setCell ⟨w.heap.size + 1 + 1, 5, none⟩ (.slice A4 (q.length + 1) c4)).heap[w.heap.size + 1 + 1]? = some (.cells #[.int .i64 n.kind, .string n.data, .slice A1 n.ptrs.length c1, .int .i64 n.size, .int .i64 n.count, v'] nodeT (0, 0)) ∧ CpRow (w4.setCell ⟨w.heap.size + 1 + 1, 5, none⟩ (.slice A4 (q.length + 1) c4)) (B2) v' q' (j + 1) n.items (k + 1)) := Lib.hid ⟨_, _, row_setN hx4 5 _, hnx.store (by omega), by rw [List.map_append]; exact HTN.out⟩
            have HP5 : Hid (Below (w.heap.size + 2) W0 (w4.setCell ⟨w.heap.size + 1 + 1, 5, none⟩ (.slice A4 (q.length + 1) c4)) ∧ B2 ≤ (w4.setCell ⟨w.heap.size + 1 + 1, 5, none⟩ (.slice A4 (q.length + 1) c4)).heap.size) := Lib.hid ⟨(((HBW.out.trans (hb3.mono (by omega))).trans (hbel.mono (by omega)))).setCell (p := ⟨w.heap.size + 1 + 1, 5, none⟩) (by simp) _, by have := hbel.size; simp [World.setCell]; omega⟩
            have HK5 : Hid (OwS (w4.setCell ⟨w.heap.size + 1 + 1, 5, none⟩ (.slice A4 (q.length + 1) c4)) (j + 1 + 1) A1 c1 n.ptrs bs1) := Lib.hid (HKN.out.frame _ _ _ _ _ (fun b hb => by
              obtain ⟨g1, g2⟩ := HG1.out b hb
              exact (Below.heap_setCell w4 ⟨w.heap.size + 1 + 1, 5, none⟩ _ b (by simp; omega)).trans ((hbel.block b g2).trans (hb3.block b (by omega)))))
            clear hndy hgey hb2 hb3 hbel hnx hx4 hx2 hown4 hgrow4 hat4 q0 q1 q2 q3 q4 q5 r0 r1 r2 r3 r4 r5 qf4 qa' hl2 hny a0 a1 a2 a3 a4 a5 c0 c1' c2 c3 c4' c5 d0 d1 d2 d3 d4 d5
            go_wp2
            go_roundw
            case rel => exact ⟨k + 1, by go_num, by omega, HS5, HP5, HK5⟩
            case measure => simp [intOf]; omega
        · obtain rfl : k = n.items.length := by omega
          obtain ⟨A2, c2, bs2, hv, hnds, hnd2, hge2⟩ := CpRow.all ⟨hnr, hq⟩
          subst hv
          have HND2 := Lib.hid hnds
          have HN2 := Lib.hid (And.intro hnd2 hge2)
          have HBW2 := Lib.hid hbW
          obtain ⟨c0, c1', c2', c3, c4', c5⟩ := cells6 hrow
          have hz := (hbw.block (w.heap.size + 1) (by omega)).trans HK1.out
          obtain ⟨z0, z1, z2, z3, z4, z5⟩ := cells6 hz
          have zf := row_free hz
          have HZ := Lib.hid hz
          clear hnr hnds hnd2 hge2 hbw hrow hq HS HP hlt hbW hp hz
          go_wp2_with fail
          obtain ⟨wf, hwf, hrw, hbf, huw⟩ := fin6 HZ.out HBW2.out (show w.heap.size ≤ w.heap.size + 1 by omega) (.int .i64 n.kind) (.string n.data) (.slice A1 n.ptrs.length c1) (.int .i64 n.size) (.int .i64 n.count) (.slice A2 n.items.length c2)
          rw [hwf]
          obtain ⟨e0, e1, e2, e3, e4, e5⟩ := cells6 hrw
          exact bodyPost_ret (v := .agg #[.int .i64 n.kind, .string n.data, .slice A1 n.ptrs.length c1, .int .i64 n.size, .int .i64 n.count, .slice A2 n.items.length c2])
            (by simp [results, Try.results37, go_sem, e0, e1, e2, e3, e4, e5]) rfl ⟨⟨A1, c1, A2, c2⟩, bs1 ++ bs2, rfl, ⟨HN.out.1, bs1, bs2, rfl, HKN.out.frame _ _ _ _ _ (fun b hb => by
                obtain ⟨g1, g2⟩ := HG1.out b hb
                exact huw.block b (by omega) (by omega)), HND2.out.frame _ _ _ _ _ (fun b hb => by
                obtain ⟨g1, g2⟩ := HN2.out.2 b hb
                exact huw.block b (by omega) (by omega))⟩, List.nodup_append.2 ⟨HN1.out, HN2.out.1, fun a ha b hb e => by
                have g1 := (HG1.out a ha).2
                have g2 := (HN2.out.2 b hb).1
                omega⟩, fun b hb => by
                rcases List.mem_append.1 hb with hb | hb
                · have := (HG1.out b hb).1
                  omega
                · have := (HN2.out.2 b hb).1
                  omega, hbf⟩
theorem cpN_any : ∀ m, CpN m
  | 0 => cpN_of 0 (fun j h => by cases h)
  | m + 1 => cpN_of (m + 1) (fun j h => by obtain rfl : m = j := by omega
                                           exact cpN_any m)
end Go.Proofs.Ytkimkhgigbejkaa

/- The specification's drawer of nodes: structs. -/
namespace Go.Proofs.Ytkimkhgigbejkaa
open Go.RowKit Go.Deep
/-- how many draws a node of such a depth takes at most; how great it is; how many levels it has. -/
def dK : Nat → Nat
  | 0 => 0
  | d + 1 => 50 + 6 * dK d
def dT : Nat → Nat
  | 0 => 0
  | d + 1 => 1001 + 6 * dT d
def DrN (d : Nat) : Prop := ∀ (R n : Nat) (w : World), Rd w R n → n + dK d ≤ 500000 → Calls Try.prog 46 #[.pointer (some ⟨R, 0, none⟩), .int .i64 (d : Int)] w (NdP (2 * d) (dT d) R (n + dK d) w)
theorem picked_growN {w w1 w2 : World} {R n base m z : Nat} {e : TypeId} {v : Value} {xs : List Value} (hp : Picked w R n w1) (hR : R < base) (hwb : w.heap.size ≤ base) (hown : w1.ownsRow base e z v m xs) (hbs : base ≤ w1.heap.size) (hg : w1.grownBy w2 v.ownBlock) : Picked w R n w2 := by
  have hbel : Below base w1 w2 := (Below.refl base w1).grown hg hbs (fun k hk => (hown.lt k hk).1)
  obtain ⟨⟨a, l, c, p, hpn, hr, hc⟩, hk⟩ := hp
  refine ⟨⟨a, l, c, p, hpn, (hbel.block R hR).trans hr, hc.keeps (R := base) (Keeps.of_below hbel) (Nat.le_of_lt hR) (Nat.le_of_lt hR)⟩, ?_⟩
  exact ⟨hbel.os.trans hk.os, hbel.tape.trans hk.tape, hbel.output.trans hk.output, Nat.le_trans hk.size hbel.size, fun k hk1 hk2 => (hbel.block k (Nat.lt_of_lt_of_le hk1 hwb)).trans (hk.block k hk1 hk2)⟩
theorem NdAt.picked {w w' : World} {R n B m : Nat} {x : Nd} {h : Hd} (hn : NdAt w (FromC w B) m x h) (hp : Picked w R n w') (hR : R < B) : NdAt w' (FromC w' B) m x h :=
  hn.map' (fun k hk hs => ⟨hs.1, clean_of hs.2 (hp.2.block k hk (by have := hs.1; omega))⟩) (fun p _ _ hs hc => hc.block (hp.2.block _ hc.lt (by have := hs.1; omega)))
/-- the struct as it is drawn: its bytes so far. -/
def StD (g : Nat) (k : Nat) (w : World) : Prop := ∃ dd : ByteArray, dd.size = 8 * k ∧ w.heap[g]? = some (.cells #[.int .i64 1, .string dd, .slice none 0 0, .int .i64 0, .int .i64 0, .slice none 0 0] nodeT (0, 0))
set_option maxHeartbeats 8000000 in
set_option maxRecDepth 100000 in
theorem l13Struct_any (d : Nat) (hN : DrN d) (R n : Nat) (data ptrs : Nat) (w : World) (h : Rd w R n) (hn : n + 3 * data + ptrs * dK d ≤ 500000) (hd : data ≤ 3) (hp : ptrs ≤ 3) (hdd : d ≤ 8) (hkd : dK d ≤ 20000) (htd : dT d ≤ 300000) :
    Calls Try.prog 68 #[.pointer (some ⟨R, 0, none⟩), .int .i64 data, .int .i64 ptrs, .int .i64 ((d : Int) + 1)] w (NdP (2 * d + 1) (8 * data + ptrs * (1 + dT d)) R (n + 3 * data + ptrs * dK d) w) := by
  have hRw := h.lt
  obtain ⟨i0, hi, hz0, hz1, hz2⟩ := info_parts infoNd
  have hq0 := h.self.below (((Below.refl w.heap.size w).alloc (Nat.le_refl _) (.cells #[.int .i64 0, .string { data := #[] }, .slice none 0 0, .int .i64 0, .int .i64 0, .slice none 0 0] nodeT)).alloc (by simp) (.cells #[.int .i64 1, .string { data := #[] }, .slice none 0 0, .int .i64 0, .int .i64 0, .slice none 0 0] nodeT))
  have hr0 : ((w.alloc (.cells #[.int .i64 0, .string { data := #[] }, .slice none 0 0, .int .i64 0, .int .i64 0, .slice none 0 0] nodeT)).alloc (.cells #[.int .i64 1, .string { data := #[] }, .slice none 0 0, .int .i64 0, .int .i64 0, .slice none 0 0] nodeT)).heap[w.heap.size]? = some (.cells #[.int .i64 0, .string { data := #[] }, .slice none 0 0, .int .i64 0, .int .i64 0, .slice none 0 0] nodeT (0, 0)) := (Below.heap_alloc _ _ _ (by simp)).trans (heap_alloc_new w _)
  have hx0 : ((w.alloc (.cells #[.int .i64 0, .string { data := #[] }, .slice none 0 0, .int .i64 0, .int .i64 0, .slice none 0 0] nodeT)).alloc (.cells #[.int .i64 1, .string { data := #[] }, .slice none 0 0, .int .i64 0, .int .i64 0, .slice none 0 0] nodeT)).heap[w.heap.size + 1]? = some (.cells #[.int .i64 1, .string { data := #[] }, .slice none 0 0, .int .i64 0, .int .i64 0, .slice none 0 0] nodeT (0, 0)) := by have := heap_alloc_new (w.alloc (.cells #[.int .i64 0, .string { data := #[] }, .slice none 0 0, .int .i64 0, .int .i64 0, .slice none 0 0] nodeT)) (.cells #[.int .i64 1, .string { data := #[] }, .slice none 0 0, .int .i64 0, .int .i64 0, .slice none 0 0] nodeT); rwa [show (w.alloc (.cells #[.int .i64 0, .string { data := #[] }, .slice none 0 0, .int .i64 0, .int .i64 0, .slice none 0 0] nodeT)).heap.size = w.heap.size + 1 by simp] at this
  have hs0 : ((w.alloc (.cells #[.int .i64 0, .string { data := #[] }, .slice none 0 0, .int .i64 0, .int .i64 0, .slice none 0 0] nodeT)).alloc (.cells #[.int .i64 1, .string { data := #[] }, .slice none 0 0, .int .i64 0, .int .i64 0, .slice none 0 0] nodeT)).heap.size = w.heap.size + 2 := by simp
  have HQ0 := Lib.hid hq0
  have HR0 := Lib.hid hr0
  have HX0 := Lib.hid hx0
  have HNN := Lib.hid hN
  clear h hq0 hr0 hx0 hN
  go_enter Try.func68, Try.ntmps68
  go_wp2_with fail
  generalize (w.alloc (.cells #[.int .i64 0, .string { data := #[] }, .slice none 0 0, .int .i64 0, .int .i64 0, .slice none 0 0] nodeT)).alloc (.cells #[.int .i64 1, .string { data := #[] }, .slice none 0 0, .int .i64 0, .int .i64 0, .slice none 0 0] nodeT) = W0 at *
  go_loopw [10] (fun i wr => ∃ k : Nat, i = .int .i64 k ∧ k ≤ data ∧ Hid (StD (w.heap.size + 1) k wr) ∧ Hid (wr.heap[w.heap.size]? = some (.cells #[.int .i64 0, .string { data := #[] }, .slice none 0 0, .int .i64 0, .int .i64 0, .slice none 0 0] nodeT (0, 0))) ∧ Hid (Picked w R (n + 3 * k) wr ∧ w.heap.size + 2 ≤ wr.heap.size)) (fun i _ => data - (intOf i).toNat)
  case atStart => exact ⟨0, rfl, by omega, Lib.hid ⟨_, rfl, HX0.out⟩, HR0, Lib.hid ⟨HQ0.out, by omega⟩⟩
  case round =>
    obtain ⟨k, rfl, hk, HS, HZ, HP⟩ := hrel
    obtain ⟨dd, hds, hrow⟩ := HS.out
    obtain ⟨hpk, hsz⟩ := HP.out
    have hdb : dd.size ≤ 24 := by omega
    by_cases hlt : k < data
    · have hc := cells6 hrow
      obtain ⟨c0, c1, c2, c3, c4, c5⟩ := hc
      have hfr := row_free hrow 1
      have HPK := Lib.hid hpk
      have HROW := Lib.hid hrow
      have HDS := Lib.hid hds
      have hdr : (wr.drew).heap.size = wr.heap.size := rfl
      clear hpk hrow hds HS HP
      go_wp2_with fail
      go_region_with (go_at_call 79; go_must (refine (l13Word_any R (n + 3 * k) _ (by exact HPK.out.1.below ⟨rfl, rfl, rfl, Nat.le_refl _, fun _ _ => rfl⟩) (by omega)).mono ?_); rintro e w2 ⟨u, hu, rfl, hp2⟩; have hx2 := pick_rowN (w := wr.drew) HROW.out hp2 (by omega); obtain ⟨q0, q1, q2, q3, q4, q5⟩ := cells6 hx2; have qf := row_free hx2 1; have f1 : ¬ 9223372036854775807 < dd.size + u.size := by omega)
      all_goals
        have hp3 : Picked wr R (n + 3 * k + 3) w2 := ⟨hp2.1, ⟨hp2.2.os, hp2.2.tape, hp2.2.output, hp2.2.size, hp2.2.block⟩⟩
        have HP3 := Lib.hid (picked_storeN (HPK.out.then hp3) hRw (b := w.heap.size + 1) (by omega) 1 (.string (dd ++ u)))
        have HS3 : Hid (StD (w.heap.size + 1) (k + 1) (w2.setCell ⟨w.heap.size + 1, 1, none⟩ (.string (dd ++ u)))) := Lib.hid ⟨dd ++ u, by rw [getD_size, HDS.out, hu]; omega, row_setN hx2 1 _⟩
        have HZ3 := Lib.hid ((Below.heap_setCell w2 ⟨w.heap.size + 1, 1, none⟩ (.string (dd ++ u)) w.heap.size (by simp)).trans (pick_rowN (w := wr) HZ.out hp3 (by omega)))
        have hsz3 : w.heap.size + 2 ≤ (w2.setCell ⟨w.heap.size + 1, 1, none⟩ (.string (dd ++ u))).heap.size := by have := hp3.2.size; simp [World.setCell]; omega
        have HPP := Lib.hid (And.intro (HP3.out.mono (show n + 3 * k + 3 ≤ n + 3 * (k + 1) by omega)) hsz3)
        clear hp2 hp3 hx2 q0 q1 q2 q3 q4 q5 qf hsz3 hu
        go_wp2
        go_roundw
        case rel => exact ⟨k + 1, by go_num, by omega, HS3, HZ3, HPP⟩
        case measure => simp [intOf]; omega
    · obtain rfl : k = data := by omega
      have HROW := Lib.hid hrow
      have HPK := Lib.hid hpk
      have HZ1 := Lib.hid HZ.out
      have HDS := Lib.hid hds
      clear hrow hpk hds HS HP hlt
      go_wp2_with fail
      go_loopw [11] (fun i wr => ∃ j : Nat, i = .int .i64 j ∧ j ≤ ptrs ∧ Hid (∃ (v : Value) (q : List (Nd × Hd)), wr.heap[w.heap.size + 1]? = some (.cells #[.int .i64 1, .string dd, v, .int .i64 0, .int .i64 0, .slice none 0 0] nodeT (0, 0)) ∧ q.length = j ∧ NRowC wr (w.heap.size + 2) v q (2 * d) (dT d)) ∧ Hid (wr.heap[w.heap.size]? = some (.cells #[.int .i64 0, .string { data := #[] }, .slice none 0 0, .int .i64 0, .int .i64 0, .slice none 0 0] nodeT (0, 0))) ∧ Hid (Picked w R (n + 3 * k + j * dK d) wr ∧ w.heap.size + 2 ≤ wr.heap.size)) (fun i _ => ptrs - (intOf i).toNat)
      case atStart => exact ⟨0, rfl, by omega, Lib.hid ⟨_, [], HROW.out, rfl, NRowC.nil _ _ _ _⟩, HZ1, Lib.hid ⟨by have := HPK.out; simpa using this, hsz⟩⟩
      case round =>
        clear hsz
        obtain ⟨j, rfl, hj, HS, HZ, HP⟩ := hrel
        obtain ⟨v, q, hrow, hql, hnr⟩ := HS.out
        obtain ⟨hpk, hsz⟩ := HP.out
        have HQL := Lib.hid hql
        by_cases hlt : j < ptrs
        · obtain ⟨c0, c1, c2, c3, c4, c5⟩ := cells6 hrow
          have hq1000 : q.length ≤ 1000 := by omega
          have HPK2 := Lib.hid hpk
          have HROW2 := Lib.hid hrow
          have HNR := Lib.hid hnr
          have hdr : (wr.drew).heap.size = wr.heap.size := rfl
          have hjk : j * dK d + dK d ≤ ptrs * dK d := by have := Nat.mul_le_mul_right (dK d) (show j + 1 ≤ ptrs by omega); rw [Nat.add_mul] at this; omega
          have hwr : IntKind.i64.wrap (d : Int) = (d : Int) := by rw [IntKind.wrap_i64]; omega
          have HC := Lib.hid (HNN.out R (n + 3 * k + j * dK d) wr.drew (by exact HPK2.out.1.below ⟨rfl, rfl, rfl, Nat.le_refl _, fun _ _ => rfl⟩) (by omega))
          unfold NdP at HC
          clear hpk hrow hnr HS HP hql
          go_wp2_with fail
          go_region_law (first | (refine step_append_nd rfl (.tmp 30) (.tmp 35) rfl (w.heap.size + 2) v q.length (rowOf q) (by simp [Act.eval]) (HO2.out.1.alloc _) ⟨w2.heap.size, 0, none⟩ 1 (y, hy) (by simp [Act.eval]) (cells_six_new w2 (y, hy) _) hq1000 (by simp; omega) ?_; intro A4 c4 w4 hown4 hgrow4 hat4; have hx4 := (hgrow4.out.block (w.heap.size + 1) (by simp; omega) (fun e => by have := (HO2.out.1.lt _ e.symm).1; omega)).trans ((Below.heap_alloc w2 _ (w.heap.size + 1) (by omega)).trans HX2.out); have qf4 := row_free hx4 2; obtain ⟨r0, r1, r2, r3, r4, r5⟩ := cells6 hx4) | (go_simp; go_at_call 46; (with_reducible refine HC.out.mono ?_); rintro e w2 ⟨y, hy, rfl, hny, hty, hp2⟩; have hx2 := pick_rowN (w := wr.drew) HROW2.out hp2 (by omega); have HX2 := Lib.hid hx2; have HO2 := Lib.hid (NRowC.picked (w := wr.drew) HNR.out.drew hp2 (by omega)); have hsz2 : wr.heap.size ≤ w2.heap.size := hp2.2.size; obtain ⟨q0, q1, q2, q3, q4, q5⟩ := cells6 hx2; have hlt2 := row_lt hx2; have qa : ∀ o, (w2.alloc o).cell? ⟨w.heap.size + 1, 2, none⟩ = some v := fun o => (((Below.refl w2.heap.size w2).alloc (Nat.le_refl _) o).cell hlt2).trans q2))
          all_goals
            have hp3 : Picked wr R (n + 3 * k + j * dK d + dK d) w2 := ⟨hp2.1, ⟨hp2.2.os, hp2.2.tape, hp2.2.output, hp2.2.size, hp2.2.block⟩⟩
            have hbel : Below w.heap.size w2 w4 := ((Below.refl w.heap.size w2).alloc (by omega) _).grown hgrow4.out (by simp; omega) (fun k hk => by have := (HO2.out.1.lt k hk).1; omega)
            have hp4 : Picked w R (n + 3 * k + j * dK d + dK d) w4 := by
              obtain ⟨⟨a, l, c, p, hpn, hr, hc⟩, hk⟩ := HPK2.out.then hp3
              exact ⟨⟨a, l, c, p, hpn, (hbel.block R hRw).trans hr, hc.keeps (R := w.heap.size) (Keeps.of_below hbel) (Nat.le_of_lt hRw) (Nat.le_of_lt hRw)⟩, ⟨hbel.os.trans hk.os, hbel.tape.trans hk.tape, hbel.output.trans hk.output, Nat.le_trans hk.size hbel.size, fun k hk1 hk2 => (hbel.block k hk1).trans (hk.block k hk1 hk2)⟩⟩
            have hnx := (HO2.out.alloc _).next (hny.belowC ((Below.refl w2.heap.size w2).alloc (Nat.le_refl _) _)) hty.1 (show w.heap.size + 2 ≤ (wr.drew).heap.size from hsz) (fun k hk => (HNR.out.1.lt k hk).2) hown4.out hgrow4.out hat4.out
            have HS5 : Hid (∃ (v' : Value) (q' : List (Nd × Hd)), (w4.setCell ⟨w.heap.size + 1, 2, none⟩ (.slice A4 (q.length + 1) c4)).heap[w.heap.size + 1]? = some (.cells #[.int .i64 1, .string dd, v', .int .i64 0, .int .i64 0, .slice none 0 0] nodeT (0, 0)) ∧ q'.length = j + 1 ∧ NRowC (w4.setCell ⟨w.heap.size + 1, 2, none⟩ (.slice A4 (q.length + 1) c4)) (w.heap.size + 2) v' q' (2 * d) (dT d)) := Lib.hid ⟨_, _, row_setN hx4 2 _, by have := HQL.out; simp; omega, hnx.store (by omega)⟩
            have HZ5 := Lib.hid ((Below.heap_setCell w4 ⟨w.heap.size + 1, 2, none⟩ (.slice A4 (q.length + 1) c4) w.heap.size (by simp)).trans ((hgrow4.out.block w.heap.size (by simp; omega) (fun e => by have := (HO2.out.1.lt _ e.symm).1; omega)).trans ((Below.heap_alloc w2 _ w.heap.size (by omega)).trans (pick_rowN (w := wr) HZ.out hp3 (by omega)))))
            have HP5 : Hid (Picked w R (n + 3 * k + (j + 1) * dK d) (w4.setCell ⟨w.heap.size + 1, 2, none⟩ (.slice A4 (q.length + 1) c4)) ∧ w.heap.size + 2 ≤ (w4.setCell ⟨w.heap.size + 1, 2, none⟩ (.slice A4 (q.length + 1) c4)).heap.size) := Lib.hid ⟨(picked_storeN hp4 hRw (b := w.heap.size + 1) (by omega) 2 _).mono (by rw [Nat.add_mul]; omega), by have := hbel.size; simp [World.setCell]; omega⟩
            clear hp2 hp3 hp4 hbel hnx hx4 hx2 hown4 hgrow4 hat4 q0 q1 q2 q3 q4 q5 r0 r1 r2 r3 r4 r5 qf4 qa hlt2 hny hty
            go_wp2
            go_roundw
            case rel => exact ⟨j + 1, by go_num, by omega, HS5, HZ5, HP5⟩
            case measure => simp [intOf]; omega
        · obtain rfl : j = ptrs := by omega
          obtain ⟨A, cap, hv, hnds, htot⟩ := hnr.nds (by omega)
          subst hv
          have HND := Lib.hid hnds
          have HTOT := Lib.hid htot
          have HROW3 := Lib.hid hrow
          have HPK3 := Lib.hid hpk
          obtain ⟨c0, c1, c2, c3, c4, c5⟩ := cells6 hrow
          have hz0 : ∀ k, wr.cell? ⟨w.heap.size, k, none⟩ = (#[.int .i64 0, .string { data := #[] }, .slice none 0 0, .int .i64 0, .int .i64 0, .slice none 0 0] : Array Value)[k]? := fun k => cell_of_row _ _ _ _ _ _ HZ.out
          have hzf := row_free HZ.out
          clear hnr hnds htot hrow hpk HS HP hql hlt hi
          go_wp2_with fail
          obtain ⟨wf, hwf, hrw, hpw, huw⟩ := store6 (w1 := wr) (b := w.heap.size) HZ.out HPK3.out hRw (Nat.le_refl _) (.int .i64 1) (.string dd) (.slice A q.length cap) (.int .i64 0) (.int .i64 0) (.slice none 0 0)
          rw [hwf]
          obtain ⟨e0, e1, e2, e3, e4, e5⟩ := cells6 hrw
          exact bodyPost_ret (v := .agg #[.int .i64 1, .string dd, .slice A q.length cap, .int .i64 0, .int .i64 0, .slice none 0 0])
            (by simp [results, Try.results68, go_sem, e0, e1, e2, e3, e4, e5]) rfl
            ⟨.mk 1 dd (q.map (·.1)) 0 0 [], ⟨A, cap, none, 0⟩, by show _ = Ending.returned (.agg #[.int .i64 1, .string dd, .slice A (q.map (·.1)).length cap, .int .i64 0, .int .i64 0, .slice none 0 0]); rw [List.length_map], ⟨by show dd.size ≤ maxLen; unfold maxLen; omega, ((HND.out.fromC (by omega)).uponC huw).fromC (by omega), NdsAt.nil _ _ _ _⟩, ⟨by
              have h1 := HTOT.out
              rw [HQL.out] at h1
              show dd.size + totL (2 * d + 1) (q.map (·.1)) + totL (2 * d + 1) [] ≤ _
              have h2 : totL (2 * d + 1) [] = 0 := rfl
              have h3 := HDS.out
              omega, SB.small (by show dd.size ≤ 1100; have h3 := HDS.out; omega) (show (0 : Nat) ≤ 1000 by decide)⟩, hpw.mono (by omega)⟩
end Go.Proofs.Ytkimkhgigbejkaa
