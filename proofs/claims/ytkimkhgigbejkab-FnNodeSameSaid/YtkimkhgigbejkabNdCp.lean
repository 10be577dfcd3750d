/- The specification's copies of nodes: in plain blocks of their own. -/
import Derived.Test.YtkimkhgigbejkabNdRowC
import Derived.Deep.RegionLaw
import Derived.Deep.RegionWith
namespace Go.Proofs.Ytkimkhgigbejkab
open Go.RowKit Go.Deep
theorem step_append_ndB {ops : Array Oper} {o : Oper} {a : Act} {w : World} {K : Act → World → Prop} {Q : Exit → Act → World → Prop} {E : Prop} (hgd : o.guard = none) (s x : Operand)
    (ho : o.op = .call { callee := .builtin .append, args := #[s, x], argTypes := #[nodesT, nodesT] })
    (base : Nat) (v : Value) (n : Nat) (xs : List Value) (hs : a.eval s = v) (hown : w.ownsRow base nodeT 6 v n xs)
    (ad : Addr) (c : Nat) (r : Nd × Hd) (hx : a.eval x = .slice (some ad) 1 c) (hnews : ∀ j u, (rowOf [r])[j]? = some u → w.cell? (ad.add j) = some u) (hn : n ≤ 3000000) (hbase : base ≤ w.heap.size)
    (h : ∀ A' c' w', Hid (w'.ownsRow base nodeT 6 (.slice A' (n + 1) c') (n + 1) (xs ++ rowOf [r])) → Hid (w.grownBy w' v.ownBlock) → Hid ((Value.slice A' (n + 1) c').ownBlock = v.ownBlock ∨ (Value.slice A' (n + 1) c').ownBlock = some w.heap.size) → K (a.put o.dst (.slice A' (n + 1) c')) w') :
    if Region.wanted o (yielded ops a.tmps) = true then Oper.wp Try.prog o a w K Q else E := by
  have hw : Region.wanted o (yielded ops a.tmps) = true := by simp [Region.wanted, hgd]
  rw [if_pos hw]
  obtain ⟨i0, hi, hz0, hz1, hz2⟩ := info_parts infoNd
  obtain ⟨v', w', hr, h2, h3, _, h5⟩ := run_append_own_at (P := Try.prog) w base nodesT o.type nodeT i0 _ 6 88 Try.underlying23 hi hz0 hz1 hz2 rfl (by decide) v n xs hown ad 1 c (rowOf [r]) rfl hnews (rowOf_one _) (by unfold maxLen; omega) (by omega) hbase
  obtain ⟨A', c', rfl⟩ := own_sliceN h2
  unfold Oper.wp execOp
  simp only [ho, resolve, invoke, builtin, Sem.run_bind, Sem.run_pure, Result.andThen_ok, List.map_toArray, List.map_cons, List.map_nil, hs, hx, hr]
  exact h A' c' w' h2 h3 h5
/-- plain blocks from B on, below H. -/
def BetC (w : World) (B H : Nat) : Nat → Prop := fun k => (B ≤ k ∧ k < H) ∧ Clean w k
theorem NdsAt.betC {w w' : World} {B H m : Nat} {A : Option Addr} {l : List Nd} (h : NdsAt w (BetC w B H) m A l) (hk : ∀ k, B ≤ k → k < H → w'.heap[k]? = w.heap[k]?) : NdsAt w' (BetC w' B H) m A l :=
  NdsAt.map' (fun k _ hs => ⟨hs.1, clean_of hs.2 (hk k hs.1.1 hs.1.2)⟩) (fun p _ _ hs hc => hc.block (hk _ hs.1.1 hs.1.2)) _ _ _ h
theorem NdsAt.toBet {w : World} {B m : Nat} {A : Option Addr} {l : List Nd} (h : NdsAt w (FromC w B) m A l) : NdsAt w (BetC w B w.heap.size) m A l :=
  NdsAt.map' (fun k hk hs => ⟨⟨hs.1, hk⟩, hs.2⟩) (fun _ _ _ _ hc => hc) _ _ _ h
theorem NdsAt.unBet {w : World} {B H m : Nat} {A : Option Addr} {l : List Nd} (h : NdsAt w (BetC w B H) m A l) : NdsAt w (FromC w B) m A l := h.weak (fun _ hk => ⟨hk.1.1, hk.2⟩)
/-- a node in new plain blocks is handed back. -/
def NewCC (m : Nat) (n : Nd) (w : World) (e : Ending) (w' : World) : Prop := ∃ h : Hd, e = .returned (.agg #[.int .i64 n.kind, .string n.data, .slice h.A n.ptrs.length h.a, .int .i64 n.size, .int .i64 n.count, .slice h.B n.items.length h.b]) ∧ NdAt w' (FromC w' w.heap.size) m n h ∧ Below w.heap.size w w'
/-- nodes appended so far. -/
def CpRow (w : World) (B : Nat) (v : Value) (q : List (Nd × Hd)) (M : Nat) (l : List Nd) (k : Nat) : Prop := NRowC w B v q M 2000000 ∧ q.map (·.1) = l.take k
theorem CpRow.nds {w : World} {B m : Nat} {v : Value} {q : List (Nd × Hd)} {l : List Nd} {S : Nat → Prop} {w0 : World} {A0 : Option Addr} (h : CpRow w B v q (m - 1) l l.length) (hs : NdsAt w0 S m A0 l) (hl : l.length ≤ 2000000) : ∃ A c, v = .slice A l.length c ∧ NdsAt w (FromC w B) m A l := by
  obtain ⟨h1, h2⟩ := h
  rw [List.take_of_length_le (Nat.le_refl _)] at h2
  have hql : q.length = l.length := by have := congrArg List.length h2; simpa using this
  obtain ⟨A, c, hv, hn⟩ := nds_of_ownC h1.1 (by unfold maxLen; omega) (fun r hr => (h1.2 r hr).1.weak (fun _ h => h.1))
  rw [hql] at hv
  rw [h2] at hn
  refine ⟨A, c, hv, ?_⟩
  cases m with
  | zero =>
    obtain rfl := hs.zero
    exact NdsAt.nil _ _ _ _
  | succ m => exact hn
theorem take_next {α : Type} {l : List α} {k : Nat} (hk : k < l.length) {q : List α} (hq : q = l.take k) : q ++ [l[k]] = l.take (k + 1) := by rw [hq]; exact (List.take_succ_eq_append_getElem hk).symm
def CpN (m : Nat) : Prop := ∀ (n : Nd) (h : Hd) (w : World) (S : Nat → Prop), NdAt w S m n h → totN m n ≤ 2000000 → Calls Try.prog 27 #[.agg #[.int .i64 n.kind, .string n.data, .slice h.A n.ptrs.length h.a, .int .i64 n.size, .int .i64 n.count, .slice h.B n.items.length h.b]] w (NewCC m n w)
/-- the result's cells are written. -/
theorem fin6 {w w1 : World} {b : Nat} {T : TypeId} {a0 a1 a2 a3 a4 a5 : Value} (h : w1.heap[b]? = some (.cells #[a0, a1, a2, a3, a4, a5] T (0, 0))) (hp : Below w.heap.size w w1) (hb : w.heap.size ≤ b) (v0 v1 v2 v3 v4 v5 : Value) :
    ∃ wf, ((((((w1.setCell ⟨b, 0, none⟩ v0).setCell ⟨b, 1, none⟩ v1).setCell ⟨b, 2, none⟩ v2).setCell ⟨b, 3, none⟩ v3).setCell ⟨b, 4, none⟩ v4).setCell ⟨b, 5, none⟩ v5) = wf ∧ wf.heap[b]? = some (.cells #[v0, v1, v2, v3, v4, v5] T (0, 0)) ∧ Below w.heap.size w wf ∧ Upon (b + 1) w1 wf := by
  have hk : ∀ (W : World) (i : Nat) (v : Value), Below w.heap.size w W → Below w.heap.size w (W.setCell ⟨b, i, none⟩ v) := fun W i v hW => hW.setCell (p := ⟨b, i, none⟩) hb v
  exact ⟨_, rfl, row_setN (row_setN (row_setN (row_setN (row_setN (row_setN h 0 v0) 1 v1) 2 v2) 3 v3) 4 v4) 5 v5, hk _ _ _ (hk _ _ _ (hk _ _ _ (hk _ _ _ (hk _ _ _ (hk _ _ _ hp))))),
    ((((((Upon.refl (b + 1) w1).setCell (p := ⟨b, 0, none⟩) (by simp) v0).setCell (p := ⟨b, 1, none⟩) (by simp) v1).setCell (p := ⟨b, 2, none⟩) (by simp) v2).setCell (p := ⟨b, 3, none⟩) (by simp) v3).setCell (p := ⟨b, 4, none⟩) (by simp) v4).setCell (p := ⟨b, 5, none⟩) (by simp) v5⟩
set_option maxHeartbeats 8000000 in
set_option maxRecDepth 100000 in
theorem cpN_of (m : Nat) (IH : ∀ j, m = j + 1 → CpN j) : CpN m := by
  intro n h w S hn ht
  obtain ⟨qA, qa, qB, qb⟩ := h
  have hT1 : totL m n.ptrs ≤ 2000000 := by unfold totN at ht; omega
  have hT2 : totL m n.items ≤ 2000000 := by unfold totN at ht; omega
  have hl1 : n.ptrs.length ≤ 2000000 := totL_len' (show NdsAt w S m qA n.ptrs from hn.2.1) hT1
  have hl2 : n.items.length ≤ 2000000 := totL_len' (show NdsAt w S m qB n.items from hn.2.2) hT2
  have HT1 : Hid (∀ j, m = j + 1 → ∀ k (h : k < n.ptrs.length), totN j n.ptrs[k] ≤ 2000000) := Lib.hid fun j hj k h => by subst hj; have := totL_at (m := j) h; omega
  have HT2 : Hid (∀ j, m = j + 1 → ∀ k (h : k < n.items.length), totN j n.items[k] ≤ 2000000) := Lib.hid fun j hj k h => by subst hj; have := totL_at (m := j) h; omega
  have HN := Lib.hid hn
  have HIH := Lib.hid IH
  have hb0 : Below w.heap.size w (((w.alloc (.cells #[.int .i64 n.kind, .string n.data, .slice qA n.ptrs.length qa, .int .i64 n.size, .int .i64 n.count, .slice qB n.items.length qb] nodeT)).alloc (.cells #[.int .i64 0, .string { data := #[] }, .slice none 0 0, .int .i64 0, .int .i64 0, .slice none 0 0] nodeT)).alloc (.cells #[.int .i64 n.kind, .string n.data, .slice none 0 0, .int .i64 n.size, .int .i64 n.count, .slice none 0 0] nodeT)) := (((Below.refl _ w).alloc (Nat.le_refl _) _).alloc (by simp) _).alloc (by simp; omega) _
  have k0 : (((w.alloc (.cells #[.int .i64 n.kind, .string n.data, .slice qA n.ptrs.length qa, .int .i64 n.size, .int .i64 n.count, .slice qB n.items.length qb] nodeT)).alloc (.cells #[.int .i64 0, .string { data := #[] }, .slice none 0 0, .int .i64 0, .int .i64 0, .slice none 0 0] nodeT)).alloc (.cells #[.int .i64 n.kind, .string n.data, .slice none 0 0, .int .i64 n.size, .int .i64 n.count, .slice none 0 0] nodeT)).heap[w.heap.size]? = some (.cells #[.int .i64 n.kind, .string n.data, .slice qA n.ptrs.length qa, .int .i64 n.size, .int .i64 n.count, .slice qB n.items.length qb] nodeT (0, 0)) := (Below.heap_alloc _ _ _ (by simp; omega)).trans ((Below.heap_alloc _ _ _ (by simp)).trans (heap_alloc_new w _))
  have k1 : (((w.alloc (.cells #[.int .i64 n.kind, .string n.data, .slice qA n.ptrs.length qa, .int .i64 n.size, .int .i64 n.count, .slice qB n.items.length qb] nodeT)).alloc (.cells #[.int .i64 0, .string { data := #[] }, .slice none 0 0, .int .i64 0, .int .i64 0, .slice none 0 0] nodeT)).alloc (.cells #[.int .i64 n.kind, .string n.data, .slice none 0 0, .int .i64 n.size, .int .i64 n.count, .slice none 0 0] nodeT)).heap[w.heap.size + 1]? = some (.cells #[.int .i64 0, .string { data := #[] }, .slice none 0 0, .int .i64 0, .int .i64 0, .slice none 0 0] nodeT (0, 0)) := (Below.heap_alloc _ _ _ (by simp)).trans (by have := heap_alloc_new (w.alloc (.cells #[.int .i64 n.kind, .string n.data, .slice qA n.ptrs.length qa, .int .i64 n.size, .int .i64 n.count, .slice qB n.items.length qb] nodeT)) (.cells #[.int .i64 0, .string { data := #[] }, .slice none 0 0, .int .i64 0, .int .i64 0, .slice none 0 0] nodeT); rwa [show (w.alloc (.cells #[.int .i64 n.kind, .string n.data, .slice qA n.ptrs.length qa, .int .i64 n.size, .int .i64 n.count, .slice qB n.items.length qb] nodeT)).heap.size = w.heap.size + 1 by simp] at this)
  have k2 : (((w.alloc (.cells #[.int .i64 n.kind, .string n.data, .slice qA n.ptrs.length qa, .int .i64 n.size, .int .i64 n.count, .slice qB n.items.length qb] nodeT)).alloc (.cells #[.int .i64 0, .string { data := #[] }, .slice none 0 0, .int .i64 0, .int .i64 0, .slice none 0 0] nodeT)).alloc (.cells #[.int .i64 n.kind, .string n.data, .slice none 0 0, .int .i64 n.size, .int .i64 n.count, .slice none 0 0] nodeT)).heap[w.heap.size + 1 + 1]? = some (.cells #[.int .i64 n.kind, .string n.data, .slice none 0 0, .int .i64 n.size, .int .i64 n.count, .slice none 0 0] nodeT (0, 0)) := by have := heap_alloc_new ((w.alloc (.cells #[.int .i64 n.kind, .string n.data, .slice qA n.ptrs.length qa, .int .i64 n.size, .int .i64 n.count, .slice qB n.items.length qb] nodeT)).alloc (.cells #[.int .i64 0, .string { data := #[] }, .slice none 0 0, .int .i64 0, .int .i64 0, .slice none 0 0] nodeT)) (.cells #[.int .i64 n.kind, .string n.data, .slice none 0 0, .int .i64 n.size, .int .i64 n.count, .slice none 0 0] nodeT); rwa [show ((w.alloc (.cells #[.int .i64 n.kind, .string n.data, .slice qA n.ptrs.length qa, .int .i64 n.size, .int .i64 n.count, .slice qB n.items.length qb] nodeT)).alloc (.cells #[.int .i64 0, .string { data := #[] }, .slice none 0 0, .int .i64 0, .int .i64 0, .slice none 0 0] nodeT)).heap.size = w.heap.size + 1 + 1 by simp] at this
  have hs3 : (((w.alloc (.cells #[.int .i64 n.kind, .string n.data, .slice qA n.ptrs.length qa, .int .i64 n.size, .int .i64 n.count, .slice qB n.items.length qb] nodeT)).alloc (.cells #[.int .i64 0, .string { data := #[] }, .slice none 0 0, .int .i64 0, .int .i64 0, .slice none 0 0] nodeT)).alloc (.cells #[.int .i64 n.kind, .string n.data, .slice none 0 0, .int .i64 n.size, .int .i64 n.count, .slice none 0 0] nodeT)).heap.size = w.heap.size + 3 := by simp
  have HB0 := Lib.hid hb0
  have HK0 := Lib.hid k0
  have HK1 := Lib.hid k1
  have HK2 := Lib.hid k2
  have HS3 := Lib.hid hs3
  clear IH hn ht hT1 hT2 hb0 k0 k1 k2 hs3
  go_enter Try.func27, Try.ntmps27
  go_wp2_with fail

  generalize ((w.alloc (.cells #[.int .i64 n.kind, .string n.data, .slice qA n.ptrs.length qa, .int .i64 n.size, .int .i64 n.count, .slice qB n.items.length qb] nodeT)).alloc (.cells #[.int .i64 0, .string { data := #[] }, .slice none 0 0, .int .i64 0, .int .i64 0, .slice none 0 0] nodeT)).alloc (.cells #[.int .i64 n.kind, .string n.data, .slice none 0 0, .int .i64 n.size, .int .i64 n.count, .slice none 0 0] nodeT) = W0 at *
  go_loopw [4] (fun i wr => ∃ k : Nat, i = .int .i64 k ∧ k ≤ n.ptrs.length ∧ Hid (∃ (v : Value) (q : List (Nd × Hd)), wr.heap[w.heap.size + 1 + 1]? = some (.cells #[.int .i64 n.kind, .string n.data, v, .int .i64 n.size, .int .i64 n.count, .slice none 0 0] nodeT (0, 0)) ∧ CpRow wr (w.heap.size + 3) v q (m - 1) n.ptrs k) ∧ Hid (Below (w.heap.size + 2) W0 wr ∧ w.heap.size + 3 ≤ wr.heap.size)) (fun i _ => n.ptrs.length - (intOf i).toNat)
  case atStart => exact ⟨0, rfl, by omega, Lib.hid ⟨_, [], HK2.out, NRowC.nil _ _ _ _, rfl⟩, Lib.hid ⟨Below.refl _ _, by have := HS3.out; omega⟩⟩
  case round =>
    obtain ⟨k, rfl, hk, HS, HP⟩ := hrel
    obtain ⟨v, q, hrow, hnr, hq⟩ := HS.out
    obtain ⟨hbw, hsz⟩ := HP.out
    have hbW : Below w.heap.size w wr := HB0.out.trans (hbw.mono (by omega))
    have hp := (hbw.block w.heap.size (by omega)).trans HK0.out
    have hlt2 := row_lt hrow
    obtain ⟨a0, a1, a2, a3, a4, a5⟩ := cells6 hp
    by_cases hlt : k < n.ptrs.length
    · obtain ⟨j, rfl⟩ := (show NdsAt w S m qA n.ptrs from HN.out.2.1).pred hlt
      obtain ⟨x, hd, hxe, hc, hne⟩ := (show NdsAt w S (j + 1) qA n.ptrs from HN.out.2.1).below hbW |>.at_ hlt
      subst hxe
      have hql : q.length = k := by have := congrArg List.length hq; simp at this; omega
      have hq3 : q.length ≤ 3000000 := by omega
      have htk := HT1.out j rfl k hlt
      have htn := take_next hlt hq
      generalize n.ptrs[k] = y at hc hne htk htn
      have HTN := Lib.hid htn
      have HTK := Lib.hid htk
      obtain ⟨d0, d1, d2, d3, d4, d5⟩ := hc
      obtain ⟨c0, c1', c2, c3, c4', c5⟩ := cells6 hrow
      have HC := Lib.hid (HIH.out j rfl y hd wr.drew S (hne.below ⟨rfl, rfl, rfl, Nat.le_refl _, fun _ _ => rfl⟩) htk)
      have HROW := Lib.hid hrow
      have HNR := Lib.hid hnr
      have HBW := Lib.hid hbw
      have hdr : (wr.drew).heap.size = wr.heap.size := rfl
      unfold NewCC at HC
      clear hbw hrow hnr HS HP hq htn htk hne hp hbW hql
      go_wp2_with fail
      go_region_law (first | (refine step_append_ndB rfl (.tmp 23) (.tmp 30) rfl (w.heap.size + 3) v q.length (rowOf q) (by simp [Act.eval]) (HO2.out.1.alloc _) ⟨w2.heap.size, 0, none⟩ 1 (y, hy) (by simp [Act.eval]) (cells_six_new w2 (y, hy) _) hq3 (by simp; omega) ?_; intro A4 c4 w4 hown4 hgrow4 hat4; have hx4 := (hgrow4.out.block (w.heap.size + 1 + 1) (by simp; omega) (fun e => by have := (HO2.out.1.lt _ e.symm).1; omega)).trans ((Below.heap_alloc w2 _ (w.heap.size + 1 + 1) (by omega)).trans HX2.out); have qf4 := row_free hx4 2; obtain ⟨r0, r1, r2, r3, r4, r5⟩ := cells6 hx4) | (go_simp; go_at_call 27; (with_reducible refine HC.out.mono ?_); rintro e w2 ⟨hy, rfl, hny, hb2⟩; have hx2 := (hb2.block _ (show w.heap.size + 1 + 1 < wr.drew.heap.size by omega)).trans HROW.out; have HX2 := Lib.hid hx2; have HO2 := Lib.hid (NRowC.low (w := wr.drew) HNR.out.drew hb2); have hsz2 : wr.heap.size ≤ w2.heap.size := hb2.size; obtain ⟨q0, q1, q2, q3, q4, q5⟩ := cells6 hx2; have hl2 := row_lt hx2; have qa' : ∀ o, (w2.alloc o).cell? ⟨w.heap.size + 1 + 1, 2, none⟩ = some v := fun o => (((Below.refl w2.heap.size w2).alloc (Nat.le_refl _) o).cell hl2).trans q2))
      all_goals
        have hb3 : Below wr.heap.size wr w2 := ⟨hb2.os, hb2.tape, hb2.output, hb2.size, hb2.block⟩
        have hbel : Below (w.heap.size + 3) w2 w4 := ((Below.refl (w.heap.size + 3) w2).alloc (by omega) _).grown hgrow4.out (by simp; omega) (fun k hk => (HO2.out.1.lt k hk).1)
        have hnx := (HO2.out.alloc _).next (hny.belowC ((Below.refl w2.heap.size w2).alloc (Nat.le_refl _) _)) HTK.out (show w.heap.size + 3 ≤ wr.drew.heap.size from hsz) (fun k hk => (HNR.out.1.lt k hk).2) hown4.out hgrow4.out hat4.out
        have HS5 : Hid (∃ (v' : Value) (q' : List (Nd × Hd)), (w4.setCell ⟨w.heap.size + 1 + 1, 2, none⟩ (.slice A4 (q.length + 1) c4)).heap[w.heap.size + 1 + 1]? = some (.cells #[.int .i64 n.kind, .string n.data, v', .int .i64 n.size, .int .i64 n.count, .slice none 0 0] nodeT (0, 0)) ∧ CpRow (w4.setCell ⟨w.heap.size + 1 + 1, 2, none⟩ (.slice A4 (q.length + 1) c4)) (w.heap.size + 3) v' q' (j + 1 - 1) n.ptrs (k + 1)) := Lib.hid ⟨_, _, row_setN hx4 2 _, hnx.store (by omega), by rw [List.map_append]; exact HTN.out⟩
        have HP5 : Hid (Below (w.heap.size + 2) W0 (w4.setCell ⟨w.heap.size + 1 + 1, 2, none⟩ (.slice A4 (q.length + 1) c4)) ∧ w.heap.size + 3 ≤ (w4.setCell ⟨w.heap.size + 1 + 1, 2, none⟩ (.slice A4 (q.length + 1) c4)).heap.size) := Lib.hid ⟨(((HBW.out.trans (hb3.mono (by omega))).trans (hbel.mono (by omega)))).setCell (p := ⟨w.heap.size + 1 + 1, 2, none⟩) (by simp) _, by have := hbel.size; simp [World.setCell]; omega⟩
        skip
        clear hb2 hb3 hbel hnx hx4 hx2 hown4 hgrow4 hat4 q0 q1 q2 q3 q4 q5 r0 r1 r2 r3 r4 r5 qf4 qa' hl2 hny a0 a1 a2 a3 a4 a5 c0 c1' c2 c3 c4' c5 d0 d1 d2 d3 d4 d5
        go_wp2
        go_roundw
        case rel => exact ⟨k + 1, by go_num, by omega, HS5, HP5⟩
        case measure => simp [intOf]; omega
    · obtain rfl : k = n.ptrs.length := by omega
      obtain ⟨A1, c1, hv, hnds⟩ := CpRow.nds ⟨hnr, hq⟩ (show NdsAt w S m qA n.ptrs from HN.out.2.1) hl1
      subst hv
      have HND := Lib.hid hnds.toBet
      have HROW1 := Lib.hid hrow
      have HBW1 := Lib.hid hbw
      obtain ⟨B2, hB2⟩ : ∃ B2, B2 = wr.heap.size := ⟨_, rfl⟩
      rw [← hB2] at HND
      have hB3 : w.heap.size + 3 ≤ B2 := by omega
      have HBB := Lib.hid (Nat.le_of_eq hB2)
      clear hnr hnds hbw hrow hq HS HP hlt hbW hp hlt2 hB2 hsz
      go_wp2_with fail
      clear a0 a1 a2 a3 a4 a5
      go_loopw [5] (fun i wr => ∃ k : Nat, i = .int .i64 k ∧ k ≤ n.items.length ∧ Hid (∃ (v : Value) (q : List (Nd × Hd)), wr.heap[w.heap.size + 1 + 1]? = some (.cells #[.int .i64 n.kind, .string n.data, .slice A1 n.ptrs.length c1, .int .i64 n.size, .int .i64 n.count, v] nodeT (0, 0)) ∧ CpRow wr (B2) v q (m - 1) n.items k) ∧ Hid (Below (w.heap.size + 2) W0 wr ∧ B2 ≤ wr.heap.size) ∧ Hid (NdsAt wr (BetC wr (w.heap.size + 3) B2) m A1 n.ptrs)) (fun i _ => n.items.length - (intOf i).toNat)
      case atStart => exact ⟨0, rfl, by omega, Lib.hid ⟨_, [], HROW1.out, NRowC.nil _ _ _ _, rfl⟩, Lib.hid ⟨HBW1.out, HBB.out⟩, HND⟩
      case round =>
        obtain ⟨k, rfl, hk, HS, HP, HKN⟩ := hrel
        obtain ⟨v, q, hrow, hnr, hq⟩ := HS.out
        obtain ⟨hbw, hsz⟩ := HP.out
        have hbW : Below w.heap.size w wr := HB0.out.trans (hbw.mono (by omega))
        have hp := (hbw.block w.heap.size (by omega)).trans HK0.out
        have hlt2 := row_lt hrow
        obtain ⟨a0, a1, a2, a3, a4, a5⟩ := cells6 hp
        by_cases hlt : k < n.items.length
        · obtain ⟨j, rfl⟩ := (show NdsAt w S m qB n.items from HN.out.2.2).pred hlt
          obtain ⟨x, hd, hxe, hc, hne⟩ := (show NdsAt w S (j + 1) qB n.items from HN.out.2.2).below hbW |>.at_ hlt
          subst hxe
          have hql : q.length = k := by have := congrArg List.length hq; simp at this; omega
          have hq3 : q.length ≤ 3000000 := by omega
          have htk := HT2.out j rfl k hlt
          have htn := take_next hlt hq
          generalize n.items[k] = y at hc hne htk htn
          have HTN := Lib.hid htn
          have HTK := Lib.hid htk
          obtain ⟨d0, d1, d2, d3, d4, d5⟩ := hc
          obtain ⟨c0, c1', c2, c3, c4', c5⟩ := cells6 hrow
          have HC := Lib.hid (HIH.out j rfl y hd wr.drew S (hne.below ⟨rfl, rfl, rfl, Nat.le_refl _, fun _ _ => rfl⟩) htk)
          have HROW := Lib.hid hrow
          have HNR := Lib.hid hnr
          have HBW := Lib.hid hbw
          have hdr : (wr.drew).heap.size = wr.heap.size := rfl
          unfold NewCC at HC
          clear hbw hrow hnr HS HP hq htn htk hne hp hbW hql
          go_wp2_with fail
          go_region_law (first | (refine step_append_ndB rfl (.tmp 41) (.tmp 48) rfl (B2) v q.length (rowOf q) (by simp [Act.eval]) (HO2.out.1.alloc _) ⟨w2.heap.size, 0, none⟩ 1 (y, hy) (by simp [Act.eval]) (cells_six_new w2 (y, hy) _) hq3 (by simp; omega) ?_; intro A4 c4 w4 hown4 hgrow4 hat4; have hx4 := (hgrow4.out.block (w.heap.size + 1 + 1) (by simp; omega) (fun e => by have := (HO2.out.1.lt _ e.symm).1; omega)).trans ((Below.heap_alloc w2 _ (w.heap.size + 1 + 1) (by omega)).trans HX2.out); have qf4 := row_free hx4 5; obtain ⟨r0, r1, r2, r3, r4, r5⟩ := cells6 hx4) | (go_simp; go_at_call 27; (with_reducible refine HC.out.mono ?_); rintro e w2 ⟨hy, rfl, hny, hb2⟩; have hx2 := (hb2.block _ (show w.heap.size + 1 + 1 < wr.drew.heap.size by omega)).trans HROW.out; have HX2 := Lib.hid hx2; have HO2 := Lib.hid (NRowC.low (w := wr.drew) HNR.out.drew hb2); have hsz2 : wr.heap.size ≤ w2.heap.size := hb2.size; obtain ⟨q0, q1, q2, q3, q4, q5⟩ := cells6 hx2; have hl2 := row_lt hx2; have qa' : ∀ o, (w2.alloc o).cell? ⟨w.heap.size + 1 + 1, 5, none⟩ = some v := fun o => (((Below.refl w2.heap.size w2).alloc (Nat.le_refl _) o).cell hl2).trans q5))
          all_goals
            have hb3 : Below wr.heap.size wr w2 := ⟨hb2.os, hb2.tape, hb2.output, hb2.size, hb2.block⟩
            have hbel : Below (B2) w2 w4 := ((Below.refl (B2) w2).alloc (by omega) _).grown hgrow4.out (by simp; omega) (fun k hk => (HO2.out.1.lt k hk).1)
            have hnx := (HO2.out.alloc _).next (hny.belowC ((Below.refl w2.heap.size w2).alloc (Nat.le_refl _) _)) HTK.out (show B2 ≤ wr.drew.heap.size from hsz) (fun k hk => (HNR.out.1.lt k hk).2) hown4.out hgrow4.out hat4.out
            have HS5 : Hid (∃ (v' : Value) (q' : List (Nd × Hd)), (w4.setCell ⟨w.heap.size + 1 + 1, 5, none⟩ (.slice A4 (q.length + 1) c4)).heap[w.heap.size + 1 + 1]? = some (.cells #[.int .i64 n.kind, .string n.data, .slice A1 n.ptrs.length c1, .int .i64 n.size, .int .i64 n.count, v'] nodeT (0, 0)) ∧ CpRow (w4.setCell ⟨w.heap.size + 1 + 1, 5, none⟩ (.slice A4 (q.length + 1) c4)) (B2) v' q' (j + 1 - 1) n.items (k + 1)) := Lib.hid ⟨_, _, row_setN hx4 5 _, hnx.store (by omega), by rw [List.map_append]; exact HTN.out⟩
            have HP5 : Hid (Below (w.heap.size + 2) W0 (w4.setCell ⟨w.heap.size + 1 + 1, 5, none⟩ (.slice A4 (q.length + 1) c4)) ∧ B2 ≤ (w4.setCell ⟨w.heap.size + 1 + 1, 5, none⟩ (.slice A4 (q.length + 1) c4)).heap.size) := Lib.hid ⟨(((HBW.out.trans (hb3.mono (by omega))).trans (hbel.mono (by omega)))).setCell (p := ⟨w.heap.size + 1 + 1, 5, none⟩) (by simp) _, by have := hbel.size; simp [World.setCell]; omega⟩
            have HK5 : Hid (NdsAt (w4.setCell ⟨w.heap.size + 1 + 1, 5, none⟩ (.slice A4 (q.length + 1) c4)) (BetC (w4.setCell ⟨w.heap.size + 1 + 1, 5, none⟩ (.slice A4 (q.length + 1) c4)) (w.heap.size + 3) B2) (j + 1) A1 n.ptrs) := Lib.hid (HKN.out.betC (fun k h1 h2 => (Below.heap_setCell w4 ⟨w.heap.size + 1 + 1, 5, none⟩ _ k (by simp; omega)).trans ((hbel.block k h2).trans (hb3.block k (by omega)))))
            clear hb2 hb3 hbel hnx hx4 hx2 hown4 hgrow4 hat4 q0 q1 q2 q3 q4 q5 r0 r1 r2 r3 r4 r5 qf4 qa' hl2 hny a0 a1 a2 a3 a4 a5 c0 c1' c2 c3 c4' c5 d0 d1 d2 d3 d4 d5
            go_wp2
            go_roundw
            case rel => exact ⟨k + 1, by go_num, by omega, HS5, HP5, HK5⟩
            case measure => simp [intOf]; omega
        · obtain rfl : k = n.items.length := by omega
          obtain ⟨A2, c2, hv, hnds⟩ := CpRow.nds ⟨hnr, hq⟩ (show NdsAt w S m qB n.items from HN.out.2.2) hl2
          subst hv
          have HND2 := Lib.hid hnds
          have HBW2 := Lib.hid hbW
          obtain ⟨c0, c1', c2', c3, c4', c5⟩ := cells6 hrow
          have hz := (hbw.block (w.heap.size + 1) (by omega)).trans HK1.out
          obtain ⟨z0, z1, z2, z3, z4, z5⟩ := cells6 hz
          have zf := row_free hz
          have HZ := Lib.hid hz
          clear hnr hnds hbw hrow hq HS HP hlt hbW hp hz
          go_wp2_with fail
          obtain ⟨wf, hwf, hrw, hbf, huw⟩ := fin6 HZ.out HBW2.out (show w.heap.size ≤ w.heap.size + 1 by omega) (.int .i64 n.kind) (.string n.data) (.slice A1 n.ptrs.length c1) (.int .i64 n.size) (.int .i64 n.count) (.slice A2 n.items.length c2)
          rw [hwf]
          obtain ⟨e0, e1, e2, e3, e4, e5⟩ := cells6 hrw
          exact bodyPost_ret (v := .agg #[.int .i64 n.kind, .string n.data, .slice A1 n.ptrs.length c1, .int .i64 n.size, .int .i64 n.count, .slice A2 n.items.length c2])
            (by simp [results, Try.results27, go_sem, e0, e1, e2, e3, e4, e5]) rfl ⟨⟨A1, c1, A2, c2⟩, rfl, ⟨HN.out.1, ((HKN.out.unBet.fromC (show w.heap.size + 2 ≤ w.heap.size + 3 by omega)).uponC huw).fromC (by omega), ((HND2.out.fromC (show w.heap.size + 2 ≤ B2 by omega)).uponC huw).fromC (by omega)⟩, hbf⟩
theorem cpN_any : ∀ m, CpN m
  | 0 => cpN_of 0 (fun j h => by cases h)
  | m + 1 => cpN_of (m + 1) (fun j h => by obtain rfl : m = j := by omega
                                           exact cpN_any m)
end Go.Proofs.Ytkimkhgigbejkab
